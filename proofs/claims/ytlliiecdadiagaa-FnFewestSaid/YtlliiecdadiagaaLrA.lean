/- A float32 word and the word 0: nothing is changed but the sign of a zero. What fits, with a share more at both ends, in words and numbers. -/
import Derived.Test.YtlliiecdadiagaaLpD
namespace Go.Proofs.Ytlliiecdadiagaa
open Go.RowKit Ieee
set_option linter.unusedVariables false
set_option linter.unusedSimpArgs false

namespace S
theorem read_kept11 (neg : Bool) (kept : Nat) (last : Int) (h0 : -149 ≤ last) (h1 : last ≤ 104) (hk1 : kept < 16777216) (hk0 : last ≠ -149 → 8388608 ≤ kept) :
    f32.read (f32.word neg ((last - -149).toNat * 8388608 + kept)) = .number neg kept last := by
  by_cases hb2 : kept < 8388608
  · have hl : last = -149 := by
      rcases Classical.em (last = -149) with h | h
      · exact h
      · have := hk0 h; omega
    subst hl
    have e : (((-149 : Int) - -149).toNat * 8388608 + kept) = kept := by omega
    rw [e]
    exact read_low neg kept hb2
  · obtain ⟨k, hk⟩ : ∃ k : Nat, (last - -149).toNat = k := ⟨_, rfl⟩
    have hl : last = -149 + (k : Int) := by omega
    rw [hk, hl]
    exact read_rung neg k kept (by omega) hk1 (by omega)
set_option maxHeartbeats 1000000 in
/-- A number with at most 24 binary digits, not too great, is written exactly: its word has its value. -/
theorem write_exact11 (neg : Bool) (mag : Nat) (place : Int) (q t : Nat) (hm : mag = q * 2 ^ t) (hq : q < 16777216) (hp : -149 ≤ place) (hb : (t : Int) + place ≤ 104) :
    isNum (f32.write (.number neg mag place)) ∧ fval (f32.write (.number neg mag place)) = signed neg mag (place + 149).toNat := by
  show isNum (f32.nearest neg mag place) ∧ fval (f32.nearest neg mag place) = _
  by_cases h0 : mag = 0
  · have e : f32.nearest neg mag place = f32.word neg 0 := by unfold Format.nearest; rw [if_pos h0]
    rw [e]
    have r := read_low neg 0 (by omega)
    refine ⟨isNum_of r, ?_⟩
    unfold fval
    rw [r, h0]
    show signed neg 0 _ = signed neg 0 _
    rw [fl_signed_zero, fl_signed_zero]
  · have hq0 : q ≠ 0 := fun e => h0 (by rw [hm, e, Nat.zero_mul])
    have hlog : mag.log2 = q.log2 + t := by
      rw [hm]
      refine (Nat.log2_eq_iff (by rw [← hm]; exact h0)).2 ⟨?_, ?_⟩
      · rw [Nat.pow_add]; exact Nat.mul_le_mul_right _ (Nat.log2_self_le hq0)
      · rw [show q.log2 + t + 1 = (q.log2 + 1) + t by omega, Nat.pow_add]; exact Nat.mul_lt_mul_of_pos_right Nat.lt_log2_self (Nat.two_pow_pos _)
    have hql : q.log2 ≤ 23 := by
      have := (Nat.log2_lt hq0).2 (show q < 2 ^ 24 from hq); omega
    -- the last place that is kept
    obtain ⟨last, hlast⟩ : ∃ last : Int, last = max (place + mag.log2 - 23) (-149) := ⟨_, rfl⟩
    have e : f32.nearest neg mag place = f32.word neg (min ((last - -149).toNat * 8388608 + Toward.even.cut neg (mag <<< (place - last).toNat) (last - place).toNat) 2139095040) := by
      unfold Format.nearest
      rw [if_neg h0]
      simp only [lp64, bin64, inf64]
      rw [hlast]; rfl
    rw [hlog] at hlast
    -- the kept digits
    obtain ⟨kept, hkept⟩ : ∃ kept, kept = Toward.even.cut neg (mag <<< (place - last).toNat) (last - place).toNat := ⟨_, rfl⟩
    have hval : kept * 2 ^ (last + 149).toNat = mag * 2 ^ (place + 149).toNat := by
      rw [hkept]
      rcases Int.le_total last place with h | h
      · rw [show (last - place).toNat = 0 by omega, Nat.shiftLeft_eq]
        have := cut_exact neg (mag * 2 ^ (place - last).toNat) 0
        rw [Nat.pow_zero, Nat.mul_one] at this
        rw [this, Nat.mul_assoc, ← Nat.pow_add]
        congr 2; omega
      · rw [show (place - last).toNat = 0 by omega, Nat.shiftLeft_eq, Nat.pow_zero, Nat.mul_one]
        have ht : (last - place).toNat ≤ t := by omega
        have hq' : mag = (q * 2 ^ (t - (last - place).toNat)) * 2 ^ (last - place).toNat := by
          rw [hm, Nat.mul_assoc, ← Nat.pow_add]; congr 2; omega
        have := cut_exact neg (q * 2 ^ (t - (last - place).toNat)) (last - place).toNat
        rw [← hq'] at this
        rw [this]
        rw [show (last + 149).toNat = (last - place).toNat + (place + 149).toNat by omega, Nat.pow_add, ← Nat.mul_assoc, ← hq']
    have hk1 : kept < 16777216 := by
      have hpos : 0 < 2 ^ (last + 149).toNat := Nat.two_pow_pos _
      have h1 : mag < 2 ^ (mag.log2 + 1) := Nat.lt_log2_self
      have h2 : mag * 2 ^ (place + 149).toNat < 2 ^ (mag.log2 + 1) * 2 ^ (place + 149).toNat := Nat.mul_lt_mul_of_pos_right h1 (Nat.two_pow_pos _)
      rw [← Nat.pow_add] at h2
      have h3 : 2 ^ (mag.log2 + 1 + (place + 149).toNat) ≤ 2 ^ (24 + (last + 149).toNat) := Nat.pow_le_pow_right (by omega) (by rw [hlog]; omega)
      rw [Nat.pow_add 2 24] at h3
      have h4 : kept * 2 ^ (last + 149).toNat < 2 ^ 24 * 2 ^ (last + 149).toNat := by rw [hval]; omega
      exact Nat.lt_of_mul_lt_mul_right h4
    have hk0 : last ≠ -149 → 8388608 ≤ kept := fun hne => by
      have h1 : 2 ^ mag.log2 ≤ mag := Nat.log2_self_le h0
      have h2 : 2 ^ mag.log2 * 2 ^ (place + 149).toNat ≤ mag * 2 ^ (place + 149).toNat := Nat.mul_le_mul_right _ h1
      rw [← Nat.pow_add, ← hval] at h2
      have h3 : 2 ^ (mag.log2 + (place + 149).toNat) = 2 ^ 23 * 2 ^ (last + 149).toNat := by rw [← Nat.pow_add]; congr 1; rw [hlog]; omega
      rw [h3] at h2
      exact Nat.le_of_mul_le_mul_right h2 (Nat.two_pow_pos _)
    have hlu : last ≤ 104 := by omega
    have hll : -149 ≤ last := by omega
    rw [← hkept] at e
    have hmin : min ((last - -149).toNat * 8388608 + kept) 2139095040 = (last - -149).toNat * 8388608 + kept := Nat.min_eq_left (by omega)
    rw [hmin] at e
    rw [e]
    have fin : ∀ r : f32.read (f32.word neg ((last - -149).toNat * 8388608 + kept)) = .number neg kept last,
        isNum (f32.word neg ((last - -149).toNat * 8388608 + kept)) ∧ fval (f32.word neg ((last - -149).toNat * 8388608 + kept)) = signed neg mag (place + 149).toNat := fun r => by
      refine ⟨isNum_of r, ?_⟩
      unfold fval
      rw [r]
      show signed neg kept (last + 149).toNat = _
      rw [signed_eq, signed_eq, hval]
    exact fin (read_kept11 neg kept last hll hlu hk1 hk0)
end S
theorem signed_self (T : Int) (b : Bool) : signed (if T = 0 then b else decide (T < 0)) T.natAbs 0 = T := by
  rw [S.signed_eq, Nat.pow_zero, Nat.mul_one]
  by_cases h : T = 0
  · rw [h]; cases b <;> rfl
  · rw [if_neg h]
    by_cases h1 : T < 0
    · rw [decide_eq_true h1, if_pos rfl]; omega
    · rw [decide_eq_false h1]; simp; omega
/-- A number and a nought. -/
theorem sum_nought (s : Bool) (m : Nat) (i : Int) (t : Bool) (hi : -149 ≤ i) (hi2 : i ≤ 104) (hm : m < 16777216) :
    ∃ r, ((Datum.number s m i).sum (.number t 0 (-149))).map S.f32.write = some r ∧ S.isNum r ∧ S.fval r = signed s m (i + 149).toNat := by
  obtain ⟨T, hT⟩ : ∃ T, signed s m (i + 149).toNat = T := ⟨_, rfl⟩
  have hA : T.natAbs = m * 2 ^ (i + 149).toNat := by rw [← hT]; exact (S.val_amount s m _).1
  have e : (Datum.number s m i).sum (.number t 0 (-149)) = some (.number (if T = 0 then s && t else decide (T < 0)) T.natAbs (-149)) := by
    show some (Datum.number (if signed s m (i - min i (-149)).toNat + signed t 0 (-149 - min i (-149)).toNat = 0 then s && t else decide (signed s m (i - min i (-149)).toNat + signed t 0 (-149 - min i (-149)).toNat < 0)) (signed s m (i - min i (-149)).toNat + signed t 0 (-149 - min i (-149)).toNat).natAbs (min i (-149))) = _
    rw [show min i (-149) = -149 by omega, show i - -149 = i + 149 by omega, fl_signed_zero, Int.add_zero, hT]
  obtain ⟨h1, h2⟩ := S.write_exact11 (if T = 0 then s && t else decide (T < 0)) T.natAbs (-149) m (i + 149).toNat hA hm (by omega) (by omega)
  refine ⟨_, by rw [e]; rfl, h1, ?_⟩
  rw [h2, hT, show ((-149 : Int) + 149).toNat = 0 by decide]
  exact signed_self T _
theorem order_alike {r x : Nat} (hr : S.isNum r) (hx : S.isNum x) (h : S.fval r = S.fval x) (y : Nat) : FloatKind.f32.format.order r y = FloatKind.f32.format.order x y := by
  obtain ⟨s, m, i, er, _⟩ := hr
  obtain ⟨s', m', i', ex, _⟩ := hx
  cases ey : S.f32.read y with
  | number t n j =>
    have h1 := S.order_val (S.isNum_of er) (S.isNum_of ey)
    have h2 := S.order_val (S.isNum_of ex) (S.isNum_of ey)
    rw [h] at h1
    exact h1.trans h2.symm
  | infinity t =>
    show (S.f32.read r).order (S.f32.read y) = (S.f32.read x).order (S.f32.read y)
    rw [er, ex, ey]; rfl
  | nan t b =>
    show (S.f32.read r).order (S.f32.read y) = (S.f32.read x).order (S.f32.read y)
    rw [er, ex, ey]; rfl
theorem read_zero11 : S.f32.read 0 = .number false 0 (-149) := by kernel_rfl
theorem inf_word (s : Bool) : S.f32.read (S.f32.write (.infinity s)) = .infinity s := by
  show S.f32.read (S.f32.word s S.f32.infRung) = _
  rw [fl_read_word S.f32 s _ (by rw [S.sgn64, S.inf64]; omega), S.bin64, S.inf64, if_neg (by omega), if_neg (by omega), if_pos rfl]
/-- A difference from 0, and a sum with 0. -/
theorem nought_any (x : Nat) (hx : x < 4294967296) (op : BinOp) (hop : op = .sub ∨ op = .add) :
    (∃ r, floatBits op .f32 x 0 = some r ∧ ∀ y, FloatKind.f32.format.order r y = FloatKind.f32.format.order x y) ∨ (floatBits op .f32 x 0 = none ∧ ∀ y, FloatKind.f32.format.order x y = none) := by
  have key : ∀ t : Bool, (∃ r, ((S.f32.read x).sum (.number t 0 (-149))).map S.f32.write = some r ∧ ∀ y, FloatKind.f32.format.order r y = FloatKind.f32.format.order x y) ∨ (((S.f32.read x).sum (.number t 0 (-149))).map S.f32.write = none ∧ ∀ y, FloatKind.f32.format.order x y = none) := fun t => by
    rcases Nat.lt_or_ge (S.expo x) 255 with h | h
    · obtain ⟨m, P, hr, hm, hc⟩ := S.num_form x hx h
      have hP : (-149 + (P : Int)) ≤ 104 := by
        rcases hc with ⟨_, h1, _⟩ | ⟨h1, _, _⟩ <;> omega
      obtain ⟨r, h1, h2, h3⟩ := sum_nought (S.sneg x) m (-149 + (P : Int)) t (by omega) hP hm
      refine .inl ⟨r, by rw [hr]; exact h1, fun y => order_alike h2 (S.isNum_of hr) ?_ y⟩
      rw [h3]
      unfold S.fval
      rw [hr]
      rfl
    · have he : S.expo x = 255 := Nat.le_antisymm (S.expo_le x) h
      rcases S.read_full hx he with hr | ⟨b, hr⟩
      · refine .inl ⟨S.f32.write (.infinity (S.sneg x)), by rw [hr]; rfl, fun y => ?_⟩
        show (S.f32.read _).order (S.f32.read y) = (S.f32.read x).order (S.f32.read y)
        rw [inf_word, hr]
      · exact .inr ⟨by rw [hr]; rfl, fun y => S.order_nan hr y⟩
  rcases hop with rfl | rfl
  · have h := key true
    rwa [show ((S.f32.read x).sum (.number true 0 (-149))).map S.f32.write = floatBits .sub .f32 x 0 from by
      show _ = ((S.f32.read x).sum (S.f32.read 0).opposite).map S.f32.write
      rw [read_zero11]; rfl] at h
  · have h := key false
    rwa [show ((S.f32.read x).sum (.number false 0 (-149))).map S.f32.write = floatBits .add .f32 x 0 from by
      show _ = ((S.f32.read x).sum (S.f32.read 0)).map S.f32.write
      rw [read_zero11]] at h
/-- Not below the least wind less a share; not above the greatest and a share. -/
def wlk (sp x k : Nat) : Bool := match floatBits .sub .f32 x k with | some r => leW r sp | none => false
def whk (sp x k : Nat) : Bool := match floatBits .add .f32 x k with | some r => leW sp r | none => false
theorem wlk_zero (sp : Nat) {x : Nat} (hx : x < 4294967296) : wlk sp x 0 = geW sp x := by
  rw [← le_ge]
  unfold wlk leW
  rcases nought_any x hx .sub (.inl rfl) with ⟨r, h1, h2⟩ | ⟨h1, h2⟩
  · rw [h1]; dsimp only; rw [h2 sp]
  · rw [h1, h2 sp]; rfl
theorem whk_zero (sp : Nat) {x : Nat} (hx : x < 4294967296) : whk sp x 0 = leW sp x := by
  rw [le_ge]
  unfold whk
  rcases nought_any x hx .add (.inr rfl) with ⟨r, h1, h2⟩ | ⟨h1, h2⟩
  · rw [h1]; dsimp only; rw [le_ge]; unfold geW; rw [h2 sp]
  · rw [h1]; unfold geW; rw [h2 sp]; rfl
theorem wlk_one (sp x : Nat) : wlk sp x 1065353216 = wloB sp x := by
  unfold wlk wloB
  cases floatBits .sub .f32 x 1065353216 with
  | none => rfl
  | some r => exact le_ge r sp
theorem whk_one (sp x : Nat) : whk sp x 1065353216 = whiB sp x := rfl
def akB (s : Sl) (m : Mm) (d : Int) : Bool := decide (s.fr - d ≤ m.2) && decide (m.2 ≤ s.to + d)
/-- The reason against a moment. -/
def agR (t a : Bool) : Int := if t = true then (if a = true then 0 else 2) else 1
theorem fit_ag (s : Sl) (m : Mm) (h : SlWf s) : fitB s m = ((wlk m.1 s.lo 0 && whk m.1 s.hi 0) && akB s m 0) := by
  rw [wlk_zero _ h.2.1, whk_zero _ h.2.2.1]
  unfold fitB akB
  rw [Int.sub_zero, Int.add_zero, Bool.and_assoc]
theorem wide_ag (s : Sl) (m : Mm) : wideB s m = ((wlk m.1 s.lo 1065353216 && whk m.1 s.hi 1065353216) && akB s m 5) := by
  rw [wlk_one, whk_one, wide_eq]
  rfl
end Go.Proofs.Ytlliiecdadiagaa

/- What a boat makes to windward: the narrowed turns, products, signs. Nothing here speaks of the program. -/
import Derived.Test.YtonoknbangnleaaPoV
namespace Go.Proofs.Ytonoknbangnleaa
open Go.RowKit Ieee
set_option linter.unusedSimpArgs false
set_option linter.unusedVariables false

/-- The part to windward of a turn. -/
def cosW (k : Nat) : Nat := (floatToFloatBits .f64 (trn k).1 .f32).getD 0
def cosB (t : Nat × Nat) : Bool := match floatToFloatBits .f64 t.1 .f32 with
  | some c => Nat.blt c 4294967296 && Nat.blt (c / 8388608 % 256) 128
  | none => false
theorem cosB_tab : tabW.all cosB = true := by kernel_rfl
theorem cos_ok (k : Nat) (hk : k < 360) : floatToFloatBits .f64 (trn k).1 .f32 = some (cosW k) ∧ cosW k < 4294967296 ∧ S.isNum (cosW k) ∧ (S.fval (cosW k)).natAbs ≤ 2 * S.oneV := by
  have h := (tab_at k hk).1
  have hb : cosB (trn k) = true := List.all_eq_true.1 cosB_tab _ (List.mem_of_getElem? h)
  unfold cosB at hb
  unfold cosW
  cases hc : floatToFloatBits .f64 (trn k).1 .f32 with
  | none => rw [hc] at hb; cases hb
  | some c =>
    rw [hc] at hb
    simp only [Bool.and_eq_true, Nat.blt_eq] at hb
    obtain ⟨h1, h2⟩ := hb
    have hE : S.expo c < 128 := h2
    have hE255 : S.expo c < 255 := by omega
    refine ⟨rfl, h1, S.num_of_expo h1 hE255, ?_⟩
    obtain ⟨M, P, e, hM, hcase⟩ := S.num_form c h1 (by omega)
    show (S.fval c).natAbs ≤ _
    unfold S.fval
    rw [e]
    show (signed (S.sneg c) M (-149 + (P : Int) + 149).toNat).natAbs ≤ _
    rw [(S.val_amount _ _ _).1, show (-149 + (P : Int) + 149).toNat = P by omega]
    have hP : P ≤ 126 := by omega
    have hE := S.fixE_eq
    have h24 : M ≤ 2 ^ 24 := Nat.le_of_lt hM
    have h3 : M * 2 ^ P ≤ 2 ^ 24 * 2 ^ 126 := Nat.mul_le_mul h24 (Nat.pow_le_pow_right (by omega) hP)
    refine Nat.le_trans h3 ?_
    unfold S.oneV
    rw [← Nat.pow_add, hE, Nat.mul_comm 2, ← Nat.pow_succ]
    exact Nat.le_refl _
/-- A product. -/
def mulS (x y : Nat) : Nat := (floatBits .mul .f32 x y).getD 0
theorem mulS_ok {M c x y : Nat} (hx : okB M x) (hy : S.isNum y ∧ (S.fval y).natAbs ≤ c * S.oneV) (hM : M * c ≤ 100000) : floatBits .mul .f32 x y = some (mulS x y) ∧ okB (M * c) (mulS x y) := by
  obtain ⟨r, h1, h2, _⟩ := mul_bd hx hy hM
  unfold mulS
  rw [h1]
  exact ⟨rfl, h2⟩
theorem xor_top' {r : Nat} (h : r < 2147483648) : r ^^^ 2147483648 = r + 2147483648 := by
  have hlt : r < 2 ^ 31 := h
  show r ^^^ 2 ^ 31 = r + 2 ^ 31
  rw [Nat.add_comm]
  have hor : 2 ^ 31 + r = 2 ^ 31 ||| r := by
    have := Nat.two_pow_add_eq_or_of_lt hlt 1
    simpa using this
  rw [hor]
  apply Nat.eq_of_testBit_eq
  intro i
  rw [Nat.testBit_xor, Nat.testBit_or, Nat.testBit_two_pow]
  by_cases hi : 31 = i
  · subst hi
    rw [Nat.testBit_lt_two_pow hlt]; rfl
  · simp [hi]
theorem xor_back' {r : Nat} (h : r < 2147483648) : (r + 2147483648) ^^^ 2147483648 = r := by
  rw [← xor_top' h, Nat.xor_assoc, Nat.xor_self, Nat.xor_zero]
/-- A word whose sign is turned. -/
theorem neg_word (b : Bool) {r : Nat} (h : r < 2147483648) : Op.negFloat .f32 (S.f32.word b r) = S.f32.word (!b) r := by
  have e0 : S.f32.word false r = r := by unfold Format.word; simp
  have e1 : S.f32.word true r = r + 2147483648 := by unfold Format.word; rw [S.sgn64]; simp [Nat.add_comm]
  cases b
  · rw [e0]; show r ^^^ 2147483648 = S.f32.word true r; rw [e1, xor_top' h]
  · rw [e1]; show (r + 2147483648) ^^^ 2147483648 = S.f32.word false r; rw [e0, xor_back' h]
theorem neg_read {x : Nat} (hx : x < 4294967296) {s : Bool} {m : Nat} {i : Int} (h : S.f32.read x = .number s m i) : S.f32.read (Op.negFloat .f32 x) = .number (!s) m i := by
  have hE := S.expo_of_num hx (S.isNum_of h)
  have hw := S.word_self x hx
  have he := S.expo_rung x hx
  have hr : S.rung x < 2139095040 := by omega
  have hneg : Op.negFloat .f32 x = S.f32.word (!S.sneg x) (S.rung x) := by rw [← neg_word _ (by omega), hw]
  have hy : S.f32.word (!S.sneg x) (S.rung x) < 4294967296 := by
    unfold Format.word; rw [S.sgn64]; split <;> omega
  obtain ⟨M, P, h1, h2, h3⟩ := S.num_form x hx hE
  rw [h1] at h
  injection h with a1 a2 a3
  rw [hneg]
  have hrg : S.rung (S.f32.word (!S.sneg x) (S.rung x)) = S.rung x := by
    have : ∀ b, S.rung (S.f32.word b (S.rung x)) = S.rung x := fun b => by
      unfold Format.word; rw [S.sgn64]
      cases b <;> simp [S.rung] <;> omega
    exact this _
  have hsn : S.sneg (S.f32.word (!S.sneg x) (S.rung x)) = !S.sneg x := by
    have : ∀ b, S.sneg (S.f32.word b (S.rung x)) = b := fun b => by
      unfold Format.word; rw [S.sgn64]
      cases b
      · simp only [Bool.false_eq_true, if_false]; unfold S.sneg; rw [show ∀ z, z = S.rung x → z / 2147483648 = 0 from fun z hz => by omega] <;> first | rfl | omega
      · simp only [if_true]; unfold S.sneg; rw [show (2147483648 + S.rung x) / 2147483648 = 1 by omega]; rfl
    exact this _
  obtain ⟨M', P', h1', h2', h3'⟩ := S.num_form _ hy (by rw [S.expo_rung _ hy, hrg, ← he]; exact hE)
  rw [S.expo_rung _ hy, hrg, ← he] at h3'
  obtain ⟨rfl, rfl⟩ : M' = M ∧ P' = P := by omega
  rw [h1', hsn, a1, a2, a3]
theorem cut_same (a b : Bool) (n d : Nat) : Toward.even.cut a n d = Toward.even.cut b n d := rfl
theorem near_not (b : Bool) (mag : Nat) (place : Int) : S.f32.nearest (!b) mag place = Op.negFloat .f32 (S.f32.nearest b mag place) := by
  have key : ∃ R, R < 2147483648 ∧ ∀ c, S.f32.nearest c mag place = S.f32.word c R := by
    by_cases h0 : mag = 0
    · exact ⟨0, by omega, fun c => by unfold Format.nearest; rw [if_pos h0]⟩
    · refine ⟨min ((max (place + mag.log2 - S.f32.fractionBits) S.f32.leastPlace - S.f32.leastPlace).toNat * S.f32.binade + Toward.even.cut true (mag <<< (place - max (place + mag.log2 - S.f32.fractionBits) S.f32.leastPlace).toNat) (max (place + mag.log2 - S.f32.fractionBits) S.f32.leastPlace - place).toNat) S.f32.infRung, ?_, fun c => ?_⟩
      · rw [S.inf64]; omega
      · unfold Format.nearest; rw [if_neg h0]
        rfl
  obtain ⟨R, hR, h⟩ := key
  rw [h, h, neg_word b hR]
/-- A product with the sign of the one number turned. -/
theorem mul_neg {x c r : Nat} (hx : S.isNum x) (hc : S.isNum c) (hcl : c < 4294967296) (h : floatBits .mul .f32 x c = some r) : floatBits .mul .f32 x (Op.negFloat .f32 c) = some (Op.negFloat .f32 r) := by
  obtain ⟨s, m, i, ex, _⟩ := hx
  obtain ⟨t, n, j, ec, _⟩ := hc
  have hn := neg_read hcl ec
  have h1 : S.f32.mul x c = some (S.f32.nearest (s ^^ t) (m * n) (i + j)) := by unfold Format.mul; rw [ex, ec]; rfl
  have h2 : S.f32.mul x (Op.negFloat .f32 c) = some (S.f32.nearest (s ^^ !t) (m * n) (i + j)) := by unfold Format.mul; rw [ex, hn]; rfl
  have h' : S.f32.mul x c = some r := h
  rw [h1] at h'
  obtain rfl := Option.some.inj h'
  show S.f32.mul x (Op.negFloat .f32 c) = _
  rw [h2, show (s ^^ !t) = !(s ^^ t) by cases s <;> cases t <;> rfl, near_not]
theorem neg_val {x : Nat} (hx : x < 4294967296) (h : S.isNum x) : S.isNum (Op.negFloat .f32 x) ∧ S.fval (Op.negFloat .f32 x) = -S.fval x := by
  obtain ⟨s, m, i, e, _⟩ := h
  have hn := neg_read hx e
  refine ⟨S.isNum_of hn, ?_⟩
  unfold S.fval
  rw [hn, e]
  show signed (!s) m (i + 149).toNat = -signed s m (i + 149).toNat
  exact S.signed_not _ _ _
/-- What is made to windward. -/
noncomputable def madeW (P : Pol) (w : Nat) (a : Nat) : Nat := mulS (spd P w a) (cosW a)
theorem made_ok {P : Pol} (hP : PolOk P) {w : Nat} (hw : okA w) {a : Nat} (h : a ≤ 180) : floatBits .mul .f32 (spd P w a) (cosW a) = some (madeW P w a) ∧ okB 2500 (madeW P w a) :=
  mulS_ok (M := 1250) (c := 2) (spd_ok hP hw (by omega) (by omega)).2 (cos_ok a (by omega)).2.2 (by omega)
/-- Times one. -/
theorem mul_one {x : Nat} (hx : x < 4294967296) (h : S.isNum x) : floatBits .mul .f32 x 1065353216 = some x := by
  have hE := S.expo_of_num hx h
  obtain ⟨M, P, e, hM, hcase⟩ := S.num_form x hx hE
  have hw := S.word_self x hx
  have h1 : S.f32.mul x 1065353216 = some (S.f32.nearest (S.sneg x ^^ false) (M * 8388608) (-149 + (P : Int) + -23)) := by unfold Format.mul; rw [e, oneW_num]; rfl
  show S.f32.mul x 1065353216 = some x
  rw [h1, Bool.xor_false]
  congr 1
  by_cases h0 : M = 0
  · have hr : S.rung x = 0 := by omega
    unfold Format.nearest
    rw [if_pos (by rw [h0, Nat.zero_mul]), ← hr]
    exact hw
  · unfold Format.nearest
    rw [if_neg (by omega)]
    have hl : (M * 8388608).log2 = M.log2 + 23 := by
      have hp : M * 8388608 ≠ 0 := by omega
      have hlo : 2 ^ M.log2 ≤ M := Nat.log2_self_le h0
      have hhi : M < 2 ^ (M.log2 + 1) := Nat.lt_log2_self
      have e23 : (2 : Nat) ^ 23 = 8388608 := rfl
      have h1 : M.log2 + 23 ≤ (M * 8388608).log2 := (Nat.le_log2 hp).2 (by rw [Nat.pow_add, e23]; exact Nat.mul_le_mul_right _ hlo)
      have h2 : (M * 8388608).log2 < M.log2 + 1 + 23 := (Nat.log2_lt hp).2 (by rw [Nat.pow_add, e23]; exact Nat.mul_lt_mul_of_pos_right hhi (by omega))
      omega
    have hlast : max (-149 + (P : Int) + -23 + ((M * 8388608).log2 : Nat) - (S.f32.fractionBits : Nat)) S.f32.leastPlace = -149 + (P : Int) := by
      rw [hl, S.lp64, show S.f32.fractionBits = 23 from rfl]
      have h24 : M.log2 < 24 := (Nat.log2_lt h0).2 hM
      rcases hcase with ⟨_, hP, _⟩ | ⟨_, h23, _⟩
      · omega
      · have : 23 ≤ M.log2 := (Nat.le_log2 h0).2 h23
        omega
    show S.f32.word (S.sneg x) (min ((max (-149 + (P : Int) + -23 + ((M * 8388608).log2 : Nat) - (S.f32.fractionBits : Nat)) S.f32.leastPlace - S.f32.leastPlace).toNat * S.f32.binade + Toward.even.cut (S.sneg x) ((M * 8388608) <<< (-149 + (P : Int) + -23 - max (-149 + (P : Int) + -23 + ((M * 8388608).log2 : Nat) - (S.f32.fractionBits : Nat)) S.f32.leastPlace).toNat) (max (-149 + (P : Int) + -23 + ((M * 8388608).log2 : Nat) - (S.f32.fractionBits : Nat)) S.f32.leastPlace - (-149 + (P : Int) + -23)).toNat) S.f32.infRung) = x
    rw [hlast, S.lp64, S.bin64, S.inf64, show (-149 + (P : Int) - -149).toNat = P by omega, show (-149 + (P : Int) + -23 - (-149 + (P : Int))).toNat = 0 by omega, show (-149 + (P : Int) - (-149 + (P : Int) + -23)).toNat = 23 by omega, Nat.shiftLeft_zero,
      show M * 8388608 = M * 2 ^ 23 from rfl, S.cut_exact]
    have hr : P * 8388608 + M = S.rung x := by omega
    have he := S.expo_rung x hx
    rw [hr, Nat.min_eq_left (by omega)]
    exact hw
end Go.Proofs.Ytonoknbangnleaa

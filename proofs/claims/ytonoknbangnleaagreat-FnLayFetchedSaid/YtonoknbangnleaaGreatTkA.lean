/- The bearing and the speed of a wind, as words (impl and spec); the best angles, as functions. -/
import Derived.Test.YtonoknbangnleaaGreatVZ
import Derived.Test.YtonoknbangnleaaGreatPoC
import Derived.Test.YtonoknbangnleaaGreatPsB
import Derived.Test.YtonoknbangnleaaGreatMZ
namespace Go.Proofs.YtonoknbangnleaaGreat
open Go.RowKit Ieee
set_option linter.unusedVariables false
set_option linter.unusedSimpArgs false

/-- Whence a wind blows. -/
noncomputable def frm (v : Nat × Nat) : Int := (from_ex v.1 v.2).choose
theorem frm_is (v : Nat × Nat) : FromIs v.1 v.2 (frm v) := (from_ex v.1 v.2).choose_spec.1
theorem frm_bd (v : Nat × Nat) : -1 ≤ frm v ∧ frm v < 360 := (from_ex v.1 v.2).choose_spec.2
/-- A length. -/
noncomputable def lenX (z : Nat × Nat) : Nat := (len_ex z).choose
theorem lenX_is (z : Nat × Nat) : LenIs z (lenX z) := (len_ex z).choose_spec
theorem lenX_num (z : Nat × Nat) : isNum (lenX z) ∧ 0 ≤ fval (lenX z) ∧ (fval (lenX z)).natAbs ≤ 1000000000 * oneV := by
  rcases lenX_is z with ⟨_, h⟩ | ⟨_, _, ⟨_, h⟩ | ⟨h1, g, h2, h⟩⟩
  · rw [h, nought_val]; exact ⟨isNum_of nought_num, by omega, by simp⟩
  · rw [h, nought_val]; exact ⟨isNum_of nought_num, by omega, by simp⟩
  · rw [h]
    obtain ⟨a, b, _, c⟩ := root_acc h1 h2
    refine ⟨a, b, ?_⟩
    have hx := h1.2.2
    rw [maxq_val] at hx
    have h0 : 0 < oneV := Nat.two_pow_pos _
    have hX : (fval (dotW z z)).toNat ≤ 100000000000000000 * oneV := by omega
    have hY := Nat.mul_le_mul_right oneV hX
    generalize fval (newtN (dotW z z) g 60) = y at *
    generalize (fval (dotW z z)).toNat * oneV = Q at *
    have e : y.natAbs = y.toNat := by omega
    rw [e]
    generalize y.toNat = n at *
    rcases Nat.lt_or_ge (1000000000 * oneV) n with k | k
    · exfalso
      have h3 := Nat.mul_le_mul (Nat.le_of_lt k) (Nat.le_of_lt k)
      have e2 : ∀ o : Nat, 1000000000 * o * (1000000000 * o) = 10 * (100000000000000000 * o * o) := fun o => by
        rw [Nat.mul_mul_mul_comm, Nat.mul_assoc 100000000000000000 o o]
        generalize o * o = u
        omega
      have h4 : 0 < oneV * oneV := Nat.mul_pos h0 h0
      rw [e2 oneV, Nat.mul_assoc 100000000000000000 oneV oneV] at h3
      rw [Nat.mul_assoc 100000000000000000 oneV oneV] at hY
      generalize oneV * oneV = u at *
      generalize n * n = m at *
      omega
    · exact k
/-- Narrowing of a number that is not huge. -/
theorem nar_mid {y : Nat} (h : isNum y) (hb : (fval y).natAbs ≤ 1000000000 * oneV) : ∃ r, floatToFloatBits .f64 y .f32 = some r ∧ r < 4294967296 := by
  have hf := fixW_eq
  obtain ⟨s, m, i, e, hi, hm⟩ := h
  have hw : fval y = signed s m (i + 1074).toNat := by unfold fval; rw [e]; rfl
  have habs : m * 2 ^ (i + 1074).toNat = (fval y).natAbs := by rw [hw]; exact (val_amount s m _).1.symm
  have hlt : 1000000000 * S.oneV < 2 ^ S.fixB := oneS_lt 1000000000 (by decide)
  have hbb : m * 2 ^ (i + 1074).toNat < 2 ^ (S.fixB + fixW) := by
    rw [habs, Nat.pow_add]
    refine Nat.lt_of_le_of_lt hb ?_
    rw [oneV_wid, ← Nat.mul_assoc]
    exact Nat.mul_lt_mul_of_pos_right hlt widV_pos
  obtain ⟨n1, _⟩ := S.near_core s m i fixW (i + 1074).toNat (by omega) (by rw [← S.fixB_eq]; exact hbb)
  refine ⟨S.f32.nearest s m i, ?_, S.f32.write_lt (.number s m i)⟩
  obtain ⟨s', m', i', e', _⟩ := n1
  unfold floatToFloatBits
  rw [if_neg (by decide)]
  rw [show FloatKind.f64.decode y = .number s m i from e]
  show (if (S.f32.read (S.f32.nearest s m i)).isInfinity then none else some (S.f32.nearest s m i)) = _
  rw [e']; rfl
/-- The speed of a wind. -/
noncomputable def wsW (v : Nat × Nat) : Nat := @ite _ (okV v.1 v.2) (Classical.propDecidable _) ((floatToFloatBits .f64 (lenX (wid v.1, wid v.2)) .f32).getD 0) 0
theorem wsW_no {v : Nat × Nat} (h : ¬ okV v.1 v.2) : wsW v = 0 := by unfold wsW; rw [if_neg h]
theorem wsW_yes {v : Nat × Nat} (h : okV v.1 v.2) : floatToFloatBits .f64 (lenX (wid v.1, wid v.2)) .f32 = some (wsW v) ∧ wsW v < 4294967296 := by
  obtain ⟨a, _, b⟩ := lenX_num (wid v.1, wid v.2)
  obtain ⟨r, h1, h2⟩ := nar_mid a b
  have e : wsW v = r := by unfold wsW; rw [if_pos h, h1]; rfl
  rw [e]
  exact ⟨h1, h2⟩
theorem wsW_lt (v : Nat × Nat) : wsW v < 4294967296 := by
  by_cases h : okV v.1 v.2
  · exact (wsW_yes h).2
  · rw [wsW_no h]; omega
theorem wide_conv {a b : Nat} (h : okV a b) : cConvBits .f32 a b .f64 = some (wid a, wid b) := by
  obtain ⟨⟨ha, hb⟩, h1, h2⟩ := h
  unfold cConvBits
  rw [(wid_num ha h1.1).1, (wid_num hb h2.1).1]; rfl
set_option maxRecDepth 100000 in
set_option maxHeartbeats 1000000 in
theorem i_wsp (v : Nat × Nat) (w : World) (ha : v.1 < 4294967296) (hb : v.2 < 4294967296) :
    Calls Tryz.prog 7 #[.complex .f32 v.1 v.2] w fun e w' => e = .returned (.float .f32 (wsW v)) ∧ Below w.heap.size w w' := by
  have hs : (Tryz.prog.underlying 58).isSome = true := by rw [Tryz.underlying58]; rfl
  have hs2 : (Tryz.prog.underlying 42).isSome = true := by rw [Tryz.underlying42]; rfl
  by_cases h : okV v.1 v.2
  · have q := fun w => run_convert_complex (P := Tryz.prog) w 58 30 .f32 .f64 _ _ _ _ hs Tryz.underlying30 (wide_conv h)
    have n := fun w => run_convert_float_float (P := Tryz.prog) w 42 35 .f64 .f32 _ _ hs2 Tryz.underlying35 (wsW_yes h).1
    have cv := fun w => i_velok_yes v.1 v.2 w h
    have cl := fun w => i_len (wid v.1, wid v.2) _ w (wid_lt _) (wid_lt _) (lenX_is _)
    clear h ha hb
    generalize wsW v = r at *
    obtain ⟨a, b⟩ := v
    dsimp only at *
    generalize lenX (wid a, wid b) = l at *
    generalize wid a = x at *
    generalize wid b = y at *
    go_enter Tryz.func7, Tryz.ntmps7
    go_wp2_with (first
      | (go_at_call 26; ((with_reducible refine (cv _).mono ?_); rintro e w' ⟨rfl, rfl⟩))
      | (go_at_call 27; go_in)
      | (go_at_call 14; ((with_reducible refine (cl _).mono ?_); rintro e w' ⟨rfl, rfl⟩)))
    go_ret
    exact ⟨rfl, Below.refl _ _⟩
  · rw [wsW_no h]
    have H := Lib.hid h
    have cv := fun w => i_velok v.1 v.2 w ha hb
    clear h
    obtain ⟨a, b⟩ := v
    dsimp only at *
    go_enter Tryz.func7, Tryz.ntmps7
    go_wp2_with fail
    refine (cv _).mono ?_
    rintro e w1 ⟨t, ht, rfl, h1, h2⟩
    cases t
    · have b1 : Below w.heap.size w w1 := (Below.refl _ w).grown h2 (Nat.le_refl _) (fun _ h => by cases h)
      clear h1 h2 ht cv
      go_wp2
      go_ret
      exact ⟨rfl, b1⟩
    · exact absurd ⟨⟨ha, hb⟩, ht.1 rfl⟩ H.out
set_option maxRecDepth 100000 in
set_option maxHeartbeats 1000000 in
theorem s_wsp (v : Nat × Nat) (w : World) (ha : v.1 < 4294967296) (hb : v.2 < 4294967296) :
    Calls Tryz.prog 47 #[.complex .f32 v.1 v.2] w fun e w' => e = .returned (.float .f32 (wsW v)) ∧ w = w' := by
  have hs : (Tryz.prog.underlying 29).isSome = true := by rw [Tryz.underlying29]; rfl
  have hs2 : (Tryz.prog.underlying 42).isSome = true := by rw [Tryz.underlying42]; rfl
  by_cases h : okV v.1 v.2
  · have q := fun w => run_convert_complex (P := Tryz.prog) w 29 30 .f32 .f64 _ _ _ _ hs Tryz.underlying30 (wide_conv h)
    have n := fun w => run_convert_float_float (P := Tryz.prog) w 42 35 .f64 .f32 _ _ hs2 Tryz.underlying35 (wsW_yes h).1
    have cv := fun w => s_velok_yes v.1 v.2 w h
    have cl := fun w => s_len (wid v.1, wid v.2) _ w (wid_lt _) (wid_lt _) (lenX_is _)
    clear h ha hb
    generalize wsW v = r at *
    obtain ⟨a, b⟩ := v
    dsimp only at *
    generalize lenX (wid a, wid b) = l at *
    generalize wid a = x at *
    generalize wid b = y at *
    go_enter Tryz.func47, Tryz.ntmps47
    go_wp2_with (first
      | (go_at_call 75; ((with_reducible refine (cv _).mono ?_); rintro e w' ⟨rfl, rfl⟩))
      | (go_at_call 76; go_in)
      | (go_at_call 78; ((with_reducible refine (cl _).mono ?_); rintro e w' ⟨rfl, rfl⟩)))
    go_ret
    exact ⟨rfl, rfl⟩
  · rw [wsW_no h]
    have H := Lib.hid h
    have cv := fun w => S.s_vok v.1 v.2 w ha hb
    clear h
    obtain ⟨a, b⟩ := v
    dsimp only at *
    go_enter Tryz.func47, Tryz.ntmps47
    go_wp2_with fail
    refine (cv _).mono ?_
    rintro e w1 ⟨t, ht, rfl, rfl⟩
    cases t
    · clear ht cv
      go_wp2
      go_ret
      exact ⟨rfl, rfl⟩
    · exact absurd ⟨⟨ha, hb⟩, ht.1 rfl⟩ H.out

/-! ### The best angles -/
theorem arg_ex (G : Nat → Int) (lo : Nat) : ∀ n, ∃ m, lo ≤ m ∧ m ≤ lo + n ∧ (∀ j, lo ≤ j → j < m → G j < G m) ∧ ∀ j, lo ≤ j → j ≤ lo + n → G j ≤ G m := by
  intro n
  induction n with
  | zero => exact ⟨lo, Nat.le_refl _, by omega, fun j a b => by omega, fun j a b => by rw [show j = lo by omega]; exact Int.le_refl _⟩
  | succ n ih =>
    obtain ⟨m, h1, h2, h3, h4⟩ := ih
    rcases Int.lt_or_le (G m) (G (lo + (n + 1))) with h | h
    · refine ⟨lo + (n + 1), by omega, by omega, fun j a b => by have := h4 j a (by omega); omega, fun j a b => ?_⟩
      rcases Nat.lt_or_ge j (lo + (n + 1)) with g | g
      · have := h4 j a (by omega); omega
      · rw [show j = lo + (n + 1) by omega]; exact Int.le_refl _
    · refine ⟨m, h1, by omega, h3, fun j a b => ?_⟩
      rcases Nat.lt_or_ge j (lo + (n + 1)) with g | g
      · exact h4 j a (by omega)
      · rw [show j = lo + (n + 1) by omega]; exact h
def OutE (v : Prop) (lo hi : Nat) (G : Nat → Int) (p : Int × Bool) : Prop := (v ∧ Best lo hi G p.1 p.2) ∨ (¬ v ∧ p = (0, false))
theorem outE_ex (v : Prop) (lo hi : Nat) (h : lo ≤ hi) (G : Nat → Int) : ∃ p, OutE v lo hi G p := by
  by_cases hv : v
  · obtain ⟨m, h1, h2, h3, h4⟩ := arg_ex G lo (hi - lo)
    rcases Int.lt_or_le 0 (G m) with g | g
    · exact ⟨(m, true), .inl ⟨hv, .inr ⟨rfl, m, rfl, h1, by omega, g, h3, fun j a b => h4 j a (by omega)⟩⟩⟩
    · exact ⟨(0, false), .inl ⟨hv, .inl ⟨rfl, rfl, fun j a b => by have := h4 j a (by omega); omega⟩⟩⟩
  · exact ⟨(0, false), .inr ⟨hv, rfl⟩⟩
theorem outE_bd {v : Prop} {lo hi : Nat} {G : Nat → Int} {p : Int × Bool} (h : OutE v lo hi G p) : (p.2 = true → (lo : Int) ≤ p.1 ∧ p.1 ≤ hi) ∧ (p.2 = false → p.1 = 0) := by
  rcases h with ⟨_, ⟨h1, h2, _⟩ | ⟨h1, n, h2, h3, h4, _⟩⟩ | ⟨_, rfl⟩
  · exact ⟨fun h => (by rw [h1] at h; cases h), fun _ => h2⟩
  · exact ⟨fun _ => ⟨by omega, by omega⟩, fun h => (by rw [h1] at h; cases h)⟩
  · exact ⟨fun h => (by cases h), fun _ => rfl⟩
theorem tells_out {v : Prop} {lo hi : Nat} {G : Nat → Int} {w : World} {e : Ending} {w' : World} {p : Int × Bool} (h : TellsBest v lo hi G w e w') (k : OutE v lo hi G p) :
    e = .returned (.tuple #[.int .i64 p.1, .bool p.2]) ∧ Below w.heap.size w w' := by
  obtain ⟨bl, ⟨hv, b, t, hb, he⟩ | ⟨hv, he⟩⟩ := h
  · rcases k with ⟨_, k⟩ | ⟨k, _⟩
    · obtain ⟨e1, e2⟩ := best_fun k hb
      rw [e1, e2]
      exact ⟨he, bl⟩
    · exact absurd hv k
  · rcases k with ⟨k, _⟩ | ⟨_, k⟩
    · exact absurd k hv
    · rw [k]; exact ⟨he, bl⟩
noncomputable def upE (P : Pol) (x : Nat) : Int × Bool := (outE_ex (PolOk P ∧ okA x) 0 90 (by omega) (fun j : Nat => S.fval (madeW P x j))).choose
theorem upE_is (P : Pol) (x : Nat) : OutE (PolOk P ∧ okA x) 0 90 (fun j : Nat => S.fval (madeW P x j)) (upE P x) := (outE_ex (PolOk P ∧ okA x) 0 90 (by omega) (fun j : Nat => S.fval (madeW P x j))).choose_spec
noncomputable def dnE (P : Pol) (x : Nat) : Int × Bool := (outE_ex (PolOk P ∧ okA x) 91 180 (by omega) (fun j : Nat => -S.fval (madeW P x j))).choose
theorem dnE_is (P : Pol) (x : Nat) : OutE (PolOk P ∧ okA x) 91 180 (fun j : Nat => -S.fval (madeW P x j)) (dnE P x) := (outE_ex (PolOk P ∧ okA x) 91 180 (by omega) (fun j : Nat => -S.fval (madeW P x j))).choose_spec
theorem i_upE (P : Pol) (x : Nat) (w : World) (h : PolIn w P) (hx : x < 4294967296) :
    Calls Tryz.prog 10 #[.agg #[.slice P.W P.nw P.cw, .slice P.A P.na P.ca, .slice P.S P.ns P.cs], .float .f32 x] w fun e w' => e = .returned (.tuple #[.int .i64 (upE P x).1, .bool (upE P x).2]) ∧ Below w.heap.size w w' :=
  (i_BestUp P x w h hx).mono fun e w' t => tells_out t (upE_is P x)
theorem i_dnE (P : Pol) (x : Nat) (w : World) (h : PolIn w P) (hx : x < 4294967296) :
    Calls Tryz.prog 6 #[.agg #[.slice P.W P.nw P.cw, .slice P.A P.na P.ca, .slice P.S P.ns P.cs], .float .f32 x] w fun e w' => e = .returned (.tuple #[.int .i64 (dnE P x).1, .bool (dnE P x).2]) ∧ Below w.heap.size w w' :=
  (i_BestDown P x w h hx).mono fun e w' t => tells_out t (dnE_is P x)
theorem s_upE (P : Pol) (x : Nat) (w : World) (h : PolIn w P) (hx : x < 4294967296) :
    Calls Tryz.prog 46 #[.agg #[.slice P.W P.nw P.cw, .slice P.A P.na P.ca, .slice P.S P.ns P.cs], .float .f32 x] w fun e w' => e = .returned (.tuple #[.int .i64 (upE P x).1, .bool (upE P x).2]) ∧ Below w.heap.size w w' :=
  (s_BestUp P x w h hx).mono fun e w' t => tells_out t (upE_is P x)
end Go.Proofs.YtonoknbangnleaaGreat

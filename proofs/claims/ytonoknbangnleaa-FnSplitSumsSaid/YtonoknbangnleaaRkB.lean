/- Steps: what is deferred, StepOn (impl and spec). -/
import Derived.Test.YtonoknbangnleaaRkA
import Derived.Defers
namespace Go.Proofs.Ytonoknbangnleaa
open Go.RowKit Ieee
set_option linter.unusedVariables false
set_option linter.unusedSimpArgs false
attribute [local go_sem] st_cplx


/-- Whether a vector is valid, as a Bool. -/
noncomputable def vcB (p : Nat × Nat) : Bool := @decide (okP p.1 ∧ okP p.2) (Classical.propDecidable _)
theorem vcB_iff {p : Nat × Nat} : vcB p = true ↔ okP p.1 ∧ okP p.2 := by unfold vcB; exact @decide_eq_true_iff _ (Classical.propDecidable _)
noncomputable def vlB (v : Nat × Nat) : Bool := @decide (S.okP v.1 ∧ S.okP v.2) (Classical.propDecidable _)
theorem vlB_iff {v : Nat × Nat} : vlB v = true ↔ S.okP v.1 ∧ S.okP v.2 := by unfold vlB; exact @decide_eq_true_iff _ (Classical.propDecidable _)
/-- Words of positions and of velocities. -/
def W64 (p : Nat × Nat) : Prop := p.1 < 18446744073709551616 ∧ p.2 < 18446744073709551616
def W32 (p : Nat × Nat) : Prop := p.1 < 4294967296 ∧ p.2 < 4294967296
theorem i_vecB (p : Nat × Nat) (w : World) (h : W64 p) : Calls Try.prog 46 #[.complex .f64 p.1 p.2] w fun e w' => e = .returned (.bool (vcB p)) ∧ w = w' :=
  (i_vok p.1 p.2 w h.1 h.2).mono fun e w' ⟨t, ht, he, hw⟩ => by
    have : vcB p = t := by rw [Bool.eq_iff_iff, vcB_iff]; exact ht.symm
    rw [this]; exact ⟨he, hw⟩
theorem s_vecB (p : Nat × Nat) (w : World) (h : W64 p) : Calls Try.prog 48 #[.complex .f64 p.1 p.2] w fun e w' => e = .returned (.bool (vcB p)) ∧ w = w' :=
  (s_vok p.1 p.2 w h.1 h.2).mono fun e w' ⟨t, ht, he, hw⟩ => by
    have : vcB p = t := by rw [Bool.eq_iff_iff, vcB_iff]; exact ht.symm
    rw [this]; exact ⟨he, hw⟩
theorem i_velB (v : Nat × Nat) (w : World) (h : W32 v) : Calls Try.prog 37 #[.complex .f32 v.1 v.2] w fun e w' => e = .returned (.bool (vlB v)) ∧ w.grownBy w' none :=
  (i_velok v.1 v.2 w h.1 h.2).mono fun e w' ⟨t, ht, he, _, hw⟩ => by
    have : vlB v = t := by rw [Bool.eq_iff_iff, vlB_iff]; exact ht.symm
    rw [this]; exact ⟨he, hw⟩
theorem s_velB (v : Nat × Nat) (w : World) (h : W32 v) : Calls Try.prog 64 #[.complex .f32 v.1 v.2] w fun e w' => e = .returned (.bool (vlB v)) ∧ w = w' :=
  (S.s_vok v.1 v.2 w h.1 h.2).mono fun e w' ⟨t, ht, he, hw⟩ => by
    have : vlB v = t := by rw [Bool.eq_iff_iff, vlB_iff]; exact ht.symm
    rw [this]; exact ⟨he, hw⟩

/-- The end of a step: words. -/
noncomputable def stepW (p v : Nat × Nat) (n : Int) : Nat × Nat := (ad p.1 (ml (wid v.1) (floatOfInt .f64 n)), ad p.2 (ml (wid v.2) (floatOfInt .f64 n)))
structure StpOk (p v : Nat × Nat) (n : Int) : Prop where
  w1 : floatToFloatBits .f32 v.1 .f64 = some (wid v.1)
  w2 : floatToFloatBits .f32 v.2 .f64 = some (wid v.2)
  m1 : floatBits .mul .f64 (wid v.1) (floatOfInt .f64 n) = some (ml (wid v.1) (floatOfInt .f64 n))
  m2 : floatBits .mul .f64 (wid v.2) (floatOfInt .f64 n) = some (ml (wid v.2) (floatOfInt .f64 n))
  a1 : floatBits .add .f64 p.1 (ml (wid v.1) (floatOfInt .f64 n)) = some (stepW p v n).1
  a2 : floatBits .add .f64 p.2 (ml (wid v.2) (floatOfInt .f64 n)) = some (stepW p v n).2
  lt : W64 (stepW p v n)
theorem stp_part {p v : Nat} {n : Int} (hp : okP p) (hl : v < 4294967296) (hv : S.okP v) (hn : okSec n) :
    floatToFloatBits .f32 v .f64 = some (wid v) ∧ floatBits .mul .f64 (wid v) (floatOfInt .f64 n) = some (ml (wid v) (floatOfInt .f64 n)) ∧
    floatBits .add .f64 p (ml (wid v) (floatOfInt .f64 n)) = some (ad p (ml (wid v) (floatOfInt .f64 n))) ∧ ad p (ml (wid v) (floatOfInt .f64 n)) < 18446744073709551616 ∧
    NearI (fval (ml (wid v) (floatOfInt .f64 n))) (S.fval v * (widV : Int) * (n * (oneV : Int))) oneV ∧ NearI (fval (ad p (ml (wid v) (floatOfInt .f64 n)))) (fval p + fval (ml (wid v) (floatOfInt .f64 n))) 1 ∧ isNum (ad p (ml (wid v) (floatOfInt .f64 n))) := by
  have hb := oneV_bound
  have hpos : 0 < oneV := Nat.two_pow_pos _
  obtain ⟨hn0, hn1⟩ := hn
  obtain ⟨c1, c2, c3⟩ := wid_num hl hv.1
  have c4 := (okP_wid hl hv.1).2 hv.2
  obtain ⟨i1, i2⟩ := ofInt_val n (by omega) (by omega)
  have i3 : (fval (floatOfInt .f64 n)).natAbs ≤ 100000 * oneV := by
    rw [i2, Int.natAbs_mul, Int.natAbs_natCast]
    exact Nat.mul_le_mul_right _ (by omega)
  have hab : (fval (wid v) * fval (floatOfInt .f64 n)).natAbs ≤ 10000000 * oneV * oneV := by
    rw [Int.natAbs_mul]
    have := Nat.mul_le_mul c4 i3
    rw [show 100 * oneV * (100000 * oneV) = 10000000 * oneV * oneV by rw [← Nat.mul_assoc, Nat.mul_right_comm 100 oneV 100000]] at this
    exact this
  obtain ⟨m, m1, m2, m3, m4⟩ := mul_op c2 i1 (by
    rw [Nat.pow_add]
    refine Nat.lt_of_le_of_lt hab (Nat.mul_lt_mul_of_pos_right ?_ hpos)
    omega)
  have hnr := m4.near hpos
  have hr := rep_units 10000000 (by omega)
  have r1 := (hnr _ hr).2
  have r2 := (hnr _ (rep_neg hr)).1
  rw [← Int.natCast_mul] at r1
  rw [Int.neg_mul, ← Int.natCast_mul] at r2
  have b1 := r1 (by omega)
  have b2 := r2 (by omega)
  have e : ml (wid v) (floatOfInt .f64 n) = m := by unfold ml; rw [m1]; rfl
  rw [e]
  obtain ⟨s, s1, s2, s3, s4⟩ := add_op hp.1 m2 (by have := hp.2; omega)
  have e2 : ad p m = s := by unfold ad; rw [s1]; rfl
  rw [e2]
  rw [c3, i2] at hnr
  exact ⟨c1, m1, s1, s3, hnr, s4.near (by omega), s2⟩
theorem stp_ok {p v : Nat × Nat} {n : Int} (hp : okP p.1 ∧ okP p.2) (hl : W32 v) (hv : S.okP v.1 ∧ S.okP v.2) (hn : okSec n) : StpOk p v n := by
  obtain ⟨a1, a2, a3, a4, _⟩ := stp_part hp.1 hl.1 hv.1 hn
  obtain ⟨b1, b2, b3, b4, _⟩ := stp_part hp.2 hl.2 hv.2 hn
  exact ⟨a1, b1, a2, b2, a3, b3, a4, b4⟩
/-- What a step tells. -/
noncomputable def stepB (p v : Nat × Nat) (n : Int) : Bool := vcB p && vlB v && secB n && vcB (stepW p v n)
noncomputable def stepF (p v : Nat × Nat) (n : Int) : Nat × Nat := if stepB p v n = true then stepW p v n else (0, 0)
end Go.Proofs.Ytonoknbangnleaa

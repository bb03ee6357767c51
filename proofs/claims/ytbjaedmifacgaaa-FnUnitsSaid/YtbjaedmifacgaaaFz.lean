/- The walks of spec.ToFixed and impl.ToFixed, and of the law FnExactToFixed. -/
import Derived.Test.YtbjaedmifacgaaaRows
import Derived.Test.YtbjaedmifacgaaaFy
import Derived.WalkKit
import Derived.WalkSpells
import Derived.WalkLawsBesides
import Derived.Lib.Hide
namespace Go.Proofs.Ytbjaedmifacgaaa
open Go.RowKit Ieee


theorem nan_cut (x y t u : Nat) (hu : (Question.nanBits .f64 x y).cut t = u) :
    u < 18446744073709551616 ∧ expo u = 2047 ∧ (∀ z, FloatKind.f64.format.order u z = none) ∧ ∀ z, FloatKind.f64.format.order (u % 9223372036854775808) z = none := by
  simp only [Question.cut, Nat.reducePow, Nat.reduceSub] at hu
  have hs : t % 2 = 0 ∨ t % 2 = 1 := by omega
  have hd : t / 2 % 4503599627370495 < 4503599627370495 := Nat.mod_lt _ (by omega)
  generalize t / 2 % 4503599627370495 = d at *
  generalize t % 2 = sg at *
  have hf : ∃ z, (z = 0 ∨ z = 1) ∧ u = z * 9223372036854775808 + (9218868437227405312 + (1 + d)) := ⟨sg, hs, by omega⟩
  clear hu hs
  obtain ⟨z, hz, hu⟩ := hf
  have h1 : u < 18446744073709551616 := by omega
  have h2 : expo u = 2047 := by unfold expo; rcases hz with rfl | rfl <;> omega
  have hr : 9218868437227405312 < rung u := by unfold rung; rcases hz with rfl | rfl <;> omega
  have hl : rung u < f64.signWeight := by rw [sgn64]; unfold rung; omega
  refine ⟨h1, h2, fun z => ?_, fun z => ?_⟩
  · have e := fl_read_word f64 (sneg u) (rung u) hl
    rw [word_self u h1, bin64, inf64, if_neg (by omega), if_neg (by omega), if_neg (by omega)] at e
    exact order_nan e z
  · have e := fl_read_word f64 false (rung u) hl
    rw [show f64.word false (rung u) = rung u from abs_rung u, bin64, inf64, if_neg (by omega), if_neg (by omega), if_neg (by omega)] at e
    exact order_nan e z

/-- An operation without a value: a word drawn that is no number. -/
theorem run_nan (op : BinOp) (hop : op = .add ∨ op = .sub ∨ op = .mul ∨ op = .quo) (x y : Nat) (h : floatBits op .f64 x y = none) :
    ∃ nb : World → Nat, (∀ w, (binOp op 26 (.float .f64 x) (.float .f64 y)).run Try.prog w = .ok (.float .f64 (nb w)) w.drew) ∧ ∀ w, nb w < 18446744073709551616 ∧ expo (nb w) = 2047 ∧ (∀ z, FloatKind.f64.format.order (nb w) z = none) ∧ ∀ z, FloatKind.f64.format.order (nb w % 9223372036854775808) z = none := by
  refine ⟨fun w => (Question.nanBits .f64 x y).cut (w.tape w.drawn (.nanBits .f64 x y)), ?_, fun w => nan_cut x y _ _ rfl⟩
  intro w
  unfold floatBits at h
  rcases hop with rfl | rfl | rfl | rfl <;> simp only at h <;> simp [binOp, Op.floatArith, h, Question.forced]

theorem mul_lt {x y p : Nat} (h : floatBits .mul .f64 x y = some p) : p < 18446744073709551616 := FloatKind.f64.format.mul_lt h



end Go.Proofs.Ytbjaedmifacgaaa

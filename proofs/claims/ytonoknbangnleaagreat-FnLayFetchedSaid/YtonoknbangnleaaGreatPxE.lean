/- The laws' own comparisons: eqFloat32S, eqIntS, eqFloat32SS, eqPolar at lists that hold the same. -/
import Derived.Test.YtonoknbangnleaaGreatPZ
import Derived.Test.YtonoknbangnleaaGreatWZ
import Derived.Deep.RegionHeld3
namespace Go.Proofs.YtonoknbangnleaaGreat
open Go.RowKit Ieee
set_option linter.unusedSimpArgs false
set_option linter.unusedVariables false

/-- Widening at any word: one word, or what is no number. -/
theorem wide_any (src dst : TypeId) (hs : (Tryz.prog.underlying src).isSome = true) (hd : Tryz.prog.underlying dst = some (.float .f64)) (x : Nat) (hx : x < 4294967296) :
    (∃ y, ∀ w, (convert src dst (.float .f32 x)).run Tryz.prog w = .ok (.float .f64 y) w) ∨
    ∃ nb : World → Nat, (∀ w z, FloatKind.f64.format.order (nb w) z = none) ∧ ∀ w, (convert src dst (.float .f32 x)).run Tryz.prog w = .ok (.float .f64 (nb w)) w.drew := by
  cases h : floatToFloatBits .f32 x .f64 with
  | some r => exact .inl ⟨r, fun w => run_convert_float_float (P := Tryz.prog) w src dst .f32 .f64 x r hs hd h⟩
  | none =>
    right
    obtain ⟨u, hs'⟩ := Option.isSome_iff_exists.1 hs
    unfold floatToFloatBits at h
    rw [if_neg (by decide)] at h
    split at h
    · rename_i a b he
      refine ⟨fun w => (Question.nanConv .f64 x).cut (w.tape w.drawn (.nanConv .f64 x)), fun w => ?_, fun w => ?_⟩
      · obtain ⟨_, _, h2, _⟩ := nan_cut 0 0 (w.tape w.drawn (.nanConv .f64 x)) _ rfl
        exact h2
      · cases u <;> simp [convert, run_underlying hs', run_underlying hd, Conv.floatToFloat, he, Question.forced]
    · cases h
    · rename_i s m e he
      split at h
      · rename_i ho
        exfalso
        have hn : S.isNum x := S.isNum_of he
        have := (wid_num hx hn).1
        unfold floatToFloatBits at this
        rw [if_neg (by decide), he] at this
        simp only [ho, if_true] at this
        cases this
      · cases h
/-- Two polars that hold the same. -/
def Same4 (P Q : Pol) : Prop := P.nw = Q.nw ∧ P.ws = Q.ws ∧ P.na = Q.na ∧ P.av = Q.av ∧ P.ns = Q.ns ∧ P.rn = Q.rn ∧ P.sp = Q.sp
end Go.Proofs.YtonoknbangnleaaGreat

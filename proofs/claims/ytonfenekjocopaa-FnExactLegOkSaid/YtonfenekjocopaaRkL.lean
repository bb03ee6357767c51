/- A leg that comes into a law: opened into its three parts. -/
import Derived.Test.YtonfenekjocopaaRkA
import Derived.Lib.SmallJoins
import Derived.Laws.Cover2
import Derived.ChangeShapes
namespace Go.Proofs.Ytonfenekjocopaa
open Go.RowKit Go.ChangeShapes Go.WideShapes
set_option linter.unusedSimpArgs false
set_option linter.unusedVariables false

section
variable {H : Type} {enc : TypeId × Value → H} {P : Program} {w : World} {base : Nat} {spare : Nat → Bool} {held : Bool}
theorem trod_f {k : FloatKind} {fuel : Nat} {t : TypeId} {cs : List Value} {x : DataW H × List MemPlace} (ht : P.underlying t = some (.float k)) (h : DataW.trod enc P w base spare held fuel t cs = some x) : ∃ b, cs = [.float k b] ∧ (Lit.float k b).wf = true := by
  cases fuel with
  | zero => simp [DataW.trod] at h
  | succ n =>
    unfold DataW.trod at h
    rw [ht] at h
    split at h <;> simp_all
end
set_option maxRecDepth 100000 in
/-- A leg, opened. -/
theorem open_leg {H : Type} {enc : TypeId × Value → H} {w : World} {base b0 : Nat} {spare : Nat → Bool} {held : Bool} {r : Reach} {v : Value} {d : DataW H} {p : List MemPlace}
    (hv : Value.okWide Try.prog w r b0 59 v) (h : DataW.Trod enc Try.prog w base spare held 59 v d p) :
    ∃ x : Int × Nat × Int, v = .agg #[.int .i64 x.1, .float .f32 x.2.1, .int .i64 x.2.2] ∧ x.2.1 < 4294967296 := by
  obtain ⟨v0, v1, v2, y0, y1, y2, n, rfl, _, _, h0, h1, h2⟩ := Go.Joins.open_agg3 Try.underlying59 (by kernel_rfl) (by kernel_rfl) hv h
  obtain ⟨a, e0, _, _⟩ := DataW.trod_int Try.underlying3 h0
  obtain ⟨b, e1, hb⟩ := trod_f Try.underlying35 h1
  obtain ⟨c, e2, _, _⟩ := DataW.trod_int Try.underlying3 h2
  simp only [List.cons.injEq, and_true] at e0 e1 e2
  subst e0 e1 e2
  exact ⟨(a, b, c), rfl, by simpa [Lit.wf] using hb⟩
theorem w_FnExactLegOk (x : Int × Nat × Int) (w : World) (hs : x.2.1 < 4294967296) :
    Calls Try.prog 8 #[.agg #[.int .i64 x.1, .float .f32 x.2.1, .int .i64 x.2.2]] w fun e w' => e = .returned (.bool true) ∧ Below w.heap.size w w' := v_FnExactLegOk _ _ _ w hs
end Go.Proofs.Ytonfenekjocopaa

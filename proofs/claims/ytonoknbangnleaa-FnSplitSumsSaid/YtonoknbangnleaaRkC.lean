/- The walks of StepOn (impl and spec). -/
import Derived.Test.YtonoknbangnleaaRkB
import Derived.Test.YtonoknbangnleaaGvC
namespace Go.Proofs.Ytonoknbangnleaa
open Go.RowKit Ieee
set_option linter.unusedVariables false
set_option linter.unusedSimpArgs false
attribute [local go_sem] st_cplx

section
variable {P : Program}
/-- Two results, each in a variable of one cell. -/
theorem res_cells2 {fn : Func} {p q : Tmp} {t1 t2 : TypeId} (h : fn.results = #[.cell p t1, .cell q t2]) (tmps : Array Value) (w : World) (g1 g2 : Nat) (v1 v2 : Value)
    (hp : tmps.getD p undef = .pointer (some ⟨g1, 0, none⟩)) (hq : tmps.getD q undef = .pointer (some ⟨g2, 0, none⟩))
    (l1 : (loadVar t1 ⟨g1, 0, none⟩).run P w = .ok v1 w) (l2 : (loadVar t2 ⟨g2, 0, none⟩).run P w = .ok v2 w) :
    (results fn tmps).run P w = .ok (.tuple #[v1, v2]) w := by
  have hp' : tmps[p]?.getD undef = .pointer (some ⟨g1, 0, none⟩) := by simpa using hp
  have hq' : tmps[q]?.getD undef = .pointer (some ⟨g2, 0, none⟩) := by simpa using hq
  simp [results, h, hp', hq', asAddr, l1, l2]
end
section
variable {P : Program}
theorem run_loadVar_one {t : TypeId} {d : TypeDesc} {a : Addr} {v : Value} {w : World} (hu : P.underlying t = some d) (hd : (match d with | .struct _ | .array _ _ => false | _ => true) = true) (hc : w.cell? a = some v) : (loadVar t a).run P w = .ok v w := by
  have hagg : (isAgg t).run P w = .ok false w := by
    unfold isAgg
    cases d <;> simp_all [go_sem, underlying]
  simp [loadVar, hagg, hc, Sem.run_bind, Sem.run_pure]
end
theorem two_set {W : World} {b0 b1 : Nat} {x y x' y' : Value} {t0 t1 : TypeId} (H0 : W.heap[b0]? = some (.cells #[x] t0 (0, 0))) (H1 : W.heap[b1]? = some (.cells #[y] t1 (0, 0))) (hne : b0 ≠ b1) :
    ((W.setCell ⟨b0, 0, none⟩ x').setCell ⟨b1, 0, none⟩ y').heap[b0]? = some (.cells #[x'] t0 (0, 0)) ∧ ((W.setCell ⟨b0, 0, none⟩ x').setCell ⟨b1, 0, none⟩ y').heap[b1]? = some (.cells #[y'] t1 (0, 0)) := by
  have a0 := heap_set_self (k := 0) H0 x'
  have a1 : (W.setCell ⟨b0, 0, none⟩ x').heap[b1]? = some (.cells #[y] t1 (0, 0)) := (Below.heap_setCell _ _ _ _ (fun e => hne e.symm)).trans H1
  refine ⟨(Below.heap_setCell _ _ _ _ hne).trans (by simpa using a0), ?_⟩
  have a2 := heap_set_self (k := 0) a1 y'
  simpa using a2
theorem two_setD {W : World} {b0 b1 : Nat} {x y x' y' : Value} {t0 t1 : TypeId} (H0 : W.heap[b0]? = some (.cells #[x] t0 (0, 0))) (H1 : W.heap[b1]? = some (.cells #[y] t1 (0, 0))) (hne : b0 ≠ b1) :
    ((W.setCell ⟨b0, 0, none⟩ x').setCell ⟨b1, 0, none⟩ y').drew.heap[b0]? = some (.cells #[x'] t0 (0, 0)) ∧ ((W.setCell ⟨b0, 0, none⟩ x').setCell ⟨b1, 0, none⟩ y').drew.heap[b1]? = some (.cells #[y'] t1 (0, 0)) := two_set H0 H1 hne
set_option maxHeartbeats 400000 in
theorem i_wide (a b x y : Nat) (w : World) (h1 : floatToFloatBits .f32 a .f64 = some x) (h2 : floatToFloatBits .f32 b .f64 = some y) :
    Calls Try.prog 38 #[.complex .f32 a b] w fun e w' => e = .returned (.complex .f64 x y) ∧ w = w' := by
  have hs : (Try.prog.underlying 53).isSome = true := by rw [Try.underlying53]; rfl
  have q0 := fun w => run_convert_complex (P := Try.prog) (w := w) 53 40 .f32 .f64 a b x y hs Try.underlying40 (by unfold cConvBits; rw [h1, h2]; rfl)
  clear h1 h2 hs
  go_enter Try.func38, Try.ntmps38
  go_wp2
  go_ret
  exact ⟨rfl, rfl⟩
end Go.Proofs.Ytonoknbangnleaa

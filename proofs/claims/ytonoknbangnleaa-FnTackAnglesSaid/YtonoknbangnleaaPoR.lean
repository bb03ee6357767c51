/- rowSpeed, speedOf, SpeedAt (impl). -/
import Derived.Test.YtonoknbangnleaaPoK
namespace Go.Proofs.Ytonoknbangnleaa
open Go.RowKit Ieee
set_option linter.unusedSimpArgs false
set_option linter.unusedVariables false

theorem alloc_below (w : World) (o : Obj) (n : Nat) : Below w.heap.size w ((w.alloc o).drewN n) := below_drewN ((Below.refl _ w).alloc (Nat.le_refl _) o) n
theorem alloc_keeps (w : World) (o : Obj) (n : Nat) : Keeps w ((w.alloc o).drewN n) := (keeps_alloc w o).trans (keeps_drewN _ n)
/-- The lists of a polar that is valid, taken apart. -/
theorem row_at {w : World} {P : Pol} (h : PolIn w P) (hP : PolOk P) {i : Nat} (hi : i < P.ns) :
    ∃ gS oS gR oR, P.S = some ⟨gS, oS, none⟩ ∧ P.R i = some ⟨gR, oR, none⟩ ∧ w.cell? ⟨gS, oS + i, none⟩ = some (.slice (some ⟨gR, oR, none⟩) P.na (P.rc i)) ∧ ∀ k, k < P.na → w.cell? ⟨gR, oR + k, none⟩ = some (.float .f32 (P.sp i k)) := by
  obtain ⟨gS, oS, e1, c1⟩ := h.2.2.1.1 (by omega)
  have hrn := (hP.2.2.2 i hi).1
  have hna := hP.2.1.1
  obtain ⟨gR, oR, e2, c2⟩ := (h.2.2.2 i hi).1 (by omega)
  refine ⟨gS, oS, gR, oR, e1, e2, ?_, fun k hk => c2 k (by omega)⟩
  rw [c1 i hi]
  show some (Value.slice (P.R i) (P.rn i) (P.rc i)) = _
  rw [e2, hrn]
theorem ang_at {w : World} {P : Pol} (h : PolIn w P) (hP : PolOk P) : ∃ gA oA, P.A = some ⟨gA, oA, none⟩ ∧ ∀ k, k < P.na → w.cell? ⟨gA, oA + k, none⟩ = some (.int .i64 (P.av k)) := by
  have hna := hP.2.1.1
  obtain ⟨gA, oA, e1, c1⟩ := h.2.1.1 (by omega)
  exact ⟨gA, oA, e1, c1⟩
theorem wnd_at {w : World} {P : Pol} (h : PolIn w P) (hP : PolOk P) : ∃ gW oW, P.W = some ⟨gW, oW, none⟩ ∧ ∀ k, k < P.nw → w.cell? ⟨gW, oW + k, none⟩ = some (.float .f32 (P.ws k)) := by
  have hnw := hP.1.1
  obtain ⟨gA, oA, e1, c1⟩ := h.1.1 (by omega)
  exact ⟨gA, oA, e1, c1⟩

/-- A callee that turns nothing, met where draws have been counted together. -/
theorem quiet_plus {P : Program} {f : FuncId} {args : Array Value} {w : World} {m n : Nat} {v : Value}
    (h : Calls P f args (w.drewN (m + n)) fun e w' => e = .returned v ∧ w.drewN (m + n) = w') : Calls P f args (w.drewN (m + n)) fun e w'' => e = .returned v ∧ ∃ k, w'' = w.drewN (m + k) :=
  h.mono fun _ _ ⟨he, hm⟩ => ⟨he, n, hm.symm⟩
set_option maxRecDepth 100000 in
set_option maxHeartbeats 1000000 in
theorem i_row (P : Pol) (i : Nat) (a : Int) (w : World) (h : PolIn w P) (hP : PolOk P) (hi : i < P.ns) (h0 : 0 ≤ a) (h1 : a ≤ 180) :
    Calls Try.prog 88 #[.agg #[.slice P.W P.nw P.cw, .slice P.A P.na P.ca, .slice P.S P.ns P.cs], .int .i64 i, .int .i64 a] w fun e w' => e = .returned (.float .f32 (rowS P i a)) ∧ Below w.heap.size w w' := by
  have hr := (rowS_ok hP hi h0 h1).1
  generalize rowS P i a = r at hr
  obtain ⟨gS, oS, gR, oR, eS, eR, cS, cR⟩ := row_at h hP hi
  obtain ⟨gA, oA, eA, cA⟩ := ang_at h hP
  have hl : ∀ w', Keeps w w' → Calls Try.prog 99 #[.slice P.A P.na P.ca, .int .i64 a] w' fun e w'' => LastUp P.na P.av a w' e w'' := fun w' k => i_lastI P.av P.A P.na P.ca a w' (h.2.1.keeps k) hP.2.1.2.2.2
  obtain ⟨⟨n0, n1⟩, a0, a1, hasc⟩ := id hP.2.1
  have hang := hP.2.1
  have hns : P.ns ≤ 1048576 := h.2.2.1.2
  have hnn : ¬ ∀ k, k < P.na → a < P.av k := fun hk => by have := hk 0 (by omega); omega
  obtain ⟨j, hj, hcase⟩ := hr
  have hlf := fun k (hk : LastIs P.na P.av a k) => last_fun hasc hk hj
  have hjn := hj.1
  have cj := cA j hjn
  have cr := cR j hjn
  have cS' := (keeps_alloc w (.cells #[.slice P.W P.nw P.cw, .slice P.A P.na P.ca, .slice P.S P.ns P.cs] 28)).2 _ _ cS
  have cj' := (keeps_alloc w (.cells #[.slice P.W P.nw P.cw, .slice P.A P.na P.ca, .slice P.S P.ns P.cs] 28)).2 _ _ cj
  have cr' := (keeps_alloc w (.cells #[.slice P.W P.nw P.cw, .slice P.A P.na P.ca, .slice P.S P.ns P.cs] 28)).2 _ _ cr
  have hi1 : (i : Int) < (P.ns : Int) := by omega
  have hj1 : (j : Int) < (P.na : Int) := by omega
  have HL := Lib.hid hl
  have HN := Lib.hid hnn
  have HF := Lib.hid hlf
  rcases hcase with ⟨he, rfl⟩ | ⟨hlt, q, hq, hqok, hd⟩
  · rw [he] at cj'
    rw [eS, eA] at *
    clear he hj hjn cj cr cS cR cA hasc hang hP h a0 a1 hl hnn hlf hi eR
    generalize P.sp i j = s at *
    generalize P.rc i = rci at *
    generalize P.ns = ns at *
    generalize P.na = na at *
    generalize P.nw = nw at *
    generalize P.cw = cw at *
    generalize P.ca = ca at *
    generalize P.cs = cs at *
    generalize P.W = W at *
    go_enter Try.func88, Try.ntmps88
    go_wp2_with fail
    refine (HL.out _ (keeps_alloc _ _)).mono ?_
    rintro e w1 ⟨k, hk, rfl, m, rfl⟩
    have hkj : k = (j : Int) := by
      rcases hk with ⟨k', rfl, hk⟩ | ⟨_, hk⟩
      · rw [HF.out _ hk]
      · exact absurd hk HN.out
    subst hkj
    clear hk
    go_wp2
    go_ret
    exact ⟨rfl, alloc_below _ _ _⟩
  · obtain ⟨hjn1, y0, z1, haz, q', hq', ql, _⟩ := angle_share hang h1 hj hlt
    rw [hq] at hq'
    obtain rfl := Option.some.inj hq'
    have cz := cA (j + 1) hjn1
    have ct := cR (j + 1) hjn1
    have cz' := (keeps_alloc w (.cells #[.slice P.W P.nw P.cw, .slice P.A P.na P.ca, .slice P.S P.ns P.cs] 28)).2 _ _ cz
    have ct' := (keeps_alloc w (.cells #[.slice P.W P.nw P.cw, .slice P.A P.na P.ca, .slice P.S P.ns P.cs] 28)).2 _ _ ct
    have hj2 : (j : Int) + 1 < (P.na : Int) := by omega
    have hy1 : P.av j ≤ 180 := by omega
    have hdm := fun w => i_damped _ _ _ _ w hd
    have hqr := fun w => run_float_arith (P := Try.prog) w .quo 37 .f32 _ _ _ hq
    rw [eS, eA] at *
    clear hj hjn cj cr cS cR cA hasc hang hP h a0 a1 hl hnn hlf hi eR cz ct hq hq' hd hqok
    generalize P.sp i j = s at *
    generalize P.sp i (j + 1) = t at *
    generalize P.av j = y at *
    generalize P.av (j + 1) = z at *
    generalize P.rc i = rci at *
    generalize P.ns = ns at *
    generalize P.na = na at *
    generalize P.nw = nw at *
    generalize P.cw = cw at *
    generalize P.ca = ca at *
    generalize P.cs = cs at *
    generalize P.W = W at *
    have hne : (y == a) = false := by simp; omega
    have wi : IntKind.i64.wrap ((j : Int) + 1) = (j : Int) + 1 := IntWalk.i64_in _ (by omega)
    have i3 : (0 : Int) ≤ (j : Int) + 1 := by omega
    have i1 : (0 : Int) ≤ (j : Int) := by omega
    have i5 : ((j : Int) + 1).toNat = j + 1 := by omega
    go_enter Try.func88, Try.ntmps88
    go_wp2_with fail
    refine (HL.out _ (keeps_alloc _ _)).mono ?_
    rintro e w1 ⟨k, hk, rfl, m, rfl⟩
    have hkj : k = (j : Int) := by
      rcases hk with ⟨k', rfl, hk⟩ | ⟨_, hk⟩
      · rw [HF.out _ hk]
      · exact absurd hk HN.out
    subst hkj
    clear hk
    go_wp2
    go_quiet ((go_at_call 89; exact quiet_plus (hdm _)))
    go_wp2
    go_ret
    exact ⟨rfl, below_drewN (alloc_below _ _ _) _⟩
end Go.Proofs.Ytonoknbangnleaa

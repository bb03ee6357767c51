/- Sails and moments drawn: DrawBestSail, DrawRunSails, over a contract of l11Sails. -/
import Derived.Test.YtlliiecdadiagaaLpV
import Derived.Test.YtlliiecdadiagaaLpW
import Derived.OwnWalk
namespace Go.Proofs.Ytlliiecdadiagaa
open Go.RowKit
set_option linter.unusedVariables false
set_option linter.unusedSimpArgs false

theorem code_stepS {w w0 : World} {A : Option Addr} {len : Nat} (h : Code w w.heap.size A len) (b : Below w.heap.size w w0) {B : Nat} (hB : w.heap.size ≤ B) : Code w0 B A len :=
  ⟨h.1, fun hn => by
    obtain ⟨g, off, e, hg, hc⟩ := h.2 hn
    refine ⟨g, off, e, by omega, fun j hj => ?_⟩
    obtain ⟨c, c0, c1, hcell⟩ := hc j hj
    exact ⟨c, c0, c1, (b.cell (p := ⟨g, off + j, none⟩) hg).trans hcell⟩⟩
theorem res_tmp_cell {P : Program} {fn : Func} {p u : Tmp} {ty : TypeId} (h : fn.results = #[.tmp u, .cell p ty]) (tmps : Array Value) (w : World) (g : Nat) (t : TypeId) (cs : Array Value) (fr : Nat × Nat) (d : TypeDesc) (V1 : Value)
    (hp : tmps.getD p undef = .pointer (some ⟨g, 0, none⟩)) (hg : w.heap[g]? = some (.cells cs t fr))
    (hu : P.underlying ty = some d) (hd : (match d with | .struct _ | .array _ _ => true | _ => false) = true) (hi : (P.info? ty).map (·.size) = some cs.size) (h1 : tmps.getD u undef = V1) :
    (results fn tmps).run P w = .ok (.tuple #[V1, .agg cs]) w := by
  have hp' : tmps[p]?.getD undef = .pointer (some ⟨g, 0, none⟩) := by simpa using hp
  subst h1
  simp [results, h, hp', asAddr, run_loadVar_row w g t ty cs fr d hg hu hd hi]
/-- Sails and a moment, drawn. -/
def BsE (w : World) (e : Ending) (w' : World) : Prop := ∃ (v : Value) (n : Nat) (m : Mm), n ≤ 20 ∧ MmWf m ∧ e = .returned (.tuple #[v, .agg #[.float .f32 m.1, .int .i64 m.2]]) ∧ OwnSa w' w.heap.size v n ∧ Below w.heap.size w w'
set_option maxRecDepth 100000 in
set_option maxHeartbeats 4000000 in
theorem d_best (hS : ∀ (w : World) (B g len cap : Nat) (A : Option Addr), Cur w B g A len cap → Calls Try.prog 53 #[.pointer (some ⟨g, 0, none⟩)] w fun e w' => ∃ (v : Value) (n : Nat), n ≤ 20 ∧ e = .returned v ∧ OwnSa w' w.heap.size v n ∧ Cur w' B g A len cap ∧ w.grownBy w' (some g))
    (w : World) (len cap : Nat) (A : Option Addr) (hcode : Code w w.heap.size A len) :
    Calls Try.prog 26 #[.slice A len cap] w (BsE w) := by
  have b0 : Below w.heap.size w (w.alloc (.cells #[.float .f32 0, .int .i64 0] 42)) := (Below.refl _ w).alloc (Nat.le_refl _) _
  have s1 : (w.alloc (.cells #[.float .f32 0, .int .i64 0] 42)).heap.size = w.heap.size + 1 := by simp
  have hc1 := code_stepS hcode b0 (Nat.le_succ _)
  have hr0 := heap_alloc_new w (.cells #[.float .f32 0, .int .i64 0] 42)
  clear hcode
  go_enter Try.func26, Try.ntmps26
  go_wp2_with fail
  refine (d_new _ (w.heap.size + 1) len cap A (by rw [s1]; exact Nat.le_refl _) hc1).mono ?_
  rintro e w1 ⟨g, rfl, cu1, b1⟩
  have R1 := Lib.hid (And.intro (b0.trans (b1.mono (Nat.le_succ _))) (And.intro cu1 ((b1.block w.heap.size (by omega)).trans hr0)))
  clear hc1 b0 b1 hr0 s1 cu1
  go_wp2_with fail
  refine (hS _ _ g len cap A R1.out.2.1).mono ?_
  rintro e w2 ⟨v, n, hn, rfl, o2, cu2, gr2⟩
  have hg1 := R1.out.2.1.1
  have R2 := Lib.hid (And.intro (R1.out.1.grown gr2 R1.out.1.size (fun j e => by cases e; omega)) (And.intro cu2 (And.intro (box_far R1.out.2.2 gr2 (fun e => by cases e; omega)) (o2.low R1.out.1.size))))
  clear o2 cu2 gr2 R1
  obtain ⟨Av, cv, rfl, _⟩ := R2.out.2.2.2.value
  go_wp2_with fail
  refine (d_mom _ _ g len cap A R2.out.2.1).mono ?_
  rintro e w3 ⟨⟨p, q⟩, hm, rfl, cu3, gr3⟩
  have R3 := Lib.hid (And.intro (R2.out.1.grown gr3 R2.out.1.size (fun j e => by cases e; omega)) (And.intro (box_far R2.out.2.2.1 gr3 (fun e => by cases e; omega)) (R2.out.2.2.2.kept gr3 (fun j e k => by cases e; have := (R2.out.2.2.2.ne R2.out.2.1.2.2.choose_spec.choose_spec.2.2.2.2 (by decide)); exact this k))))
  clear cu3 gr3 R2
  dsimp only
  have s0 := store_at (P := Try.prog) R3.out.2.1 (k := 0) (n := 2) rfl (by omega) (.float .f32 p) rfl
  have h1 := heap_set_self (k := 0) R3.out.2.1 (.float .f32 p)
  obtain ⟨_, x1, f1⟩ := cell_at h1 (k := 1) (n := 2) rfl (by omega)
  have h2 := heap_set_self (k := 1) h1 (.int .i64 q)
  have gs := grown_trans (grown_set w3 w.heap.size 0 (.float .f32 p)) (grown_set _ w.heap.size 1 (.int .i64 q))
  have hne := R3.out.2.2.ne R3.out.2.1 (by decide)
  have HF := Lib.hid (And.intro h2 (And.intro (R3.out.2.2.kept gs (fun j e k => by cases e; exact hne k)) (R3.out.1.grown gs R3.out.1.size (fun j e => by cases e; exact Nat.le_refl _))))
  clear h1 h2 gs hne R3
  go_wp2_with fail
  exact bodyPost_ret (v := .tuple #[.slice Av n cv, .agg #[.float .f32 p, .int .i64 q]]) (res_tmp_cell (p := 3) (u := 2) (ty := 42) (by rfl) _ _ w.heap.size _ #[.float .f32 p, .int .i64 q] (0, 0) _ _ (by rfl) HF.out.1 Try.underlying42 rfl Try.info11Mz (by rfl)) rfl ⟨_, n, (p, q), hn, hm, rfl, HF.out.2.1, HF.out.2.2⟩
/-- Sails, a place, moments, drawn. -/
def RuE (w : World) (e : Ending) (w' : World) : Prop := ∃ (v : Value) (n : Nat) (a : Int) (vm : Value) (nm : Nat), n ≤ 20 ∧ nm ≤ 61 ∧ (-9223372036854775808 ≤ a ∧ a ≤ 9223372036854775807) ∧ e = .returned (.tuple #[v, .int .i64 a, vm]) ∧ OwnSa w' w.heap.size v n ∧ OwnMo w' w.heap.size vm nm ∧ Below w.heap.size w w'
set_option maxRecDepth 100000 in
set_option maxHeartbeats 4000000 in
theorem d_runS (hS : ∀ (w : World) (B g len cap : Nat) (A : Option Addr), Cur w B g A len cap → Calls Try.prog 53 #[.pointer (some ⟨g, 0, none⟩)] w fun e w' => ∃ (v : Value) (n : Nat), n ≤ 20 ∧ e = .returned v ∧ OwnSa w' w.heap.size v n ∧ Cur w' B g A len cap ∧ w.grownBy w' (some g))
    (w : World) (len cap : Nat) (A : Option Addr) (hcode : Code w w.heap.size A len) :
    Calls Try.prog 21 #[.slice A len cap] w (RuE w) := by
  go_enter Try.func21, Try.ntmps21
  go_wp2_with fail
  refine (d_new _ w.heap.size len cap A (Nat.le_refl _) hcode).mono ?_
  rintro e w1 ⟨g, rfl, cu1, b1⟩
  have R1 := Lib.hid (And.intro b1 cu1)
  clear b1 cu1 hcode
  go_wp2_with fail
  refine (hS _ _ g len cap A R1.out.2).mono ?_
  rintro e w2 ⟨v, n, hn, rfl, o2, cu2, gr2⟩
  have hg1 := R1.out.2.1
  have hne : ∀ j, v.ownBlock = some j → j ≠ g := fun j h => by have := (o2.lt h).1; have := R1.out.2.lt; omega
  have R2 := Lib.hid (And.intro (R1.out.1.grown gr2 R1.out.1.size (fun j e => by cases e; omega)) (And.intro cu2 (o2.low R1.out.1.size)))
  clear o2 cu2 gr2 R1
  obtain ⟨Av, cv, rfl, _⟩ := R2.out.2.2.value
  have HNE := Lib.hid hne
  clear hne
  go_wp2_with fail
  refine (d_spot11 n (by omega) _ _ g len cap A R2.out.2.1).mono ?_
  rintro e w3 ⟨a, a0, a1, rfl, cu3, gr3⟩
  have R3 := Lib.hid (And.intro (R2.out.1.grown gr3 R2.out.1.size (fun j e => by cases e; omega)) (And.intro cu3 (R2.out.2.2.kept gr3 (fun j e k => by cases e; exact HNE.out _ k rfl))))
  clear cu3 gr3 R2
  go_wp2_with fail
  refine (d_moms _ _ g len cap A R3.out.2.1).mono ?_
  rintro e w4 ⟨vm, nm, hm, rfl, o4, cu4, gr4⟩
  have R4 := Lib.hid (And.intro (R3.out.2.2.kept gr4 (fun j e k => by cases e; exact HNE.out _ k rfl)) (And.intro (o4.low R3.out.1.size) (R3.out.1.grown gr4 R3.out.1.size (fun j e => by cases e; omega))))
  clear o4 cu4 gr4 R3
  obtain ⟨At, ct, rfl, _⟩ := R4.out.2.1.value
  go_wp2_with fail
  exact bodyPost_ret (results_tmp3 rfl _ _ _) rfl ⟨_, n, a, _, nm, hn, hm, ⟨a0, a1⟩, rfl, R4.out⟩
end Go.Proofs.Ytlliiecdadiagaa

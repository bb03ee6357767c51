/- A field, a node and a time drawn: DrawWindAt. -/
import Derived.Test.YtibkhmdnfloemaaMaD
namespace Go.Proofs.Ytibkhmdnfloemaa
open Go.RowKit Ieee
set_option linter.unusedVariables false
set_option linter.unusedSimpArgs false

theorem code_step12 {w w0 : World} {A : Option Addr} {len : Nat} (h : Code w w.heap.size A len) (b : Below w.heap.size w w0) {B : Nat} (hB : w.heap.size ≤ B) : Code w0 B A len :=
  ⟨h.1, fun hn => by
    obtain ⟨g, off, e, hg, hc⟩ := h.2 hn
    refine ⟨g, off, e, by omega, fun j hj => ?_⟩
    obtain ⟨c, c0, c1, hcell⟩ := hc j hj
    exact ⟨c, c0, c1, (b.cell (p := ⟨g, off + j, none⟩) hg).trans hcell⟩⟩
theorem res_cell_tmp2 {P : Program} {fn : Func} {p u u' : Tmp} {ty : TypeId} (h : fn.results = #[.cell p ty, .tmp u, .tmp u']) (tmps : Array Value) (w : World) (g : Nat) (t : TypeId) (cs : Array Value) (fr : Nat × Nat) (d : TypeDesc) (V1 V2 : Value)
    (hp : tmps.getD p undef = .pointer (some ⟨g, 0, none⟩)) (hg : w.heap[g]? = some (.cells cs t fr))
    (hu : P.underlying ty = some d) (hd : (match d with | .struct _ | .array _ _ => true | _ => false) = true) (hi : (P.info? ty).map (·.size) = some cs.size) (h1 : tmps.getD u undef = V1) (h2 : tmps.getD u' undef = V2) :
    (results fn tmps).run P w = .ok (.tuple #[.agg cs, V1, V2]) w := by
  have hp' : tmps[p]?.getD undef = .pointer (some ⟨g, 0, none⟩) := by simpa using hp
  subst h1 h2
  simp [results, h, hp', asAddr, run_loadVar_row w g t ty cs fr d hg hu hd hi]
/-- A field, a node and a time, drawn. -/
def PwE (w : World) (e : Ending) (w' : World) : Prop := ∃ (F : Fd) (n t : Int), e = .returned (.tuple #[.agg #[.int .i64 F.wd, .int .i64 F.hi, .int .i64 F.me, .slice F.A F.n F.cap], .int .i64 n, .int .i64 t]) ∧ In64 n ∧ In64 t ∧ OwnFd w' w.heap.size F ∧ Below w.heap.size w w'
/-- What stands while they are drawn. -/
def PwV (w : World) (g : Nat) (A : Option Addr) (len cap q b : Nat) (F : Fd) (wx : World) : Prop :=
  Below w.heap.size w wx ∧ Cur wx (w.heap.size + 1) g A len cap ∧ wx.heap[w.heap.size]? = some (.cells #[.int .i64 0, .int .i64 0, .int .i64 0, .slice none 0 0] 26 (0, 0)) ∧ wx.heap[q]? = some (.cells #[.int .i64 F.wd, .int .i64 F.hi, .int .i64 F.me, .slice F.A F.n F.cap] 26 (0, 0)) ∧ OwnFd wx b F ∧ (g < b ∧ w.heap.size < b ∧ b ≤ q)
theorem PwV.draw {w w1 w2 : World} {g len cap q b : Nat} {A : Option Addr} {F : Fd} (h : PwV w g A len cap q b F w1) (c : Cur w2 (w.heap.size + 1) g A len cap) (k : w1.grownBy w2 (some g)) : PwV w g A len cap q b F w2 := by
  obtain ⟨h1, h2, h3, h4, h5, h6⟩ := h
  have hB := h2.1
  exact ⟨h1.grown k h1.size (fun j e => by cases e; omega), c, box_far h3 k (fun e => by cases e; omega), box_far h4 k (fun e => by cases e; omega), h5.kept k (fun j e => by cases e; exact h6.1), h6⟩
theorem PwV.drew {w w1 : World} {g len cap q b : Nat} {A : Option Addr} {F : Fd} (h : PwV w g A len cap q b F w1) : PwV w g A len cap q b F w1.drew :=
  h.draw (h.2.1.grown_far (grown_drewN w1 1 none) (by simp) (fun _ e => by cases e)) ⟨rfl, rfl, rfl, Nat.le_refl _, fun _ _ _ => rfl⟩
theorem PwV.fin {w W : World} {g len cap q b : Nat} {A : Option Addr} {F : Fd} (h : PwV w g A len cap q b F W) :
    (∃ v, W.cell? ⟨w.heap.size, 0, none⟩ = some v ∧ W.frozen? ⟨w.heap.size, 0, none⟩ = false) ∧ (∃ v, (W.setCell ⟨w.heap.size, 0, none⟩ (.int .i64 F.wd)).cell? ⟨w.heap.size, 1, none⟩ = some v ∧ (W.setCell ⟨w.heap.size, 0, none⟩ (.int .i64 F.wd)).frozen? ⟨w.heap.size, 1, none⟩ = false) ∧ (∃ v, ((W.setCell ⟨w.heap.size, 0, none⟩ (.int .i64 F.wd)).setCell ⟨w.heap.size, 1, none⟩ (.int .i64 F.hi)).cell? ⟨w.heap.size, 2, none⟩ = some v ∧ ((W.setCell ⟨w.heap.size, 0, none⟩ (.int .i64 F.wd)).setCell ⟨w.heap.size, 1, none⟩ (.int .i64 F.hi)).frozen? ⟨w.heap.size, 2, none⟩ = false) ∧ (∃ v, (((W.setCell ⟨w.heap.size, 0, none⟩ (.int .i64 F.wd)).setCell ⟨w.heap.size, 1, none⟩ (.int .i64 F.hi)).setCell ⟨w.heap.size, 2, none⟩ (.int .i64 F.me)).cell? ⟨w.heap.size, 3, none⟩ = some v ∧ (((W.setCell ⟨w.heap.size, 0, none⟩ (.int .i64 F.wd)).setCell ⟨w.heap.size, 1, none⟩ (.int .i64 F.hi)).setCell ⟨w.heap.size, 2, none⟩ (.int .i64 F.me)).frozen? ⟨w.heap.size, 3, none⟩ = false) ∧
    ((((W.setCell ⟨w.heap.size, 0, none⟩ (.int .i64 F.wd)).setCell ⟨w.heap.size, 1, none⟩ (.int .i64 F.hi)).setCell ⟨w.heap.size, 2, none⟩ (.int .i64 F.me)).setCell ⟨w.heap.size, 3, none⟩ (.slice F.A F.n F.cap)).heap[w.heap.size]? = some (.cells #[.int .i64 F.wd, .int .i64 F.hi, .int .i64 F.me, .slice F.A F.n F.cap] 26 (0, 0)) ∧ OwnFd ((((W.setCell ⟨w.heap.size, 0, none⟩ (.int .i64 F.wd)).setCell ⟨w.heap.size, 1, none⟩ (.int .i64 F.hi)).setCell ⟨w.heap.size, 2, none⟩ (.int .i64 F.me)).setCell ⟨w.heap.size, 3, none⟩ (.slice F.A F.n F.cap)) w.heap.size F ∧ Below w.heap.size w ((((W.setCell ⟨w.heap.size, 0, none⟩ (.int .i64 F.wd)).setCell ⟨w.heap.size, 1, none⟩ (.int .i64 F.hi)).setCell ⟨w.heap.size, 2, none⟩ (.int .i64 F.me)).setCell ⟨w.heap.size, 3, none⟩ (.slice F.A F.n F.cap)) := by
  obtain ⟨h1, h2, h3, h4, h5, h6⟩ := h
  have a1 := heap_set_self (k := 0) h3 (.int .i64 F.wd)
  have a2 := heap_set_self (k := 1) a1 (.int .i64 F.hi)
  have a3 := heap_set_self (k := 2) a2 (.int .i64 F.me)
  have a4 := heap_set_self (k := 3) a3 (.slice F.A F.n F.cap)
  have gs := grown_trans (grown_trans (grown_trans (grown_set W w.heap.size 0 (.int .i64 F.wd)) (grown_set _ w.heap.size 1 (.int .i64 F.hi))) (grown_set _ w.heap.size 2 (.int .i64 F.me))) (grown_set _ w.heap.size 3 (.slice F.A F.n F.cap))
  exact ⟨cell_at h3 (n := 4) rfl (by omega), cell_at a1 (n := 4) rfl (by omega), cell_at a2 (n := 4) rfl (by omega), cell_at a3 (n := 4) rfl (by omega), a4, (h5.kept gs (fun j e => by cases e; omega)).low (by omega), h1.grown gs h1.size (fun j e => by cases e; exact Nat.le_refl _)⟩
theorem PwV.kcells {w W : World} {g len cap q b : Nat} {A : Option Addr} {F : Fd} (h : PwV w g A len cap q b F W) : (((((W.setCell ⟨w.heap.size, 0, none⟩ (.int .i64 F.wd)).setCell ⟨w.heap.size, 1, none⟩ (.int .i64 F.hi)).setCell ⟨w.heap.size, 2, none⟩ (.int .i64 F.me)).setCell ⟨w.heap.size, 3, none⟩ (.slice F.A F.n F.cap)).cell? ⟨q, 0, none⟩ = some (.int .i64 F.wd) ∧ ((((W.setCell ⟨w.heap.size, 0, none⟩ (.int .i64 F.wd)).setCell ⟨w.heap.size, 1, none⟩ (.int .i64 F.hi)).setCell ⟨w.heap.size, 2, none⟩ (.int .i64 F.me)).setCell ⟨w.heap.size, 3, none⟩ (.slice F.A F.n F.cap)).cell? ⟨q, 1, none⟩ = some (.int .i64 F.hi) ∧ ((((W.setCell ⟨w.heap.size, 0, none⟩ (.int .i64 F.wd)).setCell ⟨w.heap.size, 1, none⟩ (.int .i64 F.hi)).setCell ⟨w.heap.size, 2, none⟩ (.int .i64 F.me)).setCell ⟨w.heap.size, 3, none⟩ (.slice F.A F.n F.cap)).cell? ⟨q, 2, none⟩ = some (.int .i64 F.me) ∧ ((((W.setCell ⟨w.heap.size, 0, none⟩ (.int .i64 F.wd)).setCell ⟨w.heap.size, 1, none⟩ (.int .i64 F.hi)).setCell ⟨w.heap.size, 2, none⟩ (.int .i64 F.me)).setCell ⟨w.heap.size, 3, none⟩ (.slice F.A F.n F.cap)).cell? ⟨q, 3, none⟩ = some (.slice F.A F.n F.cap)) := by
  obtain ⟨h1, h2, h3, h4, h5, h6⟩ := h
  have gs := grown_trans (grown_trans (grown_trans (grown_set W w.heap.size 0 (.int .i64 F.wd)) (grown_set _ w.heap.size 1 (.int .i64 F.hi))) (grown_set _ w.heap.size 2 (.int .i64 F.me))) (grown_set _ w.heap.size 3 (.slice F.A F.n F.cap))
  exact cells4f (box_far h4 gs (fun e => by cases e; omega))
set_option maxRecDepth 100000 in
set_option maxHeartbeats 4000000 in
theorem d_windat (w : World) (len cap : Nat) (A : Option Addr) (hcode : Code w w.heap.size A len) :
    Calls Try.prog 5 #[.slice A len cap] w (PwE w) := by
  have b0 : Below w.heap.size w (w.alloc (.cells #[.int .i64 0, .int .i64 0, .int .i64 0, .slice none 0 0] 26)) := (Below.refl _ w).alloc (Nat.le_refl _) _
  have s1 : (w.alloc (.cells #[.int .i64 0, .int .i64 0, .int .i64 0, .slice none 0 0] 26)).heap.size = w.heap.size + 1 := by simp
  have hc1 := code_step12 hcode b0 (Nat.le_succ _)
  have hr0 := heap_alloc_new w (.cells #[.int .i64 0, .int .i64 0, .int .i64 0, .slice none 0 0] 26)
  clear hcode
  go_enter Try.func5, Try.ntmps5
  go_wp2_with fail
  refine (d_new _ (w.heap.size + 1) len cap A (by rw [s1]; exact Nat.le_refl _) hc1).mono ?_
  rintro e w1 ⟨g, rfl, cu1, b1⟩
  have R1 := Lib.hid (And.intro (b0.trans (b1.mono (Nat.le_succ _))) (And.intro cu1 ((b1.block w.heap.size (by omega)).trans hr0)))
  clear hc1 b0 b1 hr0 s1 cu1
  go_wp2_with fail
  refine (d_field _ _ g len cap A R1.out.2.1).mono ?_
  rintro e w2 ⟨F, rfl, o2, cu2, gr2⟩
  have hg1 := R1.out.2.1.1
  have hg2 := R1.out.2.1.lt
  have H2 := Lib.hid (show PwV w g A len cap w2.heap.size w1.heap.size F (w2.alloc (.cells #[.int .i64 F.wd, .int .i64 F.hi, .int .i64 F.me, .slice F.A F.n F.cap] 26)) from by
    have a1 := R1.out.1.grown gr2 R1.out.1.size (fun j e => by cases e; omega)
    have a2 := box_far R1.out.2.2 gr2 (fun e => by cases e; omega)
    have a3 := block_lt R1.out.2.2
    exact ⟨a1.alloc a1.size _, cu2.alloc _, (Below.heap_alloc _ _ _ (block_lt a2)).trans a2, heap_alloc_new w2 _, o2.kept (World.grownBy_alloc w2 _ none) (fun _ e => by cases e), hg2, a3, gr2.size⟩)
  clear o2 cu2 gr2 R1
  go_upto_region 3 with fail
  generalize hW : w2.alloc _ = W at *
  generalize w2.heap.size = q at *
  clear hW
  obtain ⟨k0, k1, k2, k3⟩ := cells4f H2.out.2.2.2.1
  go_wp2_with fail
  refine (d_node12 _ _ g len cap A F.wd F.hi F.me F.A F.n F.cap (by have := H2.out.2.2.2.2.1.2.2.1; omega) H2.out.2.1).mono ?_
  rintro e w3 ⟨n, hn, rfl, cu, gr⟩
  have H3 := Lib.hid (H2.out.draw cu gr)
  clear cu gr H2 k0 k1 k2 k3
  go_upto_region 4 with fail
  have HD := Lib.hid H3.out.drew
  obtain ⟨k0, k1, k2, k3⟩ := cells4f HD.out.2.2.2.1
  have K1 := Lib.hid (And.intro k0 (And.intro k1 (And.intro k2 k3)))
  have CT := Lib.hid (d_time12 w3.drew _ g len cap A HD.out.2.1)
  clear k0 k1 k2 k3 H3
  go_wp2
  go_region_held3 (fun wx => wx.cell? ⟨q, 0, none⟩ = some (.int .i64 F.wd) ∧ wx.cell? ⟨q, 1, none⟩ = some (.int .i64 F.hi) ∧ wx.cell? ⟨q, 2, none⟩ = some (.int .i64 F.me) ∧ wx.cell? ⟨q, 3, none⟩ = some (.slice F.A F.n F.cap)) (first | with_reducible exact K1.out | with_reducible exact K5.out | with_reducible exact K6.out) ((first
    | (go_at_call 14; (with_reducible refine CT.out.mono ?_); rintro e w5 ⟨t, ht, rfl, cu, gr⟩; have H5 := Lib.hid (HD.out.draw cu gr); obtain ⟨k0, k1, k2, k3⟩ := cells4f H5.out.2.2.2.1; have K5 := Lib.hid (And.intro k0 (And.intro k1 (And.intro k2 k3))); clear k0 k1 k2 k3 cu gr; obtain ⟨⟨_, p0, q0⟩, ⟨_, p1, q1⟩, ⟨_, p2, q2⟩, ⟨_, p3, q3⟩, hrest⟩ := H5.out.fin; have HF := Lib.hid hrest; clear hrest; have K6 := Lib.hid (show (((((w5.setCell ⟨w.heap.size, 0, none⟩ (.int .i64 F.wd)).setCell ⟨w.heap.size, 1, none⟩ (.int .i64 F.hi)).setCell ⟨w.heap.size, 2, none⟩ (.int .i64 F.me)).setCell ⟨w.heap.size, 3, none⟩ (.slice F.A F.n F.cap)).cell? ⟨q, 0, none⟩ = some (.int .i64 F.wd) ∧ ((((w5.setCell ⟨w.heap.size, 0, none⟩ (.int .i64 F.wd)).setCell ⟨w.heap.size, 1, none⟩ (.int .i64 F.hi)).setCell ⟨w.heap.size, 2, none⟩ (.int .i64 F.me)).setCell ⟨w.heap.size, 3, none⟩ (.slice F.A F.n F.cap)).cell? ⟨q, 1, none⟩ = some (.int .i64 F.hi) ∧ ((((w5.setCell ⟨w.heap.size, 0, none⟩ (.int .i64 F.wd)).setCell ⟨w.heap.size, 1, none⟩ (.int .i64 F.hi)).setCell ⟨w.heap.size, 2, none⟩ (.int .i64 F.me)).setCell ⟨w.heap.size, 3, none⟩ (.slice F.A F.n F.cap)).cell? ⟨q, 2, none⟩ = some (.int .i64 F.me) ∧ ((((w5.setCell ⟨w.heap.size, 0, none⟩ (.int .i64 F.wd)).setCell ⟨w.heap.size, 1, none⟩ (.int .i64 F.hi)).setCell ⟨w.heap.size, 2, none⟩ (.int .i64 F.me)).setCell ⟨w.heap.size, 3, none⟩ (.slice F.A F.n F.cap)).cell? ⟨q, 3, none⟩ = some (.slice F.A F.n F.cap)) from H5.out.kcells))))
  all_goals (
    go_wp2_with fail
    exact bodyPost_ret (v := .tuple #[.agg #[.int .i64 F.wd, .int .i64 F.hi, .int .i64 F.me, .slice F.A F.n F.cap], .int .i64 n, .int .i64 t]) (res_cell_tmp2 (p := 2) (u := 3) (u' := 4) (ty := 26) (by rfl) _ _ w.heap.size _ #[.int .i64 F.wd, .int .i64 F.hi, .int .i64 F.me, .slice F.A F.n F.cap] (0, 0) _ _ _ (by rfl) HF.out.1 Try.underlying26 rfl Try.info12F (by rfl) (by rfl)) rfl ⟨F, n, t, rfl, hn, ht, HF.out.2⟩)
end Go.Proofs.Ytibkhmdnfloemaa

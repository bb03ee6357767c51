/- The drawing of places near others; DrawPassRay. -/
import Derived.Test.YthahakefmpajfaaLiH
import Derived.Test.YthahakefmpajfaaLiJ
import Derived.Test.YthahakefmpajfaaMdA
namespace Go.Proofs.Ythahakefmpajfaa
open Go.RowKit
set_option linter.unusedVariables false
set_option linter.unusedSimpArgs false

theorem cells2p9 {w : World} {g : Nat} {t : TypeId} {a b : Value} (h : w.heap[g]? = some (.cells #[a, b] t (0, 0))) : w.cell? ⟨g, 0, none⟩ = some a ∧ w.cell? ⟨g, 1, none⟩ = some b :=
  ⟨cell_of_row w _ 0 _ _ _ h, cell_of_row w _ 1 _ _ _ h⟩
theorem frz9 {w : World} {g k : Nat} {t : TypeId} {cs : Array Value} (h : w.heap[g]? = some (.cells cs t (0, 0))) : w.frozen? ⟨g, k, none⟩ = false := by simp [World.frozen?, h]
theorem Try.infoPl6 : (Try.prog.info? 25).map (·.size) = some 2 := by kernel_rfl
set_option maxRecDepth 100000 in
set_option maxHeartbeats 4000000 in
theorem d_near (p : Int × Int) (n : Int) (w : World) (B g len cap : Nat) (A : Option Addr) (hn : 0 ≤ n ∧ n ≤ 400) (hc : Cur w B g A len cap) :
    Calls Try.prog 79 #[.pointer (some ⟨g, 0, none⟩), .agg #[.int .i64 p.1, .int .i64 p.2], .int .i64 n] w fun e w' => ∃ q : Int × Int, e = .returned (.agg #[.int .i64 q.1, .int .i64 q.2]) ∧ Cur w' B g A len cap ∧ w.grownBy w' (some g) := by
  obtain ⟨p1, p2⟩ := p
  dsimp only
  have hgl := hc.lt
  have g0 := grown_trans (World.grownBy_alloc w (.cells #[.int .i64 p1, .int .i64 p2] 25) (some g)) (World.grownBy_alloc _ (.cells #[.int .i64 0, .int .i64 0] 25) (some g))
  have cu0 := (hc.alloc (.cells #[.int .i64 p1, .int .i64 p2] 25)).alloc (.cells #[.int .i64 0, .int .i64 0] 25)
  have bb := Bx2.new w #[.int .i64 p1, .int .i64 p2] 25 #[.int .i64 0, .int .i64 0] 25
  have hb := bb.1
  have hr := bb.2.1
  clear bb
  have v1 : IntKind.i64.wrap (2 * n) = 2 * n := IntWalk.i64_in _ (by omega)
  have v2 : IntKind.i64.wrap (2 * n + 1) = 2 * n + 1 := IntWalk.i64_in _ (by omega)
  go_enter Try.func79, Try.ntmps79
  go_upto_region 1 with fail
  generalize hw3 : (w.alloc (.cells #[.int .i64 p1, .int .i64 p2] 25)).alloc (.cells #[.int .i64 0, .int .i64 0] 25) = w3 at *
  obtain ⟨k0, k1⟩ := cells2p9 hb
  have HB := Lib.hid hb
  have HR := Lib.hid hr
  have HG := Lib.hid g0
  have cd := cu0.grown_far (grown_drewN w3 1 none) (by simp) (fun k e => by cases e)
  clear hw3 cu0 hb hr g0
  go_region_with ((go_at_call 76; refine (d_below (2 * n + 1) _ B g len cap A cd (by omega)).mono ?_; rintro e w6 ⟨x, x0, x1, _, rfl, cu6, gr6⟩; have HB6 := Lib.hid (box_far (w1 := w3.drew) HB.out gr6 (fun e => by cases e; omega)); have HR6 := Lib.hid (box_far (w1 := w3.drew) HR.out gr6 (fun e => by cases e; omega)); have HG6 := Lib.hid (grown_trans (gr_drew9 HG.out) gr6); obtain ⟨k0', k1'⟩ := cells2p9 HB6.out; clear gr6 x1))
  all_goals (
    clear k0 k1 cd HB HR HG
    go_upto_region 2 with fail
    have HB7 := HB6
    have HR7 := HR6
    have HG7 := HG6
    have cd2 := cu6.grown_far (grown_drewN w6 1 none) (by simp) (fun k e => by cases e)
    clear HB6 HR6 HG6 cu6
    go_region_with ((go_at_call 76; refine (d_below (2 * n + 1) _ B g len cap A cd2 (by omega)).mono ?_; rintro e w8 ⟨y, y0, y1, _, rfl, cu8, gr8⟩; have HB8 := Lib.hid (box_far (w1 := w6.drew) HB7.out gr8 (fun e => by cases e; omega)); have HR8 := Lib.hid (box_far (w1 := w6.drew) HR7.out gr8 (fun e => by cases e; omega)); have HG8 := Lib.hid (grown_trans (gr_drew9 HG7.out) gr8); have HC8 := Lib.hid cu8; obtain ⟨m0, m1⟩ := cells2p9 HB8.out; obtain ⟨n0, n1⟩ := cells2p9 HR8.out; have n2 := frz9 (k := 0) HR8.out; have n3 := fun a => (cells2p9 (heap_set_self (k := 0) HR8.out a)).2; have n4 := fun a => frz9 (k := 1) (heap_set_self (k := 0) HR8.out a); clear gr8 y1 cu8)))
  all_goals (
    go_wp2_with fail
    exact bodyPost_ret (v := .agg #[_, _]) (results_cell_row (p := 6) (ty := 25) (by rfl) _ _ (w.heap.size + 1) _ _ (0, 0) _ (by rfl) (heap_set_self (k := 1) (heap_set_self (k := 0) HR8.out _) _) Try.underlying25 rfl Try.infoPl6) rfl
      ⟨(_, _), rfl, HC8.out.grown_far (grown_trans (grown_set _ (w.heap.size + 1) 0 _) (grown_set _ (w.heap.size + 1) 1 _)) (fun e => by cases e; omega) (fun j e => by cases e; have := HC8.out.1; omega), gr_new HG8.out (grown_trans (grown_set _ (w.heap.size + 1) 0 _) (grown_set _ (w.heap.size + 1) 1 _)) (fun j e => .inr (by cases e; omega))⟩)
end Go.Proofs.Ythahakefmpajfaa

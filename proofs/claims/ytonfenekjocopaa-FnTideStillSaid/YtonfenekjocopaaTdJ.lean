/- The drawing of times and places; the walk of the law FnHighNearest. -/
import Derived.Test.YtonfenekjocopaaTdI
import Derived.Test.YtonfenekjocopaaTdG
namespace Go.Proofs.Ytonfenekjocopaa
open Go.RowKit Ieee
set_option linter.unusedSimpArgs false
set_option linter.unusedVariables false
attribute [local go_sem] st_cplx

def I64 (n : Int) : Prop := -9223372036854775808 ≤ n ∧ n ≤ 9223372036854775807
theorem i64_wrap (n : Int) : I64 (IntKind.i64.wrap n) := wrap_bd n
set_option maxRecDepth 100000 in
set_option maxHeartbeats 4000000 in
theorem d_time (w : World) (C g len cap B : Nat) (A : Option Addr) (T : Tid) (hc : Cur w C g A len cap) (hT : TidIn B w T) (hB : g < B) :
    Calls Try.prog 52 #[.pointer (some ⟨g, 0, none⟩), .agg #[.slice T.S T.ns T.cs, .slice T.H T.nh T.ch]] w fun e w' => ∃ t : Int, I64 t ∧ e = .returned (.int .i64 t) ∧ Cur w' C g A len cap ∧ w.grownBy w' (some g) := by
  have hgl := hc.lt
  have hn9 := hT.1.2.2.2
  have g0 := World.grownBy_alloc w (.cells #[.slice T.S T.ns T.cs, .slice T.H T.nh T.ch] 41) (some g)
  have cu0 := hc.alloc (.cells #[.slice T.S T.ns T.cs, .slice T.H T.nh T.ch] 41)
  have hbx := heap_alloc_new w (.cells #[.slice T.S T.ns T.cs, .slice T.H T.nh T.ch] 41)
  have HT := Lib.hid (hT.same (HiSame.grown (World.grownBy_alloc w (.cells #[.slice T.S T.ns T.cs, .slice T.H T.nh T.ch] 41) none) (fun k e => by cases e)))
  clear hT
  go_enter Try.func52, Try.ntmps52
  by_cases h0 : T.nh = 0
  · rw [h0] at cu0 g0 hbx ⊢
    go_wp2_with fail
    refine (d_pickint _ C g len cap (w.heap.size + 1) 5 5 A 3 [-1, 0, 10000000, 10000001, 9223372036854775807] (cu0.alloc _) rfl (by omega) (by omega) (by omega) (by intro x hx; simp at hx; omega) (by have := heap_alloc_new (w.alloc (.cells #[.slice T.S T.ns T.cs, .slice T.H 0 T.ch] 41)) (.cells #[.int .i64 (-1), .int .i64 0, .int .i64 10000000, .int .i64 10000001, .int .i64 9223372036854775807] 3); simpa using this)).mono ?_
    rintro e w3 ⟨x, x0, x1, rfl, cu3, gr3⟩
    go_wp2_with fail
    go_ret
    exact ⟨x, ⟨x0, x1⟩, rfl, cu3, grown_trans g0 (grown_trans (World.grownBy_alloc _ _ _) gr3)⟩
  have h1 : ¬ (T.nh : Int) = 0 := by omega
  have h2 : ((T.nh : Int) == 0) = false := by simpa using h1
  obtain ⟨gH, eH, hBg, _⟩ := HT.out.2.2 (by omega)
  have HE := Lib.hid eH
  have HB := Lib.hid hbx
  clear hbx eH
  go_wp2_with fail
  generalize w.alloc (.cells #[.slice T.S T.ns T.cs, .slice T.H T.nh T.ch] 41) = w1 at *
  refine (d_once 15 _ C g len cap A cu0 (by omega)).mono ?_
  rintro e w2 ⟨t, rfl, cu2, gr2⟩
  have HG := Lib.hid (And.intro cu2 (grown_trans g0 gr2))
  have HT2 := Lib.hid (HT.out.same (HiSame.grown gr2 (fun k e => by cases e; exact hB)))
  have hb2 := box_far HB.out gr2 (fun e => by cases e; omega)
  clear cu0 g0 cu2 gr2 HT
  cases t
  · have k1 := cell_of_row w2 _ 1 _ _ _ hb2
    have HB2 := Lib.hid hb2
    have cd := Lib.hid (cur_drew HG.out.1 HG.out.2)
    clear hb2
    rw [HE.out] at k1
    go_upto_region 3 with fail
    go_cut [5] (fun s5 wx => ∃ z : Int, I64 z ∧ s5 = .int .i64 z ∧ Cur wx C g A len cap ∧ w.grownBy wx (some g))
    case first =>
      go_region_with ((go_at_call 46; refine (d_below T.nh _ C g len cap A cd.out.1 (by omega)).mono ?_; rintro e w3 ⟨i, i0, i1, i2, rfl, cu, gr⟩; obtain ⟨i, rfl⟩ : ∃ k : Nat, i = k := ⟨i.toNat, by omega⟩; have i3 : i < T.nh := (by have := i1 (by omega); omega); have i4 : (i : Int) < (T.nh : Int) := (by omega); have hbb := box_far (w1 := w2.drew) HB2.out gr (fun e => by cases e; omega); have k3 := cell_of_row w3 _ 1 _ _ _ hbb; have HT3 := Lib.hid (HT2.out.same (HiSame.grown (w' := w3) (grown_trans (grown_drew w2 (some g)) gr) (fun k e => by cases e; exact hB))); obtain ⟨gH', eH', _, hcc⟩ := HT3.out.2.2 (by omega); have ck := hcc i i3; have hI := HT3.out.1.2.1 i i3; rw [HE.out] at eH' k3; cases eH'; clear i1 i2 hcc))
      all_goals (go_wp2_with fail; go_meet; exact ⟨_, hI, rfl, cu, grown_trans HG.out.2 (grown_trans (grown_drew w2 (some g)) gr)⟩)
    case rest =>
    clear k1 cd HG HT2 HB2
    obtain ⟨z, hz, rfl, cu1, gr1⟩ := hcut
    go_wp2_with fail
    refine (d_below 4 _ C g len cap A cu1 (by omega)).mono ?_
    rintro e w4 ⟨v, v0, v1, v2, rfl, cu2, gr2⟩
    have gr3 := grown_trans gr1 gr2
    clear v1 v2 gr1 gr2 cu1
    by_cases e0 : v = 0
    · subst e0
      go_wp2_with fail
      refine (d_below 15 _ C g len cap A cu2 (by omega)).mono ?_
      rintro e w5 ⟨y, y0, y1, y2, rfl, cu5, gr5⟩
      have y3 := y1 (by omega)
      clear y1 y2
      go_wp2_with fail
      go_ret
      exact ⟨_, (by first | exact i64_wrap _ | exact wrap64_bd _), rfl, cu5, grown_trans gr3 gr5⟩
    by_cases e1 : v = 1
    · subst e1
      go_wp2_with fail
      go_ret
      exact ⟨_, (by first | exact i64_wrap _ | exact wrap64_bd _), rfl, cu2, gr3⟩
    · go_wp2_with fail
      refine (d_below 50001 _ C g len cap A cu2 (by omega)).mono ?_
      rintro e w5 ⟨y, y0, y1, y2, rfl, cu5, gr5⟩
      have y3 := y1 (by omega)
      clear y1 y2
      go_wp2_with fail
      go_ret
      exact ⟨_, (by first | exact i64_wrap _ | exact wrap64_bd _), rfl, cu5, grown_trans gr3 gr5⟩
  · go_wp2_with fail
    refine (d_pickint _ C g len cap w2.heap.size 5 5 A 3 [-1, 0, 10000000, 10000001, 9223372036854775807] (HG.out.1.alloc _) rfl (by omega) (by omega) (by have := HG.out.1.lt; omega) (by intro x hx; simp at hx; omega) (heap_alloc_new w2 _)).mono ?_
    rintro e w3 ⟨x, x0, x1, rfl, cu3, gr3⟩
    go_wp2_with fail
    go_ret
    exact ⟨x, ⟨x0, x1⟩, rfl, cu3, grown_trans HG.out.2 (grown_trans (World.grownBy_alloc _ _ _) gr3)⟩

end Go.Proofs.Ytonfenekjocopaa

/- The drawing of times and places; the walk of the law FnHighNearest. -/
import Derived.Test.YtbklmfchbojboaaTdI
import Derived.Test.YtbklmfchbojboaaTdG
namespace Go.Proofs.Ytbklmfchbojboaa
open Go.RowKit Ieee
set_option linter.unusedSimpArgs false
set_option linter.unusedVariables false
attribute [local go_sem] st_cplx

def I64 (n : Int) : Prop := -9223372036854775808 ≤ n ∧ n ≤ 9223372036854775807
theorem i64_wrap (n : Int) : I64 (IntKind.i64.wrap n) := wrap_bd n
set_option maxRecDepth 100000 in
set_option maxHeartbeats 4000000 in
theorem d_time (w : World) (C g len cap B : Nat) (A : Option Addr) (T : Tid) (hc : Cur w C g A len cap) (hT : TidIn B w T) (hB : g < B) :
    Calls Try.prog 32 #[.pointer (some ⟨g, 0, none⟩), .agg #[.slice T.S T.ns T.cs, .slice T.H T.nh T.ch]] w fun e w' => ∃ t : Int, I64 t ∧ e = .returned (.int .i64 t) ∧ Cur w' C g A len cap ∧ w.grownBy w' (some g) := by
  have hgl := hc.lt
  have hn9 := hT.1.2.2.2
  have g0 := World.grownBy_alloc w (.cells #[.slice T.S T.ns T.cs, .slice T.H T.nh T.ch] 37) (some g)
  have cu0 := hc.alloc (.cells #[.slice T.S T.ns T.cs, .slice T.H T.nh T.ch] 37)
  have hbx := heap_alloc_new w (.cells #[.slice T.S T.ns T.cs, .slice T.H T.nh T.ch] 37)
  have HT := Lib.hid (hT.same (HiSame.grown (World.grownBy_alloc w (.cells #[.slice T.S T.ns T.cs, .slice T.H T.nh T.ch] 37) none) (fun k e => by cases e)))
  clear hT
  go_enter Try.func32, Try.ntmps32
  by_cases h0 : T.nh = 0
  · rw [h0] at cu0 g0 hbx ⊢
    go_wp2_with fail
    refine (d_pickint _ C g len cap (w.heap.size + 1) 5 5 A 3 [-1, 0, 10000000, 10000001, 9223372036854775807] (cu0.alloc _) rfl (by omega) (by omega) (by omega) (by intro x hx; simp at hx; omega) (by have := heap_alloc_new (w.alloc (.cells #[.slice T.S T.ns T.cs, .slice T.H 0 T.ch] 37)) (.cells #[.int .i64 (-1), .int .i64 0, .int .i64 10000000, .int .i64 10000001, .int .i64 9223372036854775807] 3); simpa using this)).mono ?_
    rintro e w3 ⟨x, x0, x1, rfl, cu3, gr3⟩
    go_wp2_with fail
    go_ret
    exact ⟨x, ⟨x0, x1⟩, rfl, cu3, grown_trans g0 (grown_trans (World.grownBy_alloc _ _ _) gr3)⟩
  have h1 : ¬ (T.nh : Int) = 0 := by omega
  have h2 : ((T.nh : Int) == 0) = false := by simpa using h1
  obtain ⟨gH, eH, hBg, _⟩ := HT.out.2.2 (by omega)
  have HE := Lib.hid eH
  have HB := Lib.hid hbx
  clear hbx eH
  go_wp2_with fail
  generalize w.alloc (.cells #[.slice T.S T.ns T.cs, .slice T.H T.nh T.ch] 37) = w1 at *
  refine (d_once 15 _ C g len cap A cu0 (by omega)).mono ?_
  rintro e w2 ⟨t, rfl, cu2, gr2⟩
  have HG := Lib.hid (And.intro cu2 (grown_trans g0 gr2))
  have HT2 := Lib.hid (HT.out.same (HiSame.grown gr2 (fun k e => by cases e; exact hB)))
  have hb2 := box_far HB.out gr2 (fun e => by cases e; omega)
  clear cu0 g0 cu2 gr2 HT
  cases t
  · have k1 := cell_of_row w2 _ 1 _ _ _ hb2
    have HB2 := Lib.hid hb2
    have cd := Lib.hid (cur_drew HG.out.1 HG.out.2)
    clear hb2
    rw [HE.out] at k1
    go_upto_region 3 with fail
    go_cut [5] (fun s5 wx => ∃ z : Int, I64 z ∧ s5 = .int .i64 z ∧ Cur wx C g A len cap ∧ w.grownBy wx (some g))
    case first =>
      go_region_with ((go_at_call 23; refine (d_below T.nh _ C g len cap A cd.out.1 (by omega)).mono ?_; rintro e w3 ⟨i, i0, i1, i2, rfl, cu, gr⟩; obtain ⟨i, rfl⟩ : ∃ k : Nat, i = k := ⟨i.toNat, by omega⟩; have i3 : i < T.nh := (by have := i1 (by omega); omega); have i4 : (i : Int) < (T.nh : Int) := (by omega); have hbb := box_far (w1 := w2.drew) HB2.out gr (fun e => by cases e; omega); have k3 := cell_of_row w3 _ 1 _ _ _ hbb; have HT3 := Lib.hid (HT2.out.same (HiSame.grown (w' := w3) (grown_trans (grown_drew w2 (some g)) gr) (fun k e => by cases e; exact hB))); obtain ⟨gH', eH', _, hcc⟩ := HT3.out.2.2 (by omega); have ck := hcc i i3; have hI := HT3.out.1.2.1 i i3; rw [HE.out] at eH' k3; cases eH'; clear i1 i2 hcc))
      all_goals (go_wp2_with fail; go_meet; exact ⟨_, hI, rfl, cu, grown_trans HG.out.2 (grown_trans (grown_drew w2 (some g)) gr)⟩)
    case rest =>
    clear k1 cd HG HT2 HB2
    obtain ⟨z, hz, rfl, cu1, gr1⟩ := hcut
    go_wp2_with fail
    refine (d_below 4 _ C g len cap A cu1 (by omega)).mono ?_
    rintro e w4 ⟨v, v0, v1, v2, rfl, cu2, gr2⟩
    have gr3 := grown_trans gr1 gr2
    clear v1 v2 gr1 gr2 cu1
    by_cases e0 : v = 0
    · subst e0
      go_wp2_with fail
      refine (d_below 15 _ C g len cap A cu2 (by omega)).mono ?_
      rintro e w5 ⟨y, y0, y1, y2, rfl, cu5, gr5⟩
      have y3 := y1 (by omega)
      clear y1 y2
      go_wp2_with fail
      go_ret
      exact ⟨_, (by first | exact i64_wrap _ | exact wrap64_bd _), rfl, cu5, grown_trans gr3 gr5⟩
    by_cases e1 : v = 1
    · subst e1
      go_wp2_with fail
      go_ret
      exact ⟨_, (by first | exact i64_wrap _ | exact wrap64_bd _), rfl, cu2, gr3⟩
    · go_wp2_with fail
      refine (d_below 50001 _ C g len cap A cu2 (by omega)).mono ?_
      rintro e w5 ⟨y, y0, y1, y2, rfl, cu5, gr5⟩
      have y3 := y1 (by omega)
      clear y1 y2
      go_wp2_with fail
      go_ret
      exact ⟨_, (by first | exact i64_wrap _ | exact wrap64_bd _), rfl, cu5, grown_trans gr3 gr5⟩
  · go_wp2_with fail
    refine (d_pickint _ C g len cap w2.heap.size 5 5 A 3 [-1, 0, 10000000, 10000001, 9223372036854775807] (HG.out.1.alloc _) rfl (by omega) (by omega) (by have := HG.out.1.lt; omega) (by intro x hx; simp at hx; omega) (heap_alloc_new w2 _)).mono ?_
    rintro e w3 ⟨x, x0, x1, rfl, cu3, gr3⟩
    go_wp2_with fail
    go_ret
    exact ⟨x, ⟨x0, x1⟩, rfl, cu3, grown_trans HG.out.2 (grown_trans (World.grownBy_alloc _ _ _) gr3)⟩

set_option maxRecDepth 100000 in
set_option maxHeartbeats 1000000 in
theorem d_highat (w : World) (len cap : Nat) (A : Option Addr) (hcode : Code w w.heap.size A len) :
    Calls Try.prog 11 #[.slice A len cap] w fun e w' => ∃ (T : Tid) (t : Int), e = .returned (.tuple #[.agg #[.slice T.S T.ns T.cs, .slice T.H T.nh T.ch], .int .i64 t]) ∧ TidIn 0 w' T ∧ I64 t ∧ Below w.heap.size w w' := by
  have b0 : Below w.heap.size w (w.alloc (.cells #[.slice none 0 0, .slice none 0 0] 37)) := (Below.refl _ w).alloc (Nat.le_refl _) _
  have s1 : (w.alloc (.cells #[.slice none 0 0, .slice none 0 0] 37)).heap.size = w.heap.size + 1 := by simp
  have hc1 := hcode.step b0 (Nat.le_succ _)
  have hr0 := heap_alloc_new w (.cells #[.slice none 0 0, .slice none 0 0] 37)
  go_enter Try.func11, Try.ntmps11
  go_wp2_with fail
  refine (d_new _ (w.heap.size + 1) len cap A (by rw [s1]; exact Nat.le_refl _) hc1).mono ?_
  rintro e w2 ⟨g, rfl, cu, b2⟩
  have b02 := b0.trans (b2.mono (Nat.le_succ _))
  have r2 := (b2.block w.heap.size (by omega)).trans hr0
  have hs2 := b2.size
  rw [s1] at hs2
  have hg0 := cu.1
  have hgl := cu.lt
  clear hc1 b0 hr0 b2
  go_wp2_with fail
  refine (d_any _ _ g len cap A cu).mono ?_
  rintro e w3 ⟨vS, vH, ns, nh, rfl, n1, n2, oS, oH, cu3, gr⟩
  obtain ⟨T, rfl, rfl, en1, en2, hT⟩ := tid_of oS oH n1 n2
  clear en1 en2
  have b03 := below_cur b02 (Nat.le_refl _) gr (by omega)
  have r3 := box_far r2 gr (fun e => by cases e; omega)
  have hs3 := gr.size
  have ga := World.grownBy_alloc w3 (.cells #[.slice T.S T.ns T.cs, .slice T.H T.nh T.ch] 37) none
  have HT := Lib.hid (hT.same (HiSame.grown ga (fun k e => by cases e)))
  have HC := Lib.hid (cu3.alloc (.cells #[.slice T.S T.ns T.cs, .slice T.H T.nh T.ch] 37))
  have HB := Lib.hid (b03.alloc b03.size (.cells #[.slice T.S T.ns T.cs, .slice T.H T.nh T.ch] 37))
  have HX := Lib.hid (heap_alloc_new w3 (.cells #[.slice T.S T.ns T.cs, .slice T.H T.nh T.ch] 37))
  have HR := Lib.hid (box_far r3 ga (fun e => by cases e))
  clear oS oH hT b02 b03 r2 r3 cu cu3 gr ga
  go_upto_region 3 with fail
  generalize w3.alloc (.cells #[.slice T.S T.ns T.cs, .slice T.H T.nh T.ch] 37) = w4 at *
  have k0 := cell_of_row w4 _ 0 _ _ _ HX.out
  have k1 := cell_of_row w4 _ 1 _ _ _ HX.out
  have cd := Lib.hid (cur_drew (w := w4) HC.out (grown_refl _ _)).1
  have HTd := Lib.hid (HT.out.same (HiSame.grown (grown_drew w4 none) (fun k e => by cases e)))
  go_region_with ((go_at_call 32; refine (d_time w4.drew (w.heap.size + 1) g len cap w2.heap.size A T cd.out HTd.out hgl).mono ?_; rintro e w5 ⟨t, ht, rfl, cu, gr⟩; have hx5 := box_far (w1 := w4.drew) HX.out gr (fun e => by cases e; omega); have hr5 := box_far (w1 := w4.drew) HR.out gr (fun e => by cases e; omega); have k05 := cell_of_row w5 _ 0 _ _ _ hx5; have k15 := cell_of_row w5 _ 1 _ _ _ hx5; obtain ⟨_, x0, y0⟩ := cell_at hr5 (k := 0) rfl (by simp); have q1 := heap_set_self (k := 0) hr5 (.slice T.S T.ns T.cs); obtain ⟨_, x1, y1⟩ := cell_at q1 (k := 1) rfl (by simp); have q2 := heap_set_self (k := 1) q1 (.slice T.H T.nh T.ch); have HQ := Lib.hid q2; have g12 := grown_trans (grown_set w5 w.heap.size 0 (.slice T.S T.ns T.cs)) (grown_set _ w.heap.size 1 (.slice T.H T.nh T.ch)); have hti := (HTd.out.same (HiSame.grown (w' := w5) gr (fun k e => by cases e; exact hgl))).same (HiSame.grown g12 (fun k e => by cases e; omega)); have HF := Lib.hid (And.intro (hti.low (Nat.zero_le _)) (And.intro ht (below_cur (below_cur HB.out (Nat.le_refl _) (grown_trans (grown_drew w4 (some g)) gr) (by omega)) (Nat.le_refl _) g12 (Nat.le_refl _)))); clear hti g12 q1 q2 hx5 hr5 cu gr))
  all_goals
    go_wp2_with fail
    exact bodyPost_ret (v := .tuple #[.agg #[.slice T.S T.ns T.cs, .slice T.H T.nh T.ch], .int .i64 t])
      (res_cell_tmp (p := 2) (u := 3) (ty := 37) (by rfl) _ _ w.heap.size _ #[.slice T.S T.ns T.cs, .slice T.H T.nh T.ch] (0, 0) _ (by rfl) HQ.out Try.underlying37 rfl Try.infoTd) rfl ⟨T, t, rfl, HF.out⟩
end Go.Proofs.Ytbklmfchbojboaa

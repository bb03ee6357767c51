/- The drawing of places, and of what RunTide is asked. -/
import Derived.Test.YtonfenekjocopaaTdJ
import Derived.Test.YtonfenekjocopaaLgB
namespace Go.Proofs.Ytonfenekjocopaa
open Go.RowKit Ieee
set_option linter.unusedVariables false
set_option linter.unusedSimpArgs false
attribute [local go_sem] st_cplx

theorem TidIn.st {B : Nat} {w : World} {T : Tid} (h : TidIn B w T) {g : Nat} (hg : T.S = some ⟨g, 0, none⟩) {k : Nat} (hk : k < T.ns) : w.rangeAt g (k * 14) (litS (T.st k)).toList := by
  obtain ⟨g', e, _, hr⟩ := h.2.1 (by omega)
  rw [hg] at e
  cases e
  exact hr k hk
set_option maxRecDepth 100000 in
set_option maxHeartbeats 4000000 in
theorem d_place (w : World) (C g len cap B : Nat) (A : Option Addr) (T : Tid) (hc : Cur w C g A len cap) (hT : TidIn B w T) (hB : g < B) :
    Calls Try.prog 51 #[.pointer (some ⟨g, 0, none⟩), .agg #[.slice T.S T.ns T.cs, .slice T.H T.nh T.ch]] w fun e w' => ∃ a b : Nat, a < 18446744073709551616 ∧ b < 18446744073709551616 ∧ e = .returned (.complex .f64 a b) ∧ Cur w' C g A len cap ∧ w.grownBy w' (some g) := by
  have hgl := hc.lt
  have hn9 := hT.1.2.2.1
  have g0 := World.grownBy_alloc w (.cells #[.slice T.S T.ns T.cs, .slice T.H T.nh T.ch] 41) (some g)
  have cu0 := hc.alloc (.cells #[.slice T.S T.ns T.cs, .slice T.H T.nh T.ch] 41)
  have hbx := heap_alloc_new w (.cells #[.slice T.S T.ns T.cs, .slice T.H T.nh T.ch] 41)
  have HT := Lib.hid (hT.same (HiSame.grown (World.grownBy_alloc w (.cells #[.slice T.S T.ns T.cs, .slice T.H T.nh T.ch] 41) none) (fun k e => by cases e)))
  have k0 := cell_of_row _ _ 0 _ _ _ hbx
  clear hT
  go_enter Try.func51, Try.ntmps51
  by_cases h0 : T.ns = 0
  · rw [h0] at cu0 g0 hbx k0 ⊢
    go_wp2_with fail
    refine (d_vector 5000 _ C g len cap A cu0 (by omega) (by omega)).mono ?_
    rintro e w3 ⟨x, y, xl, yl, rfl, cu3, gr3⟩
    go_wp2_with fail
    go_ret
    exact ⟨x, y, xl, yl, rfl, cu3, grown_trans g0 gr3⟩
  have h1 : (0 : Int) < (T.ns : Int) := by omega
  have h1n : 0 < T.ns := by omega
  obtain ⟨gS, eS, _, _⟩ := HT.out.2.1 (by omega)
  have HE := Lib.hid eS
  have HB := Lib.hid hbx
  clear hbx eS
  go_wp2_with fail
  generalize w.alloc (.cells #[.slice T.S T.ns T.cs, .slice T.H T.nh T.ch] 41) = w1 at *
  generalize w.heap.size = q at *
  refine (d_once 4 _ C g len cap A cu0 (by omega)).mono ?_
  rintro e w2 ⟨t, rfl, cu2, gr2⟩
  have HG := Lib.hid (And.intro cu2 (grown_trans g0 gr2))
  have HT2 := Lib.hid (HT.out.same (HiSame.grown gr2 (fun k e => by cases e; exact hB)))
  have hb2 := box_far HB.out gr2 (fun e => by cases e; omega)
  clear cu0 g0 cu2 gr2 HT k0
  cases t
  · go_wp2_with fail
    refine (d_vector 5000 _ C g len cap A HG.out.1 (by omega) (by omega)).mono ?_
    rintro e w3 ⟨x, y, xl, yl, rfl, cu3, gr3⟩
    go_wp2_with fail
    go_ret
    exact ⟨x, y, xl, yl, rfl, cu3, grown_trans HG.out.2 gr3⟩
  · have k0 := cell_of_row w2 _ 0 _ _ _ hb2
    have HB2 := Lib.hid hb2
    have cd := Lib.hid (cur_drew HG.out.1 HG.out.2)
    clear hb2
    rw [HE.out] at k0
    go_upto_region 2 with fail
    go_region_with ((go_at_call 46; refine (d_below T.ns _ C g len cap A cd.out.1 (by omega)).mono ?_; rintro e w3 ⟨i, i0, i1, i2, rfl, cu, gr⟩; obtain ⟨i, rfl⟩ : ∃ k : Nat, i = k := ⟨i.toNat, by omega⟩; have i3 : i < T.ns := (by have := i1 (by omega); omega); have i4 : (i : Int) < (T.ns : Int) := (by omega); have hbb := box_far (w1 := w2.drew) HB2.out gr (fun e => by cases e; omega); have k3 := cell_of_row w3 _ 0 _ _ _ hbb; have HT3 := Lib.hid (HT2.out.same (HiSame.grown (w' := w3) (grown_trans (grown_drew w2 (some g)) gr) (fun k e => by cases e; exact hB))); have hr3 := HT3.out.st HE.out i3; have hz3 := HT3.out.1.1 i i3; have ck : w3.cell? ⟨gS, i * 14, none⟩ = some (.complex .f64 (T.st i).a (T.st i).b) := (by simpa using hr3 0 _ rfl); rw [HE.out] at k3; clear i1 i2 hr3))
    all_goals
      go_wp2_with fail
      go_ret
      exact ⟨_, _, hz3.1.1, hz3.1.2, rfl, cu, grown_trans HG.out.2 (grown_trans (grown_drew w2 (some g)) gr)⟩

/-- What stands while a slack is drawn. -/
def PlSt (w : World) (g len cap : Nat) (A : Option Addr) (T : Tid) (B qb : Nat) (wx : World) : Prop :=
  Below w.heap.size w wx ∧ Cur wx (w.heap.size + 1) g A len cap ∧ (∃ a b, wx.heap[w.heap.size]? = some (.cells #[a, b] 41 (0, 0))) ∧
  wx.heap[qb]? = some (.cells #[.slice T.S T.ns T.cs, .slice T.H T.nh T.ch] 41 (0, 0)) ∧ TidIn B wx T ∧ w.heap.size < g ∧ g < B ∧ B ≤ qb
theorem PlSt.draw {w w1 w2 : World} {g len cap B qb : Nat} {A : Option Addr} {T : Tid} (h : PlSt w g len cap A T B qb w1) (c : Cur w2 (w.heap.size + 1) g A len cap) (k : w1.grownBy w2 (some g)) : PlSt w g len cap A T B qb w2 := by
  obtain ⟨h1, h2, ⟨a, b, h3⟩, h4, h5, h6, h7, h8⟩ := h
  exact ⟨below_cur h1 (Nat.le_refl _) k (by omega), c, ⟨a, b, box_far h3 k (fun e => by cases e; omega)⟩, box_far h4 k (fun e => by cases e; omega), h5.same (HiSame.grown k (fun j e => by cases e; exact h7)), h6, h7, h8⟩
theorem PlSt.drew {w w1 : World} {g len cap B qb : Nat} {A : Option Addr} {T : Tid} (h : PlSt w g len cap A T B qb w1) : PlSt w g len cap A T B qb w1.drew :=
  h.draw (cur_drew (w := w1) h.2.1 (grown_refl _ _)).1 (grown_drew w1 (some g))
theorem PlSt.k0 {w w1 : World} {g len cap B qb : Nat} {A : Option Addr} {T : Tid} (h : PlSt w g len cap A T B qb w1) : w1.cell? ⟨qb, 0, none⟩ = some (.slice T.S T.ns T.cs) := cell_of_row _ _ 0 _ _ _ h.2.2.2.1
theorem PlSt.k1 {w w1 : World} {g len cap B qb : Nat} {A : Option Addr} {T : Tid} (h : PlSt w g len cap A T B qb w1) : w1.cell? ⟨qb, 1, none⟩ = some (.slice T.H T.nh T.ch) := cell_of_row _ _ 1 _ _ _ h.2.2.2.1
/-- The result, stored. -/
theorem PlSt.fin {w w5 : World} {g len cap B qb : Nat} {A : Option Addr} {T : Tid} (h : PlSt w g len cap A T B qb w5) : (∃ x0, w5.cell? ⟨w.heap.size, 0, none⟩ = some x0 ∧ w5.frozen? ⟨w.heap.size, 0, none⟩ = false) ∧
    (∃ x1, (w5.setCell ⟨w.heap.size, 0, none⟩ (.slice T.S T.ns T.cs)).cell? ⟨w.heap.size, 1, none⟩ = some x1 ∧ (w5.setCell ⟨w.heap.size, 0, none⟩ (.slice T.S T.ns T.cs)).frozen? ⟨w.heap.size, 1, none⟩ = false) ∧
    ((w5.setCell ⟨w.heap.size, 0, none⟩ (.slice T.S T.ns T.cs)).setCell ⟨w.heap.size, 1, none⟩ (.slice T.H T.nh T.ch)).heap[w.heap.size]? = some (.cells #[.slice T.S T.ns T.cs, .slice T.H T.nh T.ch] 41 (0, 0)) ∧
    TidIn 0 ((w5.setCell ⟨w.heap.size, 0, none⟩ (.slice T.S T.ns T.cs)).setCell ⟨w.heap.size, 1, none⟩ (.slice T.H T.nh T.ch)) T ∧
    Below w.heap.size w ((w5.setCell ⟨w.heap.size, 0, none⟩ (.slice T.S T.ns T.cs)).setCell ⟨w.heap.size, 1, none⟩ (.slice T.H T.nh T.ch)) := by
  obtain ⟨h1, h2, ⟨a, b, h3⟩, h4, h5, h6, h7, h8⟩ := h
  have c0 := cell_at h3 (k := 0) rfl (by simp)
  have q1 := heap_set_self (k := 0) h3 (.slice T.S T.ns T.cs)
  have c1 := cell_at q1 (k := 1) rfl (by simp)
  have q2 := heap_set_self (k := 1) q1 (.slice T.H T.nh T.ch)
  have g12 := grown_trans (grown_set w5 w.heap.size 0 (.slice T.S T.ns T.cs)) (grown_set _ w.heap.size 1 (.slice T.H T.nh T.ch))
  exact ⟨c0, c1, q2, (h5.same (HiSame.grown g12 (fun k e => by cases e; omega))).low (Nat.zero_le _), below_cur h1 (Nat.le_refl _) g12 (Nat.le_refl _)⟩

section
variable {P : Program}
theorem res_tmp3_cell {fn : Func} {p u v x : Tmp} {ty : TypeId} (h : fn.results = #[.tmp u, .tmp v, .tmp x, .cell p ty]) (tmps : Array Value) (w : World) (g : Nat) (t : TypeId) (cs : Array Value) (fr : Nat × Nat) (d : TypeDesc)
    (hp : tmps.getD p undef = .pointer (some ⟨g, 0, none⟩)) (hg : w.heap[g]? = some (.cells cs t fr))
    (hu : P.underlying ty = some d) (hd : (match d with | .struct _ | .array _ _ => true | _ => false) = true) (hi : (P.info? ty).map (·.size) = some cs.size) :
    (results fn tmps).run P w = .ok (.tuple #[tmps.getD u undef, tmps.getD v undef, tmps.getD x undef, .agg cs]) w := by
  have hp' : tmps[p]?.getD undef = .pointer (some ⟨g, 0, none⟩) := by simpa using hp
  simp [results, h, hp', asAddr, run_loadVar_row w g t ty cs fr d hg hu hd hi]
end
theorem OwnL.two {w8 : World} {B b n : Nat} {v x y : Value} (h : OwnL w8 B v n) (hb : b < B) : OwnL ((w8.setCell ⟨b, 0, none⟩ x).setCell ⟨b, 1, none⟩ y) B v n :=
  h.kept (grown_trans (grown_set w8 b 0 x) (grown_set _ b 1 y)) (fun k e e' => by cases e; have := (h.lt e').1; omega)

set_option maxRecDepth 100000 in
set_option maxHeartbeats 4000000 in
theorem d_runtide (w : World) (len cap : Nat) (A : Option Addr) (hcode : Code w w.heap.size A len) :
    Calls Try.prog 17 #[.slice A len cap] w fun e w' => ∃ (p : Nat × Nat) (t : Int) (n : Nat) (v : Value) (T : Tid), W64 p ∧ n ≤ 51 ∧ e = .returned (.tuple #[.complex .f64 p.1 p.2, .int .i64 t, v, .agg #[.slice T.S T.ns T.cs, .slice T.H T.nh T.ch]]) ∧ OwnL w' w.heap.size v n ∧ Below w.heap.size w w' := by
  have b0 : Below w.heap.size w (w.alloc (.cells #[.slice none 0 0, .slice none 0 0] 41)) := (Below.refl _ w).alloc (Nat.le_refl _) _
  have s1 : (w.alloc (.cells #[.slice none 0 0, .slice none 0 0] 41)).heap.size = w.heap.size + 1 := by simp
  have hc1 := hcode.step b0 (Nat.le_succ _)
  have hr0 := heap_alloc_new w (.cells #[.slice none 0 0, .slice none 0 0] 41)
  go_enter Try.func17, Try.ntmps17
  go_wp2_with fail
  refine (d_new _ (w.heap.size + 1) len cap A (by rw [s1]; exact Nat.le_refl _) hc1).mono ?_
  rintro e w2 ⟨g, rfl, cu, b2⟩
  have b02 := b0.trans (b2.mono (Nat.le_succ _))
  have r2 := (b2.block w.heap.size (by omega)).trans hr0
  have hs2 := b2.size
  rw [s1] at hs2
  have hg0 := cu.1
  have hgl := cu.lt
  clear hc1 b0 hr0 b2
  go_wp2_with fail
  refine (d_any _ _ g len cap A cu).mono ?_
  rintro e w3 ⟨vS, vH, ns, nh, rfl, n1, n2, oS, oH, cu3, gr⟩
  obtain ⟨T, rfl, rfl, en1, en2, hT⟩ := tid_of oS oH n1 n2
  clear en1 en2
  have b03 := below_cur b02 (Nat.le_refl _) gr (by omega)
  have r3 := box_far r2 gr (fun e => by cases e; omega)
  have hs3 := gr.size
  have ga := World.grownBy_alloc w3 (.cells #[.slice T.S T.ns T.cs, .slice T.H T.nh T.ch] 41) none
  have HP := Lib.hid (show PlSt w g len cap A T w2.heap.size w3.heap.size (w3.alloc (.cells #[.slice T.S T.ns T.cs, .slice T.H T.nh T.ch] 41)) from
    ⟨b03.alloc b03.size _, cu3.alloc _, ⟨_, _, box_far r3 ga (fun e => by cases e)⟩, heap_alloc_new w3 _, hT.same (HiSame.grown ga (fun k e => by cases e)), by omega, hgl, hs3⟩)
  have k0 := HP.out.k0
  have k1 := HP.out.k1
  clear oS oH hT b02 b03 r2 r3 cu cu3 gr ga hg0 hgl hs2 hs3 s1
  go_wp2_with fail
  generalize w3.alloc (.cells #[.slice T.S T.ns T.cs, .slice T.H T.nh T.ch] 41) = w4 at *
  generalize w3.heap.size = qb at *
  generalize w2.heap.size = B at *
  refine (d_place w4 (w.heap.size + 1) g len cap B A T HP.out.2.1 HP.out.2.2.2.2.1 HP.out.2.2.2.2.2.2.1).mono ?_
  rintro e w5 ⟨a, b, al, bl, rfl, cu, gr⟩
  have HP1 := Lib.hid (HP.out.draw cu gr)
  clear cu gr HP k0 k1
  have k0 := HP1.out.k0
  have k1 := HP1.out.k1
  go_wp2_with fail
  refine (d_time w5 (w.heap.size + 1) g len cap B A T HP1.out.2.1 HP1.out.2.2.2.2.1 HP1.out.2.2.2.2.2.2.1).mono ?_
  rintro e w6 ⟨t, ht, rfl, cu, gr⟩
  have HP2 := Lib.hid (HP1.out.draw cu gr)
  have HTI := Lib.hid ht
  clear cu gr HP1 k0 k1 ht
  have hp := HP2.out.drew
  have HP := Lib.hid hp
  have k0 := HP2.out.k0
  have k1 := HP2.out.k1
  have hzz : w.heap.size < w6.drew.heap.size := block_lt (hp.2.2.1.choose_spec.choose_spec)
  have hw9 : Below w.heap.size w w6.drew := hp.1
  clear hp HP2
  go_upto_region 5 with fail
  go_region_with ((go_at_call 34; refine (d_legs _ (w.heap.size + 1) g len cap A HP.out.2.1).mono ?_; rintro e w8 ⟨n, v, hn, rfl, hown, cu, gr⟩; have HP4 := Lib.hid (HP.out.draw cu gr); have k08 := HP4.out.k0; have k18 := HP4.out.k1; obtain ⟨⟨_, x0, f0⟩, ⟨_, x1, f1⟩, hfin⟩ := HP4.out.fin; have HF := Lib.hid hfin; have HO := Lib.hid ((hown.two (b := w.heap.size) (x := .slice T.S T.ns T.cs) (y := .slice T.H T.nh T.ch) hzz).low (Nat.le_of_lt hzz)); clear hfin hown cu gr HP4))
  all_goals
    go_wp2_with fail
    exact bodyPost_ret (v := .tuple #[.complex .f64 a b, .int .i64 t, v, .agg #[.slice T.S T.ns T.cs, .slice T.H T.nh T.ch]])
      (res_tmp3_cell (p := 5) (u := 2) (v := 3) (x := 4) (ty := 41) (by rfl) _ _ w.heap.size _ #[.slice T.S T.ns T.cs, .slice T.H T.nh T.ch] (0, 0) _ (by rfl) HF.out.1 Try.underlying41 rfl Try.infoTd) rfl ⟨(a, b), t, n, v, T, ⟨al, bl⟩, hn, rfl, HO.out, HF.out.2.2⟩
end Go.Proofs.Ytonfenekjocopaa

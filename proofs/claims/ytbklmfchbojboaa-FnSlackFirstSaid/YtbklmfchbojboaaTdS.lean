/- The drawing of places and slacks; the laws' amount. -/
import Derived.Test.YtbklmfchbojboaaTdJ
import Derived.Test.YtbklmfchbojboaaTdP
namespace Go.Proofs.Ytbklmfchbojboaa
open Go.RowKit Ieee
set_option linter.unusedSimpArgs false
set_option linter.unusedVariables false
attribute [local go_sem] st_cplx

set_option maxHeartbeats 400000 in
theorem l_amount (x : Nat) (w : World) (hx : x < 18446744073709551616) :
    Calls Try.prog 18 #[.float .f64 x] w fun e w' => e = .returned (.float .f64 (amtW x)) ∧ w = w' := by
  unfold amtW
  by_cases h : f64.order x 0 = some .lt
  · have hneg : ∀ w, (Op.unary .neg (.float .f64 x)).run Try.prog w = .ok (.float .f64 (x % 9223372036854775808)) w := fun w => by
      show (pure (.float .f64 (Op.negFloat .f64 x)) : Sem Value).run Try.prog w = _
      rw [neg_word hx h]; rfl
    rw [if_pos h]
    have h' : FloatKind.f64.format.order x 0 = some .lt := h
    clear h
    go_enter Try.func18, Try.ntmps18
    go_wp2
    go_ret
    exact ⟨rfl, rfl⟩
  · rw [if_neg h]
    have h' : (FloatKind.f64.format.order x 0 == some .lt) = false := by simpa using h
    clear h
    go_enter Try.func18, Try.ntmps18
    go_wp2
    go_ret
    exact ⟨rfl, rfl⟩

def quoM (n : Nat) : Bool := match floatBits .quo .f32 (floatOfInt .f32 ((n : Int) - 1)) 1098907648 with
  | some c => Nat.blt c 4294967296 && Nat.blt (c / 8388608 % 256) 255
  | none => false
theorem quoM_tab : (List.range 20).all quoM = true := by kernel_rfl
theorem most_ok {n : Int} (h0 : 0 ≤ n) (h1 : n < 20) : ∃ q, floatBits .quo .f32 (floatOfInt .f32 (n - 1)) 1098907648 = some q ∧ q < 4294967296 ∧ S.isNum q := by
  obtain ⟨k, rfl⟩ : ∃ k : Nat, n = k := ⟨n.toNat, by omega⟩
  have hb : quoM k = true := List.all_eq_true.1 quoM_tab _ (List.mem_range.2 (by omega))
  unfold quoM at hb
  cases hc : floatBits .quo .f32 (floatOfInt .f32 ((k : Int) - 1)) 1098907648 with
  | none => rw [hc] at hb; cases hb
  | some c =>
    rw [hc] at hb
    simp only [Nat.blt_eq, Bool.and_eq_true] at hb
    exact ⟨c, rfl, hb.1, S.num_of_expo hb.1 (by unfold S.expo; exact hb.2)⟩

set_option maxRecDepth 100000 in
set_option maxHeartbeats 4000000 in
theorem d_place (w : World) (C g len cap B : Nat) (A : Option Addr) (T : Tid) (hc : Cur w C g A len cap) (hT : TidIn B w T) (hB : g < B) :
    Calls Try.prog 38 #[.pointer (some ⟨g, 0, none⟩), .agg #[.slice T.S T.ns T.cs, .slice T.H T.nh T.ch]] w fun e w' => ∃ a b : Nat, a < 18446744073709551616 ∧ b < 18446744073709551616 ∧ e = .returned (.complex .f64 a b) ∧ Cur w' C g A len cap ∧ w.grownBy w' (some g) := by
  have hgl := hc.lt
  have hn9 := hT.1.2.2.1
  have g0 := World.grownBy_alloc w (.cells #[.slice T.S T.ns T.cs, .slice T.H T.nh T.ch] 37) (some g)
  have cu0 := hc.alloc (.cells #[.slice T.S T.ns T.cs, .slice T.H T.nh T.ch] 37)
  have hbx := heap_alloc_new w (.cells #[.slice T.S T.ns T.cs, .slice T.H T.nh T.ch] 37)
  have HT := Lib.hid (hT.same (HiSame.grown (World.grownBy_alloc w (.cells #[.slice T.S T.ns T.cs, .slice T.H T.nh T.ch] 37) none) (fun k e => by cases e)))
  have k0 := cell_of_row _ _ 0 _ _ _ hbx
  clear hT
  go_enter Try.func38, Try.ntmps38
  by_cases h0 : T.ns = 0
  · rw [h0] at cu0 g0 hbx k0 ⊢
    go_wp2_with fail
    refine (d_vector 5000 _ C g len cap A cu0 (by omega) (by omega)).mono ?_
    rintro e w3 ⟨x, y, xl, yl, rfl, cu3, gr3⟩
    go_wp2_with fail
    go_ret
    exact ⟨x, y, xl, yl, rfl, cu3, grown_trans g0 gr3⟩
  have h1 : (0 : Int) < (T.ns : Int) := by omega
  have h1n : 0 < T.ns := by omega
  obtain ⟨gS, eS, _, _⟩ := HT.out.2.1 (by omega)
  have HE := Lib.hid eS
  have HB := Lib.hid hbx
  clear hbx eS
  go_wp2_with fail
  generalize w.alloc (.cells #[.slice T.S T.ns T.cs, .slice T.H T.nh T.ch] 37) = w1 at *
  generalize w.heap.size = q at *
  refine (d_once 4 _ C g len cap A cu0 (by omega)).mono ?_
  rintro e w2 ⟨t, rfl, cu2, gr2⟩
  have HG := Lib.hid (And.intro cu2 (grown_trans g0 gr2))
  have HT2 := Lib.hid (HT.out.same (HiSame.grown gr2 (fun k e => by cases e; exact hB)))
  have hb2 := box_far HB.out gr2 (fun e => by cases e; omega)
  clear cu0 g0 cu2 gr2 HT k0
  cases t
  · go_wp2_with fail
    refine (d_vector 5000 _ C g len cap A HG.out.1 (by omega) (by omega)).mono ?_
    rintro e w3 ⟨x, y, xl, yl, rfl, cu3, gr3⟩
    go_wp2_with fail
    go_ret
    exact ⟨x, y, xl, yl, rfl, cu3, grown_trans HG.out.2 gr3⟩
  · have k0 := cell_of_row w2 _ 0 _ _ _ hb2
    have HB2 := Lib.hid hb2
    have cd := Lib.hid (cur_drew HG.out.1 HG.out.2)
    clear hb2
    rw [HE.out] at k0
    go_upto_region 2 with fail
    go_region_with ((go_at_call 23; refine (d_below T.ns _ C g len cap A cd.out.1 (by omega)).mono ?_; rintro e w3 ⟨i, i0, i1, i2, rfl, cu, gr⟩; obtain ⟨i, rfl⟩ : ∃ k : Nat, i = k := ⟨i.toNat, by omega⟩; have i3 : i < T.ns := (by have := i1 (by omega); omega); have i4 : (i : Int) < (T.ns : Int) := (by omega); have hbb := box_far (w1 := w2.drew) HB2.out gr (fun e => by cases e; omega); have k3 := cell_of_row w3 _ 0 _ _ _ hbb; have HT3 := Lib.hid (HT2.out.same (HiSame.grown (w' := w3) (grown_trans (grown_drew w2 (some g)) gr) (fun k e => by cases e; exact hB))); have hr3 := HT3.out.st HE.out i3; have hz3 := HT3.out.1.1 i i3; have ck : w3.cell? ⟨gS, i * 14, none⟩ = some (.complex .f64 (T.st i).a (T.st i).b) := (by simpa using hr3 0 _ rfl); rw [HE.out] at k3; clear i1 i2 hr3))
    all_goals
      go_wp2_with fail
      go_ret
      exact ⟨_, _, hz3.1.1, hz3.1.2, rfl, cu, grown_trans HG.out.2 (grown_trans (grown_drew w2 (some g)) gr)⟩

section
variable {P : Program}
theorem res_cell_tmp3 {fn : Func} {p u v x : Tmp} {ty : TypeId} (h : fn.results = #[.cell p ty, .tmp u, .tmp v, .tmp x]) (tmps : Array Value) (w : World) (g : Nat) (t : TypeId) (cs : Array Value) (fr : Nat × Nat) (d : TypeDesc)
    (hp : tmps.getD p undef = .pointer (some ⟨g, 0, none⟩)) (hg : w.heap[g]? = some (.cells cs t fr))
    (hu : P.underlying ty = some d) (hd : (match d with | .struct _ | .array _ _ => true | _ => false) = true) (hi : (P.info? ty).map (·.size) = some cs.size) :
    (results fn tmps).run P w = .ok (.tuple #[.agg cs, tmps.getD u undef, tmps.getD v undef, tmps.getD x undef]) w := by
  have hp' : tmps[p]?.getD undef = .pointer (some ⟨g, 0, none⟩) := by simpa using hp
  simp [results, h, hp', asAddr, run_loadVar_row w g t ty cs fr d hg hu hd hi]
end
/-- What stands while a slack is drawn. -/
def PlSt (w : World) (g len cap : Nat) (A : Option Addr) (T : Tid) (B qb : Nat) (wx : World) : Prop :=
  Below w.heap.size w wx ∧ Cur wx (w.heap.size + 1) g A len cap ∧ (∃ a b, wx.heap[w.heap.size]? = some (.cells #[a, b] 37 (0, 0))) ∧
  wx.heap[qb]? = some (.cells #[.slice T.S T.ns T.cs, .slice T.H T.nh T.ch] 37 (0, 0)) ∧ TidIn B wx T ∧ w.heap.size < g ∧ g < B ∧ B ≤ qb
theorem PlSt.draw {w w1 w2 : World} {g len cap B qb : Nat} {A : Option Addr} {T : Tid} (h : PlSt w g len cap A T B qb w1) (c : Cur w2 (w.heap.size + 1) g A len cap) (k : w1.grownBy w2 (some g)) : PlSt w g len cap A T B qb w2 := by
  obtain ⟨h1, h2, ⟨a, b, h3⟩, h4, h5, h6, h7, h8⟩ := h
  exact ⟨below_cur h1 (Nat.le_refl _) k (by omega), c, ⟨a, b, box_far h3 k (fun e => by cases e; omega)⟩, box_far h4 k (fun e => by cases e; omega), h5.same (HiSame.grown k (fun j e => by cases e; exact h7)), h6, h7, h8⟩
theorem PlSt.drew {w w1 : World} {g len cap B qb : Nat} {A : Option Addr} {T : Tid} (h : PlSt w g len cap A T B qb w1) : PlSt w g len cap A T B qb w1.drew :=
  h.draw (cur_drew (w := w1) h.2.1 (grown_refl _ _)).1 (grown_drew w1 (some g))
theorem PlSt.k0 {w w1 : World} {g len cap B qb : Nat} {A : Option Addr} {T : Tid} (h : PlSt w g len cap A T B qb w1) : w1.cell? ⟨qb, 0, none⟩ = some (.slice T.S T.ns T.cs) := cell_of_row _ _ 0 _ _ _ h.2.2.2.1
theorem PlSt.k1 {w w1 : World} {g len cap B qb : Nat} {A : Option Addr} {T : Tid} (h : PlSt w g len cap A T B qb w1) : w1.cell? ⟨qb, 1, none⟩ = some (.slice T.H T.nh T.ch) := cell_of_row _ _ 1 _ _ _ h.2.2.2.1
/-- The result, stored. -/
theorem PlSt.fin {w w5 : World} {g len cap B qb : Nat} {A : Option Addr} {T : Tid} (h : PlSt w g len cap A T B qb w5) : (∃ x0, w5.cell? ⟨w.heap.size, 0, none⟩ = some x0 ∧ w5.frozen? ⟨w.heap.size, 0, none⟩ = false) ∧
    (∃ x1, (w5.setCell ⟨w.heap.size, 0, none⟩ (.slice T.S T.ns T.cs)).cell? ⟨w.heap.size, 1, none⟩ = some x1 ∧ (w5.setCell ⟨w.heap.size, 0, none⟩ (.slice T.S T.ns T.cs)).frozen? ⟨w.heap.size, 1, none⟩ = false) ∧
    ((w5.setCell ⟨w.heap.size, 0, none⟩ (.slice T.S T.ns T.cs)).setCell ⟨w.heap.size, 1, none⟩ (.slice T.H T.nh T.ch)).heap[w.heap.size]? = some (.cells #[.slice T.S T.ns T.cs, .slice T.H T.nh T.ch] 37 (0, 0)) ∧
    TidIn 0 ((w5.setCell ⟨w.heap.size, 0, none⟩ (.slice T.S T.ns T.cs)).setCell ⟨w.heap.size, 1, none⟩ (.slice T.H T.nh T.ch)) T ∧
    Below w.heap.size w ((w5.setCell ⟨w.heap.size, 0, none⟩ (.slice T.S T.ns T.cs)).setCell ⟨w.heap.size, 1, none⟩ (.slice T.H T.nh T.ch)) := by
  obtain ⟨h1, h2, ⟨a, b, h3⟩, h4, h5, h6, h7, h8⟩ := h
  have c0 := cell_at h3 (k := 0) rfl (by simp)
  have q1 := heap_set_self (k := 0) h3 (.slice T.S T.ns T.cs)
  have c1 := cell_at q1 (k := 1) rfl (by simp)
  have q2 := heap_set_self (k := 1) q1 (.slice T.H T.nh T.ch)
  have g12 := grown_trans (grown_set w5 w.heap.size 0 (.slice T.S T.ns T.cs)) (grown_set _ w.heap.size 1 (.slice T.H T.nh T.ch))
  exact ⟨c0, c1, q2, (h5.same (HiSame.grown g12 (fun k e => by cases e; omega))).low (Nat.zero_le _), below_cur h1 (Nat.le_refl _) g12 (Nat.le_refl _)⟩
set_option maxRecDepth 100000 in
set_option maxHeartbeats 4000000 in
theorem d_slackfrom (w : World) (len cap : Nat) (A : Option Addr) (hcode : Code w w.heap.size A len) :
    Calls Try.prog 14 #[.slice A len cap] w fun e w' => ∃ (T : Tid) (a b : Nat) (t : Int) (m : Nat), e = .returned (.tuple #[.agg #[.slice T.S T.ns T.cs, .slice T.H T.nh T.ch], .complex .f64 a b, .int .i64 t, .float .f32 m]) ∧
      (a < 18446744073709551616 ∧ b < 18446744073709551616) ∧ I64 t ∧ (m < 4294967296 ∧ S.isNum m) ∧ TidIn 0 w' T ∧ Below w.heap.size w w' := by
  have b0 : Below w.heap.size w (w.alloc (.cells #[.slice none 0 0, .slice none 0 0] 37)) := (Below.refl _ w).alloc (Nat.le_refl _) _
  have s1 : (w.alloc (.cells #[.slice none 0 0, .slice none 0 0] 37)).heap.size = w.heap.size + 1 := by simp
  have hc1 := hcode.step b0 (Nat.le_succ _)
  have hr0 := heap_alloc_new w (.cells #[.slice none 0 0, .slice none 0 0] 37)
  go_enter Try.func14, Try.ntmps14
  go_wp2_with fail
  refine (d_new _ (w.heap.size + 1) len cap A (by rw [s1]; exact Nat.le_refl _) hc1).mono ?_
  rintro e w2 ⟨g, rfl, cu, b2⟩
  have b02 := b0.trans (b2.mono (Nat.le_succ _))
  have r2 := (b2.block w.heap.size (by omega)).trans hr0
  have hs2 := b2.size
  rw [s1] at hs2
  have hg0 := cu.1
  have hgl := cu.lt
  clear hc1 b0 hr0 b2
  go_wp2_with fail
  refine (d_any _ _ g len cap A cu).mono ?_
  rintro e w3 ⟨vS, vH, ns, nh, rfl, n1, n2, oS, oH, cu3, gr⟩
  obtain ⟨T, rfl, rfl, en1, en2, hT⟩ := tid_of oS oH n1 n2
  clear en1 en2
  have b03 := below_cur b02 (Nat.le_refl _) gr (by omega)
  have r3 := box_far r2 gr (fun e => by cases e; omega)
  have hs3 := gr.size
  have ga := World.grownBy_alloc w3 (.cells #[.slice T.S T.ns T.cs, .slice T.H T.nh T.ch] 37) none
  have HP := Lib.hid (show PlSt w g len cap A T w2.heap.size w3.heap.size (w3.alloc (.cells #[.slice T.S T.ns T.cs, .slice T.H T.nh T.ch] 37)) from
    ⟨b03.alloc b03.size _, cu3.alloc _, ⟨_, _, box_far r3 ga (fun e => by cases e)⟩, heap_alloc_new w3 _, hT.same (HiSame.grown ga (fun k e => by cases e)), by omega, hgl, hs3⟩)
  have k0 := HP.out.k0
  have k1 := HP.out.k1
  clear oS oH hT b02 b03 r2 r3 cu cu3 gr ga hg0 hgl hs2 hs3 s1
  go_wp2_with fail
  generalize w3.alloc (.cells #[.slice T.S T.ns T.cs, .slice T.H T.nh T.ch] 37) = w4 at *
  generalize w3.heap.size = qb at *
  generalize w2.heap.size = B at *
  refine (d_place w4 (w.heap.size + 1) g len cap B A T HP.out.2.1 HP.out.2.2.2.2.1 HP.out.2.2.2.2.2.2.1).mono ?_
  rintro e w5 ⟨a, b, al, bl, rfl, cu, gr⟩
  have HP1 := Lib.hid (HP.out.draw cu gr)
  clear cu gr HP k0 k1
  have k0 := HP1.out.k0
  have k1 := HP1.out.k1
  go_wp2_with fail
  refine (d_time w5 (w.heap.size + 1) g len cap B A T HP1.out.2.1 HP1.out.2.2.2.2.1 HP1.out.2.2.2.2.2.2.1).mono ?_
  rintro e w6 ⟨t, ht, rfl, cu, gr⟩
  have HP2 := Lib.hid (HP1.out.draw cu gr)
  have HTI := Lib.hid ht
  clear cu gr HP1 k0 k1 ht
  go_wp2_with fail
  refine (d_once 10 _ (w.heap.size + 1) g len cap A HP2.out.2.1 (by omega)).mono ?_
  rintro e w7 ⟨o, rfl, cu, gr⟩
  have HP3 := Lib.hid (HP2.out.draw cu gr)
  clear cu gr HP2
  go_upto_if 21 with fail
  go_cut [9] (fun s9 wx => ∃ t : Int, I64 t ∧ s9 = .int .i64 t ∧ PlSt w g len cap A T B qb wx)
  case first =>
    cases o
    · go_wp2_with fail
      go_meet
      exact ⟨t, HTI.out, rfl, HP3.out⟩
    · go_wp2_with fail
      refine (d_below 800 _ (w.heap.size + 1) g len cap A HP3.out.2.1 (by omega)).mono ?_
      rintro e w8 ⟨y, y0, y1, y2, rfl, cu, gr⟩
      have y3 := y1 (by omega)
      have HP4 := Lib.hid (HP3.out.draw cu gr)
      clear y1 y2 cu gr HP3
      go_wp2_with fail
      go_meet
      exact ⟨_, (by unfold I64; omega), rfl, HP4.out⟩
  case rest =>
  clear HTI HP3
  obtain ⟨t, ht, rfl, hp⟩ := hcut
  have HP := Lib.hid hp.drew
  have k0 := hp.k0
  have k1 := hp.k1
  have HTI := Lib.hid ht
  clear hp ht
  go_upto_region 7 with fail
  go_region_with ((go_at_call 23; refine (d_below 20 _ (w.heap.size + 1) g len cap A HP.out.2.1 (by omega)).mono ?_; rintro e w8 ⟨y, y0, y1, y2, rfl, cu, gr⟩; have y3 := y1 (by omega); have hw1 : IntKind.i64.wrap (y - 1) = y - 1 := IntWalk.i64_in _ (by omega); obtain ⟨m, m1, m2, m3⟩ := most_ok y0 y3; have hm1 := (fun w => run_float_arith (P := Try.prog) w .quo 42 .f32 _ _ _ m1); have HP4 := Lib.hid (HP.out.draw cu gr); have k08 := HP4.out.k0; have k18 := HP4.out.k1; obtain ⟨⟨_, x0, f0⟩, ⟨_, x1, f1⟩, hfin⟩ := HP4.out.fin; have HF := Lib.hid hfin; clear y1 y2 cu gr m1 hfin))
  all_goals
    go_wp2_with fail
    exact bodyPost_ret (v := .tuple #[.agg #[.slice T.S T.ns T.cs, .slice T.H T.nh T.ch], .complex .f64 a b, .int .i64 t, .float .f32 m])
      (res_cell_tmp3 (p := 2) (u := 3) (v := 4) (x := 5) (ty := 37) (by rfl) _ _ w.heap.size _ #[.slice T.S T.ns T.cs, .slice T.H T.nh T.ch] (0, 0) _ (by rfl) HF.out.1 Try.underlying37 rfl Try.infoTd) rfl ⟨T, a, b, t, m, rfl, ⟨al, bl⟩, HTI.out, ⟨m2, m3⟩, HF.out.2.1, HF.out.2.2⟩
end Go.Proofs.Ytbklmfchbojboaa

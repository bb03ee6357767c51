/- A polar multiplied: impl.ScalePolar. -/
import Derived.Test.YtdhdefhllleeiaaPcB
import Derived.Test.YtdhdefhllleeiaaPoU
import Derived.Deep.RegionHeld3
import Derived.Deep.RegionLaw
import Derived.Deep.CutBlock
import Derived.Deep.DeepCutAuto
namespace Go.Proofs.Ytdhdefhllleeiaa
open Go.RowKit Ieee
set_option linter.unusedSimpArgs false
set_option linter.unusedVariables false

theorem BaseS.step2 {w w1 w2 : World} {P : Pol} (hP : PolIn w P) (h : BaseS w P w1) (b : Below (w.heap.size + 2) w1 w2) : BaseS w P w2 := by
  obtain ⟨h1, h2, h3, h4, h5⟩ := h
  have hb := h1.trans (b.mono (by omega))
  exact ⟨hb, (b.block _ (by omega)).trans h2, (b.block _ (by omega)).trans h3, hP.keeps (Below.keeps hb), Nat.le_trans h5 b.size⟩
theorem ScSt.add {w w5 w7 : World} {P : Pol} {o : Obj} {k gp m gW cW gA cA T g7 c7 g' c' : Nat} {vS : Value} {b c : Nat → Nat} {s : Nat → Nat → Nat} {s' : Nat → Nat} (hP : PolIn w P) (h0 : BaseS w P w5)
    (hb : w5.heap[gp]? = some (.cells #[.slice (some ⟨gW, 0, none⟩) P.nw cW, .slice (some ⟨gA, 0, none⟩) P.na cA, vS] 28 (0, 0))) (hgp : w.heap.size + 1 < gp) (hT : gp < T) (hT' : T ≤ w5.heap.size)
    (hv : ScV (w.heap.size + 2) T P k gW gA vS m b c s w5) (hr : OwnB w5 g' P.na 31 (fun j => fv (s' j))) (hm : ∀ j, j < P.na → MulIs (P.sp m j) k (s' j)) (hg' : T ≤ g') (hg : (w5.alloc o).grownBy w7 vS.ownBlock)
    (hown : w7.ownsRow (w.heap.size + 2) 24 1 (.slice (some ⟨g7, 0, none⟩) (m + 1) c7) (m + 1) (((List.range m).map fun i => .slice (some ⟨b i, 0, none⟩) P.na (c i)) ++ [.slice (some ⟨g', 0, none⟩) P.na c'])) (hlt : g7 < w7.heap.size) :
    ScSt w P k gp (m + 1) (w7.setCell ⟨gp, 2, none⟩ (.slice (some ⟨g7, 0, none⟩) (m + 1) c7)) := by
  have hg1 := gr_alloc hg
  have hs := hg1.size
  obtain ⟨b1, c1, s1, hv1⟩ := hv.more hr hm hg' hr.lt hg1 hown hs hlt
  have hb7 := box_far hb hg1 (owns_ne hv.2.2.1 hb (by decide))
  have hbl : Below (w.heap.size + 2) w5 w7 := (Below.refl _ w5).grown hg1 h0.2.2.2.2 (fun j e => (hv.2.2.1.lt j e).1)
  refine ⟨h0.step2 hP (hbl.setCell (by show w.heap.size + 2 ≤ gp; omega) _), gW, cW, gA, cA, .slice (some ⟨g7, 0, none⟩) (m + 1) c7, w7.heap.size, b1, c1, s1, ?_, hgp, by omega, by simp [World.setCell], hv1.box hb7⟩
  rw [blk_set hb7]; rfl
/-- A clone, where ScalePolar works. -/
theorem cl_F {w : World} {P : Pol} (hok : PolOk P) (w' : World) (h : BaseS w P w') : Calls Try.prog 55 #[.slice P.W P.nw P.cw] w' fun e w'' => ∃ g c, e = .returned (.slice (some ⟨g, 0, none⟩) P.nw c) ∧ w.heap.size + 2 ≤ g ∧ OwnB w'' g P.nw 31 (fun j => fv (P.ws j)) ∧ Below w'.heap.size w' w'' :=
  (c_cloneF P.ws P.W P.nw P.cw w' h.2.2.2.1.1 (by have := hok.1.1; omega)).mono fun e w'' ⟨g, c, h1, h2, h3, h4⟩ => ⟨g, c, h1, by have := h.2.2.2.2; omega, h3, h4⟩
theorem cl_I {w : World} {P : Pol} (hok : PolOk P) (w' : World) (h : BaseS w P w') : Calls Try.prog 56 #[.slice P.A P.na P.ca] w' fun e w'' => ∃ g c, e = .returned (.slice (some ⟨g, 0, none⟩) P.na c) ∧ w.heap.size + 2 ≤ g ∧ OwnB w'' g P.na 3 (fun j => iv (P.av j)) ∧ Below w'.heap.size w' w'' :=
  (c_cloneI P.av P.A P.na P.ca w' h.2.2.2.1.2.1 (by have := hok.2.1.1; omega)).mono fun e w'' ⟨g, c, h1, h2, h3, h4⟩ => ⟨g, c, h1, by have := h.2.2.2.2; omega, h3, h4⟩
/-- What a multiplied polar owns. -/
def OwnPol (w : World) (B : Nat) (P : Pol) (k gW cW gA cA gS cS : Nat) (b c : Nat → Nat) : Prop :=
  OwnB w gW P.nw 31 (fun j => fv (P.ws j)) ∧ OwnB w gA P.na 3 (fun j => iv (P.av j)) ∧ OwnB w gS P.ns 24 (fun i => .slice (some ⟨b i, 0, none⟩) P.na (c i)) ∧
  (∀ i, i < P.ns → OwnB w (b i) P.na 31 (fun j => fv (mulS (P.sp i j) k)) ∧ gW < b i) ∧ (∀ i i', i < i' → i' < P.ns → b i < b i') ∧ B ≤ gW ∧ B ≤ gA ∧ B ≤ gS
def ScTold (w : World) (P : Pol) (k : Nat) (e : Ending) (w' : World) : Prop :=
  Below w.heap.size w w' ∧ ((¬ ScaleOk P k ∧ e = .returned (.tuple #[.agg #[.slice none 0 0, .slice none 0 0, .slice none 0 0], .bool false])) ∨
    (ScaleOk P k ∧ ∃ gW cW gA cA gS cS b c, e = .returned (.tuple #[.agg #[.slice (some ⟨gW, 0, none⟩) P.nw cW, .slice (some ⟨gA, 0, none⟩) P.na cA, .slice (some ⟨gS, 0, none⟩) P.ns cS], .bool true]) ∧ OwnPol w' w.heap.size P k gW cW gA cA gS cS b c))
theorem ScTold.no {w : World} {P : Pol} {k : Nat} {e : Ending} {w' : World} (h : ¬ ScaleOk P k) (he : e = .returned (.tuple #[.agg #[.slice none 0 0, .slice none 0 0, .slice none 0 0], .bool false])) (b : Below w.heap.size w w') : ScTold w P k e w' := ⟨b, .inl ⟨h, he⟩⟩
/-- The polar that is made, as it is read: whatever its numbers. -/
def rawQ (P : Pol) (gW cW gA cA gS cS : Nat) (b c : Nat → Nat) (s : Nat → Nat → Nat) : Pol := ⟨some ⟨gW, 0, none⟩, P.nw, cW, P.ws, some ⟨gA, 0, none⟩, P.na, cA, P.av, some ⟨gS, 0, none⟩, P.ns, cS, fun i => some ⟨b i, 0, none⟩, fun _ => P.na, c, s⟩
theorem rawQ_ok {P : Pol} {k gW cW gA cA gS cS : Nat} {b c : Nat → Nat} {s : Nat → Nat → Nat} (hok : PolOk P) (hm : ∀ i, i < P.ns → ∀ j, j < P.na → MulIs (P.sp i j) k (s i j)) :
    (PolOk (rawQ P gW cW gA cA gS cS b c s) ↔ ScaleOk P k) ∧ (ScaleOk P k → ∀ i, i < P.ns → ∀ j, j < P.na → s i j = mulS (P.sp i j) k) := by
  refine ⟨⟨fun h => ⟨hok, fun i hi j hj => ?_⟩, fun h => ⟨hok.1, hok.2.1, hok.2.2.1, fun i hi => ⟨rfl, fun j hj => ?_⟩⟩⟩, fun h i hi j hj => mul_is' (hm i hi j hj) (h.2 i hi j hj).1⟩
  · have hs : okS (s i j) := (h.2.2.2 i hi).2 j hj
    have h1 := mul_is (hm i hi j hj) hs.2.1
    rw [h1.2]
    exact ⟨h1.1, hs⟩
  · have h1 := h.2 i hi j hj
    show okS (s i j)
    rw [mul_is' (hm i hi j hj) h1.1]
    exact h1.2
theorem ScV.raw {B T k gW cW gA cA gS cS : Nat} {P : Pol} {b c : Nat → Nat} {s : Nat → Nat → Nat} {w w0 : World} (hP : PolIn w0 P) (hok : PolOk P) (h : ScV B T P k gW gA (.slice (some ⟨gS, 0, none⟩) P.ns cS) P.ns b c s w) : PolIn w (rawQ P gW cW gA cA gS cS b c s) := by
  obtain ⟨a1, a2, a3, a4, _⟩ := h
  have h3 := own_of a3 (V := fun i => .slice (some ⟨b i, 0, none⟩) P.na (c i)) (fun i hi => by simp [hi])
  have hna := hok.2.1.1
  exact ⟨⟨a1.row, hP.1.2⟩, ⟨a2.row, hP.2.1.2⟩, ⟨h3.row, hP.2.2.1.2⟩, fun i hi => ⟨(a4 i hi).1.row, (by show P.na ≤ 1048576; omega), fun j hj => ((a4 i hi).2.1 j hj).1⟩⟩
theorem ScV.own {B T k gW cW gA cA gS cS : Nat} {P : Pol} {b c : Nat → Nat} {s : Nat → Nat → Nat} {w : World} (hs : ∀ i, i < P.ns → ∀ j, j < P.na → s i j = mulS (P.sp i j) k) (h : ScV B T P k gW gA (.slice (some ⟨gS, 0, none⟩) P.ns cS) P.ns b c s w) (hn : 0 < P.ns) : OwnPol w B P k gW cW gA cA gS cS b c := by
  obtain ⟨a1, a2, a3, a4, a5, a6, a7⟩ := h
  have h3 := own_of a3 (V := fun i => .slice (some ⟨b i, 0, none⟩) P.na (c i)) (fun i hi => by simp [hi])
  refine ⟨a1, a2, h3, fun i hi => ⟨?_, (a4 i hi).2.2.1⟩, a5, a6.1, a6.2.1, (a3.lt gS rfl).1⟩
  obtain ⟨cs, c1, c2, c3⟩ := (a4 i hi).1
  exact ⟨cs, c1, c2, fun j hj => by
    have := hs i hi j hj
    dsimp only at c3 ⊢
    rw [c3 j hj, this]⟩
theorem BaseS.allocd {w w1 : World} {P : Pol} {o : Obj} (h : BaseS w P w1) : BaseS w P (w1.alloc o) := h.step ((Below.refl _ _).alloc (Nat.le_refl _) _)
theorem BaseS.drawn {w w1 : World} {P : Pol} (h : BaseS w P w1) : BaseS w P w1.drew := h.step (drewN_below _ 1)
/-- A variable's block, zero yet. -/
def BoxZ (w : World) (g : Nat) (w' : World) : Prop := w'.heap[g]? = some (.cells #[.slice none 0 0, .slice none 0 0, .slice none 0 0] 28 (0, 0)) ∧ w.heap.size + 2 ≤ g
theorem BoxZ.new {w w0 w' : World} {P : Pol} (h : BaseS w P w0) (b : Below (w0.alloc (.cells #[.slice none 0 0, .slice none 0 0, .slice none 0 0] 28)).heap.size (w0.alloc (.cells #[.slice none 0 0, .slice none 0 0, .slice none 0 0] 28)) w') : BoxZ w w0.heap.size w' :=
  ⟨(b.block _ (by simp)).trans (heap_alloc_new w0 _), h.2.2.2.2⟩
theorem BoxZ.newd {w w0 w' : World} {P : Pol} (h : BaseS w P w0) (b : Below (w0.alloc (.cells #[.slice none 0 0, .slice none 0 0, .slice none 0 0] 28)).drew.heap.size (w0.alloc (.cells #[.slice none 0 0, .slice none 0 0, .slice none 0 0] 28)).drew w') : BoxZ w w0.heap.size w' :=
  ⟨(b.block _ (by show w0.heap.size < (w0.alloc _).heap.size; simp)).trans (heap_alloc_new w0 _), h.2.2.2.2⟩
theorem BoxZ.below {w w1 w' : World} {g : Nat} (h : BoxZ w g w1) (b : Below w1.heap.size w1 w') : BoxZ w g w' := ⟨(b.block g (block_lt h.1)).trans h.1, h.2⟩
theorem BoxZ.facts {w w6 : World} {g : Nat} (h : BoxZ w g w6) (a b c : Value) : ∃ y0 y1 y2, (w6.cell? ⟨g, 0, none⟩ = some y0 ∧ w6.frozen? ⟨g, 0, none⟩ = false) ∧ ((w6.setCell ⟨g, 0, none⟩ a).cell? ⟨g, 1, none⟩ = some y1 ∧ (w6.setCell ⟨g, 0, none⟩ a).frozen? ⟨g, 1, none⟩ = false) ∧
    (((w6.setCell ⟨g, 0, none⟩ a).setCell ⟨g, 1, none⟩ b).cell? ⟨g, 2, none⟩ = some y2 ∧ ((w6.setCell ⟨g, 0, none⟩ a).setCell ⟨g, 1, none⟩ b).frozen? ⟨g, 2, none⟩ = false) := by
  obtain ⟨_, x0, y0⟩ := cell_at h.1 (k := 0) rfl (by simp)
  have q1 := heap_set_self (k := 0) h.1 a
  obtain ⟨_, x1, y1⟩ := cell_at q1 (k := 1) rfl (by simp)
  have q2 := heap_set_self (k := 1) q1 b
  obtain ⟨_, x2, y2⟩ := cell_at q2 (k := 2) rfl (by simp)
  exact ⟨_, _, _, ⟨x0, y0⟩, ⟨x1, y1⟩, x2, y2⟩
theorem facts3 {w6 : World} {g : Nat} {z0 z1 z2 : Value} (h : w6.heap[g]? = some (.cells #[z0, z1, z2] 28 (0, 0))) (a b c : Value) : (∃ y0 y1 y2, (w6.cell? ⟨g, 0, none⟩ = some y0 ∧ w6.frozen? ⟨g, 0, none⟩ = false) ∧ ((w6.setCell ⟨g, 0, none⟩ a).cell? ⟨g, 1, none⟩ = some y1 ∧ (w6.setCell ⟨g, 0, none⟩ a).frozen? ⟨g, 1, none⟩ = false) ∧
    (((w6.setCell ⟨g, 0, none⟩ a).setCell ⟨g, 1, none⟩ b).cell? ⟨g, 2, none⟩ = some y2 ∧ ((w6.setCell ⟨g, 0, none⟩ a).setCell ⟨g, 1, none⟩ b).frozen? ⟨g, 2, none⟩ = false)) ∧
    (((w6.setCell ⟨g, 0, none⟩ a).setCell ⟨g, 1, none⟩ b).setCell ⟨g, 2, none⟩ c).heap[g]? = some (.cells #[a, b, c] 28 (0, 0)) ∧
    ∀ B w, B ≤ g → Below B w w6 → Below B w (((w6.setCell ⟨g, 0, none⟩ a).setCell ⟨g, 1, none⟩ b).setCell ⟨g, 2, none⟩ c) := by
  obtain ⟨_, x0, y0⟩ := cell_at h (k := 0) rfl (by simp)
  have q1 := heap_set_self (k := 0) h a
  obtain ⟨_, x1, y1⟩ := cell_at q1 (k := 1) rfl (by simp)
  have q2 := heap_set_self (k := 1) q1 b
  obtain ⟨_, x2, y2⟩ := cell_at q2 (k := 2) rfl (by simp)
  exact ⟨⟨_, _, _, ⟨x0, y0⟩, ⟨x1, y1⟩, x2, y2⟩, heap_set_self (k := 2) q2 c, fun B w hB hb => ((hb.setCell (by exact hB) a).setCell (by exact hB) b).setCell (by exact hB) c⟩
theorem BaseS.set3 {w w6 : World} {P : Pol} {g : Nat} {a b c : Value} (hP : PolIn w P) (h : BaseS w P w6) (hz : BoxZ w g w6) : BaseS w P (((w6.setCell ⟨g, 0, none⟩ a).setCell ⟨g, 1, none⟩ b).setCell ⟨g, 2, none⟩ c) :=
  h.step2 hP ((((Below.refl _ w6).setCell (by exact hz.2) a).setCell (by exact hz.2) b).setCell (by exact hz.2) c)
theorem ScSt.new3 {w w6 : World} {P : Pol} {k gW cW gA cA g : Nat} (hP : PolIn w P) (h : BaseS w P w6) (hz : BoxZ w g w6) (hW : OwnB w6 gW P.nw 31 (fun j => fv (P.ws j))) (hA : OwnB w6 gA P.na 3 (fun j => iv (P.av j))) (h1 : w.heap.size + 2 ≤ gW) (h2 : w.heap.size + 2 ≤ gA) :
    ScSt w P k g 0 (((w6.setCell ⟨g, 0, none⟩ (.slice (some ⟨gW, 0, none⟩) P.nw cW)).setCell ⟨g, 1, none⟩ (.slice (some ⟨gA, 0, none⟩) P.na cA)).setCell ⟨g, 2, none⟩ (.slice none 0 0)) := by
  have hl1 := hW.lt
  have hl2 := hA.lt
  have hl3 := block_lt hz.1
  have hz2 := hz.2
  have q1 := heap_set_self (k := 0) hz.1 (.slice (some ⟨gW, 0, none⟩) P.nw cW)
  have q2 := heap_set_self (k := 1) q1 (.slice (some ⟨gA, 0, none⟩) P.na cA)
  have q3 := heap_set_self (k := 2) q2 (.slice none 0 0)
  have far : ∀ j, j ≠ g → (((w6.setCell ⟨g, 0, none⟩ (.slice (some ⟨gW, 0, none⟩) P.nw cW)).setCell ⟨g, 1, none⟩ (.slice (some ⟨gA, 0, none⟩) P.na cA)).setCell ⟨g, 2, none⟩ (.slice none 0 0)).heap[j]? = w6.heap[j]? := fun j hj =>
    (Below.heap_setCell _ _ _ _ hj).trans ((Below.heap_setCell _ _ _ _ hj).trans (Below.heap_setCell _ _ _ _ hj))
  exact ⟨h.set3 hP hz, gW, cW, gA, cA, .slice none 0 0, w6.heap.size, fun _ => 0, fun _ => 0, fun _ _ => 0, q3, by omega, hl3, by simp [World.setCell], hW.block (far _ (hW.ne hz.1 (by decide))), hA.block (far _ (hA.ne hz.1 (by decide))), World.ownsRow_nil _ _ _ _, fun i hi => absurd hi (Nat.not_lt_zero _), fun i i' _ hi => absurd hi (Nat.not_lt_zero _), ⟨h1, h2, hl1, hl2⟩, fun j e => by cases e⟩
set_option maxRecDepth 100000 in
set_option maxHeartbeats 8000000 in
theorem i_scalePolar (P : Pol) (k : Nat) (w : World) (hP : PolIn w P) :
    Calls Try.prog 24 #[.agg #[.slice P.W P.nw P.cw, .slice P.A P.na P.ca, .slice P.S P.ns P.cs], .float .f32 k] w fun e w' => ScTold w P k e w' := by
  obtain ⟨iR, hiR, zR0, zR1, zR2⟩ := info_parts Try.infoFS
  have HP := Lib.hid hP
  have HB0 := Lib.hid (BaseS.new hP)
  have hok := i_polarOk P _ HB0.out.2.2.2.1
  clear hP
  go_enter Try.func24, Try.ntmps24
  go_wp2_with fail
  refine hok.mono ?_
  rintro e w3 ⟨t, ht, rfl, b3⟩
  have HT := Lib.hid ht
  have HB3 := Lib.hid (HB0.out.step b3)
  clear ht b3 HB0 hok
  cases t
  · have F3 := Lib.hid (facts3 HB3.out.2.2.1 (.slice none 0 0) (.slice none 0 0) (.slice none 0 0))
    obtain ⟨_, _, _, ⟨x0, y0⟩, ⟨x1, y1⟩, x2, y2⟩ := F3.out.1
    go_wp2_with fail
    refine bodyPost_ret (res_cell_tmp (fn := Try.f24) (p := 4) (u := 5) (ty := 28) rfl _ _ (w.heap.size + 1) _ #[.slice none 0 0, .slice none 0 0, .slice none 0 0] (0, 0) _ rfl F3.out.2.1 Try.underlying28 rfl Try.infoP) rfl ?_
    exact ScTold.no (fun h => by have := HT.out.2 h.1; cases this) rfl (F3.out.2.2 _ _ (Nat.le_succ _) HB3.out.1)
  have HOK := Lib.hid (HT.out.1 rfl)
  clear HT
  have m0 : ∀ w', BaseS w P w' → w'.cell? ⟨w.heap.size, 0, none⟩ = some (.slice P.W P.nw P.cw) := fun w' h => h.d0
  have m1 : ∀ w', BaseS w P w' → w'.cell? ⟨w.heap.size, 1, none⟩ = some (.slice P.A P.na P.ca) := fun w' h => h.d1
  have hst := HB3.out
  go_upto_region 3 with fail
  go_cut [6] (fun s6 wx => ∃ gp, s6 = .pointer (some ⟨gp, 0, none⟩) ∧ ScSt w P k gp 0 wx)
  case first =>
    go_region_held3 (fun w' => BaseS w P w') (first | assumption | exact BaseS.drawn (by assumption) | exact BaseS.allocd (by assumption) | exact BaseS.step (by assumption) (by assumption) | exact BaseS.set3 HP.out (by assumption) (by assumption))
      (first
        | (go_at_call 55; with_reducible refine (cl_F HOK.out _ (by assumption)).mono ?_; rintro e w' ⟨gW, cW, rfl, hgW, oW, blW⟩; have hbsW := BaseS.step (P := P) (w := w) (by assumption) blW; (try have bz := BoxZ.new (by assumption) blW); (try have bz := BoxZ.newd (by assumption) blW); (try have bz := BoxZ.below (by assumption) blW))
        | (go_at_call 56; with_reducible refine (cl_I HOK.out _ (by assumption)).mono ?_; rintro e w' ⟨gA, cA, rfl, hgA, oA, blA⟩; have hbsA := BaseS.step (P := P) (w := w) (by assumption) blA; (try have bz := BoxZ.new (by assumption) blA); (try have bz := BoxZ.newd (by assumption) blA); (try have bz := BoxZ.below (by assumption) blA); (try (have F6 := BoxZ.facts (w := w) (w6 := w') (by assumption) (.slice (some ⟨gW, 0, none⟩) P.nw cW) (.slice (some ⟨gA, 0, none⟩) P.na cA) (.slice none 0 0); obtain ⟨_, _, _, ⟨x0, y0⟩, ⟨x1, y1⟩, x2, y2⟩ := F6))))
    all_goals (
      go_wp2_with fail
      go_meet
      first
        | exact ⟨_, rfl, ScSt.new hbsA (by first | exact oW.below blA | exact (oW.below ((Below.refl _ _).alloc (Nat.le_refl _) _)).below blA) oA hgW hgA⟩
        | exact ⟨_, rfl, ScSt.new3 HP.out hbsA (by assumption) (by first | exact oW.below blA | exact (oW.below ((Below.refl _ _).alloc (Nat.le_refl _) _)).below blA) oA hgW hgA⟩)
  case rest =>
  obtain ⟨gp, rfl, hs⟩ := hcut
  have HST := Lib.hid hs
  clear hs hst HB3 m0 m1
  obtain ⟨gS0, oS0, hSS, _⟩ := HP.out.2.2.1.1 (by have := HOK.out.1.1; have := HOK.out.2.2.1; omega)
  have HSS := Lib.hid hSS
  have m2 : ∀ w', BaseS w P w' → w'.cell? ⟨w.heap.size, 2, none⟩ = some (.slice (some ⟨gS0, oS0, none⟩) P.ns P.cs) := fun w' h => by rw [← HSS.out]; exact h.d2
  have k2 := m2 _ HST.out.1
  have hns : P.ns ≤ 12 := by have := HOK.out.1.1; have := HOK.out.2.2.1; omega
  have hns1 : 1 ≤ P.ns := by have := HOK.out.1.1; have := HOK.out.2.2.1; omega
  have hna := HOK.out.2.1.1
  clear hSS
  go_wp2_with fail
  go_loopw [23] (fun a wr => ∃ m : Nat, m ≤ P.ns ∧ a = .int .i64 m ∧ ScSt w P k gp m wr) (fun a _ => P.ns - (intOf a).toNat)
  case atStart => exact ⟨0, Nat.zero_le _, rfl, HST.out⟩
  case round =>
    clear HST k2
    obtain ⟨m, hm, rfl, hs⟩ := hrel
    have HST := Lib.hid hs
    obtain ⟨hbase, gW, cW, gA, cA, vS, T, b, c, s, hb, hgp, hT, hTs, hv⟩ := hs
    by_cases hlt : m < P.ns
    · have hlt1 : (m : Int) < (P.ns : Int) := by omega
      have hrn := (HOK.out.2.2.2 m hlt).1
      obtain ⟨gR, oR, hR, _⟩ := (HP.out.2.2.2 m hlt).1 (by rw [hrn]; omega)
      have kr : wr.cell? ⟨gS0, oS0 + m, none⟩ = some (.slice (some ⟨gR, oR, none⟩) P.na (P.rc m)) := by
        have := (hbase.2.2.2.1.2.2.1.1) (by omega)
        obtain ⟨g', o', e', h'⟩ := this
        rw [HSS.out] at e'
        cases e'
        have h2 := h' m hlt
        dsimp only at h2
        rw [hR, hrn] at h2
        exact h2
      have hrow : RowF wr.drew (some ⟨gR, oR, none⟩) P.na (P.sp m) := by
        have h2 := (hbase.drawn).2.2.2.1.2.2.2 m hlt
        rw [hR, hrn] at h2
        exact h2
      have HROW := Lib.hid hrow
      obtain ⟨AS, cS, rfl⟩ : ∃ A c, vS = .slice A m c := by
        obtain ⟨_, ⟨rfl, h0⟩ | ⟨g, c', cur, rfl, _⟩⟩ := hv.2.2.1
        · exact ⟨none, 0, by rw [h0]⟩
        · exact ⟨_, _, rfl⟩
      have k2 := cell_of_row wr _ 2 _ _ _ hb
      have HB := Lib.hid hb
      have HV := Lib.hid hv
      have HBASE := Lib.hid hbase
      clear hb hv hbase hR hrn hrow HST
      go_upto_region 7 with fail
      go_region_law (first
          | (refine step_append_lies _ rfl _ _ 26 rfl (w.heap.size + 2) 24 iR (.slice none 0 0) 1 24 Try.underlying26 hiR zR0 zR1 zR2 rfl (by decide) (.slice AS m cS) m ((List.range m).map fun i => .slice (some ⟨b i, 0, none⟩) P.na (c i)) rfl (HO5.out.alloc _) ⟨w5.heap.size, 0, none⟩ 1 1 [.slice (some ⟨g', 0, none⟩) P.na c'] rfl rfl (World.news_of_block (cs := #[.slice (some ⟨g', 0, none⟩) P.na c']) (t := 24) (fr := (0, 0)) (heap_alloc_new w5 _)) (by simp [Value.oneCell']) (by omega) (by unfold maxLen; omega) (by omega) (by simp; omega) _ rfl ?_; intro g7 c7 w7 hown7 hgrow hat hlt; have hb7 := box_far HB5.out (gr_alloc hgrow) (owns_ne HO5.out HB5.out (by decide)); obtain ⟨_, x7, f7⟩ := cell_at hb7 (k := 2) rfl (by simp))
          | (go_simp; go_at_call 57; refine (c_scaledRow (P.sp m) (some ⟨gR, oR, none⟩) P.na (P.rc m) k _ HROW.out (by omega)).mono ?_; rintro e w5 ⟨g', c', s', rfl, hg', hr', hm', bl⟩; have hsz5 : wr.heap.size ≤ w5.heap.size := bl.size; have hg5 : wr.heap.size ≤ g' := hg'; have HB5 := Lib.hid ((bl.block gp (show gp < wr.heap.size by omega)).trans HB.out); have HV5 := Lib.hid (HV.out.step (w' := w5) (fun j hj => bl.block j (show j < wr.heap.size by omega))); have HO5 := Lib.hid HV5.out.2.2.1; have HS5 := Lib.hid (HBASE.out.drawn.step bl); have HM5 := Lib.hid hm'; have HR5 := Lib.hid hr'; have k5 := cell_of_row w5 _ 2 _ _ _ HB5.out; have kA := (World.cell?_alloc_lt w5 (.cells #[.slice (some ⟨g', 0, none⟩) P.na c'] 24) ⟨gp, 2, none⟩ (World.block_lt_of_cell? w5 _ k5)).trans k5; clear hm' hr' bl hg'; have hbs5 : w.heap.size + 2 ≤ w5.heap.size := HS5.out.2.2.2.2))
      all_goals (
        have HST2 := Lib.hid (ScSt.add HP.out HS5.out HB5.out hgp hT (by omega) HV5.out HR5.out HM5.out (by omega) hgrow hown7 hlt)
        clear hb7 x7 f7 hown7 hgrow hat hlt HS5 HB5 HV5 HO5 HM5 HR5 k5 kA k2 kr HROW HB HV HBASE
        go_wp2_with fail
        go_roundw
        case rel => exact ⟨m + 1, by omega, by go_num, HST2.out⟩
        case measure => simp [intOf]; omega)
    · obtain rfl : m = P.ns := by omega
      have hlt1 : ¬ (P.ns : Int) < (P.ns : Int) := by omega
      obtain ⟨gS, cS, rfl⟩ : ∃ g c, vS = .slice (some ⟨g, 0, none⟩) P.ns c := by
        obtain ⟨_, ⟨_, h0⟩ | ⟨g, c', cur, rfl, _⟩⟩ := hv.2.2.1
        · omega
        · exact ⟨_, _, rfl⟩
      have k0 := cell_of_row wr _ 0 _ _ _ hb
      have k1 := cell_of_row wr _ 1 _ _ _ hb
      have k2 := cell_of_row wr _ 2 _ _ _ hb
      have hmul : ∀ i, i < P.ns → ∀ j, j < P.na → MulIs (P.sp i j) k (s i j) := fun i hi => (hv.2.2.2.1 i hi).2.1
      have HRQ := Lib.hid (rawQ_ok (gW := gW) (cW := cW) (gA := gA) (cA := cA) (gS := gS) (cS := cS) (b := b) (c := c) HOK.out hmul)
      have hok := i_polarOk (rawQ P gW cW gA cA gS cS b c s) wr (hv.raw HP.out HOK.out)
      have HV := Lib.hid hv
      have HBASE := Lib.hid hbase
      have HB := Lib.hid hb
      dsimp only [rawQ] at hok
      clear hb hv hbase HST hmul
      go_wp2_with fail
      refine hok.mono ?_
      rintro e w8 ⟨t, ht, rfl, b8⟩
      have HT := Lib.hid (ht.trans (show _ ↔ ScaleOk P k from HRQ.out.1))
      have HS8 := Lib.hid (HBASE.out.step b8)
      have hb8 := (b8.block gp (by omega)).trans HB.out
      have HV8 := Lib.hid (HV.out.step (w' := w8) (fun j hj => b8.block j (by omega)))
      have l0 := cell_of_row w8 _ 0 _ _ _ hb8
      have l1 := cell_of_row w8 _ 1 _ _ _ hb8
      have l2 := cell_of_row w8 _ 2 _ _ _ hb8
      clear hok ht b8 k0 k1 k2 HV HBASE HB hb8
      cases t
      · have F3 := Lib.hid (facts3 HS8.out.2.2.1 (.slice none 0 0) (.slice none 0 0) (.slice none 0 0))
        obtain ⟨_, _, _, ⟨x0, y0⟩, ⟨x1, y1⟩, x2, y2⟩ := F3.out.1
        go_wp2_with fail
        refine bodyPost_ret (res_cell_tmp (fn := Try.f24) (p := 4) (u := 5) (ty := 28) rfl _ _ (w.heap.size + 1) _ #[.slice none 0 0, .slice none 0 0, .slice none 0 0] (0, 0) _ rfl F3.out.2.1 Try.underlying28 rfl Try.infoP) rfl ?_
        exact ScTold.no (fun h => by have := HT.out.2 h; cases this) rfl (F3.out.2.2 _ _ (Nat.le_succ _) HS8.out.1)
      · have F3 := Lib.hid (facts3 HS8.out.2.2.1 (.slice (some ⟨gW, 0, none⟩) P.nw cW) (.slice (some ⟨gA, 0, none⟩) P.na cA) (.slice (some ⟨gS, 0, none⟩) P.ns cS))
        obtain ⟨_, _, _, ⟨x0, y0⟩, ⟨x1, y1⟩, x2, y2⟩ := F3.out.1
        have hsc := HT.out.1 rfl
        have hv8 := HV8.out
        have hsame : ∀ j, j ≠ w.heap.size + 1 → (((w8.setCell ⟨w.heap.size + 1, 0, none⟩ (.slice (some ⟨gW, 0, none⟩) P.nw cW)).setCell ⟨w.heap.size + 1, 1, none⟩ (.slice (some ⟨gA, 0, none⟩) P.na cA)).setCell ⟨w.heap.size + 1, 2, none⟩ (.slice (some ⟨gS, 0, none⟩) P.ns cS)).heap[j]? = w8.heap[j]? := fun j hj =>
          (Below.heap_setCell _ _ _ _ hj).trans ((Below.heap_setCell _ _ _ _ hj).trans (Below.heap_setCell _ _ _ _ hj))
        have hv9 := hv8.same (w.heap.size + 1) (fun j _ hj => hsame j hj) (by have := hv8.2.2.2.2.2.1; omega) (by have := hv8.2.2.2.2.2.1; omega) (fun e => by have := (hv8.2.2.1.lt _ e).1; omega) (fun i hi => by have := (hv8.2.2.2.1 i hi).2.2.1; have := hv8.2.2.2.2.2.1; omega)
        have HO := Lib.hid (hv9.own (cW := cW) (cA := cA) (HRQ.out.2 hsc) (by omega))
        have HSC := Lib.hid hsc
        clear hv8 hsame hv9 hsc HV8
        go_wp2_with fail
        refine bodyPost_ret (res_cell_tmp (fn := Try.f24) (p := 4) (u := 5) (ty := 28) rfl _ _ (w.heap.size + 1) _ #[.slice (some ⟨gW, 0, none⟩) P.nw cW, .slice (some ⟨gA, 0, none⟩) P.na cA, .slice (some ⟨gS, 0, none⟩) P.ns cS] (0, 0) _ rfl F3.out.2.1 Try.underlying28 rfl Try.infoP) rfl ?_
        obtain ⟨o1, o2, o3, o4, o5, o6, o7, o8⟩ := HO.out
        exact ⟨F3.out.2.2 _ _ (Nat.le_succ _) HS8.out.1, .inr ⟨HSC.out, gW, cW, gA, cA, gS, cS, b, c, rfl, o1, o2, o3, o4, o5, by omega, by omega, by omega⟩⟩
end Go.Proofs.Ytdhdefhllleeiaa

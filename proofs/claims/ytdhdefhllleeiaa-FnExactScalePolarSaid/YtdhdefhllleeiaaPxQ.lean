/- The walk of the exact law of ScalePolar. -/
import Derived.Test.YtdhdefhllleeiaaPcH
import Derived.Test.YtdhdefhllleeiaaPcE
import Derived.Test.YtdhdefhllleeiaaPxL
import Derived.Test.YtdhdefhllleeiaaPxO
import Derived.Deep.DeepCutAuto
namespace Go.Proofs.Ytdhdefhllleeiaa
open Go.RowKit Ieee
set_option linter.unusedSimpArgs false
set_option linter.unusedVariables false

/-- What a multiplied polar holds, as a function. -/
def GVal (P : Pol) (k : Nat) (t : Bool) (G : Pol) : Prop :=
  (ScaleOk P k ∧ t = true ∧ G.nw = P.nw ∧ G.ws = P.ws ∧ G.na = P.na ∧ G.av = P.av ∧ G.ns = P.ns ∧ G.rn = P.rn ∧ G.sp = fun i j => mulS (P.sp i j) k) ∨
  (¬ ScaleOk P k ∧ t = false ∧ G.nw = 0 ∧ G.ws = (fun _ => 0) ∧ G.na = 0 ∧ G.av = (fun _ => 0) ∧ G.ns = 0 ∧ G.rn = (fun _ => 0) ∧ G.sp = fun _ _ => 0)
theorem gval_fun {P : Pol} {k : Nat} {t t' : Bool} {G G' : Pol} (h : GVal P k t G) (h' : GVal P k t' G') : t = t' ∧ Same4 G G' := by
  rcases h with ⟨a0, a1, a2, a3, a4, a5, a6, a7, a8⟩ | ⟨a0, a1, a2, a3, a4, a5, a6, a7, a8⟩ <;> rcases h' with ⟨b0, b1, b2, b3, b4, b5, b6, b7, b8⟩ | ⟨b0, b1, b2, b3, b4, b5, b6, b7, b8⟩
  · exact ⟨a1.trans b1.symm, a2.trans b2.symm, a3.trans b3.symm, a4.trans b4.symm, a5.trans b5.symm, a6.trans b6.symm, a7.trans b7.symm, a8.trans b8.symm⟩
  · exact absurd a0 b0
  · exact absurd b0 a0
  · exact ⟨a1.trans b1.symm, a2.trans b2.symm, a3.trans b3.symm, a4.trans b4.symm, a5.trans b5.symm, a6.trans b6.symm, a7.trans b7.symm, a8.trans b8.symm⟩
theorem GVal.small {P : Pol} {k : Nat} {t : Bool} {G : Pol} (h : GVal P k t G) : (G.nw ≤ 100 ∧ G.na ≤ 100 ∧ G.ns ≤ 100 ∧ ∀ i, i < G.ns → G.rn i ≤ 100) ∧ Fine G := by
  rcases h with ⟨a0, a1, a2, a3, a4, a5, a6, a7, a8⟩ | ⟨a0, a1, a2, a3, a4, a5, a6, a7, a8⟩
  · obtain ⟨⟨⟨k1, k2, k3⟩, ⟨k4, k5, k6, k7⟩, k8, k9⟩, hm⟩ := a0
    have hr : ∀ i, i < G.ns → G.rn i = P.na := fun i hi => by rw [a7]; exact (k9 i (by omega)).1
    have hrn : ∀ i, i < G.ns → G.rn i ≤ 100 := fun i hi => by rw [hr i hi]; omega
    refine ⟨⟨by omega, by omega, by omega, hrn⟩, ⟨by omega, by omega, by omega, fun i hi => by have := hrn i hi; omega⟩, fun j hj => ?_, fun j hj => ?_, fun i hi j hj => ?_⟩
    · rw [a3]; exact (k2 j (by omega)).1.1
    · rw [a5]
      have h1 : P.av 0 ≤ P.av j := asc_le k7 (Nat.zero_le _) (by omega)
      have h2 : P.av j ≤ P.av (P.na - 1) := asc_le k7 (by omega) (by omega)
      omega
    · rw [a8]
      have hj' := hr i hi
      exact (hm i (by omega) j (by omega)).2.1
  · have hr : ∀ i, i < G.ns → False := fun i hi => by omega
    exact ⟨⟨by omega, by omega, by omega, fun i hi => (hr i hi).elim⟩, ⟨by omega, by omega, by omega, fun i hi => (hr i hi).elim⟩, fun j hj => by omega, fun j hj => by omega, fun i hi => (hr i hi).elim⟩
theorem sc_out {w : World} {P : Pol} {k : Nat} {e : Ending} {w' : World} (h : ScTold w P k e w') : ∃ t G gW gA gS b, e = .returned (.tuple #[.agg #[.slice G.W G.nw G.cw, .slice G.A G.na G.ca, .slice G.S G.ns G.cs], .bool t]) ∧ LaidC w.heap.size w'.heap.size w' G gW gA gS b ∧ GVal P k t G ∧ Below w.heap.size w w' := by
  obtain ⟨bl, ⟨hno, rfl⟩ | ⟨hyes, gW, cW, gA, cA, gS, cS, b, c, rfl, o1, o2, o3, o4, o5, o6, o7, o8⟩⟩ := h
  · exact ⟨false, ⟨none, 0, 0, fun _ => 0, none, 0, 0, fun _ => 0, none, 0, 0, fun _ => none, fun _ => 0, fun _ => 0, fun _ _ => 0⟩, 0, 0, 0, fun _ => 0, rfl, ⟨fun h => absurd h (Nat.lt_irrefl _), fun h => absurd h (Nat.lt_irrefl _), fun h => absurd h (Nat.lt_irrefl _), fun i hi => absurd hi (Nat.not_lt_zero _), fun i hi => absurd hi (Nat.not_lt_zero _), fun i i' _ hi => absurd hi (Nat.not_lt_zero _)⟩, .inr ⟨hno, rfl, rfl, rfl, rfl, rfl, rfl, rfl, rfl⟩, bl⟩
  · have hrn : ∀ i, i < P.ns → P.rn i = P.na := fun i hi => (hyes.1.2.2.2 i hi).1
    refine ⟨true, scQ P k gW cW gA cA gS cS b c, gW, gA, gS, b, rfl, ⟨fun _ => ⟨rfl, o6, o1.lt, o1⟩, fun _ => ⟨rfl, o7, o2.lt, o2⟩, fun _ => ⟨rfl, o8, o3.lt, ?_⟩, fun i hi _ => ⟨rfl, by have := (o4 i hi).2; omega, (o4 i hi).1.lt, ?_⟩, fun i hi _ _ => by have := (o4 i hi).2; omega, fun i i' hii hi' _ _ => by have := o5 i i' hii hi'; omega⟩, .inl ⟨hyes, rfl, rfl, rfl, rfl, rfl, rfl, rfl, rfl⟩, bl⟩
    · obtain ⟨cs, c1, c2, c3⟩ := o3
      exact ⟨cs, c1, c2, fun j hj => by rw [c3 j hj]; show some (Value.slice _ P.na _) = some (Value.slice _ (P.rn j) _); rw [hrn j hj]; rfl⟩
    · show OwnB w' (b i) (P.rn i) _ _
      rw [hrn i hi]; exact (o4 i hi).1
theorem OwnRow.ownB {w : World} {g n : Nat} {t : TypeId} {V : Nat → Value} (h : OwnRow w g n t V) : OwnB w g n t V := by
  obtain ⟨cs, c1, c2, c3⟩ := h
  exact ⟨cs, c1, by omega, c3⟩
theorem Made.laid {w w0 : World} {b : Nat} {Q : Pol} (h : Made w b Q) (hQ : PolIn w0 Q) : LaidC b (b + 3 + Q.ns) w (copyAt b Q) b (b + 1) (b + 2) (fun i => b + 3 + i) ∧ Fine (copyAt b Q) ∧ b + 3 + Q.ns ≤ w.heap.size := by
  obtain ⟨h1, h2, h3, h4⟩ := h
  refine ⟨⟨fun _ => ⟨rfl, by omega, by omega, h1.ownB⟩, fun _ => ⟨rfl, by omega, by omega, h2.ownB⟩, fun _ => ⟨rfl, by omega, by omega, h3.ownB⟩, fun i hi _ => ⟨rfl, (by show b ≤ b + 3 + i; omega), (by have : i < Q.ns := hi; show b + 3 + i < b + 3 + Q.ns; omega), (h4 i hi).ownB⟩, fun i hi _ _ => (by show b + 3 + i ≠ b; omega), fun i i' hii _ _ _ => (by show b + 3 + i ≠ b + 3 + i'; omega)⟩,
    ⟨⟨hQ.1.2.1, hQ.2.1.2.1, hQ.2.2.1.2, fun i hi => (hQ.2.2.2 i hi).2.1⟩, hQ.1.2.2, hQ.2.1.2.2, fun i hi => (hQ.2.2.2 i hi).2.2⟩, ?_⟩
  rcases Nat.eq_zero_or_pos Q.ns with h0 | h0
  · have := h3.lt; omega
  · have := (h4 (Q.ns - 1) (by omega)).lt; omega
/-- The cells of a polar's variable. -/
def BoxG (t : TypeId) (g : Nat) (G : Pol) (w : World) : Prop := w.heap[g]? = some (.cells #[.slice G.W G.nw G.cw, .slice G.A G.na G.ca, .slice G.S G.ns G.cs] t (0, 0))
theorem BoxG.d0 {t : TypeId} {g : Nat} {G : Pol} {w : World} (h : BoxG t g G w) : w.cell? ⟨g, 0, none⟩ = some (.slice G.W G.nw G.cw) := cell_of_row w _ 0 _ _ _ h
theorem BoxG.d1 {t : TypeId} {g : Nat} {G : Pol} {w : World} (h : BoxG t g G w) : w.cell? ⟨g, 1, none⟩ = some (.slice G.A G.na G.ca) := cell_of_row w _ 1 _ _ _ h
theorem BoxG.d2 {t : TypeId} {g : Nat} {G : Pol} {w : World} (h : BoxG t g G w) : w.cell? ⟨g, 2, none⟩ = some (.slice G.S G.ns G.cs) := cell_of_row w _ 2 _ _ _ h
theorem BoxG.step {t : TypeId} {g : Nat} {G : Pol} {w w' : World} (h : BoxG t g G w) (b : Below w.heap.size w w') : BoxG t g G w' := (b.block g (block_lt h)).trans h
theorem BoxG.touch {t : TypeId} {g lo hi : Nat} {G : Pol} {w w' : World} (h : BoxG t g G w) (k : Touch lo hi w w') (hg : ¬ (lo ≤ g ∧ g < hi)) : BoxG t g G w' := (k.2.2.2.2 g (block_lt h) hg).trans h
/-- What stands of the exact law of ScalePolar. -/
def XS (w : World) (Q G0 X X' G1 G1' : Pol) (g6 g8 g9 a0 a1 bb be c0 c1 : Nat) (gW0 gA0 gS0 : Nat) (b0 : Nat → Nat) (gW1 gA1 gS1 : Nat) (b1 : Nat → Nat) (wr : World) : Prop :=
  LawBox w Q wr ∧ BoxG 28 g6 G0 wr ∧ BoxG 28 g8 X wr ∧ BoxG 28 g9 G1 wr ∧ LaidC a0 a1 wr G0 gW0 gA0 gS0 b0 ∧ LaidC bb be wr X' bb (bb + 1) (bb + 2) (fun i => bb + 3 + i) ∧ LaidC c0 c1 wr G1' gW1 gA1 gS1 b1 ∧
    (w.heap.size < a0 ∧ a0 ≤ a1 ∧ a1 ≤ g6 ∧ g6 < bb ∧ bb ≤ be ∧ be ≤ g8 ∧ g8 < c0 ∧ c0 ≤ c1 ∧ c1 ≤ g9 ∧ g9 < wr.heap.size)
section
variable {w wr w' : World} {Q G0 X X' X'' G1 G1' G1'' : Pol} {g6 g8 g9 a0 a1 bb be c0 c1 gW0 gA0 gS0 : Nat} {b0 : Nat → Nat} {gW1 gA1 gS1 : Nat} {b1 : Nat → Nat}
theorem XS.step (h : XS w Q G0 X X' G1 G1' g6 g8 g9 a0 a1 bb be c0 c1 gW0 gA0 gS0 b0 gW1 gA1 gS1 b1 wr) (b : Below wr.heap.size wr w') : XS w Q G0 X X' G1 G1' g6 g8 g9 a0 a1 bb be c0 c1 gW0 gA0 gS0 b0 gW1 gA1 gS1 b1 w' := by
  obtain ⟨h1, h2, h3, h4, h5, h6, h7, h8⟩ := h
  have hs := b.size
  exact ⟨h1.step b, h2.step b, h3.step b, h4.step b, h5.same fun j _ _ hj => b.block j hj, h6.same fun j _ _ hj => b.block j hj, h7.same fun j _ _ hj => b.block j hj, by omega⟩
theorem XS.markX (h : XS w Q G0 X X' G1 G1' g6 g8 g9 a0 a1 bb be c0 c1 gW0 gA0 gS0 b0 gW1 gA1 gS1 b1 wr) (k : Touch bb be wr w') (hl : LaidC bb be w' X'' bb (bb + 1) (bb + 2) (fun i => bb + 3 + i)) : XS w Q G0 X X'' G1 G1' g6 g8 g9 a0 a1 bb be c0 c1 gW0 gA0 gS0 b0 gW1 gA1 gS1 b1 w' := by
  obtain ⟨h1, h2, h3, h4, h5, h6, h7, h8⟩ := h
  have hs := k.2.2.2.1
  exact ⟨⟨(k.2.2.2.2 _ h1.lt (by omega)).trans h1.1, k.below h1.2 (by omega) (Nat.le_refl _)⟩, h2.touch k (by omega), h3.touch k (by omega), h4.touch k (by omega), h5.same fun j l1 l2 hj => k.2.2.2.2 j hj (by omega), hl, h7.same fun j l1 l2 hj => k.2.2.2.2 j hj (by omega), by omega⟩
theorem XS.markG (h : XS w Q G0 X X' G1 G1' g6 g8 g9 a0 a1 bb be c0 c1 gW0 gA0 gS0 b0 gW1 gA1 gS1 b1 wr) (k : Touch c0 c1 wr w') (hl : LaidC c0 c1 w' G1'' gW1 gA1 gS1 b1) : XS w Q G0 X X' G1 G1'' g6 g8 g9 a0 a1 bb be c0 c1 gW0 gA0 gS0 b0 gW1 gA1 gS1 b1 w' := by
  obtain ⟨h1, h2, h3, h4, h5, h6, h7, h8⟩ := h
  have hs := k.2.2.2.1
  exact ⟨⟨(k.2.2.2.2 _ h1.lt (by omega)).trans h1.1, k.below h1.2 (by omega) (Nat.le_refl _)⟩, h2.touch k (by omega), h3.touch k (by omega), h4.touch k (by omega), h5.same fun j l1 l2 hj => k.2.2.2.2 j hj (by omega), h6.same fun j l1 l2 hj => k.2.2.2.2 j hj (by omega), hl, by omega⟩
end
section
variable {w wr w' : World} {Q G0 G1 G1' : Pol} {g6 g8 g9 a0 a1 bb be c0 c1 gW0 gA0 gS0 : Nat} {b0 : Nat → Nat} {gW1 gA1 gS1 : Nat} {b1 : Nat → Nat}
theorem x_toP (w' : World) (h : XS w Q G0 (copyAt bb Q) (copyAt bb Q) G1 G1' g6 g8 g9 a0 a1 bb be c0 c1 gW0 gA0 gS0 b0 gW1 gA1 gS1 b1 w') (hI : PolIn w Q) :
    Calls Try.prog 27 #[.agg #[.slice Q.W Q.nw Q.cw, .slice Q.A Q.na Q.ca, .slice Q.S Q.ns Q.cs]] w' fun e w'' => ∃ b, e = .returned (.agg #[.slice (some ⟨b, 0, none⟩) Q.nw Q.nw, .slice (some ⟨b + 1, 0, none⟩) Q.na Q.na, .slice (some ⟨b + 2, 0, none⟩) Q.ns Q.ns]) ∧ Made w'' b Q ∧ Below w'.heap.size w' w'' :=
  (l_toP Q w' (hI.keeps h.1.keeps)).mono fun e w'' ⟨b, _, h1, h2, h3⟩ => ⟨b, h1, h2, h3⟩
theorem x_eqP (w' : World) (b' : Nat) (h : XS w Q G0 (copyAt bb Q) (copyAt bb Q) G1 G1' g6 g8 g9 a0 a1 bb be c0 c1 gW0 gA0 gS0 b0 gW1 gA1 gS1 b1 w') (m : Made w' b' Q) (hI : PolIn w Q) (hF : Fine (copyAt bb Q)) :
    Calls Try.prog 29 #[.agg #[.slice (some ⟨bb, 0, none⟩) Q.nw Q.nw, .slice (some ⟨bb + 1, 0, none⟩) Q.na Q.na, .slice (some ⟨bb + 2, 0, none⟩) Q.ns Q.ns], .agg #[.slice (some ⟨b', 0, none⟩) Q.nw Q.nw, .slice (some ⟨b' + 1, 0, none⟩) Q.na Q.na, .slice (some ⟨b' + 2, 0, none⟩) Q.ns Q.ns]] w' fun e w'' => e = .returned (.bool true) ∧ Below w'.heap.size w' w'' :=
  l_eqP (copyAt bb Q) (copyAt b' Q) w' (h.2.2.2.2.2.1.polIn hF) (m.polIn hI) (copy_same bb b' Q)
end
set_option maxRecDepth 100000 in
set_option maxHeartbeats 8000000 in
theorem w_FnExactScalePolar (Q : Pol) (k : Nat) (w : World) (h : RawIn w Q) (hx : (Lit.float .f32 k).wf = true) :
    Calls Try.prog 12 #[.agg #[.slice Q.W Q.nw Q.cw, .slice Q.A Q.na Q.ca, .slice Q.S Q.ns Q.cs], .float .f32 k] w fun e w' => e = .returned (.bool true) ∧ Below w.heap.size w w' := by
  have HRAW := Lib.hid h
  clear h hx
  have HB0 := Lib.hid (LawBox.new w Q)
  go_enter Try.func12, Try.ntmps12
  go_wp2_with fail
  have k0 := HB0.out.keeps
  with_reducible refine (l_szP Q _ (HRAW.out.keeps k0)).mono ?_
  rintro e w1 ⟨r, hr, rfl, b1⟩
  have HB1 := Lib.hid (HB0.out.step b1)
  have p0 := HB1.out.c0
  have p1 := HB1.out.c1
  have p2 := HB1.out.c2
  clear b1 k0
  rcases hr with rfl | ⟨r0, r1, hsm⟩
  · go_wp2
    go_ret
    exact ⟨rfl, HB1.out.2⟩
  have HI := Lib.hid (HRAW.out.small hsm)
  have r2 : ¬ r < 0 := by omega
  clear hsm
  go_wp2_with fail
  have k1 := HB1.out.keeps
  with_reducible refine (l_toP Q _ (HI.out.keeps k1)).mono ?_
  rintro e w2 ⟨b, hb, rfl, mk, b2⟩
  have HB2 := Lib.hid (HB1.out.step b2)
  have hok := s_scalePolar (copyAt b Q) k w2 (mk.polIn HI.out)
  dsimp only [copyAt] at hok
  clear p0 p1 p2 hb b2 k1
  go_wp2_with fail
  refine hok.mono ?_
  rintro e w3 ht
  obtain ⟨t, G0, gW0, gA0, gS0, b0, rfl, hL0, hV0, b3⟩ := sc_out (P := copyAt b Q) ht
  have HV0 := Lib.hid hV0
  have HB3 := Lib.hid (HB2.out.step b3)
  have sz23 := b3.size
  have HL0 := Lib.hid hL0
  have slt := HB2.out.lt
  have A3 := Lib.hid ((Below.refl _ w3).alloc (Nat.le_refl _) (.cells #[.slice G0.W G0.nw G0.cw, .slice G0.A G0.na G0.ca, .slice G0.S G0.ns G0.cs] 28))
  have HB3a := Lib.hid (HB3.out.step A3.out)
  have HX6 := Lib.hid (show BoxG 28 w3.heap.size G0 (w3.alloc (.cells #[.slice G0.W G0.nw G0.cw, .slice G0.A G0.na G0.ca, .slice G0.S G0.ns G0.cs] 28)) from heap_alloc_new _ _)
  have sz3 : (w3.alloc (.cells #[.slice G0.W G0.nw G0.cw, .slice G0.A G0.na G0.ca, .slice G0.S G0.ns G0.cs] 28)).heap.size = w3.heap.size + 1 := by simp
  have HL0a := Lib.hid (HL0.out.same fun j _ _ hj => A3.out.block j hj)
  have p0 := HB3a.out.c0
  have p1 := HB3a.out.c1
  have p2 := HB3a.out.c2
  have k3 := HB3a.out.keeps
  clear hok ht hL0 hV0 b3 mk HB3 HL0 A3
  go_wp2_with fail
  with_reducible refine (l_toP Q _ (HI.out.keeps k3)).mono ?_
  rintro e w4 ⟨bb, hbb, rfl, mk, b4⟩
  obtain ⟨hLx, hFx, hbe⟩ := mk.laid HI.out
  have HMK := Lib.hid mk
  have HFX := Lib.hid hFx
  have HLX := Lib.hid hLx
  have HB4 := Lib.hid (HB3a.out.step b4)
  have HX64 := Lib.hid (HX6.out.step b4)
  have HL04 := Lib.hid (HL0a.out.same fun j _ _ hj => b4.block j hj)
  have A4 := Lib.hid ((Below.refl _ w4).alloc (Nat.le_refl _) (.cells #[.slice (some ⟨bb, 0, none⟩) Q.nw Q.nw, .slice (some ⟨bb + 1, 0, none⟩) Q.na Q.na, .slice (some ⟨bb + 2, 0, none⟩) Q.ns Q.ns] 28))
  have sz4 : (w4.alloc (.cells #[.slice (some ⟨bb, 0, none⟩) Q.nw Q.nw, .slice (some ⟨bb + 1, 0, none⟩) Q.na Q.na, .slice (some ⟨bb + 2, 0, none⟩) Q.ns Q.ns] 28)).heap.size = w4.heap.size + 1 := by simp
  have hok := i_scalePolar (copyAt bb Q) k (w4.alloc (.cells #[.slice (some ⟨bb, 0, none⟩) Q.nw Q.nw, .slice (some ⟨bb + 1, 0, none⟩) Q.na Q.na, .slice (some ⟨bb + 2, 0, none⟩) Q.ns Q.ns] 28)) ((mk.below A4.out).polIn HI.out)
  dsimp only [copyAt] at hok
  clear p0 p1 p2 k3 mk hLx hFx HB3a HX6 HL0a b4
  go_wp2_with fail
  refine hok.mono ?_
  rintro e w5 ht'
  obtain ⟨t', G1, gW1, gA1, gS1, b1, rfl, hL1, hV1, b5⟩ := sc_out (P := copyAt bb Q) ht'
  have hV1' : GVal (copyAt b Q) k t' G1 := hV1
  obtain ⟨htt, hsame⟩ := gval_fun hV1' HV0.out
  subst htt
  have HSM := Lib.hid hsame
  have HV1 := Lib.hid hV1'
  have A5 := Lib.hid ((A4.out.trans (b5.mono A4.out.size)).trans (((Below.refl w5.heap.size w5).alloc (Nat.le_refl _) (.cells #[.slice G1.W G1.nw G1.cw, .slice G1.A G1.na G1.ca, .slice G1.S G1.ns G1.cs] 28)).mono (Nat.le_trans A4.out.size b5.size)))
  have AA5 := Lib.hid ((Below.refl w5.heap.size w5).alloc (Nat.le_refl _) (.cells #[.slice G1.W G1.nw G1.cw, .slice G1.A G1.na G1.ca, .slice G1.S G1.ns G1.cs] 28))
  have sz5 : (w5.alloc (.cells #[.slice G1.W G1.nw G1.cw, .slice G1.A G1.na G1.ca, .slice G1.S G1.ns G1.cs] 28)).heap.size = w5.heap.size + 1 := by simp
  have sz45 := b5.size
  have hX8 : BoxG 28 w4.heap.size (copyAt bb Q) (w4.alloc (.cells #[.slice (some ⟨bb, 0, none⟩) Q.nw Q.nw, .slice (some ⟨bb + 1, 0, none⟩) Q.na Q.na, .slice (some ⟨bb + 2, 0, none⟩) Q.ns Q.ns] 28)) := heap_alloc_new _ _
  have HXS := Lib.hid (show XS w Q G0 (copyAt bb Q) (copyAt bb Q) G1 G1 w3.heap.size w4.heap.size w5.heap.size w2.heap.size w3.heap.size bb (bb + 3 + Q.ns) (w4.heap.size + 1) w5.heap.size gW0 gA0 gS0 b0 gW1 gA1 gS1 b1 (w5.alloc (.cells #[.slice G1.W G1.nw G1.cw, .slice G1.A G1.na G1.ca, .slice G1.S G1.ns G1.cs] 28)) from
    ⟨HB4.out.step A5.out, HX64.out.step A5.out, (hX8.step b5).step AA5.out, heap_alloc_new _ _, HL04.out.same fun j _ _ hj => A5.out.block j hj, HLX.out.same fun j _ _ hj => A5.out.block j hj, by
      rw [← sz4]
      exact hL1.same fun j _ _ hj => AA5.out.block j hj, by omega⟩)
  clear hok ht' hL1 hV1 hV1' hsame b5 A4 A5 AA5 hX8 HB4 HX64 HL04 HLX HMK HB0 HB1 HB2 HRAW
  generalize w3.heap.size = g6 at *
  generalize w4.heap.size = g8 at *
  generalize w2.heap.size = a0 at *
  generalize hce : g8 + 1 = ce at *
  generalize hbe2 : bb + 3 + Q.ns = be at *
  clear sz3 sz4 sz5 sz23 sz45 slt hbb hbe hce hbe2
  have p0 := HXS.out.1.c0
  have p1 := HXS.out.1.c1
  have p2 := HXS.out.1.c2
  have e0 := HXS.out.2.1.d0
  have e1 := HXS.out.2.1.d1
  have e2 := HXS.out.2.1.d2
  have x0 := HXS.out.2.2.1.d0
  have x1 := HXS.out.2.2.1.d1
  have x2 := HXS.out.2.2.1.d2
  have y0 := HXS.out.2.2.2.1.d0
  have y1 := HXS.out.2.2.2.1.d1
  have y2 := HXS.out.2.2.2.1.d2
  have hEq1 := Lib.hid (fun w' X1 (h : XS w Q G0 (copyAt bb Q) X1 G1 G1 g6 g8 w5.heap.size a0 g6 bb be ce w5.heap.size gW0 gA0 gS0 b0 gW1 gA1 gS1 b1 w') => l_eqP G1 G0 w' (h.2.2.2.2.2.2.1.polIn HV1.out.small.2) (h.2.2.2.2.1.polIn HV0.out.small.2) HSM.out)
  go_wp2_with fail
  refine (hEq1.out _ _ HXS.out).mono ?_
  rintro e w6 ⟨rfl, b6⟩
  have HX6 := Lib.hid (HXS.out.step b6)
  clear p0 p1 p2 e0 e1 e2 x0 x1 x2 y0 y1 y2
  clear b6 HXS
  cases t'
  all_goals (
    go_upto_region 10 with fail
    have m0 : ∀ w', XS w Q G0 (copyAt bb Q) (copyAt bb Q) G1 G1 g6 g8 w5.heap.size a0 g6 bb be ce w5.heap.size gW0 gA0 gS0 b0 gW1 gA1 gS1 b1 w' → w'.cell? ⟨w.heap.size, 0, none⟩ = some (.slice Q.W Q.nw Q.cw) := fun w' h => h.1.c0
    have m1 : ∀ w', XS w Q G0 (copyAt bb Q) (copyAt bb Q) G1 G1 g6 g8 w5.heap.size a0 g6 bb be ce w5.heap.size gW0 gA0 gS0 b0 gW1 gA1 gS1 b1 w' → w'.cell? ⟨w.heap.size, 1, none⟩ = some (.slice Q.A Q.na Q.ca) := fun w' h => h.1.c1
    have m2 : ∀ w', XS w Q G0 (copyAt bb Q) (copyAt bb Q) G1 G1 g6 g8 w5.heap.size a0 g6 bb be ce w5.heap.size gW0 gA0 gS0 b0 gW1 gA1 gS1 b1 w' → w'.cell? ⟨w.heap.size, 2, none⟩ = some (.slice Q.S Q.ns Q.cs) := fun w' h => h.1.c2
    have m3 : ∀ w', XS w Q G0 (copyAt bb Q) (copyAt bb Q) G1 G1 g6 g8 w5.heap.size a0 g6 bb be ce w5.heap.size gW0 gA0 gS0 b0 gW1 gA1 gS1 b1 w' → w'.cell? ⟨g8, 0, none⟩ = some (.slice (some ⟨bb, 0, none⟩) Q.nw Q.nw) := fun w' h => h.2.2.1.d0
    have m4 : ∀ w', XS w Q G0 (copyAt bb Q) (copyAt bb Q) G1 G1 g6 g8 w5.heap.size a0 g6 bb be ce w5.heap.size gW0 gA0 gS0 b0 gW1 gA1 gS1 b1 w' → w'.cell? ⟨g8, 1, none⟩ = some (.slice (some ⟨bb + 1, 0, none⟩) Q.na Q.na) := fun w' h => h.2.2.1.d1
    have m5 : ∀ w', XS w Q G0 (copyAt bb Q) (copyAt bb Q) G1 G1 g6 g8 w5.heap.size a0 g6 bb be ce w5.heap.size gW0 gA0 gS0 b0 gW1 gA1 gS1 b1 w' → w'.cell? ⟨g8, 2, none⟩ = some (.slice (some ⟨bb + 2, 0, none⟩) Q.ns Q.ns) := fun w' h => h.2.2.1.d2
    have hst := HX6.out
    go_cut [49] (fun s49 wx => s49 = .bool false ∧ XS w Q G0 (copyAt bb Q) (copyAt bb Q) G1 G1 g6 g8 w5.heap.size a0 g6 bb be ce w5.heap.size gW0 gA0 gS0 b0 gW1 gA1 gS1 b1 wx)
    case first =>
      go_region_held3 (fun w' => XS w Q G0 (copyAt bb Q) (copyAt bb Q) G1 G1 g6 g8 w5.heap.size a0 g6 bb be ce w5.heap.size gW0 gA0 gS0 b0 gW1 gA1 gS1 b1 w') (first | assumption | exact XS.step (by assumption) (drewN_below _ 1) | exact XS.step (by assumption) (by assumption))
        (first
          | (go_at_call 27; with_reducible refine (x_toP _ (by assumption) HI.out).mono ?_; rintro e w' ⟨b', rfl, mk', bl⟩)
          | (go_at_call 29; with_reducible refine (x_eqP _ _ (by assumption) (by first | assumption | exact Made.below (by assumption) (drewN_below _ 1)) HI.out HFX.out).mono ?_; rintro e w' ⟨rfl, bl'⟩))
      all_goals (go_wp2_with fail; go_meet; exact ⟨rfl, by first | assumption | exact XS.step (by assumption) (by assumption)⟩)
    case rest =>
    clear m0 m1 m2 m3 m4 m5 hst
    obtain ⟨rfl, hcut⟩ := hcut
    have HX7 := Lib.hid hcut
    clear hcut HX6
    have p0 := HX7.out.1.c0
    have p1 := HX7.out.1.c1
    have p2 := HX7.out.1.c2
    have e0 := HX7.out.2.1.d0
    have e1 := HX7.out.2.1.d1
    have e2 := HX7.out.2.1.d2
    have x0 := HX7.out.2.2.1.d0
    have x1 := HX7.out.2.2.1.d1
    have x2 := HX7.out.2.2.1.d2
    have y0 := HX7.out.2.2.2.1.d0
    have y1 := HX7.out.2.2.2.1.d1
    have y2 := HX7.out.2.2.2.1.d2
    have hmk : Calls Try.prog 36 #[.agg #[.slice (some ⟨bb, 0, none⟩) Q.nw Q.nw, .slice (some ⟨bb + 1, 0, none⟩) Q.na Q.na, .slice (some ⟨bb + 2, 0, none⟩) Q.ns Q.ns], .int .i64 1] wc fun e w' => ∃ K : Int, 0 ≤ K ∧ e = .returned (.int .i64 K) ∧ XS w Q G0 (copyAt bb Q) (markG (copyAt bb Q) 1) G1 G1 g6 g8 w5.heap.size a0 g6 bb be ce w5.heap.size gW0 gA0 gS0 b0 gW1 gA1 gS1 b1 w' :=
      (m_Polar (copyAt bb Q) 1 bb be bb (bb + 1) (bb + 2) (fun i => bb + 3 + i) wc HX7.out.2.2.2.2.2.1 HFX.out (by omega) (by omega) (by have := HX7.out.2.2.2.2.2.2.2; omega)).mono fun e w' ⟨h1, h2, h3⟩ => ⟨_, (by omega), h1, HX7.out.markX h3 h2⟩
    go_wp2_with fail
    refine hmk.mono ?_
    rintro e w8 ⟨K, hK, rfl, hX⟩
    have HX8 := Lib.hid hX
    have hK0 : ¬ K < 0 := by omega
    clear hmk hX HX7 p0 p1 p2 e0 e1 e2 x0 x1 x2 y0 y1 y2
    have p0 := HX8.out.1.c0
    have p1 := HX8.out.1.c1
    have p2 := HX8.out.1.c2
    have e0 := HX8.out.2.1.d0
    have e1 := HX8.out.2.1.d1
    have e2 := HX8.out.2.1.d2
    have x0 := HX8.out.2.2.1.d0
    have x1 := HX8.out.2.2.1.d1
    have x2 := HX8.out.2.2.1.d2
    have y0 := HX8.out.2.2.2.1.d0
    have y1 := HX8.out.2.2.2.1.d1
    have y2 := HX8.out.2.2.2.1.d2
    go_wp2_with fail
    refine (hEq1.out _ _ HX8.out).mono ?_
    rintro e w9 ⟨rfl, b9⟩
    have HX9 := Lib.hid (HX8.out.step b9)
    obtain ⟨M, hM0, hMe⟩ : ∃ M : Int, 0 ≤ M ∧ 1 + (G1.nw : Int) + G1.na + sumTo G1.rn G1.ns = M := ⟨_, by omega, rfl⟩
    have hM1 : ¬ M < 0 := by omega
    have hmg : Calls Try.prog 36 #[.agg #[.slice G1.W G1.nw G1.cw, .slice G1.A G1.na G1.ca, .slice G1.S G1.ns G1.cs], .int .i64 1] w9 fun e w' => e = .returned (.int .i64 M) ∧ XS w Q G0 (copyAt bb Q) (markG (copyAt bb Q) 1) G1 (markG G1 1) g6 g8 w5.heap.size a0 g6 bb be ce w5.heap.size gW0 gA0 gS0 b0 gW1 gA1 gS1 b1 w' :=
      (m_Polar G1 1 ce w5.heap.size gW1 gA1 gS1 b1 w9 HX9.out.2.2.2.2.2.2.1 HV1.out.small.2 (by omega) (by omega) (by have := HX9.out.2.2.2.2.2.2.2; omega)).mono fun e w' ⟨h1, h2, h3⟩ => ⟨by rw [h1, hMe], HX9.out.markG h3 h2⟩
    have hheld := Lib.hid (fun w' (h : XS w Q G0 (copyAt bb Q) (markG (copyAt bb Q) 1) G1 (markG G1 1) g6 g8 w5.heap.size a0 g6 bb be ce w5.heap.size gW0 gA0 gS0 b0 gW1 gA1 gS1 b1 w') => show Calls Try.prog 37 #[.agg #[.slice G1.W G1.nw G1.cw, .slice G1.A G1.na G1.ca, .slice G1.S G1.ns G1.cs], .int .i64 1] w' fun e w'' => e = .returned (.int .i64 M) ∧ XS w Q G0 (copyAt bb Q) (markG (copyAt bb Q) 1) G1 (markG G1 1) g6 g8 w5.heap.size a0 g6 bb be ce w5.heap.size gW0 gA0 gS0 b0 gW1 gA1 gS1 b1 w'' from
      (h_Polar G1 1 ce w5.heap.size gW1 gA1 gS1 b1 w' h.2.2.2.2.2.2.1 HV1.out.small.1.1 HV1.out.small.1.2.1 HV1.out.small.1.2.2.1 HV1.out.small.1.2.2.2 (by omega) (by omega)).mono fun e w'' ⟨h1, h2⟩ => ⟨by rw [h1, hMe], h.step h2⟩)
    clear b9 HX8 hMe p0 p1 p2 e0 e1 e2 x0 x1 x2 y0 y1 y2
    have p0 := HX9.out.1.c0
    have p1 := HX9.out.1.c1
    have p2 := HX9.out.1.c2
    have e0 := HX9.out.2.1.d0
    have e1 := HX9.out.2.1.d1
    have e2 := HX9.out.2.1.d2
    have x0 := HX9.out.2.2.1.d0
    have x1 := HX9.out.2.2.1.d1
    have x2 := HX9.out.2.2.1.d2
    have y0 := HX9.out.2.2.2.1.d0
    have y1 := HX9.out.2.2.2.1.d1
    have y2 := HX9.out.2.2.2.1.d2
    go_wp2_with fail
    refine hmg.mono ?_
    rintro e w10 ⟨rfl, hX⟩
    have HX10 := Lib.hid hX
    clear hmg hX HX9 p0 p1 p2 e0 e1 e2 x0 x1 x2 y0 y1 y2
    have p0 := HX10.out.1.c0
    have p1 := HX10.out.1.c1
    have p2 := HX10.out.1.c2
    have e0 := HX10.out.2.1.d0
    have e1 := HX10.out.2.1.d1
    have e2 := HX10.out.2.1.d2
    have x0 := HX10.out.2.2.1.d0
    have x1 := HX10.out.2.2.1.d1
    have x2 := HX10.out.2.2.1.d2
    have y0 := HX10.out.2.2.2.1.d0
    have y1 := HX10.out.2.2.2.1.d1
    have y2 := HX10.out.2.2.2.1.d2
    go_wp2_with fail
    refine (hheld.out _ HX10.out).mono ?_
    rintro e w11 ⟨rfl, hX⟩
    have HX11 := Lib.hid hX
    clear hX HX10 p0 p1 p2 e0 e1 e2 x0 x1 x2 y0 y1 y2
    have p0 := HX11.out.1.c0
    have p1 := HX11.out.1.c1
    have p2 := HX11.out.1.c2
    have e0 := HX11.out.2.1.d0
    have e1 := HX11.out.2.1.d1
    have e2 := HX11.out.2.1.d2
    have x0 := HX11.out.2.2.1.d0
    have x1 := HX11.out.2.2.1.d1
    have x2 := HX11.out.2.2.1.d2
    have y0 := HX11.out.2.2.2.1.d0
    have y1 := HX11.out.2.2.2.1.d1
    have y2 := HX11.out.2.2.2.1.d2
    have k11 := HX11.out.1.keeps
    go_wp2_with fail
    with_reducible refine (l_toP Q _ (HI.out.keeps k11)).mono ?_
    rintro e w12 ⟨b2, _, rfl, mk2, b12⟩
    have HX12 := Lib.hid (HX11.out.step b12)
    have hok := i_scalePolar (copyAt b2 Q) k w12 (mk2.polIn HI.out)
    dsimp only [copyAt] at hok
    clear b12 HX11 k11 mk2 p0 p1 p2 e0 e1 e2 x0 x1 x2 y0 y1 y2
    go_wp2_with fail
    refine hok.mono ?_
    rintro e w13 ht2
    obtain ⟨t2, G2, gW2, gA2, gS2, bx2, rfl, hL2, hV2, b13⟩ := sc_out (P := copyAt b2 Q) ht2
    have hV2' : GVal (copyAt b Q) k t2 G2 := hV2
    obtain ⟨htt2, hsame2⟩ := gval_fun hV2' HV0.out
    subst htt2
    have A13 := Lib.hid ((Below.refl w13.heap.size w13).alloc (Nat.le_refl _) (.cells #[.slice G2.W G2.nw G2.cw, .slice G2.A G2.na G2.ca, .slice G2.S G2.ns G2.cs] 28))
    have HX13 := Lib.hid ((HX12.out.step b13).step A13.out)
    have hEq2 := l_eqP G2 G0 _ ((hL2.same fun j _ _ hj => A13.out.block j hj).polIn hV2'.small.2) (HX13.out.2.2.2.2.1.polIn HV0.out.small.2) hsame2
    clear hok ht2 hL2 hV2 hV2' hsame2 b13 HX12 A13
    have p0 := HX13.out.1.c0
    have p1 := HX13.out.1.c1
    have p2 := HX13.out.1.c2
    have e0 := HX13.out.2.1.d0
    have e1 := HX13.out.2.1.d1
    have e2 := HX13.out.2.1.d2
    have x0 := HX13.out.2.2.1.d0
    have x1 := HX13.out.2.2.1.d1
    have x2 := HX13.out.2.2.1.d2
    have y0 := HX13.out.2.2.2.1.d0
    have y1 := HX13.out.2.2.2.1.d1
    have y2 := HX13.out.2.2.2.1.d2
    go_wp2_with fail
    refine hEq2.mono ?_
    rintro e w14 ⟨rfl, b14⟩
    have HX14 := Lib.hid (HX13.out.step b14)
    clear hEq2 b14 HX13 p0 p1 p2 e0 e1 e2 x0 x1 x2 y0 y1 y2
    have p0 := HX14.out.1.c0
    have p1 := HX14.out.1.c1
    have p2 := HX14.out.1.c2
    have e0 := HX14.out.2.1.d0
    have e1 := HX14.out.2.1.d1
    have e2 := HX14.out.2.1.d2
    have x0 := HX14.out.2.2.1.d0
    have x1 := HX14.out.2.2.1.d1
    have x2 := HX14.out.2.2.1.d2
    have y0 := HX14.out.2.2.2.1.d0
    have y1 := HX14.out.2.2.2.1.d1
    have y2 := HX14.out.2.2.2.1.d2
    go_wp2_with fail
    refine (hheld.out _ HX14.out).mono ?_
    rintro e w15 ⟨rfl, hX⟩
    have HX15 := Lib.hid hX.1.2
    clear hX HX14 p0 p1 p2 e0 e1 e2 x0 x1 x2 y0 y1 y2 hheld hEq1
    go_wp2
    go_ret
    exact ⟨rfl, HX15.out⟩)
end Go.Proofs.Ytdhdefhllleeiaa

/- The walks of the exact laws of chapter 4: PolarOk. -/
import Derived.Test.YtdhdefhllleeiaaPxT
import Derived.Test.YtdhdefhllleeiaaPsB
namespace Go.Proofs.Ytdhdefhllleeiaa
open Go.RowKit Ieee
set_option linter.unusedSimpArgs false
set_option linter.unusedVariables false

/-- What stands of an exact law: the polar that came in, and the copy x0 in its variable. -/
def ExSt (w : World) (Q : Pol) (g b : Nat) (w' : World) : Prop :=
  LawBox w Q w' ∧ w'.heap[g]? = some (.cells #[.slice (some ⟨b, 0, none⟩) Q.nw Q.nw, .slice (some ⟨b + 1, 0, none⟩) Q.na Q.na, .slice (some ⟨b + 2, 0, none⟩) Q.ns Q.ns] 28 (0, 0)) ∧ Made w' b Q ∧ w.heap.size ≤ g
theorem ExSt.new {w w4 : World} {Q : Pol} {b : Nat} (h : LawBox w Q w4) (m : Made w4 b Q) : ExSt w Q w4.heap.size b (w4.alloc (.cells #[.slice (some ⟨b, 0, none⟩) Q.nw Q.nw, .slice (some ⟨b + 1, 0, none⟩) Q.na Q.na, .slice (some ⟨b + 2, 0, none⟩) Q.ns Q.ns] 28)) :=
  ⟨h.step ((Below.refl _ _).alloc (Nat.le_refl _) _), heap_alloc_new w4 _, m.below ((Below.refl _ _).alloc (Nat.le_refl _) _), h.2.size⟩
theorem ExSt.step {w w1 w2 : World} {Q : Pol} {g b : Nat} (h : ExSt w Q g b w1) (k : Below w1.heap.size w1 w2) : ExSt w Q g b w2 := by
  have hlt : g < w1.heap.size := by
    rcases Nat.lt_or_ge g w1.heap.size with h' | h'
    · exact h'
    · have := h.2.1; rw [Array.getElem?_eq_none h'] at this; cases this
  exact ⟨h.1.step k, (k.block _ hlt).trans h.2.1, h.2.2.1.below k, h.2.2.2⟩
theorem ExSt.drawn {w w1 w2 : World} {Q : Pol} {g b : Nat} (h : ExSt w Q g b w1) (d : Drawn w1 w2) : ExSt w Q g b w2 := by
  obtain ⟨n, rfl⟩ := d
  exact h.step (drewN_below _ _)
theorem ExSt.below {w w' : World} {Q : Pol} {g b : Nat} (h : ExSt w Q g b w') : Below w.heap.size w w' := h.1.2
theorem ExSt.d0 {w w' : World} {Q : Pol} {g b : Nat} (h : ExSt w Q g b w') : w'.cell? ⟨g, 0, none⟩ = some (.slice (some ⟨b, 0, none⟩) Q.nw Q.nw) := cell_of_row w' _ 0 _ _ _ h.2.1
theorem ExSt.d1 {w w' : World} {Q : Pol} {g b : Nat} (h : ExSt w Q g b w') : w'.cell? ⟨g, 1, none⟩ = some (.slice (some ⟨b + 1, 0, none⟩) Q.na Q.na) := cell_of_row w' _ 1 _ _ _ h.2.1
theorem ExSt.d2 {w w' : World} {Q : Pol} {g b : Nat} (h : ExSt w Q g b w') : w'.cell? ⟨g, 2, none⟩ = some (.slice (some ⟨b + 2, 0, none⟩) Q.ns Q.ns) := cell_of_row w' _ 2 _ _ _ h.2.1
theorem l_to2 {w : World} {Q : Pol} {g b : Nat} (w' : World) (h : ExSt w Q g b w') (hI : PolIn w Q) :
    Calls Try.prog 27 #[.agg #[.slice Q.W Q.nw Q.cw, .slice Q.A Q.na Q.ca, .slice Q.S Q.ns Q.cs]] w' fun e w'' => ∃ b, e = .returned (.agg #[.slice (some ⟨b, 0, none⟩) Q.nw Q.nw, .slice (some ⟨b + 1, 0, none⟩) Q.na Q.na, .slice (some ⟨b + 2, 0, none⟩) Q.ns Q.ns]) ∧ Made w'' b Q ∧ Below w'.heap.size w' w'' :=
  (l_toP Q w' (hI.keeps h.1.keeps)).mono fun e w'' ⟨b, _, h1, h2, h3⟩ => ⟨b, h1, h2, h3⟩
theorem l_eq2 {w : World} {Q : Pol} {g b : Nat} (w' : World) (b' : Nat) (h : ExSt w Q g b w') (m : Made w' b' Q) (hI : PolIn w Q) :
    Calls Try.prog 29 #[.agg #[.slice (some ⟨b, 0, none⟩) Q.nw Q.nw, .slice (some ⟨b + 1, 0, none⟩) Q.na Q.na, .slice (some ⟨b + 2, 0, none⟩) Q.ns Q.ns], .agg #[.slice (some ⟨b', 0, none⟩) Q.nw Q.nw, .slice (some ⟨b' + 1, 0, none⟩) Q.na Q.na, .slice (some ⟨b' + 2, 0, none⟩) Q.ns Q.ns]] w' fun e w'' => e = .returned (.bool true) ∧ Below w'.heap.size w' w'' :=
  l_eqP (copyAt b Q) (copyAt b' Q) w' (h.2.2.1.polIn hI) (m.polIn hI) (copy_same b b' Q)
set_option maxRecDepth 100000 in
set_option maxHeartbeats 2000000 in
theorem w_FnExactPolarOk (Q : Pol) (w : World) (h : RawIn w Q) :
    Calls Try.prog 6 #[.agg #[.slice Q.W Q.nw Q.cw, .slice Q.A Q.na Q.ca, .slice Q.S Q.ns Q.cs]] w fun e w' => e = .returned (.bool true) ∧ Below w.heap.size w w' := by
  have HRAW := Lib.hid h
  clear h
  have HB0 := Lib.hid (LawBox.new w Q)
  go_enter Try.func6, Try.ntmps6
  go_wp2_with fail
  have k0 := HB0.out.keeps
  with_reducible refine (l_szP Q _ (HRAW.out.keeps k0)).mono ?_
  rintro e w1 ⟨r, hr, rfl, b1⟩
  have HB1 := Lib.hid (HB0.out.step b1)
  have c0 := HB1.out.c0
  have c1 := HB1.out.c1
  have c2 := HB1.out.c2
  clear b1 k0
  rcases hr with rfl | ⟨r0, r1, hsm⟩
  · go_wp2
    go_ret
    exact ⟨rfl, HB1.out.2⟩
  have HI := Lib.hid (HRAW.out.small hsm)
  have r2 : ¬ r < 0 := by omega
  clear hsm
  go_wp2_with fail
  have k1 := HB1.out.keeps
  with_reducible refine (l_toP Q _ (HI.out.keeps k1)).mono ?_
  rintro e w2 ⟨b, hb, rfl, mk, b2⟩
  have HB2 := Lib.hid (HB1.out.step b2)
  have hok := s_polarOk (copyAt b Q) w2 (mk.polIn HI.out)
  dsimp only [copyAt] at hok
  clear c0 c1 c2 hb b2 k1
  go_wp2_with fail
  refine hok.mono ?_
  rintro e w3 ⟨t, ht, rfl, b3⟩
  have HT := Lib.hid ht
  have HB3 := Lib.hid (HB2.out.step b3)
  have c0 := HB3.out.c0
  have c1 := HB3.out.c1
  have c2 := HB3.out.c2
  have k3 := HB3.out.keeps
  clear hok ht b3 mk
  go_wp2_with fail
  with_reducible refine (l_toP Q _ (HI.out.keeps k3)).mono ?_
  rintro e w4 ⟨bb, hbb, rfl, mk, b4⟩
  have HX := Lib.hid (ExSt.new (HB3.out.step b4) mk)
  have hok := i_polarOk (copyAt bb Q) (w4.alloc (.cells #[.slice (some ⟨bb, 0, none⟩) Q.nw Q.nw, .slice (some ⟨bb + 1, 0, none⟩) Q.na Q.na, .slice (some ⟨bb + 2, 0, none⟩) Q.ns Q.ns] 28)) (HX.out.2.2.1.polIn HI.out)
  dsimp only [copyAt] at hok
  clear c0 c1 c2 k3 hbb b4 mk
  go_wp2_with fail
  generalize w4.heap.size = g at *
  refine hok.mono ?_
  rintro e w5 ⟨t', ht', rfl, b5⟩
  have htt : t' = t := by
    have h1 := ht'.trans HT.out.symm
    cases t <;> cases t' <;> simp at h1 ⊢
  subst htt
  have hX := HX.out.step b5
  clear hok ht' b5 HX
  have m0 : ∀ w', ExSt w Q g bb w' → w'.cell? ⟨w.heap.size, 0, none⟩ = some (.slice Q.W Q.nw Q.cw) := fun w' h => h.1.c0
  have m1 : ∀ w', ExSt w Q g bb w' → w'.cell? ⟨w.heap.size, 1, none⟩ = some (.slice Q.A Q.na Q.ca) := fun w' h => h.1.c1
  have m2 : ∀ w', ExSt w Q g bb w' → w'.cell? ⟨w.heap.size, 2, none⟩ = some (.slice Q.S Q.ns Q.cs) := fun w' h => h.1.c2
  have m3 : ∀ w', ExSt w Q g bb w' → w'.cell? ⟨g, 0, none⟩ = some (.slice (some ⟨bb, 0, none⟩) Q.nw Q.nw) := fun w' h => h.d0
  have m4 : ∀ w', ExSt w Q g bb w' → w'.cell? ⟨g, 1, none⟩ = some (.slice (some ⟨bb + 1, 0, none⟩) Q.na Q.na) := fun w' h => h.d1
  have m5 : ∀ w', ExSt w Q g bb w' → w'.cell? ⟨g, 2, none⟩ = some (.slice (some ⟨bb + 2, 0, none⟩) Q.ns Q.ns) := fun w' h => h.d2
  go_wp2
  go_region_held3 (fun w' => ExSt w Q g bb w') (first | assumption | exact ExSt.drawn (by assumption) (Drawn.one _ 1) | exact ExSt.step (by assumption) (by assumption))
    (first
      | (go_at_call 27; with_reducible refine (l_to2 _ (by assumption) HI.out).mono ?_; rintro e w' ⟨b', rfl, mk', bl⟩)
      | (go_at_call 29; with_reducible refine (l_eq2 _ _ (by assumption) (by first | assumption | exact Made.below (by assumption) (drewN_below _ 1)) HI.out).mono ?_; rintro e w' ⟨rfl, bl'⟩))
  all_goals go_wp2
  all_goals go_ret
  all_goals exact ⟨rfl, by first | exact ExSt.below (by assumption) | assumption⟩
end Go.Proofs.Ytdhdefhllleeiaa

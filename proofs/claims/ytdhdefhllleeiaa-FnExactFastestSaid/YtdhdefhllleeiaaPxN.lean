/- The walks of the exact laws of chapter 4: BestUp, BestDown, Fastest. -/
import Derived.Test.YtdhdefhllleeiaaPxM
namespace Go.Proofs.Ytdhdefhllleeiaa
open Go.RowKit Ieee
set_option linter.unusedSimpArgs false
set_option linter.unusedVariables false

set_option maxRecDepth 100000 in
set_option maxHeartbeats 2000000 in
theorem w_FnExactBestUp (Q : Pol) (x : Nat) (w : World) (h : RawIn w Q) (hx : (Lit.float .f32 x).wf = true) :
    Calls Try.prog 9 #[.agg #[.slice Q.W Q.nw Q.cw, .slice Q.A Q.na Q.ca, .slice Q.S Q.ns Q.cs], .float .f32 x] w fun e w' => e = .returned (.bool true) ∧ Below w.heap.size w w' := by
  have HRAW := Lib.hid h
  have HX0 := Lib.hid (f32_wf hx)
  clear h hx
  have HB0 := Lib.hid (LawBox.new w Q)
  go_enter Try.func9, Try.ntmps9
  go_wp2_with fail
  have k0 := HB0.out.keeps
  with_reducible refine (l_szP Q _ (HRAW.out.keeps k0)).mono ?_
  rintro e w1 ⟨r, hr, rfl, b1⟩
  have HB1 := Lib.hid (HB0.out.step b1)
  have c0 := HB1.out.c0
  have c1 := HB1.out.c1
  have c2 := HB1.out.c2
  clear b1 k0
  rcases hr with rfl | ⟨r0, r1, hsm⟩
  · go_wp2
    go_ret
    exact ⟨rfl, HB1.out.2⟩
  have HI := Lib.hid (HRAW.out.small hsm)
  have r2 : ¬ r < 0 := by omega
  clear hsm
  go_wp2_with fail
  have k1 := HB1.out.keeps
  with_reducible refine (l_toP Q _ (HI.out.keeps k1)).mono ?_
  rintro e w2 ⟨b, hb, rfl, mk, b2⟩
  have HB2 := Lib.hid (HB1.out.step b2)
  have hok := s_BestUp (copyAt b Q) x w2 (mk.polIn HI.out) HX0.out
  dsimp only [copyAt] at hok
  clear c0 c1 c2 hb b2 k1
  go_wp2_with fail
  refine hok.mono ?_
  rintro e w3 ht
  obtain ⟨rs, t, HO, rfl, b3⟩ := best_out ht
  have HT := Lib.hid HO
  have HB3 := Lib.hid (HB2.out.step b3)
  have c0 := HB3.out.c0
  have c1 := HB3.out.c1
  have c2 := HB3.out.c2
  have k3 := HB3.out.keeps
  clear hok ht HO b3 mk
  go_wp2_with fail
  with_reducible refine (l_toP Q _ (HI.out.keeps k3)).mono ?_
  rintro e w4 ⟨bb, hbb, rfl, mk, b4⟩
  have HX := Lib.hid (ExSt.new (HB3.out.step b4) mk)
  have hok := i_BestUp (copyAt bb Q) x (w4.alloc (.cells #[.slice (some ⟨bb, 0, none⟩) Q.nw Q.nw, .slice (some ⟨bb + 1, 0, none⟩) Q.na Q.na, .slice (some ⟨bb + 2, 0, none⟩) Q.ns Q.ns] 28)) (HX.out.2.2.1.polIn HI.out) HX0.out
  dsimp only [copyAt] at hok
  clear c0 c1 c2 k3 hbb b4 mk
  go_wp2_with fail
  generalize w4.heap.size = g at *
  refine hok.mono ?_
  rintro e w5 ht'
  obtain ⟨rs', t', HO', rfl, b5⟩ := best_out ht'
  obtain ⟨hrr, htt⟩ := outb_fun HO' HT.out
  subst hrr htt
  have hX := HX.out.step b5
  clear hok ht' HO' b5 HX HT
  have m0 : ∀ w', ExSt w Q g bb w' → w'.cell? ⟨w.heap.size, 0, none⟩ = some (.slice Q.W Q.nw Q.cw) := fun w' h => h.1.c0
  have m1 : ∀ w', ExSt w Q g bb w' → w'.cell? ⟨w.heap.size, 1, none⟩ = some (.slice Q.A Q.na Q.ca) := fun w' h => h.1.c1
  have m2 : ∀ w', ExSt w Q g bb w' → w'.cell? ⟨w.heap.size, 2, none⟩ = some (.slice Q.S Q.ns Q.cs) := fun w' h => h.1.c2
  have m3 : ∀ w', ExSt w Q g bb w' → w'.cell? ⟨g, 0, none⟩ = some (.slice (some ⟨bb, 0, none⟩) Q.nw Q.nw) := fun w' h => h.d0
  have m4 : ∀ w', ExSt w Q g bb w' → w'.cell? ⟨g, 1, none⟩ = some (.slice (some ⟨bb + 1, 0, none⟩) Q.na Q.na) := fun w' h => h.d1
  have m5 : ∀ w', ExSt w Q g bb w' → w'.cell? ⟨g, 2, none⟩ = some (.slice (some ⟨bb + 2, 0, none⟩) Q.ns Q.ns) := fun w' h => h.d2
  cases t'
  all_goals go_wp2
  all_goals go_region_held3 (fun w' => ExSt w Q g bb w') (first | assumption | exact ExSt.drawn (by assumption) (Drawn.one _ 1) | exact ExSt.step (by assumption) (by assumption))
    (first
      | (go_at_call 27; with_reducible refine (l_to2 _ (by assumption) HI.out).mono ?_; rintro e w' ⟨b', rfl, mk', bl⟩)
      | (go_at_call 29; with_reducible refine (l_eq2 _ _ (by assumption) (by first | assumption | exact Made.below (by assumption) (drewN_below _ 1)) HI.out).mono ?_; rintro e w' ⟨rfl, bl'⟩))
  all_goals go_wp2
  all_goals go_ret
  all_goals exact ⟨rfl, by first | exact ExSt.below (by assumption) | assumption⟩
set_option maxRecDepth 100000 in
set_option maxHeartbeats 2000000 in
theorem w_FnExactBestDown (Q : Pol) (x : Nat) (w : World) (h : RawIn w Q) (hx : (Lit.float .f32 x).wf = true) :
    Calls Try.prog 10 #[.agg #[.slice Q.W Q.nw Q.cw, .slice Q.A Q.na Q.ca, .slice Q.S Q.ns Q.cs], .float .f32 x] w fun e w' => e = .returned (.bool true) ∧ Below w.heap.size w w' := by
  have HRAW := Lib.hid h
  have HX0 := Lib.hid (f32_wf hx)
  clear h hx
  have HB0 := Lib.hid (LawBox.new w Q)
  go_enter Try.func10, Try.ntmps10
  go_wp2_with fail
  have k0 := HB0.out.keeps
  with_reducible refine (l_szP Q _ (HRAW.out.keeps k0)).mono ?_
  rintro e w1 ⟨r, hr, rfl, b1⟩
  have HB1 := Lib.hid (HB0.out.step b1)
  have c0 := HB1.out.c0
  have c1 := HB1.out.c1
  have c2 := HB1.out.c2
  clear b1 k0
  rcases hr with rfl | ⟨r0, r1, hsm⟩
  · go_wp2
    go_ret
    exact ⟨rfl, HB1.out.2⟩
  have HI := Lib.hid (HRAW.out.small hsm)
  have r2 : ¬ r < 0 := by omega
  clear hsm
  go_wp2_with fail
  have k1 := HB1.out.keeps
  with_reducible refine (l_toP Q _ (HI.out.keeps k1)).mono ?_
  rintro e w2 ⟨b, hb, rfl, mk, b2⟩
  have HB2 := Lib.hid (HB1.out.step b2)
  have hok := s_BestDown (copyAt b Q) x w2 (mk.polIn HI.out) HX0.out
  dsimp only [copyAt] at hok
  clear c0 c1 c2 hb b2 k1
  go_wp2_with fail
  refine hok.mono ?_
  rintro e w3 ht
  obtain ⟨rs, t, HO, rfl, b3⟩ := best_out ht
  have HT := Lib.hid HO
  have HB3 := Lib.hid (HB2.out.step b3)
  have c0 := HB3.out.c0
  have c1 := HB3.out.c1
  have c2 := HB3.out.c2
  have k3 := HB3.out.keeps
  clear hok ht HO b3 mk
  go_wp2_with fail
  with_reducible refine (l_toP Q _ (HI.out.keeps k3)).mono ?_
  rintro e w4 ⟨bb, hbb, rfl, mk, b4⟩
  have HX := Lib.hid (ExSt.new (HB3.out.step b4) mk)
  have hok := i_BestDown (copyAt bb Q) x (w4.alloc (.cells #[.slice (some ⟨bb, 0, none⟩) Q.nw Q.nw, .slice (some ⟨bb + 1, 0, none⟩) Q.na Q.na, .slice (some ⟨bb + 2, 0, none⟩) Q.ns Q.ns] 28)) (HX.out.2.2.1.polIn HI.out) HX0.out
  dsimp only [copyAt] at hok
  clear c0 c1 c2 k3 hbb b4 mk
  go_wp2_with fail
  generalize w4.heap.size = g at *
  refine hok.mono ?_
  rintro e w5 ht'
  obtain ⟨rs', t', HO', rfl, b5⟩ := best_out ht'
  obtain ⟨hrr, htt⟩ := outb_fun HO' HT.out
  subst hrr htt
  have hX := HX.out.step b5
  clear hok ht' HO' b5 HX HT
  have m0 : ∀ w', ExSt w Q g bb w' → w'.cell? ⟨w.heap.size, 0, none⟩ = some (.slice Q.W Q.nw Q.cw) := fun w' h => h.1.c0
  have m1 : ∀ w', ExSt w Q g bb w' → w'.cell? ⟨w.heap.size, 1, none⟩ = some (.slice Q.A Q.na Q.ca) := fun w' h => h.1.c1
  have m2 : ∀ w', ExSt w Q g bb w' → w'.cell? ⟨w.heap.size, 2, none⟩ = some (.slice Q.S Q.ns Q.cs) := fun w' h => h.1.c2
  have m3 : ∀ w', ExSt w Q g bb w' → w'.cell? ⟨g, 0, none⟩ = some (.slice (some ⟨bb, 0, none⟩) Q.nw Q.nw) := fun w' h => h.d0
  have m4 : ∀ w', ExSt w Q g bb w' → w'.cell? ⟨g, 1, none⟩ = some (.slice (some ⟨bb + 1, 0, none⟩) Q.na Q.na) := fun w' h => h.d1
  have m5 : ∀ w', ExSt w Q g bb w' → w'.cell? ⟨g, 2, none⟩ = some (.slice (some ⟨bb + 2, 0, none⟩) Q.ns Q.ns) := fun w' h => h.d2
  cases t'
  all_goals go_wp2
  all_goals go_region_held3 (fun w' => ExSt w Q g bb w') (first | assumption | exact ExSt.drawn (by assumption) (Drawn.one _ 1) | exact ExSt.step (by assumption) (by assumption))
    (first
      | (go_at_call 27; with_reducible refine (l_to2 _ (by assumption) HI.out).mono ?_; rintro e w' ⟨b', rfl, mk', bl⟩)
      | (go_at_call 29; with_reducible refine (l_eq2 _ _ (by assumption) (by first | assumption | exact Made.below (by assumption) (drewN_below _ 1)) HI.out).mono ?_; rintro e w' ⟨rfl, bl'⟩))
  all_goals go_wp2
  all_goals go_ret
  all_goals exact ⟨rfl, by first | exact ExSt.below (by assumption) | assumption⟩
set_option maxRecDepth 100000 in
set_option maxHeartbeats 2000000 in
theorem w_FnExactFastest (Q : Pol) (x : Nat) (w : World) (h : RawIn w Q) (hx : (Lit.float .f32 x).wf = true) :
    Calls Try.prog 11 #[.agg #[.slice Q.W Q.nw Q.cw, .slice Q.A Q.na Q.ca, .slice Q.S Q.ns Q.cs], .float .f32 x] w fun e w' => e = .returned (.bool true) ∧ Below w.heap.size w w' := by
  have HRAW := Lib.hid h
  have HX0 := Lib.hid (f32_wf hx)
  clear h hx
  have HB0 := Lib.hid (LawBox.new w Q)
  go_enter Try.func11, Try.ntmps11
  go_wp2_with fail
  have k0 := HB0.out.keeps
  with_reducible refine (l_szP Q _ (HRAW.out.keeps k0)).mono ?_
  rintro e w1 ⟨r, hr, rfl, b1⟩
  have HB1 := Lib.hid (HB0.out.step b1)
  have c0 := HB1.out.c0
  have c1 := HB1.out.c1
  have c2 := HB1.out.c2
  clear b1 k0
  rcases hr with rfl | ⟨r0, r1, hsm⟩
  · go_wp2
    go_ret
    exact ⟨rfl, HB1.out.2⟩
  have HI := Lib.hid (HRAW.out.small hsm)
  have r2 : ¬ r < 0 := by omega
  clear hsm
  go_wp2_with fail
  have k1 := HB1.out.keeps
  with_reducible refine (l_toP Q _ (HI.out.keeps k1)).mono ?_
  rintro e w2 ⟨b, hb, rfl, mk, b2⟩
  have HB2 := Lib.hid (HB1.out.step b2)
  have hok := s_Fastest (copyAt b Q) x w2 (mk.polIn HI.out) HX0.out
  dsimp only [copyAt] at hok
  clear c0 c1 c2 hb b2 k1
  go_wp2_with fail
  refine hok.mono ?_
  rintro e w3 ht
  obtain ⟨rs, t, HO, rfl, b3⟩ := best_out ht
  have HT := Lib.hid HO
  have HB3 := Lib.hid (HB2.out.step b3)
  have c0 := HB3.out.c0
  have c1 := HB3.out.c1
  have c2 := HB3.out.c2
  have k3 := HB3.out.keeps
  clear hok ht HO b3 mk
  go_wp2_with fail
  with_reducible refine (l_toP Q _ (HI.out.keeps k3)).mono ?_
  rintro e w4 ⟨bb, hbb, rfl, mk, b4⟩
  have HX := Lib.hid (ExSt.new (HB3.out.step b4) mk)
  have hok := i_Fastest (copyAt bb Q) x (w4.alloc (.cells #[.slice (some ⟨bb, 0, none⟩) Q.nw Q.nw, .slice (some ⟨bb + 1, 0, none⟩) Q.na Q.na, .slice (some ⟨bb + 2, 0, none⟩) Q.ns Q.ns] 28)) (HX.out.2.2.1.polIn HI.out) HX0.out
  dsimp only [copyAt] at hok
  clear c0 c1 c2 k3 hbb b4 mk
  go_wp2_with fail
  generalize w4.heap.size = g at *
  refine hok.mono ?_
  rintro e w5 ht'
  obtain ⟨rs', t', HO', rfl, b5⟩ := best_out ht'
  obtain ⟨hrr, htt⟩ := outb_fun HO' HT.out
  subst hrr htt
  have hX := HX.out.step b5
  clear hok ht' HO' b5 HX HT
  have m0 : ∀ w', ExSt w Q g bb w' → w'.cell? ⟨w.heap.size, 0, none⟩ = some (.slice Q.W Q.nw Q.cw) := fun w' h => h.1.c0
  have m1 : ∀ w', ExSt w Q g bb w' → w'.cell? ⟨w.heap.size, 1, none⟩ = some (.slice Q.A Q.na Q.ca) := fun w' h => h.1.c1
  have m2 : ∀ w', ExSt w Q g bb w' → w'.cell? ⟨w.heap.size, 2, none⟩ = some (.slice Q.S Q.ns Q.cs) := fun w' h => h.1.c2
  have m3 : ∀ w', ExSt w Q g bb w' → w'.cell? ⟨g, 0, none⟩ = some (.slice (some ⟨bb, 0, none⟩) Q.nw Q.nw) := fun w' h => h.d0
  have m4 : ∀ w', ExSt w Q g bb w' → w'.cell? ⟨g, 1, none⟩ = some (.slice (some ⟨bb + 1, 0, none⟩) Q.na Q.na) := fun w' h => h.d1
  have m5 : ∀ w', ExSt w Q g bb w' → w'.cell? ⟨g, 2, none⟩ = some (.slice (some ⟨bb + 2, 0, none⟩) Q.ns Q.ns) := fun w' h => h.d2
  cases t'
  all_goals go_wp2
  all_goals go_region_held3 (fun w' => ExSt w Q g bb w') (first | assumption | exact ExSt.drawn (by assumption) (Drawn.one _ 1) | exact ExSt.step (by assumption) (by assumption))
    (first
      | (go_at_call 27; with_reducible refine (l_to2 _ (by assumption) HI.out).mono ?_; rintro e w' ⟨b', rfl, mk', bl⟩)
      | (go_at_call 29; with_reducible refine (l_eq2 _ _ (by assumption) (by first | assumption | exact Made.below (by assumption) (drewN_below _ 1)) HI.out).mono ?_; rintro e w' ⟨rfl, bl'⟩))
  all_goals go_wp2
  all_goals go_ret
  all_goals exact ⟨rfl, by first | exact ExSt.below (by assumption) | assumption⟩
end Go.Proofs.Ytdhdefhllleeiaa

/- The walks of the exact laws of chapter 4: SpeedAt, MadeUp. -/
import Derived.Test.YtdhdefhllleeiaaPxL
import Derived.Test.YtdhdefhllleeiaaPxO
import Derived.Test.YtdhdefhllleeiaaPoC
namespace Go.Proofs.Ytdhdefhllleeiaa
open Go.RowKit Ieee
set_option linter.unusedSimpArgs false
set_option linter.unusedVariables false

/-- What a told speed is, as a function. -/
def OutF (v : Prop) (r r' : Nat) (t : Bool) : Prop := (v ∧ r' = r ∧ t = true) ∨ (¬ v ∧ r' = 0 ∧ t = false)
theorem told_out {v : Prop} {r : Nat} {w : World} {e : Ending} {w' : World} (h : Told v r w e w') : ∃ r' t, OutF v r r' t ∧ e = .returned (.tuple #[.float .f32 r', .bool t]) ∧ Below w.heap.size w w' := by
  obtain ⟨b, ⟨hv, he⟩ | ⟨hv, he⟩⟩ := h
  · exact ⟨r, true, .inl ⟨hv, rfl, rfl⟩, he, b⟩
  · exact ⟨0, false, .inr ⟨hv, rfl, rfl⟩, he, b⟩
theorem out_fun {v : Prop} {r a b : Nat} {t u : Bool} (h : OutF v r a t) (k : OutF v r b u) : a = b ∧ t = u := by
  rcases h with ⟨h0, h1, h2⟩ | ⟨h0, h1, h2⟩ <;> rcases k with ⟨k0, k1, k2⟩ | ⟨k0, k1, k2⟩
  · exact ⟨h1.trans k1.symm, h2.trans k2.symm⟩
  · exact absurd h0 k0
  · exact absurd k0 h0
  · exact ⟨h1.trans k1.symm, h2.trans k2.symm⟩
theorem out_wide {v : Prop} {r a : Nat} {t : Bool} (h : OutF v r a t) (hr : v → r < 4294967296 ∧ S.isNum r) : ∃ y, floatToFloatBits .f32 a .f64 = some y := by
  rcases h with ⟨h0, rfl, _⟩ | ⟨_, rfl, _⟩
  · exact ⟨_, (wid_num (hr h0).1 (hr h0).2).1⟩
  · exact ⟨0, by kernel_rfl⟩
/-- What a told angle is, as a function. -/
def OutB (v : Prop) (lo hi : Nat) (G : Nat → Int) (b : Int) (t : Bool) : Prop := (v ∧ Best lo hi G b t) ∨ (¬ v ∧ b = 0 ∧ t = false)
theorem best_out {v : Prop} {lo hi : Nat} {G : Nat → Int} {w : World} {e : Ending} {w' : World} (h : TellsBest v lo hi G w e w') : ∃ b t, OutB v lo hi G b t ∧ e = .returned (.tuple #[.int .i64 b, .bool t]) ∧ Below w.heap.size w w' := by
  obtain ⟨bl, ⟨hv, b, t, hb, he⟩ | ⟨hv, he⟩⟩ := h
  · exact ⟨b, t, .inl ⟨hv, hb⟩, he, bl⟩
  · exact ⟨0, false, .inr ⟨hv, rfl, rfl⟩, he, bl⟩
theorem outb_fun {v : Prop} {lo hi : Nat} {G : Nat → Int} {a b : Int} {t u : Bool} (h : OutB v lo hi G a t) (k : OutB v lo hi G b u) : a = b ∧ t = u := by
  rcases h with ⟨h0, h1⟩ | ⟨h0, h1, h2⟩ <;> rcases k with ⟨k0, k1⟩ | ⟨k0, k1, k2⟩
  · exact best_fun h1 k1
  · exact absurd h0 k0
  · exact absurd k0 h0
  · exact ⟨h1.trans k1.symm, h2.trans k2.symm⟩
set_option maxRecDepth 100000 in
set_option maxHeartbeats 2000000 in
theorem w_FnExactSpeedAt (Q : Pol) (x : Nat) (a : Int) (w : World) (h : RawIn w Q) (hx : (Lit.float .f32 x).wf = true) (ha : (Lit.int .i64 a).wf = true) :
    Calls Try.prog 7 #[.agg #[.slice Q.W Q.nw Q.cw, .slice Q.A Q.na Q.ca, .slice Q.S Q.ns Q.cs], .float .f32 x, .int .i64 a] w fun e w' => e = .returned (.bool true) ∧ Below w.heap.size w w' := by
  have HRAW := Lib.hid h
  have HX0 := Lib.hid (f32_wf hx)
  clear h hx
  have HB0 := Lib.hid (LawBox.new w Q)
  go_enter Try.func7, Try.ntmps7
  go_wp2_with fail
  have k0 := HB0.out.keeps
  with_reducible refine (l_szP Q _ (HRAW.out.keeps k0)).mono ?_
  rintro e w1 ⟨r, hr, rfl, b1⟩
  have HB1 := Lib.hid (HB0.out.step b1)
  have c0 := HB1.out.c0
  have c1 := HB1.out.c1
  have c2 := HB1.out.c2
  clear b1 k0
  rcases hr with rfl | ⟨r0, r1, hsm⟩
  · go_wp2
    go_ret
    exact ⟨rfl, HB1.out.2⟩
  have HI := Lib.hid (HRAW.out.small hsm)
  have r2 : ¬ r < 0 := by omega
  clear hsm
  go_wp2_with fail
  have k1 := HB1.out.keeps
  with_reducible refine (l_toP Q _ (HI.out.keeps k1)).mono ?_
  rintro e w2 ⟨b, hb, rfl, mk, b2⟩
  have HB2 := Lib.hid (HB1.out.step b2)
  have hok := s_SpeedAt (copyAt b Q) x a w2 (mk.polIn HI.out) HX0.out
  dsimp only [copyAt] at hok
  clear c0 c1 c2 hb b2 k1
  go_wp2_with fail
  refine hok.mono ?_
  rintro e w3 ht
  obtain ⟨rs, t, HO, rfl, b3⟩ := told_out ht
  have HT := Lib.hid HO
  have HB3 := Lib.hid (HB2.out.step b3)
  have c0 := HB3.out.c0
  have c1 := HB3.out.c1
  have c2 := HB3.out.c2
  have k3 := HB3.out.keeps
  clear hok ht HO b3 mk
  go_wp2_with fail
  with_reducible refine (l_toP Q _ (HI.out.keeps k3)).mono ?_
  rintro e w4 ⟨bb, hbb, rfl, mk, b4⟩
  have HX := Lib.hid (ExSt.new (HB3.out.step b4) mk)
  have hok := i_SpeedAt (copyAt bb Q) x a (w4.alloc (.cells #[.slice (some ⟨bb, 0, none⟩) Q.nw Q.nw, .slice (some ⟨bb + 1, 0, none⟩) Q.na Q.na, .slice (some ⟨bb + 2, 0, none⟩) Q.ns Q.ns] 28)) (HX.out.2.2.1.polIn HI.out) HX0.out
  dsimp only [copyAt] at hok
  clear c0 c1 c2 k3 hbb b4 mk
  go_wp2_with fail
  generalize w4.heap.size = g at *
  refine hok.mono ?_
  rintro e w5 ht'
  obtain ⟨rs', t', HO', rfl, b5⟩ := told_out ht'
  obtain ⟨hrr, htt⟩ := out_fun HO' HT.out
  subst hrr htt
  obtain ⟨y, hy⟩ := out_wide (v := AskOk Q x a) (r := spd Q x a) HT.out (fun h => by
    have := (spd_ok h.1 h.2.1 h.2.2.1 h.2.2.2).2
    exact ⟨this.1, this.2.1⟩)
  have hcv := fun w => run_convert_float_float (P := Try.prog) w 31 48 .f32 .f64 rs' y (by rw [Try.underlying31]; rfl) Try.underlying48 hy
  have hsm := fun w => same_float y w
  clear hy
  have hX := HX.out.step b5
  clear hok ht' HO' b5 HX HT
  have m0 : ∀ w', ExSt w Q g bb w' → w'.cell? ⟨w.heap.size, 0, none⟩ = some (.slice Q.W Q.nw Q.cw) := fun w' h => h.1.c0
  have m1 : ∀ w', ExSt w Q g bb w' → w'.cell? ⟨w.heap.size, 1, none⟩ = some (.slice Q.A Q.na Q.ca) := fun w' h => h.1.c1
  have m2 : ∀ w', ExSt w Q g bb w' → w'.cell? ⟨w.heap.size, 2, none⟩ = some (.slice Q.S Q.ns Q.cs) := fun w' h => h.1.c2
  have m3 : ∀ w', ExSt w Q g bb w' → w'.cell? ⟨g, 0, none⟩ = some (.slice (some ⟨bb, 0, none⟩) Q.nw Q.nw) := fun w' h => h.d0
  have m4 : ∀ w', ExSt w Q g bb w' → w'.cell? ⟨g, 1, none⟩ = some (.slice (some ⟨bb + 1, 0, none⟩) Q.na Q.na) := fun w' h => h.d1
  have m5 : ∀ w', ExSt w Q g bb w' → w'.cell? ⟨g, 2, none⟩ = some (.slice (some ⟨bb + 2, 0, none⟩) Q.ns Q.ns) := fun w' h => h.d2
  go_wp2_with fail
  refine (hsm _).mono ?_
  rintro e w6 ⟨rfl, rfl⟩
  clear hsm hcv
  cases t'
  all_goals go_wp2
  all_goals go_region_held3 (fun w' => ExSt w Q g bb w') (first | assumption | exact ExSt.drawn (by assumption) (Drawn.one _ 1) | exact ExSt.step (by assumption) (by assumption))
    (first
      | (go_at_call 27; with_reducible refine (l_to2 _ (by assumption) HI.out).mono ?_; rintro e w' ⟨b', rfl, mk', bl⟩)
      | (go_at_call 29; with_reducible refine (l_eq2 _ _ (by assumption) (by first | assumption | exact Made.below (by assumption) (drewN_below _ 1)) HI.out).mono ?_; rintro e w' ⟨rfl, bl'⟩))
  all_goals go_wp2
  all_goals go_ret
  all_goals exact ⟨rfl, by first | exact ExSt.below (by assumption) | assumption⟩
set_option maxRecDepth 100000 in
set_option maxHeartbeats 2000000 in
theorem w_FnExactMadeUp (Q : Pol) (x : Nat) (a : Int) (w : World) (h : RawIn w Q) (hx : (Lit.float .f32 x).wf = true) (ha : (Lit.int .i64 a).wf = true) :
    Calls Try.prog 8 #[.agg #[.slice Q.W Q.nw Q.cw, .slice Q.A Q.na Q.ca, .slice Q.S Q.ns Q.cs], .float .f32 x, .int .i64 a] w fun e w' => e = .returned (.bool true) ∧ Below w.heap.size w w' := by
  have HRAW := Lib.hid h
  have HX0 := Lib.hid (f32_wf hx)
  clear h hx
  have HB0 := Lib.hid (LawBox.new w Q)
  go_enter Try.func8, Try.ntmps8
  go_wp2_with fail
  have k0 := HB0.out.keeps
  with_reducible refine (l_szP Q _ (HRAW.out.keeps k0)).mono ?_
  rintro e w1 ⟨r, hr, rfl, b1⟩
  have HB1 := Lib.hid (HB0.out.step b1)
  have c0 := HB1.out.c0
  have c1 := HB1.out.c1
  have c2 := HB1.out.c2
  clear b1 k0
  rcases hr with rfl | ⟨r0, r1, hsm⟩
  · go_wp2
    go_ret
    exact ⟨rfl, HB1.out.2⟩
  have HI := Lib.hid (HRAW.out.small hsm)
  have r2 : ¬ r < 0 := by omega
  clear hsm
  go_wp2_with fail
  have k1 := HB1.out.keeps
  with_reducible refine (l_toP Q _ (HI.out.keeps k1)).mono ?_
  rintro e w2 ⟨b, hb, rfl, mk, b2⟩
  have HB2 := Lib.hid (HB1.out.step b2)
  have hok := s_MadeUp (copyAt b Q) x a w2 (mk.polIn HI.out) HX0.out
  dsimp only [copyAt] at hok
  clear c0 c1 c2 hb b2 k1
  go_wp2_with fail
  refine hok.mono ?_
  rintro e w3 ht
  obtain ⟨rs, t, HO, rfl, b3⟩ := told_out ht
  have HT := Lib.hid HO
  have HB3 := Lib.hid (HB2.out.step b3)
  have c0 := HB3.out.c0
  have c1 := HB3.out.c1
  have c2 := HB3.out.c2
  have k3 := HB3.out.keeps
  clear hok ht HO b3 mk
  go_wp2_with fail
  with_reducible refine (l_toP Q _ (HI.out.keeps k3)).mono ?_
  rintro e w4 ⟨bb, hbb, rfl, mk, b4⟩
  have HX := Lib.hid (ExSt.new (HB3.out.step b4) mk)
  have hok := i_MadeUp (copyAt bb Q) x a (w4.alloc (.cells #[.slice (some ⟨bb, 0, none⟩) Q.nw Q.nw, .slice (some ⟨bb + 1, 0, none⟩) Q.na Q.na, .slice (some ⟨bb + 2, 0, none⟩) Q.ns Q.ns] 28)) (HX.out.2.2.1.polIn HI.out) HX0.out
  dsimp only [copyAt] at hok
  clear c0 c1 c2 k3 hbb b4 mk
  go_wp2_with fail
  generalize w4.heap.size = g at *
  refine hok.mono ?_
  rintro e w5 ht'
  obtain ⟨rs', t', HO', rfl, b5⟩ := told_out ht'
  obtain ⟨hrr, htt⟩ := out_fun HO' HT.out
  subst hrr htt
  obtain ⟨y, hy⟩ := out_wide (v := AskOk Q x a) (r := madeW Q x a.toNat) HT.out (fun h => by
    have := (made_ok h.1 h.2.1 (a := a.toNat) (by have := h.2.2; omega)).2
    exact ⟨this.1, this.2.1⟩)
  have hcv := fun w => run_convert_float_float (P := Try.prog) w 31 48 .f32 .f64 rs' y (by rw [Try.underlying31]; rfl) Try.underlying48 hy
  have hsm := fun w => same_float y w
  clear hy
  have hX := HX.out.step b5
  clear hok ht' HO' b5 HX HT
  have m0 : ∀ w', ExSt w Q g bb w' → w'.cell? ⟨w.heap.size, 0, none⟩ = some (.slice Q.W Q.nw Q.cw) := fun w' h => h.1.c0
  have m1 : ∀ w', ExSt w Q g bb w' → w'.cell? ⟨w.heap.size, 1, none⟩ = some (.slice Q.A Q.na Q.ca) := fun w' h => h.1.c1
  have m2 : ∀ w', ExSt w Q g bb w' → w'.cell? ⟨w.heap.size, 2, none⟩ = some (.slice Q.S Q.ns Q.cs) := fun w' h => h.1.c2
  have m3 : ∀ w', ExSt w Q g bb w' → w'.cell? ⟨g, 0, none⟩ = some (.slice (some ⟨bb, 0, none⟩) Q.nw Q.nw) := fun w' h => h.d0
  have m4 : ∀ w', ExSt w Q g bb w' → w'.cell? ⟨g, 1, none⟩ = some (.slice (some ⟨bb + 1, 0, none⟩) Q.na Q.na) := fun w' h => h.d1
  have m5 : ∀ w', ExSt w Q g bb w' → w'.cell? ⟨g, 2, none⟩ = some (.slice (some ⟨bb + 2, 0, none⟩) Q.ns Q.ns) := fun w' h => h.d2
  go_wp2_with fail
  refine (hsm _).mono ?_
  rintro e w6 ⟨rfl, rfl⟩
  clear hsm hcv
  cases t'
  all_goals go_wp2
  all_goals go_region_held3 (fun w' => ExSt w Q g bb w') (first | assumption | exact ExSt.drawn (by assumption) (Drawn.one _ 1) | exact ExSt.step (by assumption) (by assumption))
    (first
      | (go_at_call 27; with_reducible refine (l_to2 _ (by assumption) HI.out).mono ?_; rintro e w' ⟨b', rfl, mk', bl⟩)
      | (go_at_call 29; with_reducible refine (l_eq2 _ _ (by assumption) (by first | assumption | exact Made.below (by assumption) (drewN_below _ 1)) HI.out).mono ?_; rintro e w' ⟨rfl, bl'⟩))
  all_goals go_wp2
  all_goals go_ret
  all_goals exact ⟨rfl, by first | exact ExSt.below (by assumption) | assumption⟩
end Go.Proofs.Ytdhdefhllleeiaa

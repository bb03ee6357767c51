/- spec.RunDamp. -/
import Derived.Test.YtgohekdikgfcnaaRdW
namespace Go.Proofs.Ytgohekdikgfcnaa
open Go.RowKit Ieee

theorem Winds.below {w w' : World} {g n : Nat} {ws : Nat → Nat × Nat} (h : Winds w g n ws) (hb : Below w.heap.size w w') (hg : g < w.heap.size) : Winds w' g n ws :=
  fun j hj => ⟨(hb.cell (p := ⟨g, j, none⟩) hg).trans (h j hj).1, (h j hj).2⟩
theorem below_drewN {B : Nat} {a w : World} (h : Below B a w) (n : Nat) : Below B a (w.drewN n) := ⟨h.os, h.tape, h.output, h.size, h.block⟩

set_option maxRecDepth 100000 in
set_option maxHeartbeats 4000000 in
theorem s_run (ws : Nat → Nat × Nat) (g n cap k : Nat) (w : World) (hn : 0 < n) (hn2 : n ≤ 1000000) (hgs : g < w.heap.size) (hk : k < 4294967296) (hw : Winds w g n ws) :
    Calls Try.prog 24 #[.slice (some ⟨g, 0, none⟩) n cap, .float .f32 k] w fun e w' => ∃ (a : Option Addr) (m c : Nat), e = .returned (.slice a m c) ∧ ((Runs ws k n ∧ m = n) ∨ (¬ Runs ws k n ∧ m = 0)) ∧ Below w.heap.size w w' := by
  have HW := Lib.hid hw
  obtain ⟨i0, hi, hz0, hz1, hz2⟩ := info_parts Try.infoC64
  clear hw
  have b0 := (Below.refl w.heap.size w).alloc (Nat.le_refl _) (.cells #[] 26)
  have hown0 : (w.alloc (.cells #[] 26)).ownsRow w.heap.size 26 1 (.slice (some ⟨w.heap.size, 0, none⟩) 0 0) 0 ((outL ws k 0).map cv) := ⟨by simp [outL], .inr ⟨w.heap.size, 0, #[], rfl, Nat.le_refl _, heap_alloc_new w _, by simp, by simp [maxLen], by simp, by simp [outL]⟩⟩
  go_enter Try.func24, Try.ntmps24
  go_wp2_with fail
  refine (s_all ws g n cap _ hn2 (HW.out.below b0 hgs)).mono ?_
  rintro e w1 ⟨t, ht, rfl, rfl⟩
  cases t
  · have hno : ¬ Runs ws k n := fun h => absurd (ht.2 h.2.1) (by decide)
    have HN := Lib.hid hno
    clear ht hno hown0
    go_wp2
    go_ret
    exact ⟨_, _, _, rfl, .inr ⟨HN.out, rfl⟩, b0⟩
  · have hok : WindsOk n ws := ht.1 rfl
    have HO := Lib.hid hok
    clear ht hok
    go_wp2_with fail
    refine (s_share k _ hk).mono ?_
    rintro e w2 ⟨t, ht, rfl, rfl⟩
    cases t
    · have hno : ¬ Runs ws k n := fun h => absurd (ht.2 h.2.2.1) (by decide)
      have HN := Lib.hid hno
      clear ht hno hown0
      go_wp2
      go_ret
      exact ⟨_, _, _, rfl, .inr ⟨HN.out, rfl⟩, b0⟩
    · have hkk : okK k := ht.1 rfl
      have HK := Lib.hid hkk
      have HS := Lib.hid (And.intro hown0 b0)
      clear ht hkk hown0 b0
      go_wp2
      go_loopw [5, 6, 7, 8] (fun r i x o wr => ∃ j : Nat, j ≤ n ∧ i = .int .i64 j ∧ wr.ownsRow w.heap.size 26 1 r j ((outL ws k j).map cv) ∧ Below w.heap.size w wr ∧ ∀ i, i + 1 < j → okV (outs ws k i).1 (outs ws k i).2)
        (fun _ i _ _ _ => n - (intOf i).toNat)
      case atStart => exact ⟨0, by omega, rfl, HS.out.1, HS.out.2, fun j h => by omega⟩
      case round =>
        obtain ⟨j, hj, rfl, hown, bel, hall⟩ := hrel
        have HA := Lib.hid hall
        have hsz := bel.size
        clear hall
        by_cases hlt : j < n
        · obtain ⟨hc, hx1, hx2⟩ := HW.out j hlt
          have hcr : wr.cell? ⟨g, j, none⟩ = some (.complex .f32 (ws j).1 (ws j).2) := (bel.cell (p := ⟨g, j, none⟩) hgs).trans hc
          clear hc
          have hjn : (j : Int) < (n : Int) := by omega
          rcases Nat.eq_zero_or_pos j with h0 | h0
          · subst h0
            have hL : (outL ws k 0).map cv ++ [.complex .f32 (ws 0).1 (ws 0).2] = (outL ws k 1).map cv := rfl
            have HL := Lib.hid hL
            clear hL
            go_wp2_with (at_builtin; refine wpList_append_own _ rfl _ _ 36 rfl w.heap.size 26 i0 (.complex .f32 0 0) 1 8 Try.underlying36 hi hz0 hz1 hz2 rfl (by decide) _ _ _ rfl (hown.alloc _) ⟨wr.heap.size, 0, none⟩ 1 1 [.complex .f32 (ws 0).1 (ws 0).2] rfl rfl (World.news_of_block (cs := #[.complex .f32 (ws 0).1 (ws 0).2]) (t := 26) (fr := (0, 0)) (heap_alloc_new wr _)) (by simp [Value.oneCell']) (by unfold maxLen; omega) (by omega) (by simp; omega) ?_; intro v' w7 hown7 hgrow _)
            have bel7 : Below w.heap.size w w7 := (bel.alloc (by omega) _).grown hgrow (bel.alloc (by omega) _).size (fun b e => by have := (hown.lt b e).1; omega)
            have HF := Lib.hid (And.intro hown7 bel7)
            clear bel7 hown7 hgrow hown bel
            go_wp2
            go_roundw
            case rel => exact ⟨1, by omega, by go_num, by rw [← HL.out]; exact HF.out.1, HF.out.2, fun i h => by omega⟩
            case measure => simp [intOf]; omega
          · obtain ⟨i, rfl⟩ : ∃ i, j = i + 1 := ⟨j - 1, by omega⟩
            obtain ⟨h, c, rfl, _, hl, hsz2, hcell⟩ := winds_own hown (by omega)
            have hci : wr.cell? ⟨h, i, none⟩ = some (.complex .f32 (outs ws k i).1 (outs ws k i).2) := hcell i _ (outL_get ws k (i + 1) i (by omega))
            have ol := outs_lt HO.out HK.out (j := i) (by omega) (fun i' hi' => HA.out i' (by omega))
            have wi : IntKind.i64.wrap (i : Int) = (i : Int) := IntWalk.i64_in _ (by omega)
            have i1 : (0 : Int) ≤ (i : Int) := by omega
            have i2 : (i : Int) < (i : Int) + 1 := by omega
            have i3 : (0 : Int) ≤ (i : Int) + 1 := by omega
            have i4 : (i : Int) + 1 < (n : Int) := by omega
            have oX := HO.out.2 (i + 1) hlt
            have HB := Lib.hid (And.intro hown bel)
            clear hcell hown bel
            by_cases o : okV (outs ws k i).1 (outs ws k i).2
            · have D := fun w => s_Damp_yes (outs ws k i).1 (outs ws k i).2 (ws (i + 1)).1 (ws (i + 1)).2 k (outs ws k (i + 1)).1 (outs ws k (i + 1)).2 w o oX hk HK.out (dampW_is o.2.1 oX.2.1 HK.out).1 (dampW_is o.2.2 oX.2.2 HK.out).1
              have HALL : ∀ i', i' + 1 < i + 1 + 1 → okV (outs ws k i').1 (outs ws k i').2 := fun i' hi => by
                rcases Nat.lt_or_ge i' i with h | h
                · exact HA.out i' (by omega)
                · obtain rfl : i' = i := by omega
                  exact o
              have HA2 := Lib.hid HALL
              have hL : (outL ws k (i + 1)).map cv ++ [.complex .f32 (outs ws k (i + 1)).1 (outs ws k (i + 1)).2] = (outL ws k (i + 1 + 1)).map cv := by rw [outL_succ ws k (i + 1), List.map_append]; rfl
              have HL := Lib.hid hL
              clear HALL ol oX o hx1 hx2 hL
              generalize outs ws k (i + 1) = ov at *
              generalize outs ws k i = ou at *
              generalize ws (i + 1) = xx at *
              go_wp2
              go_quiet ((go_at_call 14; exact Calls.quiet_of_same ((D _).mono fun _ _ h => ⟨h.1, h.2.symm⟩)))
              have own2 : (wr.drewN nq).ownsRow w.heap.size 26 1 (.slice (some ⟨h, 0, none⟩) (i + 1) c) (i + 1) ((outL ws k (i + 1)).map cv) := HB.out.1
              have bel2 := below_drewN HB.out.2 nq
              generalize wr.drewN nq = w2 at *
              have hsz2 := bel2.size
              clear D
              go_wp2_with (at_builtin; refine wpList_append_own _ rfl _ _ 36 rfl w.heap.size 26 i0 (.complex .f32 0 0) 1 8 Try.underlying36 hi hz0 hz1 hz2 rfl (by decide) _ _ _ rfl (own2.alloc _) ⟨w2.heap.size, 0, none⟩ 1 1 [.complex .f32 ov.1 ov.2] rfl rfl (World.news_of_block (cs := #[.complex .f32 ov.1 ov.2]) (t := 26) (fr := (0, 0)) (heap_alloc_new w2 _)) (by simp [Value.oneCell']) (by unfold maxLen; omega) (by omega) (by simp; omega) ?_; intro v' w7 hown7 hgrow _)
              have bel7 : Below w.heap.size w w7 := (bel2.alloc (by omega) _).grown hgrow (bel2.alloc (by omega) _).size (fun b e => by have := (own2.lt b e).1; omega)
              have HF := Lib.hid (And.intro hown7 bel7)
              clear bel7 hown7 hgrow own2 bel2
              go_wp2
              go_roundw
              case rel => exact ⟨i + 1 + 1, by omega, by go_num, by rw [← HL.out]; exact HF.out.1, HF.out.2, HA2.out⟩
              case measure => simp [intOf]; omega
            · have hno : ¬ Runs ws k n := fun h => o (h.2.2.2 i hlt)
              have HN := Lib.hid hno
              have hno2 : ¬ (okV (outs ws k i).1 (outs ws k i).2 ∧ okV (ws (i + 1)).1 (ws (i + 1)).2 ∧ okK k) := fun h => o h.1
              have D := fun w => s_Damp_no (outs ws k i).1 (outs ws k i).2 (ws (i + 1)).1 (ws (i + 1)).2 k w ol.1 ol.2 hx1 hx2 hk hno2
              clear ol oX o hx1 hx2 hno hno2
              generalize outs ws k i = ou at *
              generalize ws (i + 1) = xx at *
              go_wp2
              go_quiet ((go_at_call 14; exact Calls.quiet_of_same ((D _).mono fun _ _ h => ⟨h.1, h.2.symm⟩)))
              have bel2 := below_drewN HB.out.2 nq
              generalize wr.drewN nq = w2 at *
              clear D
              go_wp2
              go_ret
              exact ⟨_, _, _, rfl, .inr ⟨HN.out, rfl⟩, bel2.alloc bel2.size _⟩
        · obtain rfl : j = n := by omega
          have HB := Lib.hid hown
          obtain ⟨h, c, rfl, _⟩ := winds_own hown (by omega)
          clear hown
          go_wp2
          go_ret
          exact ⟨_, _, _, rfl, .inl ⟨⟨hn, HO.out, HK.out, HA.out⟩, rfl⟩, bel⟩
end Go.Proofs.Ytgohekdikgfcnaa

/- A polar multiplied: spec.ScalePolar. -/
import Derived.Test.YtdhdefhllleeiaaPcC
import Derived.Test.YtdhdefhllleeiaaPsM
import Derived.Deep.RegionLawGrows
namespace Go.Proofs.Ytdhdefhllleeiaa
open Go.RowKit Ieee
set_option linter.unusedSimpArgs false
set_option linter.unusedVariables false

theorem alloc_size (w : World) (o : Obj) : (w.alloc o).heap.size = w.heap.size + 1 := by simp
theorem drew_size (w : World) : w.drew.heap.size = w.heap.size := rfl
theorem below_none {w w' : World} (h : w.grownBy w' none) : Below w.heap.size w w' := (Below.refl _ w).grown h (Nat.le_refl _) (fun k e => by cases e)
theorem OwnB.allocd {w : World} {g n : Nat} {t : TypeId} {V : Nat → Value} {o : Obj} (h : OwnB w g n t V) : OwnB (w.alloc o) g n t V := h.below ((Below.refl _ w).alloc (Nat.le_refl _) o)
theorem news_of {w : World} {A : Option Addr} {g o n : Nat} {V : Nat → Value} (h : Row w A n V) (hA : A = some ⟨g, o, none⟩) : ∀ j u, ((List.range n).map V)[j]? = some u → w.cell? ((⟨g, o, none⟩ : Addr).add j) = some u := fun j u hu => by
  have hj : j < n := by
    rcases Nat.lt_or_ge j n with h' | h'
    · exact h'
    · rw [List.getElem?_eq_none (by simpa using h')] at hu; cases hu
  obtain ⟨g', o', e, hc⟩ := h (by omega)
  rw [hA] at e
  cases e
  have hadd : (⟨g, o, none⟩ : Addr).add j = ⟨g, o + j, none⟩ := by unfold Addr.add; split <;> simp_all
  rw [hadd, hc j hj]
  simpa [hj] using hu
theorem newsF {w w' : World} {P : Pol} {g o : Nat} (h : BaseS w P w') (hA : P.W = some ⟨g, o, none⟩) : ∀ j u, ((List.range P.nw).map fun j => fv (P.ws j))[j]? = some u → w'.cell? ((⟨g, o, none⟩ : Addr).add j) = some u := news_of h.2.2.2.1.1.1 hA
theorem newsI {w w' : World} {P : Pol} {g o : Nat} (h : BaseS w P w') (hA : P.A = some ⟨g, o, none⟩) : ∀ j u, ((List.range P.na).map fun j => iv (P.av j))[j]? = some u → w'.cell? ((⟨g, o, none⟩ : Addr).add j) = some u := news_of h.2.2.2.1.2.1.1 hA
theorem base_low {w w' : World} {P : Pol} {g : Nat} (h : BaseS w P w') (hg : w'.heap.size ≤ g) : w.heap.size + 2 ≤ g := Nat.le_trans h.2.2.2.2 hg
theorem BoxZ.new0 {w w0 : World} {P : Pol} (h : BaseS w P w0) : BoxZ w w0.heap.size (w0.alloc (.cells #[.slice none 0 0, .slice none 0 0, .slice none 0 0] 28)) := ⟨heap_alloc_new w0 _, h.2.2.2.2⟩
theorem BoxZ.allocd {w w1 : World} {g : Nat} {o : Obj} (h : BoxZ w g w1) : BoxZ w g (w1.alloc o) := h.below ((Below.refl _ w1).alloc (Nat.le_refl _) o)
theorem BoxZ.drewd {w w1 : World} {g : Nat} (h : BoxZ w g w1) : BoxZ w g w1.drew := h
set_option maxRecDepth 100000 in
set_option maxHeartbeats 8000000 in
theorem s_scalePolar (P : Pol) (k : Nat) (w : World) (hP : PolIn w P) :
    Calls Try.prog 35 #[.agg #[.slice P.W P.nw P.cw, .slice P.A P.na P.ca, .slice P.S P.ns P.cs], .float .f32 k] w fun e w' => ScTold w P k e w' := by
  obtain ⟨iR, hiR, zR0, zR1, zR2⟩ := info_parts Try.infoFS
  obtain ⟨iF, hiF, zF0, zF1, zF2⟩ := info_parts Try.infoF
  obtain ⟨iI, hiI, zI0, zI1, zI2⟩ := info_parts Try.infoI
  have HP := Lib.hid hP
  have HB0 := Lib.hid (BaseS.new hP)
  have hok := s_polarOk P _ HB0.out.2.2.2.1
  clear hP
  go_enter Try.func35, Try.ntmps35
  go_wp2_with fail
  refine hok.mono ?_
  rintro e w3 ⟨t, ht, rfl, b3⟩
  have HT := Lib.hid ht
  have HB3 := Lib.hid (HB0.out.step b3)
  clear ht b3 HB0 hok
  cases t
  · have F3 := Lib.hid (facts3 HB3.out.2.2.1 (.slice none 0 0) (.slice none 0 0) (.slice none 0 0))
    obtain ⟨_, _, _, ⟨x0, y0⟩, ⟨x1, y1⟩, x2, y2⟩ := F3.out.1
    go_wp2_with fail
    refine bodyPost_ret (res_cell_tmp (fn := Try.f35) (p := 4) (u := 5) (ty := 28) rfl _ _ (w.heap.size + 1) _ #[.slice none 0 0, .slice none 0 0, .slice none 0 0] (0, 0) _ rfl F3.out.2.1 Try.underlying28 rfl Try.infoP) rfl ?_
    exact ScTold.no (fun h => by have := HT.out.2 h.1; cases this) rfl (F3.out.2.2 _ _ (Nat.le_succ _) HB3.out.1)
  have HOK := Lib.hid (HT.out.1 rfl)
  clear HT
  obtain ⟨gW0, oW0, hW0, _⟩ := HP.out.1.1 (by have := HOK.out.1.1; omega)
  obtain ⟨gA0, oA0, hA0, _⟩ := HP.out.2.1.1 (by have := HOK.out.2.1.1; omega)
  have HF := Lib.hid hW0
  have HI := Lib.hid hA0
  have hnw := HOK.out.1.1
  have hna := HOK.out.2.1.1
  have m0 : ∀ w', BaseS w P w' → w'.cell? ⟨w.heap.size, 0, none⟩ = some (.slice (some ⟨gW0, oW0, none⟩) P.nw P.cw) := fun w' h => by rw [← HF.out]; exact h.d0
  have m1 : ∀ w', BaseS w P w' → w'.cell? ⟨w.heap.size, 1, none⟩ = some (.slice (some ⟨gA0, oA0, none⟩) P.na P.ca) := fun w' h => by rw [← HI.out]; exact h.d1
  have hst := HB3.out
  clear hW0 hA0
  go_upto_region 3 with fail
  go_cut [6] (fun s6 wx => ∃ gp, s6 = .pointer (some ⟨gp, 0, none⟩) ∧ ScSt w P k gp 0 wx)
  case first =>
    go_region_held3 (fun w' => BaseS w P w') (first | assumption | exact BaseS.drawn (by assumption) | exact BaseS.allocd (by assumption) | exact BaseS.step (by assumption) (by assumption) | exact BaseS.set3 HP.out (by assumption) (by assumption))
      (first
        | (refine step_append_grows rfl (.tmp 14) (.tmp 16) 24 rfl 31 iF (.float .f32 0) 1 4 Try.underlying24 hiF zF0 zF1 zF2 rfl (by decide) _ 0 0 [] rfl (by intro h; exact ⟨rfl, rfl⟩) rfl (fun b _ j u hu => by cases hu) ⟨gW0, oW0, none⟩ P.nw P.cw ((List.range P.nw).map fun j => fv (P.ws j)) rfl (by simp) (newsF (by assumption) HF.out) (by intro u hu; obtain ⟨j, _, rfl⟩ := List.mem_map.1 hu; rfl) (by omega) (by unfold maxLen; omega) (by omega) ?_; intro vF w' howF hgrF; rw [Nat.zero_add, List.nil_append] at howF; have blF := below_none hgrF; obtain ⟨gW, cW, rfl, hgW, _⟩ := howF.form (by omega); have oW := own_of howF (V := fun j => fv (P.ws j)) (fun j hj => by simp [hj]); have hlF := base_low (P := P) (w := w) (by assumption) hgW; have hbsF := BaseS.step (P := P) (w := w) (by assumption) blF; (try (have bz := BoxZ.below (by first | assumption | exact BoxZ.new0 (by first | assumption | exact BaseS.drawn (by assumption) | exact BaseS.allocd (by assumption) | exact BaseS.allocd (BaseS.allocd (by assumption)) | exact BaseS.allocd (BaseS.allocd (BaseS.allocd (by assumption)))) | exact BoxZ.allocd ((by assumption)) | exact BoxZ.allocd (BoxZ.new0 (by first | assumption | exact BaseS.drawn (by assumption) | exact BaseS.allocd (by assumption) | exact BaseS.allocd (BaseS.allocd (by assumption)) | exact BaseS.allocd (BaseS.allocd (BaseS.allocd (by assumption))))) | exact BoxZ.allocd (BoxZ.allocd ((by assumption))) | exact BoxZ.allocd (BoxZ.allocd (BoxZ.new0 (by first | assumption | exact BaseS.drawn (by assumption) | exact BaseS.allocd (by assumption) | exact BaseS.allocd (BaseS.allocd (by assumption)) | exact BaseS.allocd (BaseS.allocd (BaseS.allocd (by assumption)))))) | exact BoxZ.allocd (BoxZ.allocd (BoxZ.allocd ((by assumption)))) | exact BoxZ.allocd (BoxZ.allocd (BoxZ.allocd (BoxZ.new0 (by first | assumption | exact BaseS.drawn (by assumption) | exact BaseS.allocd (by assumption) | exact BaseS.allocd (BaseS.allocd (by assumption)) | exact BaseS.allocd (BaseS.allocd (BaseS.allocd (by assumption))))))) | exact BoxZ.drewd ((by assumption)) | exact BoxZ.drewd (BoxZ.new0 (by first | assumption | exact BaseS.drawn (by assumption) | exact BaseS.allocd (by assumption) | exact BaseS.allocd (BaseS.allocd (by assumption)) | exact BaseS.allocd (BaseS.allocd (BaseS.allocd (by assumption))))) | exact BoxZ.drewd (BoxZ.allocd ((by assumption))) | exact BoxZ.drewd (BoxZ.allocd (BoxZ.new0 (by first | assumption | exact BaseS.drawn (by assumption) | exact BaseS.allocd (by assumption) | exact BaseS.allocd (BaseS.allocd (by assumption)) | exact BaseS.allocd (BaseS.allocd (BaseS.allocd (by assumption)))))) | exact BoxZ.drewd (BoxZ.allocd (BoxZ.allocd ((by assumption)))) | exact BoxZ.drewd (BoxZ.allocd (BoxZ.allocd (BoxZ.new0 (by first | assumption | exact BaseS.drawn (by assumption) | exact BaseS.allocd (by assumption) | exact BaseS.allocd (BaseS.allocd (by assumption)) | exact BaseS.allocd (BaseS.allocd (BaseS.allocd (by assumption))))))) | exact BoxZ.drewd (BoxZ.allocd (BoxZ.allocd (BoxZ.allocd ((by assumption))))) | exact BoxZ.drewd (BoxZ.allocd (BoxZ.allocd (BoxZ.allocd (BoxZ.new0 (by first | assumption | exact BaseS.drawn (by assumption) | exact BaseS.allocd (by assumption) | exact BaseS.allocd (BaseS.allocd (by assumption)) | exact BaseS.allocd (BaseS.allocd (BaseS.allocd (by assumption))))))))) blF; try simp only [alloc_size, drew_size] at bz)); (try (have F6 := BoxZ.facts (w := w) (w6 := w') (by assumption) (.slice (some ⟨gW, 0, none⟩) P.nw cW) (.slice (some ⟨gA, 0, none⟩) P.na cA) (.slice none 0 0); obtain ⟨_, _, _, ⟨x0, y0⟩, ⟨x1, y1⟩, x2, y2⟩ := F6)))
        | (refine step_append_grows rfl (.tmp 18) (.tmp 20) 25 rfl 3 iI (.int .i64 0) 1 8 Try.underlying25 hiI zI0 zI1 zI2 rfl (by decide) _ 0 0 [] rfl (by intro h; exact ⟨rfl, rfl⟩) rfl (fun b _ j u hu => by cases hu) ⟨gA0, oA0, none⟩ P.na P.ca ((List.range P.na).map fun j => iv (P.av j)) rfl (by simp) (newsI (by assumption) HI.out) (by intro u hu; obtain ⟨j, _, rfl⟩ := List.mem_map.1 hu; rfl) (by omega) (by unfold maxLen; omega) (by omega) ?_; intro vI w' howI hgrI; rw [Nat.zero_add, List.nil_append] at howI; have blI := below_none hgrI; obtain ⟨gA, cA, rfl, hgA, _⟩ := howI.form (by omega); have oA := own_of howI (V := fun j => iv (P.av j)) (fun j hj => by simp [hj]); have hlI := base_low (P := P) (w := w) (by assumption) hgA; have hbsI := BaseS.step (P := P) (w := w) (by assumption) blI; (try (have bz := BoxZ.below (by first | assumption | exact BoxZ.new0 (by first | assumption | exact BaseS.drawn (by assumption) | exact BaseS.allocd (by assumption) | exact BaseS.allocd (BaseS.allocd (by assumption)) | exact BaseS.allocd (BaseS.allocd (BaseS.allocd (by assumption)))) | exact BoxZ.allocd ((by assumption)) | exact BoxZ.allocd (BoxZ.new0 (by first | assumption | exact BaseS.drawn (by assumption) | exact BaseS.allocd (by assumption) | exact BaseS.allocd (BaseS.allocd (by assumption)) | exact BaseS.allocd (BaseS.allocd (BaseS.allocd (by assumption))))) | exact BoxZ.allocd (BoxZ.allocd ((by assumption))) | exact BoxZ.allocd (BoxZ.allocd (BoxZ.new0 (by first | assumption | exact BaseS.drawn (by assumption) | exact BaseS.allocd (by assumption) | exact BaseS.allocd (BaseS.allocd (by assumption)) | exact BaseS.allocd (BaseS.allocd (BaseS.allocd (by assumption)))))) | exact BoxZ.allocd (BoxZ.allocd (BoxZ.allocd ((by assumption)))) | exact BoxZ.allocd (BoxZ.allocd (BoxZ.allocd (BoxZ.new0 (by first | assumption | exact BaseS.drawn (by assumption) | exact BaseS.allocd (by assumption) | exact BaseS.allocd (BaseS.allocd (by assumption)) | exact BaseS.allocd (BaseS.allocd (BaseS.allocd (by assumption))))))) | exact BoxZ.drewd ((by assumption)) | exact BoxZ.drewd (BoxZ.new0 (by first | assumption | exact BaseS.drawn (by assumption) | exact BaseS.allocd (by assumption) | exact BaseS.allocd (BaseS.allocd (by assumption)) | exact BaseS.allocd (BaseS.allocd (BaseS.allocd (by assumption))))) | exact BoxZ.drewd (BoxZ.allocd ((by assumption))) | exact BoxZ.drewd (BoxZ.allocd (BoxZ.new0 (by first | assumption | exact BaseS.drawn (by assumption) | exact BaseS.allocd (by assumption) | exact BaseS.allocd (BaseS.allocd (by assumption)) | exact BaseS.allocd (BaseS.allocd (BaseS.allocd (by assumption)))))) | exact BoxZ.drewd (BoxZ.allocd (BoxZ.allocd ((by assumption)))) | exact BoxZ.drewd (BoxZ.allocd (BoxZ.allocd (BoxZ.new0 (by first | assumption | exact BaseS.drawn (by assumption) | exact BaseS.allocd (by assumption) | exact BaseS.allocd (BaseS.allocd (by assumption)) | exact BaseS.allocd (BaseS.allocd (BaseS.allocd (by assumption))))))) | exact BoxZ.drewd (BoxZ.allocd (BoxZ.allocd (BoxZ.allocd ((by assumption))))) | exact BoxZ.drewd (BoxZ.allocd (BoxZ.allocd (BoxZ.allocd (BoxZ.new0 (by first | assumption | exact BaseS.drawn (by assumption) | exact BaseS.allocd (by assumption) | exact BaseS.allocd (BaseS.allocd (by assumption)) | exact BaseS.allocd (BaseS.allocd (BaseS.allocd (by assumption))))))))) blI; try simp only [alloc_size, drew_size] at bz)); (try (have F6 := BoxZ.facts (w := w) (w6 := w') (by assumption) (.slice (some ⟨gW, 0, none⟩) P.nw cW) (.slice (some ⟨gA, 0, none⟩) P.na cA) (.slice none 0 0); obtain ⟨_, _, _, ⟨x0, y0⟩, ⟨x1, y1⟩, x2, y2⟩ := F6))))
    all_goals (
      go_wp2_with fail
      go_meet
      first
        | exact ⟨_, rfl, ScSt.new (by assumption) (by first | exact oW | exact oW.below blI | exact (OwnB.allocd oW).below blI | exact (OwnB.allocd (OwnB.allocd oW)).below blI) (by first | exact oA | exact oA.below blF | exact (OwnB.allocd oA).below blF | exact (OwnB.allocd (OwnB.allocd oA)).below blF) hlF hlI⟩
        | exact ⟨_, rfl, ScSt.new3 HP.out (by assumption) (by assumption) (by first | exact oW | exact oW.below blI | exact (OwnB.allocd oW).below blI | exact (OwnB.allocd (OwnB.allocd oW)).below blI) (by first | exact oA | exact oA.below blF | exact (OwnB.allocd oA).below blF | exact (OwnB.allocd (OwnB.allocd oA)).below blF) hlF hlI⟩)
  case rest =>
  obtain ⟨gp, rfl, hs⟩ := hcut
  have HST := Lib.hid hs
  clear hs hst HB3 m0 m1 HF HI
  obtain ⟨gS0, oS0, hSS, _⟩ := HP.out.2.2.1.1 (by have := HOK.out.1.1; have := HOK.out.2.2.1; omega)
  have HSS := Lib.hid hSS
  have m2 : ∀ w', BaseS w P w' → w'.cell? ⟨w.heap.size, 2, none⟩ = some (.slice (some ⟨gS0, oS0, none⟩) P.ns P.cs) := fun w' h => by rw [← HSS.out]; exact h.d2
  have hns : P.ns ≤ 12 := by have := HOK.out.1.1; have := HOK.out.2.2.1; omega
  have hns1 : 1 ≤ P.ns := by have := HOK.out.1.1; have := HOK.out.2.2.1; omega
  clear hSS
  go_wp2_with fail
  go_loopw [7] (fun a wr => ∃ m : Nat, m ≤ P.ns ∧ a = .int .i64 m ∧ ScSt w P k gp m wr) (fun a _ => P.ns - (intOf a).toNat)
  case atStart => exact ⟨0, Nat.zero_le _, rfl, HST.out⟩
  case round =>
    clear HST
    obtain ⟨m, hm, rfl, hs⟩ := hrel
    have HST := Lib.hid hs
    have kp2 := m2 _ hs.1
    obtain ⟨hbase, gW, cW, gA, cA, vS, T, b, c, s, hb, hgp, hT, hTs, hv⟩ := hs
    by_cases hlt : m < P.ns
    · generalize wr = w0 at *
      clear wr
      have hlt1 : (m : Int) < (P.ns : Int) := by omega
      have hrn := (HOK.out.2.2.2 m hlt).1
      obtain ⟨gR, oR, hR, _⟩ := (HP.out.2.2.2 m hlt).1 (by rw [hrn]; omega)
      have HRN := Lib.hid (And.intro hR hrn)
      have kr : ∀ w', BaseS w P w' → w'.cell? ⟨gS0, oS0 + m, none⟩ = some (.slice (some ⟨gR, oR, none⟩) P.na (P.rc m)) := fun w' h => by
        obtain ⟨g', o', e', h'⟩ := h.2.2.2.1.2.2.1.1 (by omega)
        rw [HSS.out] at e'
        cases e'
        have h2 := h' m hlt
        dsimp only at h2
        rw [HRN.out.1, HRN.out.2] at h2
        exact h2
      have ke : ∀ w', BaseS w P w' → ∀ j, j < P.na → w'.cell? ⟨gR, oR + j, none⟩ = some (.float .f32 (P.sp m j)) := fun w' h j hj => by
        obtain ⟨g', o', e', h'⟩ := (h.2.2.2.1.2.2.2 m hlt).1 (by rw [HRN.out.2]; omega)
        rw [HRN.out.1] at e'
        cases e'
        exact h' j (by rw [HRN.out.2]; exact hj)
      have hown0 : (w0.alloc (.cells #[] 31)).ownsRow w0.heap.size 31 1 (.slice (some ⟨w0.heap.size, 0, none⟩) 0 0) 0 [] := World.ownsRow_made w0 #[] 0 (Nat.le_refl _) (by simp [maxLen]) rfl
      have H0 := Lib.hid (And.intro hown0 ((Below.refl w0.heap.size w0).alloc (Nat.le_refl _) (.cells #[] 31)))
      have HB := Lib.hid hb
      have HV := Lib.hid hv
      have KR := Lib.hid kr
      have KE := Lib.hid ke
      clear hb hv hbase hR hrn hown0 kr ke
      go_wp2_with fail
      go_loopw [8, 9] (fun v kk w1 => ∃ (jj : Nat) (s' : Nat → Nat), kk = .int .i64 jj ∧ jj ≤ P.na ∧ w1.ownsRow w0.heap.size 31 1 v jj ((List.range jj).map fun i => fv (s' i)) ∧ (∀ i, i < jj → MulIs (P.sp m i) k (s' i)) ∧ Below w0.heap.size w0 w1) (fun _ kk _ => P.na - (intOf kk).toNat)
      case atStart => exact ⟨0, fun _ => 0, rfl, Nat.zero_le _, H0.out.1, fun i hi => by omega, H0.out.2⟩
      case round =>
        clear H0 kp2
        obtain ⟨jj, s', rfl, hjj, hown, hmu, hbl⟩ := hrel
        have HB1 := Lib.hid (HST.out.step hbl)
        have kp2 := m2 _ HB1.out.1
        have kr := KR.out _ HB1.out.1
        have hsz1 := hbl.size
        have HBL := Lib.hid hbl
        have HMU := Lib.hid hmu
        clear hbl hmu
        by_cases hlj : jj < P.na
        · have hlj1 : (jj : Int) < (P.na : Int) := by omega
          have ke := KE.out _ HB1.out.1 jj hlj
          have step : ∀ (w2 w7 : World) (r g7 c7 : Nat) (vv : Value), MulIs (P.sp m jj) k r → Below w0.heap.size w0 w2 → (∀ j, vv.ownBlock = some j → w0.heap.size ≤ j) → w2.grownBy w7 vv.ownBlock → w7.ownsRow w0.heap.size 31 1 (.slice (some ⟨g7, 0, none⟩) (jj + 1) c7) (jj + 1) (((List.range jj).map fun i => fv (s' i)) ++ [.float .f32 r]) →
              ∃ s1 : Nat → Nat, w7.ownsRow w0.heap.size 31 1 (.slice (some ⟨g7, 0, none⟩) (jj + 1) c7) (jj + 1) ((List.range (jj + 1)).map fun i => fv (s1 i)) ∧ (∀ i, i < jj + 1 → MulIs (P.sp m i) k (s1 i)) ∧ Below w0.heap.size w0 w7 := fun w2 w7 r g7 c7 vv hm hb hvv hg ho => by
            refine ⟨fun i => if i = jj then r else s' i, ?_, fun i hi => ?_, hb.grown hg hb.size (fun j e => hvv j e)⟩
            · have e : ((List.range (jj + 1)).map fun i => fv (if i = jj then r else s' i)) = ((List.range jj).map fun i => fv (s' i)) ++ [.float .f32 r] := by
                rw [List.range_succ, List.map_append]
                congr 1
                · apply List.map_congr_left
                  intro i hi
                  have := List.mem_range.1 hi
                  simp [show i ≠ jj by omega]
                · simp [fv]
              rw [e]; exact ho
            · by_cases hij : i = jj
              · subst hij; simpa using hm
              · simp only [hij, if_false]; exact HMU.out i (by omega)
          have HSTEP := Lib.hid step
          clear step
          rcases mul_any (P.sp m jj) k with ⟨r, hm, hrun⟩ | ⟨nb, hm, hrun⟩
          · generalize P.sp m jj = xj at *
            have HM := Lib.hid hm
            clear hm
            have hvv := Lib.hid (fun j e => (hown.lt j e).1)
            go_wp2_with (at_builtin; refine wpList_append_lies _ rfl _ _ 24 rfl w0.heap.size 31 iF (.float .f32 0) 1 4 Try.underlying24 hiF zF0 zF1 zF2 rfl (by decide) _ jj ((List.range jj).map fun i => fv (s' i)) rfl (hown.alloc _) ⟨wr.heap.size, 0, none⟩ 1 1 [.float .f32 r] rfl rfl (World.news_of_block (cs := #[.float .f32 r]) (t := 31) (fr := (0, 0)) (heap_alloc_new wr _)) (by simp [Value.oneCell']) (by omega) (by unfold maxLen; omega) (by omega) (by simp; omega) _ rfl ?_; intro g7 c7 w7 hown7 hgrow hat hlt)
            obtain ⟨s1, n1, n2, n3⟩ := HSTEP.out _ _ _ _ _ _ HM.out (HBL.out.alloc HBL.out.size _) hvv.out hgrow hown7
            have HN := Lib.hid (And.intro n1 (And.intro n2 n3))
            clear n1 n2 n3 hown7 hgrow hat hown
            go_roundw
            case rel => exact ⟨jj + 1, s1, by go_num, by omega, HN.out⟩
            case measure => simp [intOf]; omega
          · have HM := Lib.hid (hm wr)
            generalize P.sp m jj = xj at *
            clear hm
            have hvv := Lib.hid (fun j e => (hown.lt j e).1)
            go_wp2_with (at_builtin; refine wpList_append_lies _ rfl _ _ 24 rfl w0.heap.size 31 iF (.float .f32 0) 1 4 Try.underlying24 hiF zF0 zF1 zF2 rfl (by decide) _ jj ((List.range jj).map fun i => fv (s' i)) rfl (hown.drew.alloc _) ⟨wr.heap.size, 0, none⟩ 1 1 [.float .f32 (nb wr)] rfl rfl (World.news_of_block (cs := #[.float .f32 (nb wr)]) (t := 31) (fr := (0, 0)) (heap_alloc_new wr.drew _)) (by simp [Value.oneCell']) (by omega) (by unfold maxLen; omega) (by omega) (by simp; omega) _ rfl ?_; intro g7 c7 w7 hown7 hgrow hat hlt)
            obtain ⟨s1, n1, n2, n3⟩ := HSTEP.out _ _ _ _ _ _ HM.out ((below_drewN HBL.out 1).alloc HBL.out.size _) hvv.out hgrow hown7
            have HN := Lib.hid (And.intro n1 (And.intro n2 n3))
            clear n1 n2 n3 hown7 hgrow hat hown
            go_roundw
            case rel => exact ⟨jj + 1, s1, by go_num, by omega, HN.out⟩
            case measure => simp [intOf]; omega
        · obtain rfl : jj = P.na := by omega
          have hlj1 : ¬ (P.na : Int) < (P.na : Int) := by omega
          obtain ⟨b0, cb, rfl, hb0, _⟩ := hown.form (by omega)
          have HR0 := Lib.hid (own_of hown (V := fun j => fv (s' j)) (fun j hj => by simp [hj]))
          have hb1 := (HBL.out.block gp (by omega)).trans HB.out
          have HV1 := Lib.hid (HV.out.step (w' := wr) (fun j hj => HBL.out.block j (by omega)))
          have hnr := owns_ne HV1.out.2.2.1 hb1 (by decide)
          obtain ⟨AS, cS, rfl⟩ : ∃ A c, vS = .slice A m c := by
            obtain ⟨_, ⟨rfl, h0⟩ | ⟨g, c', cur, rfl, _⟩⟩ := HV.out.2.2.1
            · exact ⟨none, 0, by rw [h0]⟩
            · exact ⟨_, _, rfl⟩
          have k2 := cell_of_row wr _ 2 _ _ _ hb1
          have hbs1 := HB1.out.1.2.2.2.2
          have HBX := Lib.hid hb1
          clear hown
          go_wp2_with (at_builtin; refine wpList_append_lies _ rfl _ _ 26 rfl (w.heap.size + 2) 24 iR (.slice none 0 0) 1 24 Try.underlying26 hiR zR0 zR1 zR2 rfl (by decide) _ m ((List.range m).map fun i => .slice (some ⟨b i, 0, none⟩) P.na (c i)) rfl (HV1.out.2.2.1.alloc _) ⟨wr.heap.size, 0, none⟩ 1 1 [.slice (some ⟨b0, 0, none⟩) P.na cb] rfl rfl (World.news_of_block (cs := #[.slice (some ⟨b0, 0, none⟩) P.na cb]) (t := 24) (fr := (0, 0)) (heap_alloc_new wr _)) (by simp [Value.oneCell']) (by omega) (by unfold maxLen; omega) (by omega) (by simp; omega) _ rfl ?_; intro g7 c7 w7 hown7 hgrow hat hlt; have hb7 := box_far hb1 (gr_alloc hgrow) hnr; obtain ⟨_, x7, f7⟩ := cell_at hb7 (k := 2) rfl (by simp))
          have HST2 := Lib.hid (ScSt.add HP.out HB1.out.1 HBX.out hgp hT (by omega) HV1.out HR0.out HMU.out (by omega) hgrow hown7 hlt)
          clear hb7 x7 f7 hown7 hgrow hat hlt hb1 k2 kp2 kr HV1 HR0 hnr
          go_roundw
          case rel => exact ⟨m + 1, by omega, by go_num, HST2.out⟩
          case measure => simp [intOf]; omega
    · obtain rfl : m = P.ns := by omega
      have hlt1 : ¬ (P.ns : Int) < (P.ns : Int) := by omega
      obtain ⟨gS, cS, rfl⟩ : ∃ g c, vS = .slice (some ⟨g, 0, none⟩) P.ns c := by
        obtain ⟨_, ⟨_, h0⟩ | ⟨g, c', cur, rfl, _⟩⟩ := hv.2.2.1
        · omega
        · exact ⟨_, _, rfl⟩
      have k0 := cell_of_row wr _ 0 _ _ _ hb
      have k1 := cell_of_row wr _ 1 _ _ _ hb
      have k2 := cell_of_row wr _ 2 _ _ _ hb
      have hmul : ∀ i, i < P.ns → ∀ j, j < P.na → MulIs (P.sp i j) k (s i j) := fun i hi => (hv.2.2.2.1 i hi).2.1
      have HRQ := Lib.hid (rawQ_ok (gW := gW) (cW := cW) (gA := gA) (cA := cA) (gS := gS) (cS := cS) (b := b) (c := c) HOK.out hmul)
      have hok := s_polarOk (rawQ P gW cW gA cA gS cS b c s) wr (hv.raw HP.out HOK.out)
      have HV := Lib.hid hv
      have HBASE := Lib.hid hbase
      have HB := Lib.hid hb
      dsimp only [rawQ] at hok
      clear hb hv hbase HST hmul
      go_wp2_with fail
      refine hok.mono ?_
      rintro e w8 ⟨t, ht, rfl, b8⟩
      have HT := Lib.hid (ht.trans (show _ ↔ ScaleOk P k from HRQ.out.1))
      have HS8 := Lib.hid (HBASE.out.step b8)
      have hb8 := (b8.block gp (by omega)).trans HB.out
      have HV8 := Lib.hid (HV.out.step (w' := w8) (fun j hj => b8.block j (by omega)))
      have l0 := cell_of_row w8 _ 0 _ _ _ hb8
      have l1 := cell_of_row w8 _ 1 _ _ _ hb8
      have l2 := cell_of_row w8 _ 2 _ _ _ hb8
      clear hok ht b8 k0 k1 k2 HV HBASE HB hb8
      cases t
      · have F3 := Lib.hid (facts3 HS8.out.2.2.1 (.slice none 0 0) (.slice none 0 0) (.slice none 0 0))
        obtain ⟨_, _, _, ⟨x0, y0⟩, ⟨x1, y1⟩, x2, y2⟩ := F3.out.1
        go_wp2_with fail
        refine bodyPost_ret (res_cell_tmp (fn := Try.f35) (p := 4) (u := 5) (ty := 28) rfl _ _ (w.heap.size + 1) _ #[.slice none 0 0, .slice none 0 0, .slice none 0 0] (0, 0) _ rfl F3.out.2.1 Try.underlying28 rfl Try.infoP) rfl ?_
        exact ScTold.no (fun h => by have := HT.out.2 h; cases this) rfl (F3.out.2.2 _ _ (Nat.le_succ _) HS8.out.1)
      · have F3 := Lib.hid (facts3 HS8.out.2.2.1 (.slice (some ⟨gW, 0, none⟩) P.nw cW) (.slice (some ⟨gA, 0, none⟩) P.na cA) (.slice (some ⟨gS, 0, none⟩) P.ns cS))
        obtain ⟨_, _, _, ⟨x0, y0⟩, ⟨x1, y1⟩, x2, y2⟩ := F3.out.1
        have hsc := HT.out.1 rfl
        have hv8 := HV8.out
        have hsame : ∀ j, j ≠ w.heap.size + 1 → (((w8.setCell ⟨w.heap.size + 1, 0, none⟩ (.slice (some ⟨gW, 0, none⟩) P.nw cW)).setCell ⟨w.heap.size + 1, 1, none⟩ (.slice (some ⟨gA, 0, none⟩) P.na cA)).setCell ⟨w.heap.size + 1, 2, none⟩ (.slice (some ⟨gS, 0, none⟩) P.ns cS)).heap[j]? = w8.heap[j]? := fun j hj =>
          (Below.heap_setCell _ _ _ _ hj).trans ((Below.heap_setCell _ _ _ _ hj).trans (Below.heap_setCell _ _ _ _ hj))
        have hv9 := hv8.same (w.heap.size + 1) (fun j _ hj => hsame j hj) (by have := hv8.2.2.2.2.2.1; omega) (by have := hv8.2.2.2.2.2.1; omega) (fun e => by have := (hv8.2.2.1.lt _ e).1; omega) (fun i hi => by have := (hv8.2.2.2.1 i hi).2.2.1; have := hv8.2.2.2.2.2.1; omega)
        have HO := Lib.hid (hv9.own (cW := cW) (cA := cA) (HRQ.out.2 hsc) (by omega))
        have HSC := Lib.hid hsc
        clear hv8 hsame hv9 hsc HV8
        go_wp2_with fail
        refine bodyPost_ret (res_cell_tmp (fn := Try.f35) (p := 4) (u := 5) (ty := 28) rfl _ _ (w.heap.size + 1) _ #[.slice (some ⟨gW, 0, none⟩) P.nw cW, .slice (some ⟨gA, 0, none⟩) P.na cA, .slice (some ⟨gS, 0, none⟩) P.ns cS] (0, 0) _ rfl F3.out.2.1 Try.underlying28 rfl Try.infoP) rfl ?_
        obtain ⟨o1, o2, o3, o4, o5, o6, o7, o8⟩ := HO.out
        exact ⟨F3.out.2.2 _ _ (Nat.le_succ _) HS8.out.1, .inr ⟨HSC.out, gW, cW, gA, cA, gS, cS, b, c, rfl, o1, o2, o3, o4, o5, by omega, by omega, by omega⟩⟩
end Go.Proofs.Ytdhdefhllleeiaa

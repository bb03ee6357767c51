/- The nearest node (impl), where the place is that of a node: NearNode$1, firstLeast of places, NearNode. -/
import Derived.Test.YtibkhmdnfloemaaMbC
import Derived.Test.YtibkhmdnfloemaaVk
import Derived.Test.YtibkhmdnfloemaaOwnA
import Derived.Deep.Slices
namespace Go.Proofs.Ytibkhmdnfloemaa
open Go.RowKit Ieee
set_option linter.unusedVariables false
set_option linter.unusedSimpArgs false

theorem okP_int12 {x : Nat} {n : Int} (h : IntF x n) (h0 : 0 ≤ n) (h1 : n ≤ 14400000) : okP x := by
  refine ⟨h.2.1, ?_⟩
  rw [h.2.2, Int.natAbs_mul]
  exact Nat.mul_le_mul_right _ (by omega)
theorem row_below12 {B : Nat} {t : TypeId} {z : Nat} {w w' : World} {v : Value} {n : Nat} {xs : List Value} (h : w.ownsRow B t z v n xs) (b : Below w.heap.size w w') : w'.ownsRow B t z v n xs :=
  ⟨h.1, h.2.imp id fun ⟨g, c, cur, a1, a2, a3, a4⟩ => ⟨g, c, cur, a1, a2, (b.block g (block_lt a3)).trans a3, a4⟩⟩
/-- A node's place as a value. -/
noncomputable def plV (F : Fd) (i : Nat) : Value := .complex .f64 (nodeP F i).1 (nodeP F i).2
attribute [local go_sem] st_cplx
set_option maxHeartbeats 1000000 in
theorem i_dist12 (F : Fd) (i k c : Nat) (hF : FdP F) (hi : i ≤ 144) (hk : k ≤ 144) : ∃ s, IntF s (dI F i k) ∧ ∀ w : World, w.cell? ⟨c, 0, none⟩ = some (plV F k) → Calls Try.prog 26 #[plV F i, .pointer (some ⟨c, 0, none⟩)] w fun e w' => e = .returned (.float .f64 s) ∧ w = w' := by
  obtain ⟨dx, dy, p, q, s, e1, e2, e3, e4, e5, e6, e7⟩ := node_dist hF hi hk
  refine ⟨s, e7, fun w hc => ?_⟩
  unfold plV at hc ⊢
  have hq := fun w => run_complex_sum (P := Try.prog) w .sub (Or.inr rfl) 29 .f64 (nodeP F i).1 (nodeP F i).2 (nodeP F k).1 (nodeP F k).2 dx dy (by unfold cSumBits; rw [e1, e2]; rfl)
  have hD := Lib.hid (fun w => i_dot dx dy dx dy p q s w e4 e5 e6)
  clear e1 e2 e3 e4 e5 e6 e7
  generalize nodeP F i = ni at *
  generalize nodeP F k = nk at *
  obtain ⟨a, b⟩ := ni
  obtain ⟨a', b'⟩ := nk
  dsimp only at *
  go_enter Try.func26, Try.ntmps26
  go_wp2_with (go_at_call 27; (with_reducible refine (hD.out _).mono ?_); rintro e w' ⟨rfl, rfl⟩)
  go_ret
  exact ⟨rfl, rfl⟩
/-- Places lie there, and a box of one. -/
def NrW (w : World) (F : Fd) (k P g c : Nat) (wr : World) : Prop := (∀ i, i < P → wr.cell? ⟨g, i, none⟩ = some (plV F i)) ∧ wr.cell? ⟨c, 0, none⟩ = some (plV F k) ∧ Below w.heap.size w wr
theorem NrW.drewN {w w1 : World} {F : Fd} {k P g c : Nat} (h : NrW w F k P g c w1) (n : Nat) : NrW w F k P g c (w1.drewN n) := ⟨h.1, h.2.1, below_drewN h.2.2 n⟩
set_option maxRecDepth 100000 in
set_option maxHeartbeats 4000000 in
theorem i_first12 (F : Fd) (k P g c cap : Nat) (w : World) (hF : FdP F) (hP : F.wd * F.hi = (P : Int)) (hP2 : P ≤ 144) (hk : k < P) (h1 : ∀ i, i < P → w.cell? ⟨g, i, none⟩ = some (plV F i)) (h2 : w.cell? ⟨c, 0, none⟩ = some (plV F k)) :
    Calls Try.prog 25 #[.slice (some ⟨g, 0, none⟩) P cap, .func (.func 26) #[] #[.pointer (some ⟨c, 0, none⟩)]] w fun e w' => e = .returned (.int .i64 k) ∧ Below w.heap.size w w' := by
  obtain ⟨ds, hds⟩ := Go.Deep.choose_lt (α := Nat) (n := P) (fun i (hi : i < P) => i_dist12 F i k c hF (show i ≤ 144 by omega) (show k ≤ 144 by omega))
  have HDS := Lib.hid hds
  have HF := Lib.hid hF
  have hs := Lib.hid (show NrW w F k P g c w from ⟨h1, h2, Below.refl _ _⟩)
  clear hds hF hP h1 h2
  go_enter Try.func25, Try.ntmps25
  go_wp2_with fail
  go_loopw [5, 6, 7, 10] (fun s _ _ i wr => ∃ (j B : Nat), j ≤ P ∧ i = .int .i64 j ∧ s = .int .i64 B ∧ (0 < j → B < j) ∧ (j = 0 → B = 0) ∧ (k < j → B = k) ∧ NrW w F k P g c wr) (fun _ _ _ i _ => P - (intOf i).toNat)
  case atStart => exact ⟨0, 0, Nat.zero_le _, rfl, rfl, (fun h => absurd h (Nat.lt_irrefl 0)), (fun _ => rfl), (fun h => absurd h (Nat.not_lt_zero _)), hs.out⟩
  case round =>
    obtain ⟨j, B, hj, rfl, rfl, hB0, hB1, hB2, hst⟩ := hrel
    have HB := Lib.hid (And.intro hB0 (And.intro hB1 hB2))
    have HS := Lib.hid hst
    by_cases hlt : j < P
    · have z1 : (j : Int) < (P : Int) := by omega
      have z0 : (0 : Int) ≤ (j : Int) := by omega
      have hBP : B < P := by
        rcases Nat.eq_zero_or_pos j with h | h
        · rw [hB1 h]; omega
        · have := hB0 h; omega
      have y1 : (B : Int) < (P : Int) := by omega
      have y0 : (0 : Int) ≤ (B : Int) := by omega
      have cj := hst.1 j hlt
      have cB := hst.1 B hBP
      obtain ⟨ij, dj⟩ := HDS.out j hlt
      obtain ⟨iB, dB⟩ := HDS.out B hBP
      have ht := lt_int12 ij iB
      have HC := Lib.hid hst.2.1
      generalize ds j = sj at *
      generalize ds B = sB at *
      clear hB0 hB1 hB2 hst hs ij iB
      by_cases hd : dI F j k < dI F B k
      · rw [decide_eq_true hd] at ht
        have ht2 : FloatKind.f64.format.order sj sB = some .lt := by simpa using ht
        have HX := Lib.hid (show (0 < j + 1 → j < j + 1) ∧ (j + 1 = 0 → j = 0) ∧ (k < j + 1 → j = k) from ⟨fun _ => by omega, fun h => by omega, fun h => by
          by_cases e : j = k
          · exact e
          · rw [HB.out.2.2 (by omega), dI_self] at hd
            have := dI_pos HF.out e
            omega⟩)
        have HDj := Lib.hid (fun n => (dj (wr.drewN n) HC.out).mono fun _ _ h => And.intro h.1 h.2.symm)
        have HDB := Lib.hid (fun n => (dB (wr.drewN n) HC.out).mono fun _ _ h => And.intro h.1 h.2.symm)
        unfold plV at cj cB HDj HDB
        obtain ⟨pj, hpj⟩ : ∃ p, nodeP F j = p := ⟨_, rfl⟩
        obtain ⟨pB, hpB⟩ : ∃ p, nodeP F B = p := ⟨_, rfl⟩
        rw [hpj] at cj HDj
        rw [hpB] at cB HDB
        clear hd HB dj dB hpj hpB
        go_wp2_with fail
        go_quiet ((go_at_call 26; first | with_reducible exact Calls.quiet_of_same (HDj.out _) | with_reducible exact Calls.quiet_of_same (HDB.out _)))
        have HS2 := Lib.hid (HS.out.drewN nq)
        go_wp2_with fail
        go_roundw
        case rel => exact ⟨j + 1, j, by omega, by go_num, rfl, HX.out.1, HX.out.2.1, HX.out.2.2, HS2.out⟩
        case measure => simp [intOf]; omega
      · rw [decide_eq_false hd] at ht
        have ht2 : ¬ FloatKind.f64.format.order sj sB = some .lt := by simpa using ht
        have HX := Lib.hid (show (0 < j + 1 → B < j + 1) ∧ (j + 1 = 0 → B = 0) ∧ (k < j + 1 → B = k) from ⟨fun _ => by
          rcases Nat.eq_zero_or_pos j with h | h
          · rw [HB.out.2.1 h]; omega
          · have := HB.out.1 h; omega, fun h => by omega, fun h => by
          by_cases e : j = k
          · by_cases e2 : B = k
            · exact e2
            · have := dI_pos HF.out e2
              rw [e, dI_self] at hd
              omega
          · exact HB.out.2.2 (by omega)⟩)
        have HDj := Lib.hid (fun n => (dj (wr.drewN n) HC.out).mono fun _ _ h => And.intro h.1 h.2.symm)
        have HDB := Lib.hid (fun n => (dB (wr.drewN n) HC.out).mono fun _ _ h => And.intro h.1 h.2.symm)
        unfold plV at cj cB HDj HDB
        obtain ⟨pj, hpj⟩ : ∃ p, nodeP F j = p := ⟨_, rfl⟩
        obtain ⟨pB, hpB⟩ : ∃ p, nodeP F B = p := ⟨_, rfl⟩
        rw [hpj] at cj HDj
        rw [hpB] at cB HDB
        clear hd HB dj dB hpj hpB
        go_wp2_with fail
        go_quiet ((go_at_call 26; first | with_reducible exact Calls.quiet_of_same (HDj.out _) | with_reducible exact Calls.quiet_of_same (HDB.out _)))
        have HS2 := Lib.hid (HS.out.drewN nq)
        go_wp2_with fail
        go_roundw
        case rel => exact ⟨j + 1, B, by omega, by go_num, rfl, HX.out.1, HX.out.2.1, HX.out.2.2, HS2.out⟩
        case measure => simp [intOf]; omega
    · obtain rfl : j = P := by omega
      have z1 : ¬ (j : Int) < (j : Int) := by omega
      obtain rfl : B = k := hB2 hk
      clear hst
      go_wp2
      go_ret
      exact ⟨rfl, HS.out.2.2⟩
theorem Try.info12D : (Try.prog.info? 29).map (fun i => (i.zero, i.size, i.bytes)) = some (some (.complex .f64 0 0), 1, 16) := by kernel_rfl
/-- What stands while the places are gathered. -/
def NnS (w : World) (F : Fd) (k j : Nat) (v : Value) (wr : World) : Prop := Below w.heap.size w wr ∧ wr.heap[w.heap.size]? = some (.cells #[.int .i64 F.wd, .int .i64 F.hi, .int .i64 F.me, .slice F.A F.n F.cap] 26 (0, 0)) ∧ wr.heap[w.heap.size + 1]? = some (.cells #[plV F k] 29 (0, 0)) ∧ wr.ownsRow (w.heap.size + 2) 29 1 v j ((List.range j).map (plV F))
theorem NnS.step {w w1 w2 : World} {F : Fd} {k j : Nat} {v : Value} (h : NnS w F k j v w1) (b : Below w1.heap.size w1 w2) : NnS w F k j v w2 :=
  ⟨h.1.trans (b.mono h.1.size), (b.block _ (block_lt h.2.1)).trans h.2.1, (b.block _ (block_lt h.2.2.1)).trans h.2.2.1, row_below12 h.2.2.2 b⟩
theorem NnS.fdq {w w1 : World} {F : Fd} {k j : Nat} {v : Value} (h : NnS w F k j v w1) (h0 : FdIn w F) : FdQ w F w.heap.size 26 w1 := ⟨⟨h0.below h.1 (Nat.le_refl _), h.1⟩, h.2.1⟩
theorem NnS.app {w w1 w2 : World} {F : Fd} {k j : Nat} {v v' : Value} (h : NnS w F k j v w1) (g : w1.grownBy w2 v.ownBlock) (ho : w2.ownsRow (w.heap.size + 2) 29 1 v' (j + 1) ((List.range j).map (plV F) ++ [plV F j])) : NnS w F k (j + 1) v' w2 := by
  have hl : ∀ b, v.ownBlock = some b → w.heap.size + 2 ≤ b := fun b e => (h.2.2.2.lt b e).1
  refine ⟨h.1.grown g h.1.size (fun b e => by have := hl b e; omega), box_far h.2.1 g (fun e => by have := hl _ e; omega), box_far h.2.2.1 g (fun e => by have := hl _ e; omega), ?_⟩
  rw [List.range_succ, List.map_append]
  exact ho
set_option maxRecDepth 100000 in
set_option maxHeartbeats 4000000 in
theorem i_near12 (F : Fd) (k : Nat) (w : World) (hw : FdWf F) (h : FdIn w F) (hF : FdP F) (hk : thB F k = true) :
    Calls Try.prog 9 #[.agg #[.int .i64 F.wd, .int .i64 F.hi, .int .i64 F.me, .slice F.A F.n F.cap], .complex .f64 (nodeP F k).1 (nodeP F k).2] w fun e w' => e = .returned (.int .i64 k) ∧ Below w.heap.size w w' := by
  obtain ⟨i0, hi, hz0, hz1, hz2⟩ := info_parts Try.info12D
  obtain ⟨a, b, m, ha, hb, hm, h1, h2, h3, hP, hP2⟩ := fd_nums hF
  have hkk := of_decide_eq_true hk
  rw [hP] at hkk
  generalize a * b = P at *
  have hkP : k < P := by omega
  have H0 := Lib.hid h
  have HFO := Lib.hid (fun w h => i_fld F w hw h)
  rw [fdB_iff.2 hF] at HFO
  have HN := Lib.hid (fun w h => i_nodes F P w hP hP2 h)
  have HPL := Lib.hid (fun n (hn : n < P) w h => i_place12 F n w hF (show n ≤ 144 by omega) h)
  obtain ⟨i1, i2⟩ := node_int hF (show k ≤ 144 by omega)
  obtain ⟨⟨b1, b2⟩, b3, b4⟩ := node_bd hF (show k ≤ 144 by omega)
  have HV := Lib.hid (fun w => i_vok (nodeP F k).1 (nodeP F k).2 w i1.1 i2.1)
  have HV2 := Lib.hid (And.intro (okP_int12 i1 b1 b2) (okP_int12 i2 b3 b4))
  have HFL := Lib.hid (fun g c cap w h1 h2 => i_first12 F k P g c cap w hF hP hP2 hkP h1 h2)
  have hs := Lib.hid (show NnS w F k 0 (.slice none 0 0) ((w.alloc (.cells #[.int .i64 F.wd, .int .i64 F.hi, .int .i64 F.me, .slice F.A F.n F.cap] 26)).alloc (.cells #[.complex .f64 (nodeP F k).1 (nodeP F k).2] 29)) from
    ⟨((Below.refl _ w).alloc (Nat.le_refl _) _).alloc (by simp) _, (Below.heap_alloc _ _ _ (by simp)).trans (heap_alloc_new w _), by
      have := heap_alloc_new (w.alloc (.cells #[.int .i64 F.wd, .int .i64 F.hi, .int .i64 F.me, .slice F.A F.n F.cap] 26)) (.cells #[.complex .f64 (nodeP F k).1 (nodeP F k).2] 29)
      simpa [plV] using this, by simp, .inl ⟨rfl, rfl⟩⟩)
  have HX := Lib.hid (And.intro hw.2.1 hkP)
  obtain ⟨k0, k1, k2, k3⟩ := cells4f (hs.out.fdq H0.out).2
  have k4 := cell_of_row _ _ 0 _ _ _ hs.out.2.2.1
  have k4 := (show _ = some (Value.complex .f64 (nodeP F k).1 (nodeP F k).2) from k4)
  have HW := Lib.hid (show ∀ j v wx, NnS w F k j v wx → wx.cell? ⟨w.heap.size + 1, 0, none⟩ = some (plV F k) from fun j v wx h => cell_of_row _ _ 0 _ _ _ h.2.2.1)
  obtain ⟨pos, hpos⟩ : ∃ p, nodeP F k = p := ⟨_, rfl⟩
  have HPOS := Lib.hid hpos
  rw [hpos] at HV HV2 hs k4 ⊢
  obtain ⟨px, py⟩ := pos
  dsimp only at *
  have hmf : ∀ (fn : Fn) (first cap : Array Value) (w : World), (Instr.makeFunc fn first cap).run Try.prog w = .ok (.func fn first cap) w := fun _ _ _ _ => rfl
  clear hF hk ha hb hm h1 h2 h3 h i1 i2 b1 b2 b3 b4 hkk hP hw hpos
  go_enter Try.func9, Try.ntmps9
  go_wp2_with fail
  refine (HFO.out _ (hs.out.fdq H0.out).1.1).mono ?_
  rintro e w1 ⟨rfl, bw⟩
  have H1 := Lib.hid (hs.out.step bw)
  clear hs bw k0 k1 k2 k3 k4
  have k4 := HW.out _ _ _ H1.out
  unfold plV at k4
  rw [HPOS.out] at k4
  dsimp only at k4
  go_wp2_with fail
  refine (HV.out _).mono ?_
  rintro e w2 ⟨t, ht, rfl, rfl⟩
  obtain rfl : t = true := ht.2 HV2.out
  clear ht HV HV2 k4
  obtain ⟨k0, k1, k2, k3⟩ := cells4f (H1.out.fdq H0.out).2
  go_wp2_with fail
  refine (HN.out _ (H1.out.fdq H0.out).1.1).mono ?_
  rintro e w3 ⟨rfl, bw⟩
  have H2 := Lib.hid (H1.out.step bw)
  clear H1 bw k0 k1 k2 k3 HN HFO
  go_wp2_with fail
  go_loopw [5, 6, 17] (fun s _ i wr => ∃ (j : Nat) (v : Value), j ≤ P ∧ i = .int .i64 j ∧ s = v ∧ NnS w F k j v wr) (fun _ _ i _ => P - (intOf i).toNat)
  case atStart => exact ⟨0, .slice none 0 0, Nat.zero_le _, rfl, rfl, H2.out⟩
  case round =>
    obtain ⟨j, v, hj, rfl, e9, hst⟩ := hrel
    have e9 := e9.symm
    subst e9
    have HS := Lib.hid hst
    clear hst H2
    by_cases hlt : j < P
    · have z1 : (j : Int) < (P : Int) := by omega
      obtain ⟨k0, k1, k2, k3⟩ := cells4f (HS.out.fdq H0.out).2
      have HJ := Lib.hid (HPL.out j hlt)
      obtain ⟨pj, hpj⟩ : ∃ p, nodeP F j = p := ⟨_, rfl⟩
      have HPJ := Lib.hid (show plV F j = .complex .f64 pj.1 pj.2 by unfold plV; rw [hpj])
      rw [hpj] at HJ
      obtain ⟨ax, ay⟩ := pj
      dsimp only at *
      clear hpj HPL HFL
      go_wp2_with fail
      refine (HJ.out _ (HS.out.fdq H0.out).1.1).mono ?_
      rintro e w4 ⟨rfl, bw⟩
      have H4 := Lib.hid (HS.out.step bw)
      clear HS bw k0 k1 k2 k3 HJ
      have hv := H4.out.2.2.2
      have hsz := H4.out.1.size
      have hlt2 := block_lt H4.out.2.2.1
      go_wp2_with (at_builtin; refine wpList_append_lies _ rfl _ _ 50 rfl (w.heap.size + 2) 29 i0 (.complex .f64 0 0) 1 16 Try.underlying50 hi hz0 hz1 hz2 rfl (by decide) _ j _ rfl (hv.alloc _) ⟨w4.heap.size, 0, none⟩ 1 1 [.complex .f64 ax ay] rfl rfl (World.news_of_block (cs := #[.complex .f64 ax ay]) (t := 29) (fr := (0, 0)) (heap_alloc_new w4 _)) (by simp [Value.oneCell']) (by omega) (by unfold maxLen; omega) (by omega) (by simp; omega) _ rfl ?_; intro g7 c7 w7 hown7 hgrow hat hlt7)
      have H7 := Lib.hid (H4.out.app (gr_alloc hgrow) (by rw [HPJ.out]; exact hown7))
      clear hown7 hgrow hat hlt7 H4 hv hsz hlt2
      go_wp2_with fail
      go_roundw
      case rel => exact ⟨j + 1, _, by omega, by go_num, rfl, H7.out⟩
      case measure => simp [intOf]; omega
    · obtain rfl : j = P := by omega
      have z1 : ¬ (j : Int) < (j : Int) := by omega
      obtain ⟨g, cap, hfv, hcs⟩ : ∃ g cap, v = .slice (some ⟨g, 0, none⟩) j cap ∧ ∀ i, i < j → wr.cell? ⟨g, i, none⟩ = some (plV F i) := by
        obtain ⟨hl, ⟨rfl, h0⟩ | ⟨g, cap, cur, rfl, hb, hg, hc, hm, hs, ht⟩⟩ := HS.out.2.2.2
        · have := HX.out.2; omega
        · refine ⟨g, cap, rfl, fun i hi => ?_⟩
          rw [cell_of_row wr g i _ _ _ hg, ← Array.getElem?_toList]
          have := congrArg (fun l : List Value => l[i]?) ht
          rw [List.getElem?_take, if_pos (by omega)] at this
          rw [this]
          simp [hi]
      subst hfv
      have HG := Lib.hid (HFL.out g (w.heap.size + 1) cap wr hcs (HW.out _ _ _ HS.out))
      clear hcs
      go_wp2_with fail
      refine HG.out.mono ?_
      rintro e w5 ⟨rfl, b⟩
      have HS5 := Lib.hid (HS.out.1.trans (b.mono HS.out.1.size))
      clear HS b HG
      go_wp2
      go_ret
      exact ⟨rfl, HS5.out⟩
end Go.Proofs.Ytibkhmdnfloemaa

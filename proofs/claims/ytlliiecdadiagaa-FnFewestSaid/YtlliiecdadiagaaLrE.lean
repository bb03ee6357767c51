/- Runs, plans, changes (impl): canPlan, RunSails, PlanOk, Changes. -/
import Derived.Test.YtlliiecdadiagaaLrD
import Derived.Test.YtlliiecdadiagaaLpF
import Derived.Test.YtlliiecdadiagaaLpJ
namespace Go.Proofs.Ytlliiecdadiagaa
open Go.RowKit
set_option linter.unusedVariables false
set_option linter.unusedSimpArgs false

set_option maxRecDepth 100000 in
set_option maxHeartbeats 1000000 in
theorem i_can (f : Nat → Sl) (A TA : Option Addr) (g o n cap nm tcap : Nat) (w : World) (hn : n ≤ 1048576) (hcap : n ≤ cap) (hA : 0 < n → A = some ⟨g, o, none⟩) (hw : SlsIn w g o n f) (hf : ∀ j, j < n → SlWf (f j)) :
    Calls Try.prog 57 #[.slice A n cap, .slice TA nm tcap] w fun e w' => e = .returned (.bool (soB n f && decide (nm ≤ 60))) ∧ Below w.heap.size w w' := by
  have HO := Lib.hid (i_so f A g o n cap w hn hcap hA hw hf)
  clear hw hf
  generalize soB n f = t at *
  cases t
  · go_enter Try.func57, Try.ntmps57
    go_wp2_with fail
    refine HO.out.mono ?_
    rintro e w1 ⟨rfl, b⟩
    go_wp2
    go_ret
    exact ⟨rfl, b⟩
  by_cases h : nm ≤ 60
  · rw [decide_eq_true h]
    have k1 : (nm : Int) ≤ 60 := by omega
    have k2 : decide ((nm : Int) ≤ 60) = true := decide_eq_true k1
    go_enter Try.func57, Try.ntmps57
    go_wp2_with fail
    refine HO.out.mono ?_
    rintro e w1 ⟨rfl, b⟩
    go_wp2
    go_ret
    exact ⟨rfl, b⟩
  · rw [decide_eq_false h]
    have k1 : ¬ (nm : Int) ≤ 60 := by omega
    have k2 : decide ((nm : Int) ≤ 60) = false := decide_eq_false k1
    go_enter Try.func57, Try.ntmps57
    go_wp2_with fail
    refine HO.out.mono ?_
    rintro e w1 ⟨rfl, b⟩
    go_wp2
    go_ret
    exact ⟨rfl, b⟩
set_option maxRecDepth 100000 in
set_option maxHeartbeats 2000000 in
theorem i_run (f : Nat → Sl) (a : Int) (ms : Nat → Mm) (A : Option Addr) (g o n cap : Nat) (TA : Option Addr) (tg tO nm tcap : Nat) (w : World) (hn : n ≤ 1048576) (hcap : n ≤ cap) (hA : 0 < n → A = some ⟨g, o, none⟩) (hw : SlsIn w g o n f) (hf : ∀ j, j < n → SlWf (f j))
    (hm : nm ≤ 1048576) (hT : 0 < nm → TA = some ⟨tg, tO, none⟩) (hv : MmsIn w tg tO nm ms) (hmf : ∀ j, j < nm → MmWf (ms j)) :
    Calls Try.prog 22 #[.slice A n cap, .int .i64 a, .slice TA nm tcap] w (PlE 3 w (runW n f a nm ms)) := by
  obtain ⟨i0, hi, hz0, hz1, hz2⟩ := info_parts Try.infoInt11
  have HO := Lib.hid (i_can f A TA g o n cap nm tcap w hn hcap hA hw hf)
  have HK := Lib.hid (fun (a : Int) (i : Nat) (hi : i < nm) w (h : SlsIn w g o n f) => i_keep f a (ms i) A g o n cap w hn hcap hA h hf (hmf i hi))
  have HG := Lib.hid (And.intro (fun h : 0 < n => hw.lt h) (fun h : 0 < nm => hv.lt h))
  have hs := Lib.hid (show SmS w g o n f tg tO nm ms w from ⟨hw, hv, Below.refl _ _⟩)
  have hrw : runW n f a nm ms = if (soB n f && decide (nm ≤ 60)) = true then runFrom n f ms nm 0 a else [] := by
    unfold runW
    by_cases h : soB n f = true ∧ nm ≤ 60
    · rw [if_pos h, if_pos (by rw [h.1, decide_eq_true h.2]; rfl)]
    · rw [if_neg h, if_neg (fun k => h (by rw [Bool.and_eq_true, decide_eq_true_iff] at k; exact k))]
  rw [hrw]
  clear hw hv hf hmf hrw
  generalize (soB n f && decide (nm ≤ 60)) = t at *
  cases t
  · rw [if_neg (by decide)]
    go_enter Try.func22, Try.ntmps22
    go_wp2_with fail
    refine HO.out.mono ?_
    rintro e w1 ⟨rfl, b⟩
    go_wp2
    go_ret
    exact ⟨_, rfl, ⟨rfl, .inl ⟨rfl, rfl⟩⟩, b⟩
  rw [if_pos rfl]
  obtain ⟨L, hL⟩ : ∃ L, runFrom n f ms nm 0 a = L := ⟨_, rfl⟩
  rw [hL]
  have HL := Lib.hid hL
  clear hL
  go_enter Try.func22, Try.ntmps22
  go_wp2_with fail
  refine HO.out.mono ?_
  rintro e w1 ⟨rfl, b⟩
  have hs1 := Lib.hid (hs.out.step b)
  clear hs b HO
  go_wp2
  go_loopw [1, 7, 16, 9] (fun z v i _ wr => ∃ (k : Nat) (a' : Int) (xs : List Int), k ≤ nm ∧ z = .int .i64 a' ∧ i = .int .i64 k ∧ xs.length = k ∧ L = xs ++ runFrom n f ms (nm - k) k a' ∧ wr.ownsRow w.heap.size 3 1 v k (xs.map (Value.int .i64)) ∧ SmS w g o n f tg tO nm ms wr) (fun _ _ i _ _ => nm - (intOf i).toNat)
  case atStart => exact ⟨0, a, [], Nat.zero_le _, rfl, rfl, rfl, HL.out.symm, ⟨rfl, .inl ⟨rfl, rfl⟩⟩, hs1.out⟩
  case round =>
    obtain ⟨k, a', xs, hk, rfl, rfl, hxs, hLL, hown, hst⟩ := hrel
    clear hs1 HL
    have hnw : ∀ j, u7.ownBlock = some j → w.heap.size ≤ j := fun j e => (hown.lt j e).1
    by_cases hlt : k < nm
    · obtain rfl := hT (by omega)
      have z1 : (k : Int) < (nm : Int) := by omega
      have z0 : (0 : Int) ≤ (k : Int) := by omega
      have hp : runFrom n f ms (nm - k) k a' = keepW n f a' (ms k) :: runFrom n f ms (nm - (k + 1)) (k + 1) (keepW n f a' (ms k)) := by
        rw [show nm - k = (nm - (k + 1)) + 1 by omega]; rfl
      obtain ⟨⟨m1, m2⟩, hmk⟩ : ∃ m, ms k = m := ⟨_, rfl⟩
      obtain ⟨d0, d1⟩ := hst.2.1.at hlt hmk
      have hs2 := hst.step ((Below.refl _ _).alloc (Nat.le_refl _) (.cells #[.float .f32 m1, .int .i64 m2] 42))
      have hc2 := heap_alloc_new wr (.cells #[.float .f32 m1, .int .i64 m2] 42)
      obtain ⟨k0, k1⟩ := cells2m hc2
      have hown0 := hown.alloc (.cells #[.float .f32 m1, .int .i64 m2] 42)
      have HC := Lib.hid (HK.out a' k hlt (wr.alloc (.cells #[.float .f32 m1, .int .i64 m2] 42)) hs2.1)
      have a0 := fun (x y : Value) => st_new2 Try.prog wr x y (.float .f32 m1) 42 0 (by omega) rfl
      have a1 := fun (x y : Value) => st_new2 Try.prog wr x y (.int .i64 m2) 42 1 (by omega) rfl
      rw [hmk] at HC hp
      dsimp only at HC
      generalize keepW n f a' (m1, m2) = r at *
      have HS := Lib.hid hs2
      have HO := Lib.hid hown0
      have HN := Lib.hid hnw
      clear hst hs2 hown hown0 hnw hmk hc2
      go_wp2_with fail
      generalize hW : wr.alloc _ = W at *
      clear hW a0 a1 d0 d1
      refine HC.out.mono ?_
      rintro e w2 ⟨rfl, b2⟩
      have hst2 := Lib.hid (HS.out.step b2)
      have hown1 := HO.out.kept (gr_of_bel b2 none) (own_none_ne _)
      have hsz2 : w.heap.size ≤ w2.heap.size := hst2.out.2.2.size
      have HX := Lib.hid (show L = (xs ++ [r]) ++ runFrom n f ms (nm - (k + 1)) (k + 1) r by rw [hLL, hp, List.append_assoc]; rfl)
      clear HC HS HO b2 k0 k1 hp hLL
      go_wp2_with (at_builtin; refine wpList_append_own _ rfl _ _ 26 rfl w.heap.size 3 i0 (.int .i64 0) 1 8 Try.underlying26 hi hz0 hz1 hz2 rfl (by decide) _ _ _ rfl (hown1.alloc _) ⟨w2.heap.size, 0, none⟩ 1 1 [.int .i64 r] rfl rfl (World.news_of_block (cs := #[.int .i64 r]) (t := 3) (fr := (0, 0)) (heap_alloc_new w2 _)) (by simp [Value.oneCell']) (by unfold maxLen; omega) (by omega) (by simp; omega) ?_; intro v' w3 hown2 hgrow _)
      have hst3 := Lib.hid ((hst2.out.step ((Below.refl _ _).alloc (Nat.le_refl _) _)).far hgrow HN.out HG.out.1 HG.out.2)
      have HW := Lib.hid (show w3.ownsRow w.heap.size 3 1 v' (k + 1) ((xs ++ [r]).map (Value.int .i64)) by rw [List.map_append]; exact hown2)
      clear hown1 hown2 hgrow hst2
      go_wp2
      go_roundw
      case rel => exact ⟨k + 1, r, xs ++ [r], by omega, rfl, by go_num, by simp [hxs], HX.out, HW.out, hst3.out⟩
      case measure => simp [intOf]; omega
    · obtain rfl : k = nm := by omega
      have z1 : ¬ (k : Int) < (k : Int) := by omega
      have HX := Lib.hid (show L = xs by rw [hLL, Nat.sub_self]; exact List.append_nil _)
      have HW := Lib.hid hown
      clear hown hLL
      go_wp2
      go_ret
      exact ⟨_, rfl, by rw [HX.out, hxs]; exact HW.out, hst.2.2⟩
set_option maxRecDepth 100000 in
set_option maxHeartbeats 2000000 in
theorem i_plan (f : Nat → Sl) (ms : Nat → Mm) (p : Nat → Int) (A : Option Addr) (g o n cap : Nat) (TA : Option Addr) (tg tO nm tcap : Nat) (PA : Option Addr) (pg pO np pcap : Nat) (w : World) (hn : n ≤ 1048576) (hcap : n ≤ cap) (hA : 0 < n → A = some ⟨g, o, none⟩) (hw : SlsIn w g o n f) (hf : ∀ j, j < n → SlWf (f j))
    (hm : nm ≤ 1048576) (hT : 0 < nm → TA = some ⟨tg, tO, none⟩) (hv : MmsIn w tg tO nm ms) (hmf : ∀ j, j < nm → MmWf (ms j)) (hq : np ≤ 1048576) (hP : 0 < np → PA = some ⟨pg, pO, none⟩) (hp : PlIn w pg pO np p) :
    Calls Try.prog 19 #[.slice A n cap, .slice TA nm tcap, .slice PA np pcap] w fun e w' => e = .returned (.bool (planB n f nm ms np p)) ∧ Below w.heap.size w w' := by
  have HO := Lib.hid (i_can f A TA g o n cap nm tcap w hn hcap hA hw hf)
  have hs := Lib.hid (show SmP w g o n f tg tO nm ms pg pO np p w from ⟨⟨hw, hv, Below.refl _ _⟩, hp⟩)
  have HC := Lib.hid (fun a i (hi : i < nm) w (h : SlsIn w g o n f) => i_car f a (ms i) A g o n cap w hn hA h hf (hmf i hi))
  clear hw hv hp hf hmf
  have hcan : (soB n f && decide (nm ≤ 60)) = true ↔ soB n f = true ∧ nm ≤ 60 := by rw [Bool.and_eq_true, decide_eq_true_iff]
  generalize (soB n f && decide (nm ≤ 60)) = t at *
  have HV := Lib.hid hcan
  clear hcan
  cases t
  · have HN := Lib.hid (planB_no (n := n) (f := f) (nm := nm) (ms := ms) (np := np) (p := p) (fun h => by have := HV.out.2 ⟨h.1.1, h.1.2.1⟩; cases this))
    go_enter Try.func19, Try.ntmps19
    go_wp2_with fail
    refine HO.out.mono ?_
    rintro e w1 ⟨rfl, b⟩
    have hs1 := Lib.hid (hs.out.step b)
    clear hs b
    go_wp2
    go_ret
    exact ⟨by rw [HN.out]; rfl, hs1.out.1.2.2⟩
  by_cases hnp : np = nm
  · subst hnp
    have k3 : ((np : Int) == (np : Int)) = true := by simp
    go_enter Try.func19, Try.ntmps19
    go_wp2_with fail
    refine HO.out.mono ?_
    rintro e w1 ⟨rfl, b⟩
    have hs1 := Lib.hid (hs.out.step b)
    clear hs b HO
    go_wp2
    clear k3
    go_loopw [22, 7, 8] (fun i _ _ wr => ∃ k : Nat, k ≤ np ∧ i = .int .i64 k ∧ (∀ i, i < k → (0 ≤ p i ∧ p i < (n : Int)) ∧ wideB (f (p i).toNat) (ms i) = true) ∧ SmP w g o n f tg tO np ms pg pO np p wr) (fun i _ _ _ => np - (intOf i).toNat)
    case atStart => exact ⟨0, Nat.zero_le _, rfl, (fun j h => by omega), hs1.out⟩
    case round =>
      obtain ⟨k, hk, rfl, hall, hst⟩ := hrel
      have HA := Lib.hid hall
      clear hall hs1
      by_cases hlt : k < np
      · obtain rfl := hT (by omega)
        obtain rfl := hP (by omega)
        have z1 : (k : Int) < (np : Int) := by omega
        have z0 : (0 : Int) ≤ (k : Int) := by omega
        obtain ⟨⟨m1, m2⟩, hmk⟩ : ∃ m, ms k = m := ⟨_, rfl⟩
        obtain ⟨d0, d1⟩ := hst.1.2.1.at hlt hmk
        have d2 := hst.2 k hlt
        have HX := Lib.hid (HC.out (p k) k hlt wr hst.1.1)
        have hci := carB_iff (n := n) (f := f) (a := p k) (m := ms k)
        have HI := Lib.hid hci
        rw [hmk] at HX HI
        dsimp only at HX
        have HMK := Lib.hid hmk
        have HS := Lib.hid hst
        clear hmk hci hst
        obtain ⟨q, hq1⟩ : ∃ q, p k = q := ⟨_, rfl⟩
        rw [hq1] at HX HI d2
        have HQ := Lib.hid hq1
        clear hq1
        generalize carB n f q (m1, m2) = t at *
        go_wp2_with fail
        refine HX.out.mono ?_
        rintro e w2 ⟨rfl, b⟩
        have HS2 := Lib.hid (HS.out.step b)
        clear HS b d0 d1 d2 HX
        cases t
        · have HN := Lib.hid (planB_no (n := n) (f := f) (nm := np) (ms := ms) (np := np) (p := p) (fun h => by
            have := h.2 k hlt
            rw [HQ.out, HMK.out] at this
            have := HI.out.2 this
            cases this))
          go_wp2
          go_ret
          exact ⟨by rw [HN.out]; rfl, HS2.out.1.2.2⟩
        · have HG := Lib.hid (show (0 ≤ p k ∧ p k < (n : Int)) ∧ wideB (f (p k).toNat) (ms k) = true by rw [HQ.out, HMK.out]; exact HI.out.1 rfl)
          go_wp2
          go_roundw
          case rel => exact ⟨k + 1, by omega, by go_num, (fun i hi => by
            rcases Nat.lt_or_ge i k with h' | h'
            · exact HA.out i h'
            · rw [show i = k by omega]; exact HG.out), HS2.out⟩
          case measure => simp [intOf]; omega
      · obtain rfl : k = np := by omega
        have z1 : ¬ (k : Int) < (k : Int) := by omega
        have HN := Lib.hid (planB_iff.2 (show PlanP n f k ms k p from ⟨⟨(HV.out.1 (by first | trivial | rfl)).1, (HV.out.1 (by first | trivial | rfl)).2, rfl⟩, HA.out⟩))
        go_wp2
        go_ret
        exact ⟨by rw [HN.out]; rfl, hst.1.2.2⟩
  · have HN := Lib.hid (planB_no (n := n) (f := f) (nm := nm) (ms := ms) (np := np) (p := p) (fun h => hnp h.1.2.2))
    have k3 : ((np : Int) == (nm : Int)) = false := by rw [beq_eq_false_iff_ne]; omega
    have k4 : ¬ (np : Int) = (nm : Int) := by omega
    go_enter Try.func19, Try.ntmps19
    go_wp2_with fail
    refine HO.out.mono ?_
    rintro e w1 ⟨rfl, b⟩
    have hs1 := Lib.hid (hs.out.step b)
    clear hs b
    go_wp2
    go_ret
    exact ⟨by rw [HN.out]; rfl, hs1.out.1.2.2⟩
set_option maxRecDepth 100000 in
set_option maxHeartbeats 1000000 in
theorem i_chg (p : Nat → Int) (PA : Option Addr) (pg pO np pcap : Nat) (w : World) (hq : np ≤ 1048576) (hP : 0 < np → PA = some ⟨pg, pO, none⟩) (hp : PlIn w pg pO np p) :
    Calls Try.prog 20 #[.slice PA np pcap] w fun e w' => e = .returned (.int .i64 (chgN p np)) ∧ Below w.heap.size w w' := by
  have hs := Lib.hid (show PlIn w pg pO np p ∧ Below w.heap.size w w from ⟨hp, Below.refl _ _⟩)
  clear hp
  go_enter Try.func20, Try.ntmps20
  go_wp2
  go_loopw [3, 4] (fun z i wr => ∃ k : Nat, 1 ≤ k ∧ (k ≤ np ∨ k = 1) ∧ i = .int .i64 k ∧ z = .int .i64 (chgN p k) ∧ (PlIn wr pg pO np p ∧ Below w.heap.size w wr)) (fun _ i _ => np - (intOf i).toNat)
  case atStart => exact ⟨1, Nat.le_refl _, .inr rfl, rfl, rfl, hs.out⟩
  case round =>
    obtain ⟨k, hk, hk2, rfl, rfl, hst⟩ := hrel
    clear hs
    by_cases hlt : k < np
    · obtain rfl := hP (by omega)
      obtain ⟨j, rfl⟩ : ∃ j : Nat, k = j + 1 := ⟨k - 1, by omega⟩
      have z1 : ((j + 1 : Nat) : Int) < (np : Int) := by omega
      have z0 : (0 : Int) ≤ ((j + 1 : Nat) : Int) := by omega
      have z2 : ((j + 1 : Nat) : Int) - 1 = (j : Int) := by omega
      have z3 : (j : Int) < (np : Int) := by omega
      have z4 : (0 : Int) ≤ (j : Int) := by omega
      have z5 : IntKind.i64.wrap (((j + 1 : Nat) : Int) - 1) = (j : Int) := by rw [z2]; exact IntWalk.i64_in _ (by omega)
      have d0 := hst.1 (j + 1) hlt
      have d1 := hst.1 j (by omega)
      have hb := chg_bd p (j + 1)
      have e0 : chgN p (j + 1 + 1) = chgN p (j + 1) + (if p (j + 1) = p j then 0 else 1) := by
        show chgN p (j + 1) + (if 0 < j + 1 ∧ ¬ p (j + 1) = p (j + 1 - 1) then 1 else 0) = _
        rw [Nat.add_sub_cancel]
        by_cases h : p (j + 1) = p j
        · rw [if_pos h, if_neg (fun h' => h'.2 h)]
        · rw [if_neg h, if_pos ⟨Nat.succ_pos _, h⟩]
      generalize chgN p (j + 1) = cc at *
      generalize hc2 : chgN p (j + 1 + 1) = c2 at *
      have HC2 := Lib.hid hc2
      clear hc2
      have hbd : cc ≤ 1048577 := by omega
      generalize hx : p (j + 1) = x at *
      generalize p j = y at *
      have d0' : wr.cell? ⟨pg, pO + (j + 1), none⟩ = some (.int .i64 x) := d0
      have HST := Lib.hid hst
      have hkk : ((j + 1 : Nat) : Int) = (j : Int) + 1 := by omega
      by_cases hxy : x = y
      · rw [if_pos hxy] at e0
        have g1 : (x == y) = true := by rw [beq_iff_eq]; exact hxy
        have HE := Lib.hid (show c2 = cc by omega)
        clear e0 hb
        go_wp2
        go_quiet (fail)
        go_wp2_with fail
        go_roundw
        case rel => exact ⟨j + 2, by omega, by omega, by go_num, by rw [show j + 2 = j + 1 + 1 from rfl, HC2.out, HE.out], HST.out.1, below_drewK HST.out.2 _⟩
        case measure => simp [intOf]; omega
      · rw [if_neg hxy] at e0
        have g1 : (x == y) = false := by rw [beq_eq_false_iff_ne]; exact hxy
        have HE := Lib.hid (show c2 = cc + 1 by omega)
        clear e0
        go_wp2
        go_quiet (fail)
        go_wp2_with fail
        go_roundw
        case rel => exact ⟨j + 2, by omega, by omega, by go_num, by rw [show j + 2 = j + 1 + 1 from rfl, HC2.out, HE.out], HST.out.1, below_drewK HST.out.2 _⟩
        case measure => simp [intOf]; omega
    · have z1 : ¬ (k : Int) < (np : Int) := by omega
      have HE := Lib.hid (show chgN p k = chgN p np by
        rcases hk2 with h | h
        · rw [show k = np by omega]
        · rcases Nat.eq_zero_or_pos np with h0 | h0
          · rw [h, h0]; rfl
          · rw [show k = np by omega])
      go_wp2
      go_ret
      exact ⟨by rw [HE.out]; rfl, hst.2⟩
end Go.Proofs.Ytlliiecdadiagaa

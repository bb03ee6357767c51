/- stationsOk, TideOk (impl); the nearest high water (impl). -/
import Derived.Test.YtonfenekjocopaaTdH
namespace Go.Proofs.Ytonfenekjocopaa
open Go.RowKit Ieee
set_option linter.unusedSimpArgs false
set_option linter.unusedVariables false
attribute [local go_sem] st_cplx

set_option maxRecDepth 100000 in
set_option maxHeartbeats 4000000 in
theorem i_stationsOk (B : Nat) (T : Tid) (w : World) (hT : TidIn B w T) :
    Calls Try.prog 112 #[.slice T.S T.ns T.cs] w fun e w' => SaysW (StsOk T) w e w' := by
  have HI := Lib.hid hT
  have hn9 := hT.1.2.2.1
  clear hT
  by_cases h0 : T.ns = 0
  · have hno : ¬ StsOk T := fun h => by have := h.1.1; omega
    have HN := Lib.hid hno
    clear hno
    rw [h0]
    go_enter Try.func112, Try.ntmps112
    go_wp2_with fail
    go_ret
    exact SaysW.no HN.out rfl (Below.refl _ _)
  by_cases h60 : 20 < T.ns
  · have hno : ¬ StsOk T := fun h => by have := h.1.2; omega
    have HN := Lib.hid hno
    have e1 : (20 : Int) < (T.ns : Int) := by omega
    have e2 : ¬ (T.ns : Int) = 0 := by omega
    clear hno
    generalize T.ns = ns at *
    go_enter Try.func112, Try.ntmps112
    go_wp2_with fail
    go_ret
    exact SaysW.no HN.out rfl (Below.refl _ _)
  have e1 : ¬ (20 : Int) < (T.ns : Int) := by omega
  have e2 : ¬ (T.ns : Int) = 0 := by omega
  obtain ⟨gS, eS, hBg, _⟩ := HI.out.2.1 (by omega)
  have HE := Lib.hid (show StsOk T ↔ ∀ i, i < T.ns → StOne (T.st i) from ⟨fun h => h.2, fun h => ⟨by omega, h⟩⟩)
  have HG := Lib.hid eS
  rw [eS]
  clear eS
  go_enter Try.func112, Try.ntmps112
  go_wp2_with fail
  go_loopw [4, 15] (fun _ i wr => ∃ k : Nat, k ≤ T.ns ∧ i = .int .i64 k ∧ (∀ j, j < k → StOne (T.st j)) ∧ TidIn B wr T ∧ Below w.heap.size w wr) (fun _ i _ => T.ns - (intOf i).toNat)
  case atStart => exact ⟨0, by omega, rfl, fun j hj => by omega, HI.out, Below.refl _ _⟩
  case round =>
    obtain ⟨k, hk, rfl, hall, hT, hb⟩ := hrel
    have HA := Lib.hid hall
    have HT := Lib.hid (And.intro hT hb)
    clear hall hT hb
    by_cases hlt : k < T.ns
    · have k1 : (k : Int) < (T.ns : Int) := by omega
      have k0 : (0 : Int) ≤ (k : Int) := by omega
      obtain ⟨g', e', hB, hra⟩ := HT.out.1.2.1 (by omega)
      have e9 := HG.out
      rw [e9] at e'
      cases e'
      have hr := hra k hlt
      have hso := HT.out.1.1.1 k hlt
      have hst := run_storeCells_new (P := Try.prog) wr 110 (zeroS 0 0) (litS (T.st k)) (by exact Try.infoStS) (by rfl) (lit_is hso).st.one
      have hfl := fun w => i_flowOk (flA (T.st k)) _ _ w (flA_is hso)
      have hvk := fun w => i_vok (T.st k).a (T.st k).b w hso.1.1 hso.1.2
      have hbw : Below w.heap.size w (wr.alloc (.cells (litS (T.st k)) 110)) := HT.out.2.alloc HT.out.2.size _
      have htw : TidIn B (wr.alloc (.cells (litS (T.st k)) 110)) T := HT.out.1.same (HiSame.grown (World.grownBy_alloc wr _ none) (fun k e => by cases e))
      have HW := Lib.hid (And.intro hbw htw)
      obtain ⟨c0, c1, c2, c3, c4, c5, c6, c7, c8, c9, c10, c11, c12, c13⟩ := cells14 (show (wr.alloc (.cells (litS (T.st k)) 110)).heap[wr.heap.size]? = some (.cells #[.complex .f64 (T.st k).a (T.st k).b, .complex .f32 ((T.st k).x 0) ((T.st k).y 0), .complex .f32 ((T.st k).x 1) ((T.st k).y 1), .complex .f32 ((T.st k).x 2) ((T.st k).y 2), .complex .f32 ((T.st k).x 3) ((T.st k).y 3), .complex .f32 ((T.st k).x 4) ((T.st k).y 4), .complex .f32 ((T.st k).x 5) ((T.st k).y 5), .complex .f32 ((T.st k).x 6) ((T.st k).y 6), .complex .f32 ((T.st k).x 7) ((T.st k).y 7), .complex .f32 ((T.st k).x 8) ((T.st k).y 8), .complex .f32 ((T.st k).x 9) ((T.st k).y 9), .complex .f32 ((T.st k).x 10) ((T.st k).y 10), .complex .f32 ((T.st k).x 11) ((T.st k).y 11), .complex .f32 ((T.st k).x 12) ((T.st k).y 12)] 110 (0, 0)) from heap_alloc_new wr _)
      clear hra hbw htw hso e9
      unfold zeroS at hst
      unfold flA at hfl
      generalize hz : T.st k = Z at *
      have HK := Lib.hid hz
      clear hz
      go_upto_region 6 with (refine wpList_load_mid rfl _ _ rfl gS (k * 14) rfl (litS Z).toList _ hr Try.underlying110 rfl Try.infoStS ?_)
      generalize wr.alloc (.cells (litS Z) 110) = w5 at *
      clear hst hr HT
      go_wp2_with fail
      refine (hvk _).mono ?_
      rintro e w6 ⟨t, ht, rfl, rfl⟩
      have HV := Lib.hid ht
      clear ht
      cases t
      · have HN := Lib.hid (show ¬ StsOk T from fun h => by
          have h1 := (h.2 k hlt).1
          rw [HK.out] at h1
          cases HV.out.2 h1)
        go_wp2_with fail
        go_ret
        exact SaysW.no HN.out rfl HW.out.1
      · go_wp2_with fail
        refine (hfl _).mono ?_
        rintro e w7 ⟨t, ht, rfl, b7⟩
        have HF := Lib.hid (And.intro ht (And.intro (HW.out.1.trans (b7.mono HW.out.1.size)) (HW.out.2.same (HiSame.below b7))))
        clear ht b7 HW
        cases t
        · have HN := Lib.hid (show ¬ StsOk T from fun h => by
            have h1 := (h.2 k hlt).2
            rw [HK.out] at h1
            cases HF.out.1.2 h1)
          go_wp2_with fail
          go_ret
          exact SaysW.no HN.out rfl HF.out.2.1
        · have HO := Lib.hid (show StOne (T.st k) from by rw [HK.out]; exact ⟨HV.out.1 rfl, HF.out.1.1 rfl⟩)
          go_wp2_with fail
          go_roundw
          case rel => exact ⟨k + 1, by omega, by go_num, (fun j hj => by
            rcases Nat.lt_or_ge j k with h' | h'
            · exact HA.out j h'
            · rw [show j = k by omega]; exact HO.out), HF.out.2.2, HF.out.2.1⟩
          case measure => simp [intOf]; omega
    · obtain rfl : k = T.ns := by omega
      go_wp2_with fail
      go_ret
      exact SaysW.yes (HE.out.2 HA.out) rfl HT.out.2

set_option maxRecDepth 100000 in
set_option maxHeartbeats 1000000 in
theorem i_TideOk (B : Nat) (T : Tid) (w : World) (hT : TidIn B w T) :
    Calls Try.prog 103 #[.agg #[.slice T.S T.ns T.cs, .slice T.H T.nh T.ch]] w fun e w' => SaysW (TidOk T) w e w' := by
  have hb : Below w.heap.size w (w.alloc (.cells #[.slice T.S T.ns T.cs, .slice T.H T.nh T.ch] 41)) := (Below.refl w.heap.size w).alloc (Nat.le_refl _) _
  have hg := heap_alloc_new w (.cells #[.slice T.S T.ns T.cs, .slice T.H T.nh T.ch] 41)
  have ht : TidIn B (w.alloc (.cells #[.slice T.S T.ns T.cs, .slice T.H T.nh T.ch] 41)) T := hT.same (HiSame.grown (World.grownBy_alloc w _ none) (fun k e => by cases e))
  have HT := Lib.hid ht
  have HB := Lib.hid hb
  clear hT ht
  go_enter Try.func103, Try.ntmps103
  go_wp2_with fail
  refine (i_stationsOk B T _ HT.out).mono ?_
  rintro e w2 ⟨t, ht, rfl, b2⟩
  have hg2 := (b2.block w.heap.size (by simp)).trans hg
  have k1 := cell_of_row w2 _ 1 _ _ _ hg2
  have HS := Lib.hid (And.intro ht (And.intro (HB.out.trans (b2.mono HB.out.size)) (HT.out.same (HiSame.below b2))))
  clear ht b2 hg hg2 hb
  cases t
  · have HN := Lib.hid (show ¬ TidOk T from fun h => by cases HS.out.1.2 h.1)
    go_wp2_with fail
    go_ret
    exact SaysW.no HN.out rfl HS.out.2.1
  · go_wp2_with fail
    refine (i_highsOk B T _ HS.out.2.2).mono ?_
    rintro e w3 ⟨t, ht, rfl, b3⟩
    have HH := Lib.hid (And.intro ht (HS.out.2.1.trans (b3.mono HS.out.2.1.size)))
    clear ht b3
    go_wp2_with fail
    go_ret
    exact ⟨t, ⟨fun h => ⟨HS.out.1.1 (by first | rfl | trivial), HH.out.1.1 h⟩, fun h => HH.out.1.2 h.2⟩, rfl, HH.out.2⟩

/-! ### The nearest high water -/
/-- The first one of the n first for which f is least. -/
def fst (f : Nat → Int) : Nat → Nat
  | 0 => 0
  | n + 1 => if f n < f (fst f n) then n else fst f n
theorem fst_is (f : Nat → Int) (n : Nat) : fst f (n + 1) < n + 1 ∧ ∀ i, i < n + 1 → f (fst f (n + 1)) ≤ f i ∧ (i < fst f (n + 1) → f (fst f (n + 1)) < f i) := by
  induction n with
  | zero =>
    have e : fst f (0 + 1) = 0 := by simp [fst]
    rw [e]
    exact ⟨by omega, fun i hi => ⟨by rw [show i = 0 by omega]; exact Int.le_refl _, fun h => by omega⟩⟩
  | succ n ih =>
    obtain ⟨h1, h2⟩ := ih
    rw [show fst f (n + 1 + 1) = if f (n + 1) < f (fst f (n + 1)) then n + 1 else fst f (n + 1) from rfl]
    by_cases h : f (n + 1) < f (fst f (n + 1))
    · rw [if_pos h]
      refine ⟨by omega, fun i hi => ?_⟩
      rcases Nat.lt_or_ge i (n + 1) with h' | h'
      · have := (h2 i h').1
        exact ⟨by omega, fun _ => by omega⟩
      · rw [show i = n + 1 by omega]; exact ⟨Int.le_refl _, fun h => by omega⟩
    · rw [if_neg h]
      refine ⟨by omega, fun i hi => ?_⟩
      rcases Nat.lt_or_ge i (n + 1) with h' | h'
      · exact h2 i h'
      · rw [show i = n + 1 by omega]; exact ⟨by omega, fun h => by omega⟩
theorem fst_lt (f : Nat → Int) {n : Nat} (hn : 0 < n) : fst f n < n := by
  obtain ⟨m, rfl⟩ : ∃ m, n = m + 1 := ⟨n - 1, by omega⟩
  exact (fst_is f m).1
/-- How far a high water is from a time. -/
def far (T : Tid) (t : Int) (i : Nat) : Int := if T.hi i < t then t - T.hi i else T.hi i - t
theorem far_is (T : Tid) (t : Int) (i : Nat) : (T.hi i < t → far T t i = t - T.hi i) ∧ (¬ T.hi i < t → far T t i = T.hi i - t) := ⟨fun h => by unfold far; rw [if_pos h], fun h => by unfold far; rw [if_neg h]⟩
set_option maxHeartbeats 400000 in
theorem i_measure (z t : Int) (b : Nat) (w : World) (hc : w.cell? ⟨b, 0, none⟩ = some (.int .i64 t)) (ht : 0 ≤ t ∧ t ≤ 10000000) (hz : 0 ≤ z ∧ z ≤ 10000000) :
    Calls Try.prog 108 #[.int .i64 z, .pointer (some ⟨b, 0, none⟩)] w fun e w' => e = .returned (.int .i64 (if z < t then t - z else z - t)) ∧ w = w' := by
  obtain ⟨t0, t1⟩ := ht
  obtain ⟨z0, z1⟩ := hz
  by_cases h : z < t
  · rw [if_pos h]
    go_enter Try.func108, Try.ntmps108
    go_wp2_with fail
    go_ret
    exact ⟨rfl, rfl⟩
  · rw [if_neg h]
    go_enter Try.func108, Try.ntmps108
    go_wp2_with fail
    go_ret
    exact ⟨rfl, rfl⟩
set_option maxRecDepth 100000 in
set_option maxHeartbeats 1000000 in
theorem i_firstI (B : Nat) (T : Tid) (t : Int) (b : Nat) (w : World) (hT : TidIn B w T) (hok : HisOk T) (ht : 0 ≤ t ∧ t ≤ 10000000) (hc : w.cell? ⟨b, 0, none⟩ = some (.int .i64 t)) :
    Calls Try.prog 107 #[.slice T.H T.nh T.ch, .func (Fn.func 108) #[] #[.pointer (some ⟨b, 0, none⟩)]] w fun e w' => e = .returned (.int .i64 (fst (far T t) T.nh)) ∧ Below w.heap.size w w' := by
  obtain ⟨gH, eH, _, hcH⟩ := hT.2.2 (by have := hok.1.1; omega)
  have hn := hok.1
  have HC := Lib.hid hcH
  have HO := Lib.hid hok.2
  have HCB := Lib.hid hc
  rw [eH]
  clear hcH hT hok hc eH
  obtain ⟨hn1, hn2⟩ := hn
  go_enter Try.func107, Try.ntmps107
  go_wp2_with fail
  go_loopw [5, 6, 7, 10] (fun s _ _ i wr => ∃ (k : Nat), k ≤ T.nh ∧ i = .int .i64 k ∧ s = .int .i64 (fst (far T t) k) ∧ HiSame 0 w wr ∧ Below w.heap.size w wr) (fun _ _ _ i _ => T.nh - (intOf i).toNat)
  case atStart => exact ⟨0, by omega, rfl, rfl, HiSame.refl _ _, Below.refl _ _⟩
  case round =>
    obtain ⟨k, hk, rfl, rfl, hsame, hbel⟩ := hrel
    by_cases hlt : k < T.nh
    · have k1 : (k : Int) < (T.nh : Int) := by omega
      have k0 : (0 : Int) ≤ (k : Int) := by omega
      have hbl : fst (far T t) k < T.nh := by
        rcases Nat.eq_zero_or_pos k with h | h
        · subst h; show 0 < T.nh; omega
        · have := fst_lt (far T t) h; omega
      have ck : wr.cell? ⟨gH, k, none⟩ = some (.int .i64 (T.hi k)) := hsame.cell (Nat.zero_le _) (HC.out k hlt)
      have cb : wr.cell? ⟨gH, fst (far T t) k, none⟩ = some (.int .i64 (T.hi (fst (far T t) k))) := hsame.cell (Nat.zero_le _) (HC.out _ hbl)
      have b1 : ((fst (far T t) k : Nat) : Int) < (T.nh : Int) := by omega
      have b0 : (0 : Int) ≤ ((fst (far T t) k : Nat) : Int) := by omega
      have m1 := i_measure (T.hi k) t b wr.drew (hsame.cell (Nat.zero_le _) HCB.out) ht (HO.out k hlt).1
      have m2 := i_measure (T.hi (fst (far T t) k)) t b wr.drew (hsame.cell (Nat.zero_le _) HCB.out) ht (HO.out _ hbl).1
      have hstep : (far T t k < far T t (fst (far T t) k) ∧ fst (far T t) (k + 1) = k) ∨ (far T t (fst (far T t) k) ≤ far T t k ∧ fst (far T t) (k + 1) = fst (far T t) k) := by
        rw [show fst (far T t) (k + 1) = if far T t k < far T t (fst (far T t) k) then k else fst (far T t) k from rfl]
        by_cases h : far T t k < far T t (fst (far T t) k)
        · left; exact ⟨h, by rw [if_pos h]⟩
        · right; exact ⟨by omega, by rw [if_neg h]⟩
      have e1 : (if T.hi k < t then t - T.hi k else T.hi k - t) = far T t k := rfl
      have e2 : (if T.hi (fst (far T t) k) < t then t - T.hi (fst (far T t) k) else T.hi (fst (far T t) k) - t) = far T t (fst (far T t) k) := rfl
      rw [e1] at m1
      rw [e2] at m2
      have HN := Lib.hid (And.intro (hsame.trans (HiSame.grown (grown_drew wr none) (fun k e => by cases e))) (show Below w.heap.size w wr.drew from ⟨hbel.os, hbel.tape, hbel.output, hbel.size, hbel.block⟩))
      clear e1 e2 hsame hbel
      generalize far T t k = x at *
      generalize far T t (fst (far T t) k) = y at *
      rcases hstep with ⟨h, hs⟩ | ⟨h, hs⟩
      all_goals
        have HS := Lib.hid hs
        clear hs
        go_upto_region 5 with fail
        go_region_with (go_at_call 108; (first | ((with_reducible refine m1.mono ?_); rintro e w' ⟨rfl, rfl⟩) | ((with_reducible refine m2.mono ?_); rintro e w' ⟨rfl, rfl⟩)))
        all_goals
          go_wp2_with fail
          go_roundw
          case rel => exact ⟨k + 1, by omega, by go_num, by rw [HS.out], HN.out⟩
          case measure => simp [intOf]; omega
    · obtain rfl : k = T.nh := by omega
      go_wp2_with fail
      go_ret
      exact ⟨rfl, hbel⟩
set_option maxRecDepth 100000 in
set_option maxHeartbeats 1000000 in
theorem i_HighAt_yes (B : Nat) (T : Tid) (t : Int) (w : World) (hT : TidIn B w T) (hok : TidOk T) (ht : 0 ≤ t ∧ t ≤ 10000000) :
    Calls Try.prog 87 #[.agg #[.slice T.S T.ns T.cs, .slice T.H T.nh T.ch], .int .i64 t] w fun e w' => e = .returned (.int .i64 (fst (far T t) T.nh)) ∧ Below w.heap.size w w' := by
  have hb : Below w.heap.size w ((w.alloc (.cells #[.slice T.S T.ns T.cs, .slice T.H T.nh T.ch] 41)).alloc (.cells #[.int .i64 t] 3)) := ((Below.refl w.heap.size w).alloc (Nat.le_refl _) _).alloc (by simp) _
  have hg : ((w.alloc (.cells #[.slice T.S T.ns T.cs, .slice T.H T.nh T.ch] 41)).alloc (.cells #[.int .i64 t] 3)).heap[w.heap.size]? = some (.cells #[.slice T.S T.ns T.cs, .slice T.H T.nh T.ch] 41 (0, 0)) := by
    rw [Below.heap_alloc _ _ _ (by simp)]; exact heap_alloc_new w _
  have hgt := heap_alloc_new (w.alloc (.cells #[.slice T.S T.ns T.cs, .slice T.H T.nh T.ch] 41)) (.cells #[.int .i64 t] 3)
  rw [show (w.alloc (.cells #[.slice T.S T.ns T.cs, .slice T.H T.nh T.ch] 41)).heap.size = w.heap.size + 1 by simp] at hgt
  have hti : TidIn B ((w.alloc (.cells #[.slice T.S T.ns T.cs, .slice T.H T.nh T.ch] 41)).alloc (.cells #[.int .i64 t] 3)) T := hT.same (HiSame.grown (grown_trans (World.grownBy_alloc w _ none) (World.grownBy_alloc _ _ none)) (fun k e => by cases e))
  have HT := Lib.hid hti
  have HB := Lib.hid hb
  have HO := Lib.hid hok
  have hto := i_timeOk t true (by simp [ht])
  clear hT hti hok
  go_enter Try.func87, Try.ntmps87
  go_wp2_with fail
  generalize (w.alloc (.cells #[.slice T.S T.ns T.cs, .slice T.H T.nh T.ch] 41)).alloc (.cells #[.int .i64 t] 3) = w1 at *
  refine (i_TideOk B T _ HT.out).mono ?_
  rintro e w2 ⟨t2, ht2, rfl, b2⟩
  obtain rfl : t2 = true := ht2.2 HO.out
  have hg2 := (b2.block w.heap.size (block_lt hg)).trans hg
  have hgt2 := (b2.block (w.heap.size + 1) (block_lt hgt)).trans hgt
  have k1 := cell_of_row w2 _ 1 _ _ _ hg2
  have kt := cell_of_row w2 _ 0 _ _ _ hgt2
  have HS := Lib.hid (And.intro (HB.out.trans (b2.mono HB.out.size)) (HT.out.same (HiSame.below b2)))
  clear ht2 b2 hg hb HT HB hgt
  go_wp2_with (go_at_call 106; ((with_reducible refine (hto _).mono ?_); rintro e w' ⟨rfl, rfl⟩))
  refine (i_firstI B T t (w.heap.size + 1) w2 HS.out.2 HO.out.2 ht kt).mono ?_
  rintro e w3 ⟨rfl, b3⟩
  have HE := Lib.hid (HS.out.1.trans (b3.mono HS.out.1.size))
  clear b3
  go_wp2_with fail
  go_ret
  exact ⟨rfl, HE.out⟩
set_option maxRecDepth 100000 in
set_option maxHeartbeats 1000000 in
theorem i_HighAt_no (B : Nat) (T : Tid) (t : Int) (w : World) (hT : TidIn B w T) (hno : ¬ (TidOk T ∧ 0 ≤ t ∧ t ≤ 10000000)) :
    Calls Try.prog 87 #[.agg #[.slice T.S T.ns T.cs, .slice T.H T.nh T.ch], .int .i64 t] w fun e w' => e = .returned (.int .i64 (-1)) ∧ Below w.heap.size w w' := by
  have hb : Below w.heap.size w ((w.alloc (.cells #[.slice T.S T.ns T.cs, .slice T.H T.nh T.ch] 41)).alloc (.cells #[.int .i64 t] 3)) := ((Below.refl w.heap.size w).alloc (Nat.le_refl _) _).alloc (by simp) _
  have hgt := heap_alloc_new (w.alloc (.cells #[.slice T.S T.ns T.cs, .slice T.H T.nh T.ch] 41)) (.cells #[.int .i64 t] 3)
  rw [show (w.alloc (.cells #[.slice T.S T.ns T.cs, .slice T.H T.nh T.ch] 41)).heap.size = w.heap.size + 1 by simp] at hgt
  have hti : TidIn B ((w.alloc (.cells #[.slice T.S T.ns T.cs, .slice T.H T.nh T.ch] 41)).alloc (.cells #[.int .i64 t] 3)) T := hT.same (HiSame.grown (grown_trans (World.grownBy_alloc w _ none) (World.grownBy_alloc _ _ none)) (fun k e => by cases e))
  have HT := Lib.hid hti
  have HB := Lib.hid hb
  have HO := Lib.hid hno
  clear hT hti hno
  go_enter Try.func87, Try.ntmps87
  go_wp2_with fail
  generalize (w.alloc (.cells #[.slice T.S T.ns T.cs, .slice T.H T.nh T.ch] 41)).alloc (.cells #[.int .i64 t] 3) = w1 at *
  refine (i_TideOk B T _ HT.out).mono ?_
  rintro e w2 ⟨t2, ht2, rfl, b2⟩
  have hgt2 := (b2.block (w.heap.size + 1) (block_lt hgt)).trans hgt
  have kt := cell_of_row w2 _ 0 _ _ _ hgt2
  have HS := Lib.hid (And.intro ht2 (HB.out.trans (b2.mono HB.out.size)))
  clear ht2 b2 hb HT HB hgt hgt2
  cases t2
  · go_wp2_with fail
    go_ret
    exact ⟨rfl, HS.out.2⟩
  · have hto := i_timeOk t false (by
      have h1 := HO.out
      have h2 := HS.out.1.1 rfl
      constructor
      · intro h; cases h
      · intro h; exact absurd ⟨h2, h⟩ h1)
    go_wp2_with (go_at_call 106; ((with_reducible refine (hto _).mono ?_); rintro e w' ⟨rfl, rfl⟩))
    go_ret
    exact ⟨rfl, HS.out.2⟩
end Go.Proofs.Ytonfenekjocopaa

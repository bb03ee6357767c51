/- Nodes and their winds (impl): NodeAt, wind, WindAt. -/
import Derived.Test.YtibkhmdnfloemaaMbB
namespace Go.Proofs.Ytibkhmdnfloemaa
open Go.RowKit
set_option linter.unusedVariables false
set_option linter.unusedSimpArgs false

theorem th_dec {F : Fd} {P : Nat} (hP : F.wd * F.hi = (P : Int)) (n : Int) : thB F n = decide (0 ≤ n ∧ n < (P : Int)) := by
  unfold thB
  rw [hP, decide_eq_decide]
  omega
set_option maxRecDepth 100000 in
set_option maxHeartbeats 4000000 in
theorem i_natV (F : Fd) (n : Int) (w : World) (hw : FdWf F) (h : FdIn w F) :
    Calls Try.prog 6 #[.agg #[.int .i64 F.wd, .int .i64 F.hi, .int .i64 F.me, .slice F.A F.n F.cap], .int .i64 n] w fun e w' => e = .returned (natV F n) ∧ Below w.heap.size w w' := by
  have HO := Lib.hid (fun w (h : FdIn w F) => i_fld F w hw h)
  have HX := Lib.hid (fun (hF : FdP F) (k : Nat) (hk : k ≤ 144) w (h : FdIn w F) => i_place12 F k w hF hk h)
  have hs := Lib.hid (FdQ.new h (Below.refl _ _) 26)
  obtain ⟨k0, k1, k2, k3⟩ := cells4f hs.out.2
  have hF := fdB_iff (F := F)
  unfold natV
  have HI := Lib.hid (fun (P : Nat) (hP : F.wd * F.hi = (P : Int)) (hP2 : P ≤ 144) w (h : FdIn w F) => i_has F P n (thB F n) w hP hP2 h (th_dec hP n))
  generalize fdB F = t at *
  clear h hw
  cases t
  · rw [Bool.false_and, if_neg (by decide)]
    clear hF HI
    go_enter Try.func6, Try.ntmps6
    go_wp2_with fail
    refine (HO.out _ hs.out.1.1).mono ?_
    rintro e w1 ⟨rfl, b⟩
    have H1 := Lib.hid (hs.out.step b)
    clear hs b k0 k1 k2 k3
    go_wp2
    go_ret2
    exact ⟨rfl, H1.out.1.2⟩
  have hP := hF.1 rfl
  rw [Bool.true_and]
  obtain ⟨a, b, m, ha, hb, hm, h1, h2, h3, h4, h5⟩ := fd_nums hP
  have HP := Lib.hid hP
  have HH := Lib.hid (HI.out (a * b) h4 h5)
  have hth : thB F n = true → 0 ≤ n ∧ n.toNat ≤ 144 := fun h => by
    rw [th_dec h4] at h
    have := of_decide_eq_true h
    generalize a * b = P at *
    omega
  clear ha hb hm h1 h2 h3 HI
  have HT := Lib.hid hth
  clear hF hP hth h4 h5
  generalize thB F n = u at *
  cases u
  · rw [if_neg (by decide)]
    go_enter Try.func6, Try.ntmps6
    go_wp2_with fail
    refine (HO.out _ hs.out.1.1).mono ?_
    rintro e w1 ⟨rfl, bl⟩
    have H1 := Lib.hid (hs.out.step bl)
    clear hs bl k0 k1 k2 k3
    obtain ⟨k0, k1, k2, k3⟩ := cells4f H1.out.2
    go_wp2_with fail
    refine (HH.out _ H1.out.1.1).mono ?_
    rintro e w2 ⟨rfl, bl⟩
    have H2 := Lib.hid (H1.out.step bl)
    clear H1 bl k0 k1 k2 k3
    go_wp2
    go_ret2
    exact ⟨rfl, H2.out.1.2⟩
  · rw [if_pos rfl]
    obtain ⟨n0, n1⟩ := HT.out rfl
    obtain ⟨k, rfl⟩ : ∃ k : Nat, n = (k : Int) := ⟨n.toNat, by omega⟩
    rw [Int.toNat_natCast] at n1 ⊢
    have HY := Lib.hid (fun w => HX.out HP.out k n1 w)
    go_enter Try.func6, Try.ntmps6
    go_wp2_with fail
    refine (HO.out _ hs.out.1.1).mono ?_
    rintro e w1 ⟨rfl, bl⟩
    have H1 := Lib.hid (hs.out.step bl)
    clear hs bl k0 k1 k2 k3
    obtain ⟨k0, k1, k2, k3⟩ := cells4f H1.out.2
    go_wp2_with fail
    refine (HH.out _ H1.out.1.1).mono ?_
    rintro e w2 ⟨rfl, bl⟩
    have H2 := Lib.hid (H1.out.step bl)
    clear H1 bl k0 k1 k2 k3
    obtain ⟨k0, k1, k2, k3⟩ := cells4f H2.out.2
    go_wp2_with fail
    refine (HY.out _ H2.out.1.1).mono ?_
    rintro e w3 ⟨rfl, bl⟩
    have H3 := Lib.hid (H2.out.step bl)
    clear H2 bl k0 k1 k2 k3
    go_wp2
    go_ret2
    exact ⟨rfl, H3.out.1.2⟩
theorem th_row12 {F : Fd} {k : Nat} (h : FdP F) (ht : thB F k = true) (j : Nat) (hj : j < F.n) : k < F.len j ∧ v12B (F.c j k) = true := by
  unfold thB at ht
  have h1 := of_decide_eq_true ht
  have h2 := h.2 j hj
  have h3 : k < F.len j := by omega
  exact ⟨h3, h2.2 k h3⟩
/-- The hour of a time. -/
def hrN (F : Fd) (T : Nat) : Nat := min (T / 3600) (F.n - 1)
set_option maxRecDepth 100000 in
set_option maxHeartbeats 4000000 in
theorem i_wind12 (F : Fd) (k T : Nat) (w : World) (hw : FdWf F) (hF : FdP F) (hk : thB F k = true) (hT : T ≤ 10000000) (h : FdIn w F) :
    Calls Try.prog 19 #[.agg #[.int .i64 F.wd, .int .i64 F.hi, .int .i64 F.me, .slice F.A F.n F.cap], .int .i64 k, .int .i64 T] w fun e w' => e = .returned (.complex .f32 (F.c (hrN F T) k).1 (F.c (hrN F T) k).2) ∧ Below w.heap.size w w' := by
  have x1 : 1 ≤ F.n ∧ F.n ≤ 24 := hF.1.2.2.2
  unfold hrN
  obtain ⟨h9, hh⟩ : ∃ h : Nat, T / 3600 = h := ⟨_, rfl⟩
  have y2 : ((T : Int).tdiv 3600) = (h9 : Int) := by rw [← hh]; rfl
  have y3 : h9 ≤ 10000000 := by rw [← hh]; exact Nat.le_trans (Nat.div_le_self T 3600) hT
  rw [hh]
  clear hh
  obtain ⟨j, hj⟩ : ∃ j : Nat, min h9 (F.n - 1) = j := ⟨_, rfl⟩
  have hjn : j < F.n := by omega
  rw [hj]
  have hlk := (th_row12 hF hk j hjn).1
  have hA := hw.2.2.2.1 (by omega)
  have hB := hw.2.2.2.2.1 j hjn (by omega)
  obtain ⟨e0, e1⟩ := h j hjn
  have e2 := e1 k hlk
  rw [hB] at e0
  have hs := Lib.hid (FdQ.new h (Below.refl _ _) 26)
  rw [hA] at hs ⊢
  have hl := World.block_lt_of_cell? _ _ e0
  have hl2 := World.block_lt_of_cell? _ _ e2
  dsimp only at hl hl2
  have hcs : ((j : Int) < (h9 : Int) ∧ (F.n : Int) - 1 = (j : Int)) ∨ (h9 = j ∧ ¬ (F.n : Int) - 1 < (h9 : Int)) := by omega
  have x2 : (k : Int) < ((F.len j : Nat) : Int) := by omega
  have x3 : (0 : Int) ≤ (k : Int) := by omega
  have x4 : (j : Int) < (F.n : Int) := by omega
  have x5 : (0 : Int) ≤ (j : Int) := by omega
  have x8 : wrap64 (j : Int) = (j : Int) := by unfold wrap64; omega
  have x10 : wrap64 (h9 : Int) = (h9 : Int) := by unfold wrap64; omega
  have x11 : wrap64 ((F.n : Int) - 1) = (F.n : Int) - 1 := by unfold wrap64; omega
  obtain ⟨c, hc⟩ : ∃ c : Nat × Nat, F.c j k = c := ⟨_, rfl⟩
  rw [hc] at e2 ⊢
  clear hc hw hF hk hA hB h e1
  rcases hcs with ⟨x6, x7⟩ | ⟨rfl, x6⟩
  · clear hj y3 x1
    go_enter Try.func19, Try.ntmps19
    go_wp2
    go_ret
    exact ⟨rfl, hs.out.1.2⟩
  · clear hj y3 x1
    go_enter Try.func19, Try.ntmps19
    go_wp2
    go_ret
    exact ⟨rfl, hs.out.1.2⟩
/-- What WindAt tells. -/
noncomputable def wnaV (F : Fd) (n t : Int) : Value := if (fdB F && thB F n && decide (0 ≤ t ∧ t ≤ 10000000)) = true then .tuple #[.complex .f32 (F.c (hrN F t.toNat) n.toNat).1 (F.c (hrN F t.toNat) n.toNat).2, .bool true] else .tuple #[.complex .f32 0 0, .bool false]
set_option maxRecDepth 100000 in
set_option maxHeartbeats 4000000 in
theorem i_wnaV (F : Fd) (n t : Int) (w : World) (hw : FdWf F) (h : FdIn w F) :
    Calls Try.prog 7 #[.agg #[.int .i64 F.wd, .int .i64 F.hi, .int .i64 F.me, .slice F.A F.n F.cap], .int .i64 n, .int .i64 t] w fun e w' => e = .returned (wnaV F n t) ∧ Below w.heap.size w w' := by
  have HO := Lib.hid (fun w (h : FdIn w F) => i_fld F w hw h)
  have HX := Lib.hid (fun (hF : FdP F) (k T : Nat) (hk : thB F k = true) (hT : T ≤ 10000000) w (h : FdIn w F) => i_wind12 F k T w hw hF hk hT h)
  have hs := Lib.hid (FdQ.new h (Below.refl _ _) 26)
  obtain ⟨k0, k1, k2, k3⟩ := cells4f hs.out.2
  have hF := fdB_iff (F := F)
  unfold wnaV
  have HI := Lib.hid (fun (P : Nat) (hP : F.wd * F.hi = (P : Int)) (hP2 : P ≤ 144) w (h : FdIn w F) => i_has F P n (thB F n) w hP hP2 h (th_dec hP n))
  have HQ := Lib.hid (fun w => i_time12 t (decide (0 ≤ t ∧ t ≤ 10000000)) w rfl)
  generalize fdB F = t9 at *
  clear h hw
  cases t9
  · rw [Bool.false_and, Bool.false_and, if_neg (by decide)]
    clear hF HI
    go_enter Try.func7, Try.ntmps7
    go_wp2_with fail
    refine (HO.out _ hs.out.1.1).mono ?_
    rintro e w1 ⟨rfl, b⟩
    have H1 := Lib.hid (hs.out.step b)
    clear hs b k0 k1 k2 k3
    go_wp2
    go_ret2
    exact ⟨rfl, H1.out.1.2⟩
  have hP := hF.1 rfl
  rw [Bool.true_and]
  obtain ⟨a, b, m, ha, hb, hm, h1, h2, h3, h4, h5⟩ := fd_nums hP
  have HP := Lib.hid hP
  have HH := Lib.hid (HI.out (a * b) h4 h5)
  have hth : thB F n = true → 0 ≤ n := fun h => by
    rw [th_dec h4] at h
    exact (of_decide_eq_true h).1
  clear ha hb hm h1 h2 h3 HI
  have HT := Lib.hid hth
  clear hF hP hth h4 h5
  cases hu : thB F n
  · rw [Bool.false_and, if_neg (by decide)]
    rw [hu] at HH
    clear hu
    go_enter Try.func7, Try.ntmps7
    go_wp2_with fail
    refine (HO.out _ hs.out.1.1).mono ?_
    rintro e w1 ⟨rfl, bl⟩
    have H1 := Lib.hid (hs.out.step bl)
    clear hs bl k0 k1 k2 k3
    obtain ⟨k0, k1, k2, k3⟩ := cells4f H1.out.2
    go_wp2_with fail
    refine (HH.out _ H1.out.1.1).mono ?_
    rintro e w2 ⟨rfl, bl⟩
    have H2 := Lib.hid (H1.out.step bl)
    clear H1 bl k0 k1 k2 k3
    go_wp2
    go_ret2
    exact ⟨rfl, H2.out.1.2⟩
  rw [Bool.true_and]
  have n0 := HT.out hu
  obtain ⟨k, rfl⟩ : ∃ k : Nat, n = (k : Int) := ⟨n.toNat, by omega⟩
  have HU := Lib.hid hu
  rw [hu] at HH
  rw [Int.toNat_natCast]
  clear hu HT n0
  by_cases ht : 0 ≤ t ∧ t ≤ 10000000
  case neg =>
    rw [decide_eq_false ht, if_neg (by decide)]
    rw [decide_eq_false ht] at HQ
    clear ht
    go_enter Try.func7, Try.ntmps7
    go_wp2_with fail
    refine (HO.out _ hs.out.1.1).mono ?_
    rintro e w1 ⟨rfl, bl⟩
    have H1 := Lib.hid (hs.out.step bl)
    clear hs bl k0 k1 k2 k3
    obtain ⟨k0, k1, k2, k3⟩ := cells4f H1.out.2
    go_wp2_with fail
    refine (HH.out _ H1.out.1.1).mono ?_
    rintro e w2 ⟨rfl, bl⟩
    have H2 := Lib.hid (H1.out.step bl)
    clear H1 bl k0 k1 k2 k3
    go_wp2_with fail
    refine (HQ.out _).mono ?_
    rintro e w3 ⟨rfl, rfl⟩
    go_wp2
    go_ret2
    exact ⟨rfl, H2.out.1.2⟩
  rw [decide_eq_true ht, if_pos rfl]
  rw [decide_eq_true ht] at HQ
  obtain ⟨T, rfl⟩ : ∃ T : Nat, t = (T : Int) := ⟨t.toNat, by omega⟩
  rw [Int.toNat_natCast]
  have HY := Lib.hid (HX.out HP.out k T HU.out (by omega))
  generalize F.c (hrN F T) k = c at *
  clear ht HX HP HU
  go_enter Try.func7, Try.ntmps7
  go_wp2_with fail
  refine (HO.out _ hs.out.1.1).mono ?_
  rintro e w1 ⟨rfl, bl⟩
  have H1 := Lib.hid (hs.out.step bl)
  clear hs bl k0 k1 k2 k3
  obtain ⟨k0, k1, k2, k3⟩ := cells4f H1.out.2
  go_wp2_with fail
  refine (HH.out _ H1.out.1.1).mono ?_
  rintro e w2 ⟨rfl, bl⟩
  have H2 := Lib.hid (H1.out.step bl)
  clear H1 bl k0 k1 k2 k3
  obtain ⟨k0, k1, k2, k3⟩ := cells4f H2.out.2
  go_wp2_with fail
  refine (HQ.out _).mono ?_
  rintro e w3 ⟨rfl, rfl⟩
  go_wp2_with fail
  refine (HY.out _ H2.out.1.1).mono ?_
  rintro e w4 ⟨rfl, bl⟩
  have H3 := Lib.hid (H2.out.step bl)
  clear H2 bl k0 k1 k2 k3
  go_wp2
  go_ret2
  exact ⟨rfl, H3.out.1.2⟩
end Go.Proofs.Ytibkhmdnfloemaa

/- Fields (impl): winds that are not valid, slices.IndexFunc and ContainsFunc with it, FieldOk. -/
import Derived.Test.YtibkhmdnfloemaaMbA
namespace Go.Proofs.Ytibkhmdnfloemaa
open Go.RowKit
set_option linter.unusedVariables false
set_option linter.unusedSimpArgs false

/-- A field lies there, and nothing old has turned. -/
def FdW (w : World) (F : Fd) (wr : World) : Prop := FdIn wr F ∧ Below w.heap.size w wr
theorem FdW.step {w w1 w2 : World} {F : Fd} (h : FdW w F w1) (b : Below w1.heap.size w1 w2) : FdW w F w2 := ⟨h.1.below b (Nat.le_refl _), h.2.trans (b.mono h.2.size)⟩
theorem FdW.drew {w w1 : World} {F : Fd} (h : FdW w F w1) : FdW w F w1.drew := ⟨h.1, h.2.drew⟩
theorem i_bad12 (v : Nat × Nat) (w : World) (h : v.1 < 4294967296 ∧ v.2 < 4294967296) : Calls Try.prog 35 #[.complex .f32 v.1 v.2] w fun e w' => e = .returned (.bool (!(v12B v))) ∧ Below w.heap.size w w' := by
  have HV := Lib.hid (fun w => i_velok v.1 v.2 w h.1 h.2)
  obtain ⟨v1, v2⟩ := v
  dsimp only at *
  clear h
  go_enter Try.func35, Try.ntmps35
  go_wp2_with fail
  refine (HV.out _).mono ?_
  rintro e w1 ⟨t, ht, rfl, _, g⟩
  have b1 : Below w.heap.size w w1 := (Below.refl _ w).grown g (Nat.le_refl _) (fun _ h => by cases h)
  have HT := Lib.hid (show v12B (v1, v2) = t by rw [Bool.eq_iff_iff, v12B_iff]; exact ht.symm)
  clear ht g HV
  go_wp2
  go_ret
  exact ⟨by rw [HT.out]; rfl, b1⟩
set_option maxRecDepth 100000 in
set_option maxHeartbeats 2000000 in
theorem i_idxV (F : Fd) (j : Nat) (w : World) (hw : FdWf F) (hj : j < F.n) (h : FdIn w F) :
    Calls Try.prog 46 #[.slice (F.HA j) (F.len j) (F.cp j), .func (.func 35) #[] #[]] w fun e w' => ∃ r : Int, e = .returned (.int .i64 r) ∧ (0 ≤ r ↔ ∃ i, i < F.len j ∧ v12B (F.c j i) = false) ∧ Below w.heap.size w w' := by
  obtain ⟨_, hn, hlen, hA, hHA, hc⟩ := hw
  have hs := Lib.hid (show FdW w F w from ⟨h, Below.refl _ _⟩)
  have HHA := Lib.hid (hHA j hj)
  have HC := Lib.hid (hc j hj)
  have hl9 := hlen j hj
  have HJ := Lib.hid hj
  clear h hn hlen hA hHA hc hj
  obtain ⟨A, hA⟩ : ∃ A, F.HA j = A := ⟨_, rfl⟩
  rw [hA] at HHA ⊢
  have HA := Lib.hid hA
  clear hA
  go_enter Try.func46, Try.ntmps46
  go_wp2
  go_loopw [8, 5] (fun i _ wr => ∃ k : Nat, k ≤ F.len j ∧ i = .int .i64 k ∧ (∀ i, i < k → v12B (F.c j i) = true) ∧ FdW w F wr) (fun i _ _ => F.len j - (intOf i).toNat)
  case atStart => exact ⟨0, Nat.zero_le _, rfl, (fun j h => by omega), hs.out⟩
  case round =>
    obtain ⟨k, hk, rfl, hno, hst⟩ := hrel
    have HNO := Lib.hid hno
    clear hno hs
    by_cases hlt : k < F.len j
    · have eA := HHA.out (by omega)
      subst eA
      have z1 : (k : Int) < ((F.len j : Nat) : Int) := by omega
      have z0 : (0 : Int) ≤ (k : Int) := by omega
      have d0 := (hst.1 j HJ.out).2 k hlt
      have HX := Lib.hid (fun w => i_bad12 (F.c j k) w (HC.out k hlt))
      obtain ⟨v, hv⟩ : ∃ v, F.c j k = v := ⟨_, rfl⟩
      rw [hv] at d0 HX
      have HVV := Lib.hid hv
      have HS := Lib.hid hst
      clear hv hst
      cases ht : v12B v
      · have HG := Lib.hid (show v12B (F.c j k) = false by rw [HVV.out]; exact ht)
        rw [ht] at HX
        clear ht
        go_wp2_with fail
        refine (HX.out _).mono ?_
        rintro e w1 ⟨rfl, b⟩
        have HS2 := Lib.hid (HS.out.step b)
        clear HS b d0 HX
        go_wp2
        go_ret
        exact ⟨k, rfl, ⟨fun _ => ⟨k, hlt, HG.out⟩, fun _ => by omega⟩, HS2.out.2⟩
      · have HG := Lib.hid (show v12B (F.c j k) = true by rw [HVV.out]; exact ht)
        rw [ht] at HX
        clear ht
        go_wp2_with fail
        refine (HX.out _).mono ?_
        rintro e w1 ⟨rfl, b⟩
        have HS2 := Lib.hid (HS.out.step b)
        clear HS b d0 HX
        go_wp2
        go_roundw
        case rel => exact ⟨k + 1, by omega, by go_num, (fun i hi => by
          rcases Nat.lt_or_ge i k with h' | h'
          · exact HNO.out i h'
          · rw [show i = k by omega]; exact HG.out), HS2.out⟩
        case measure => simp [intOf]; omega
    · obtain rfl : k = F.len j := by omega
      have z1 : ¬ ((F.len j : Nat) : Int) < ((F.len j : Nat) : Int) := by omega
      go_wp2
      go_ret
      exact ⟨-1, rfl, ⟨fun h => by omega, fun ⟨i, hi, h⟩ => by rw [HNO.out i hi] at h; cases h⟩, hst.2⟩
/-- All winds of an hour are valid. -/
def hrB (F : Fd) (j : Nat) : Prop := ∀ i, i < F.len j → v12B (F.c j i) = true
set_option maxRecDepth 100000 in
set_option maxHeartbeats 2000000 in
theorem i_cntV (F : Fd) (j : Nat) (w : World) (hw : FdWf F) (hj : j < F.n) (h : FdIn w F) :
    Calls Try.prog 37 #[.slice (F.HA j) (F.len j) (F.cp j), .func (.func 35) #[] #[]] w fun e w' => ∃ t : Bool, e = .returned (.bool t) ∧ (t = false ↔ hrB F j) ∧ Below w.heap.size w w' := by
  have HC := Lib.hid (fun w h => i_idxV F j w hw hj h)
  clear hw hj
  have HN := Lib.hid (show ∀ r : Int, (0 ≤ r ↔ ∃ i, i < F.len j ∧ v12B (F.c j i) = false) → (decide (r ≥ 0) = false ↔ hrB F j) from fun r hr => by
    rw [decide_eq_false_iff_not]
    constructor
    · intro h i hi
      cases e : v12B (F.c j i)
      · exact absurd (hr.2 ⟨i, hi, e⟩) h
      · rfl
    · intro h h0
      obtain ⟨i, hi, e⟩ := hr.1 h0
      rw [h i hi] at e; cases e)
  go_enter Try.func37, Try.ntmps37
  go_wp2_with fail
  refine (HC.out _ h).mono ?_
  rintro e w1 ⟨r, rfl, hr, b⟩
  have HR := Lib.hid (HN.out r hr)
  clear hr HN HC
  generalize hd : decide (r ≥ 0) = t at *
  go_wp2
  go_ret
  exact ⟨t, by first | rfl | (rw [← hd]; rfl) | (rw [hd]; rfl), HR.out, b⟩
set_option maxRecDepth 100000 in
set_option maxHeartbeats 4000000 in
theorem i_fld (F : Fd) (w : World) (hw : FdWf F) (h : FdIn w F) :
    Calls Try.prog 15 #[.agg #[.int .i64 F.wd, .int .i64 F.hi, .int .i64 F.me, .slice F.A F.n F.cap]] w fun e w' => e = .returned (.bool (fdB F)) ∧ Below w.heap.size w w' := by
  have HCN := Lib.hid (fun j (hj : j < F.n) w h => i_cntV F j w hw hj h)
  obtain ⟨⟨b1, b2, b3⟩, hn, hlen, hA, hHA, hc⟩ := hw
  have HA := Lib.hid (And.intro hA (And.intro hHA (And.intro hlen hc)))
  have hs := Lib.hid (FdQ.new h (Below.refl _ _) 26)
  obtain ⟨k0, k1, k2, k3⟩ := cells4f hs.out.2
  have HI1 := Lib.hid (fun w => i_grid12 F.wd (decide (2 ≤ F.wd ∧ F.wd ≤ 12)) w rfl)
  have HI2 := Lib.hid (fun w => i_grid12 F.hi (decide (2 ≤ F.hi ∧ F.hi ≤ 12)) w rfl)
  clear h hA hHA hlen hc
  by_cases h1 : 2 ≤ F.wd ∧ F.wd ≤ 12
  case neg =>
    have HN := Lib.hid (fdB_no (F := F) (fun h => h1 h.1.1))
    rw [decide_eq_false h1] at HI1
    clear h1
    go_enter Try.func15, Try.ntmps15
    go_wp2_with fail
    refine (HI1.out _).mono ?_
    rintro e w1 ⟨rfl, rfl⟩
    go_wp2
    go_ret
    exact ⟨by rw [HN.out]; rfl, hs.out.1.2⟩
  by_cases h2 : 2 ≤ F.hi ∧ F.hi ≤ 12
  case neg =>
    have HN := Lib.hid (fdB_no (F := F) (fun h => h2 h.1.2.1))
    rw [decide_eq_true h1] at HI1
    rw [decide_eq_false h2] at HI2
    clear h1 h2
    go_enter Try.func15, Try.ntmps15
    go_wp2_with fail
    refine (HI1.out _).mono ?_
    rintro e w1 ⟨rfl, rfl⟩
    go_wp2_with fail
    refine (HI2.out _).mono ?_
    rintro e w1 ⟨rfl, rfl⟩
    go_wp2
    go_ret
    exact ⟨by rw [HN.out]; rfl, hs.out.1.2⟩
  rw [decide_eq_true h1] at HI1
  rw [decide_eq_true h2] at HI2
  by_cases h3 : 10 ≤ F.me ∧ F.me ≤ 100000
  case neg =>
    have HN := Lib.hid (fdB_no (F := F) (fun h => h3 h.1.2.2.1))
    rcases (show F.me < 10 ∨ (¬ F.me < 10 ∧ 100000 < F.me) by omega) with h4 | ⟨h4, h5⟩
    all_goals
      go_enter Try.func15, Try.ntmps15
      go_wp2_with fail
      refine (HI1.out _).mono ?_
      rintro e w1 ⟨rfl, rfl⟩
      go_wp2_with fail
      refine (HI2.out _).mono ?_
      rintro e w1 ⟨rfl, rfl⟩
      go_wp2
      go_ret
      exact ⟨by rw [HN.out]; rfl, hs.out.1.2⟩
  have h31 : ¬ F.me < 10 := by omega
  have h32 : ¬ 100000 < F.me := by omega
  have g31 : decide (F.me > 100000) = false := decide_eq_false h32
  by_cases h4 : 1 ≤ (F.n : Int) ∧ (F.n : Int) ≤ 24
  case neg =>
    have HN := Lib.hid (fdB_no (F := F) (fun h => h4 (by have := h.1.2.2.2; omega)))
    rcases (show F.n = 0 ∨ (¬ F.n = 0 ∧ 24 < F.n) by omega) with h5 | ⟨h5, h6⟩
    · have g1 : ((F.n : Int) == 0) = true := by rw [beq_iff_eq]; omega
      have HB := Lib.hid hs.out.1.2
      rw [h5] at HB
      go_enter Try.func15, Try.ntmps15
      go_wp2_with fail
      refine (HI1.out _).mono ?_
      rintro e w1 ⟨rfl, rfl⟩
      go_wp2_with fail
      refine (HI2.out _).mono ?_
      rintro e w1 ⟨rfl, rfl⟩
      go_wp2
      go_ret
      exact ⟨by rw [HN.out]; rfl, HB.out⟩
    · have g1 : ((F.n : Int) == 0) = false := by rw [beq_eq_false_iff_ne]; omega
      have g2 : decide ((F.n : Int) > 24) = true := decide_eq_true (by omega)
      have g3 : (24 : Int) < (F.n : Int) := by omega
      go_enter Try.func15, Try.ntmps15
      go_wp2_with fail
      refine (HI1.out _).mono ?_
      rintro e w1 ⟨rfl, rfl⟩
      go_wp2_with fail
      refine (HI2.out _).mono ?_
      rintro e w1 ⟨rfl, rfl⟩
      go_wp2
      go_ret
      exact ⟨by rw [HN.out]; rfl, hs.out.1.2⟩
  obtain ⟨P, hP, hP2⟩ : ∃ P : Nat, F.wd * F.hi = (P : Int) ∧ P ≤ 144 := by
    obtain ⟨a, ha⟩ : ∃ a : Nat, F.wd = a := ⟨F.wd.toNat, by omega⟩
    obtain ⟨b, hb⟩ : ∃ b : Nat, F.hi = b := ⟨F.hi.toNat, by omega⟩
    refine ⟨a * b, by rw [ha, hb]; rfl, ?_⟩
    exact Nat.mul_le_mul (show a ≤ 12 by omega) (show b ≤ 12 by omega)
  have HP := Lib.hid hP
  have HND := Lib.hid (fun w h => i_nodes F P w hP hP2 h)
  have HV := Lib.hid (show (2 ≤ F.wd ∧ F.wd ≤ 12) ∧ (2 ≤ F.hi ∧ F.hi ≤ 12) ∧ (10 ≤ F.me ∧ F.me ≤ 100000) ∧ (1 ≤ F.n ∧ F.n ≤ 24) from ⟨h1, h2, h3, by omega⟩)
  clear h1 h2 h3 hP
  have g1 : ((F.n : Int) == 0) = false := by rw [beq_eq_false_iff_ne]; omega
  have g2 : decide ((F.n : Int) > 24) = false := decide_eq_false (by omega)
  have g3 : ¬ (24 : Int) < (F.n : Int) := by omega
  have eA := HA.out.1 (by omega)
  rw [eA] at k3 hs ⊢
  clear eA
  go_enter Try.func15, Try.ntmps15
  go_wp2_with fail
  refine (HI1.out _).mono ?_
  rintro e w1 ⟨rfl, rfl⟩
  go_wp2_with fail
  refine (HI2.out _).mono ?_
  rintro e w1 ⟨rfl, rfl⟩
  go_wp2_with fail
  clear k0 k1 k2 k3 HI1 HI2 h31 h32 g31 g1 g2 g3
  go_loopw [39, 5] (fun i _ wr => ∃ j : Nat, j ≤ F.n ∧ i = .int .i64 j ∧ (∀ j', j' < j → (F.len j' : Int) = F.wd * F.hi ∧ ∀ i, i < F.len j' → v12B (F.c j' i) = true) ∧ FdQ w F w.heap.size 26 wr) (fun i _ _ => F.n - (intOf i).toNat)
  case atStart => exact ⟨0, Nat.zero_le _, rfl, (fun j h => by omega), hs.out⟩
  case round =>
    obtain ⟨j, hj, rfl, hall, hst⟩ := hrel
    have HL := Lib.hid hall
    clear hall hs
    obtain ⟨k0, k1, k2, k3⟩ := cells4f hst.2
    by_cases hlt : j < F.n
    · have z1 : (j : Int) < (F.n : Int) := by omega
      have z0 : (0 : Int) ≤ (j : Int) := by omega
      have d0 := (hst.1.1 j hlt).1
      have hl9 := HA.out.2.2.1 j hlt
      have HS := Lib.hid hst
      rw [HA.out.1 (by omega)] at k3
      have HK := Lib.hid (HCN.out j hlt)
      clear hst
      rw [HA.out.1 (by omega)] at HND
      by_cases hlp : F.len j = P
      · have g1 : (((F.len j : Nat) : Int) != (P : Int)) = false := by simp [hlp]
        have g1' : ((F.len j : Nat) : Int) = (P : Int) := by omega
        rw [hlp] at HK
        go_wp2_with fail
        refine (HND.out _ HS.out.1.1).mono ?_
        rintro e w2 ⟨rfl, b⟩
        have HS2 := Lib.hid (HS.out.step b)
        clear HS b k0 k1 k2 k3 d0 HND
        go_wp2_with fail
        refine (HK.out _ HS2.out.1.1).mono ?_
        rintro e w3 ⟨t, rfl, ht, b⟩
        have HS3 := Lib.hid (HS2.out.step b)
        have HT := Lib.hid ht
        clear HS2 b ht HK
        cases t
        · have HG := Lib.hid (HT.out.1 rfl)
          go_wp2_with fail
          go_roundw
          case rel => exact ⟨j + 1, by omega, by go_num, (fun j' hj' => by
            rcases Nat.lt_or_ge j' j with h' | h'
            · exact HL.out j' h'
            · rw [show j' = j by omega, HP.out]; exact ⟨g1', HG.out⟩), HS3.out⟩
          case measure => simp [intOf]; omega
        · have HN := Lib.hid (fdB_no (F := F) (fun h => by have := HT.out.2 (h.2 j hlt).2; cases this))
          go_wp2
          go_ret
          exact ⟨by rw [HN.out]; rfl, HS3.out.1.2⟩
      · have g1 : (((F.len j : Nat) : Int) != (P : Int)) = true := by simp; omega
        have g1' : ¬ ((F.len j : Nat) : Int) = (P : Int) := by omega
        have HN := Lib.hid (fdB_no (F := F) (fun h => by have := (h.2 j hlt).1; rw [HP.out] at this; omega))
        go_wp2_with fail
        refine (HND.out _ HS.out.1.1).mono ?_
        rintro e w2 ⟨rfl, b⟩
        have HS2 := Lib.hid (HS.out.step b)
        clear HS b k0 k1 k2 k3 d0 HND
        go_wp2
        go_ret
        exact ⟨by rw [HN.out]; rfl, HS2.out.1.2⟩
    · obtain rfl : j = F.n := by omega
      have z1 : ¬ (F.n : Int) < (F.n : Int) := by omega
      have HN := Lib.hid (fdB_iff.2 (show FdP F from ⟨HV.out, HL.out⟩))
      go_wp2
      go_ret
      exact ⟨by rw [HN.out]; rfl, hst.1.2⟩
end Go.Proofs.Ytibkhmdnfloemaa

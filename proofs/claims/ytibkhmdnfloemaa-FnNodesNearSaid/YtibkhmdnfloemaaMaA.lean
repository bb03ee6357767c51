/- Fields of winds in memory (spec): FieldOk. -/
import Derived.Test.YtibkhmdnfloemaaSV
import Derived.Test.YtibkhmdnfloemaaLiB
import Derived.Test.YtibkhmdnfloemaaOwnA
import Derived.Test.YtibkhmdnfloemaaHld
namespace Go.Proofs.Ytibkhmdnfloemaa
open Go.RowKit
set_option linter.unusedVariables false
set_option linter.unusedSimpArgs false

noncomputable def v12B (v : Nat × Nat) : Bool := @decide (S.okP v.1 ∧ S.okP v.2) (Classical.propDecidable _)
theorem v12B_iff {v : Nat × Nat} : v12B v = true ↔ S.okP v.1 ∧ S.okP v.2 := by unfold v12B; exact @decide_eq_true_iff _ (Classical.propDecidable _)
/-- A field: its numbers, its hours (how many, where they lie), the winds. -/
structure Fd where
  wd : Int
  hi : Int
  me : Int
  n : Nat
  cap : Nat
  A : Option Addr
  g : Nat
  o : Nat
  len : Nat → Nat
  cp : Nat → Nat
  HA : Nat → Option Addr
  hg : Nat → Nat
  ho : Nat → Nat
  c : Nat → Nat → Nat × Nat
def In64 (x : Int) : Prop := -9223372036854775808 ≤ x ∧ x ≤ 9223372036854775807
def FdWf (F : Fd) : Prop := (In64 F.wd ∧ In64 F.hi ∧ In64 F.me) ∧ F.n ≤ 1048576 ∧ (∀ j, j < F.n → F.len j ≤ 1048576) ∧ (0 < F.n → F.A = some ⟨F.g, F.o, none⟩) ∧ (∀ j, j < F.n → 0 < F.len j → F.HA j = some ⟨F.hg j, F.ho j, none⟩) ∧ ∀ j, j < F.n → ∀ i, i < F.len j → (F.c j i).1 < 4294967296 ∧ (F.c j i).2 < 4294967296
/-- A field's hours lie in a world. -/
def FdIn (w : World) (F : Fd) : Prop := ∀ j, j < F.n → w.cell? ⟨F.g, F.o + j, none⟩ = some (.slice (F.HA j) (F.len j) (F.cp j)) ∧ ∀ i, i < F.len j → w.cell? ⟨F.hg j, F.ho j + i, none⟩ = some (.complex .f32 (F.c j i).1 (F.c j i).2)
theorem FdIn.below {w w' : World} {B : Nat} {F : Fd} (h : FdIn w F) (hb : Below B w w') (hB : w.heap.size ≤ B) : FdIn w' F := fun j hj => by
  obtain ⟨h1, h2⟩ := h j hj
  have l1 := World.block_lt_of_cell? _ _ h1
  dsimp only at l1
  refine ⟨(hb.cell (p := ⟨F.g, F.o + j, none⟩) (show F.g < B by omega)).trans h1, fun i hi => ?_⟩
  have l2 := World.block_lt_of_cell? _ _ (h2 i hi)
  dsimp only at l2
  exact (hb.cell (p := ⟨F.hg j, F.ho j + i, none⟩) (show F.hg j < B by omega)).trans (h2 i hi)
def FdP (F : Fd) : Prop := ((2 ≤ F.wd ∧ F.wd ≤ 12) ∧ (2 ≤ F.hi ∧ F.hi ≤ 12) ∧ (10 ≤ F.me ∧ F.me ≤ 100000) ∧ (1 ≤ F.n ∧ F.n ≤ 24)) ∧ ∀ j, j < F.n → (F.len j : Int) = F.wd * F.hi ∧ ∀ i, i < F.len j → v12B (F.c j i) = true
noncomputable def fdB (F : Fd) : Bool := @decide (FdP F) (Classical.propDecidable _)
theorem fdB_iff {F : Fd} : fdB F = true ↔ FdP F := by unfold fdB; exact @decide_eq_true_iff _ (Classical.propDecidable _)
theorem fdB_no {F : Fd} (h : ¬ FdP F) : fdB F = false := by
  cases e : fdB F
  · rfl
  · exact absurd (fdB_iff.1 e) h
theorem cells4f {w : World} {g : Nat} {t : TypeId} {a b c d : Value} (h : w.heap[g]? = some (.cells #[a, b, c, d] t (0, 0))) : w.cell? ⟨g, 0, none⟩ = some a ∧ w.cell? ⟨g, 1, none⟩ = some b ∧ w.cell? ⟨g, 2, none⟩ = some c ∧ w.cell? ⟨g, 3, none⟩ = some d :=
  ⟨cell_of_row w _ 0 _ _ _ h, cell_of_row w _ 1 _ _ _ h, cell_of_row w _ 2 _ _ _ h, cell_of_row w _ 3 _ _ _ h⟩
/-- .. and a box of it. -/
def FdQ (w : World) (F : Fd) (q : Nat) (ty : TypeId) (wr : World) : Prop := (FdIn wr F ∧ Below w.heap.size w wr) ∧ wr.heap[q]? = some (.cells #[.int .i64 F.wd, .int .i64 F.hi, .int .i64 F.me, .slice F.A F.n F.cap] ty (0, 0))
theorem FdQ.step {w w1 w2 : World} {F : Fd} {q : Nat} {ty : TypeId} (h : FdQ w F q ty w1) (b : Below w1.heap.size w1 w2) : FdQ w F q ty w2 := ⟨⟨h.1.1.below b (Nat.le_refl _), h.1.2.trans (b.mono h.1.2.size)⟩, (b.block _ (heap_lt h.2)).trans h.2⟩
theorem FdQ.drew {w w1 : World} {F : Fd} {q : Nat} {ty : TypeId} (h : FdQ w F q ty w1) : FdQ w F q ty w1.drew := ⟨⟨h.1.1, h.1.2.drew⟩, h.2⟩
theorem FdQ.drewN {w w1 : World} {F : Fd} {q : Nat} {ty : TypeId} (h : FdQ w F q ty w1) (n : Nat) : FdQ w F q ty (w1.drewN n) := ⟨⟨h.1.1, below_drewN h.1.2 n⟩, h.2⟩
theorem FdQ.new {w w1 : World} {F : Fd} (h : FdIn w1 F) (b : Below w.heap.size w w1) (ty : TypeId) : FdQ w F w1.heap.size ty (w1.alloc (.cells #[.int .i64 F.wd, .int .i64 F.hi, .int .i64 F.me, .slice F.A F.n F.cap] ty)) :=
  ⟨⟨h.below ((Below.refl _ _).alloc (Nat.le_refl _) _) (Nat.le_refl _), b.trans (((Below.refl _ _).alloc (Nat.le_refl _) _).mono b.size)⟩, heap_alloc_new w1 _⟩
theorem s_in12 (n a b : Int) (t : Bool) (w : World) (ht : t = decide (a ≤ n ∧ n ≤ b)) :
    Calls Try.prog 21 #[.int .i64 n, .int .i64 a, .int .i64 b] w fun e w' => e = .returned (.bool t) ∧ w' = w := by
  by_cases h1 : a ≤ n
  · by_cases h2 : n ≤ b
    · rw [ht, decide_eq_true (And.intro h1 h2)]
      go_enter Try.func21, Try.ntmps21
      go_wp2
      go_ret
      exact ⟨rfl, rfl⟩
    · rw [ht, decide_eq_false (fun h => h2 h.2)]
      go_enter Try.func21, Try.ntmps21
      go_wp2
      go_ret
      exact ⟨rfl, rfl⟩
  · rw [ht, decide_eq_false (fun h => h1 h.1)]
    go_enter Try.func21, Try.ntmps21
    go_wp2
    go_ret
    exact ⟨rfl, rfl⟩
theorem s_vel12 (v : Nat × Nat) (w : World) (h : v.1 < 4294967296 ∧ v.2 < 4294967296) : Calls Try.prog 40 #[.complex .f32 v.1 v.2] w fun e w' => e = .returned (.bool (v12B v)) ∧ w = w' :=
  (S.s_vok v.1 v.2 w h.1 h.2).mono fun e w' ⟨t, ht, he, hw⟩ => by
    have : v12B v = t := by rw [Bool.eq_iff_iff, v12B_iff]; exact ht.symm
    rw [this]; exact ⟨he, hw⟩
set_option maxRecDepth 100000 in
set_option maxHeartbeats 4000000 in
theorem s_fld (F : Fd) (w : World) (hw : FdWf F) (h : FdIn w F) :
    Calls Try.prog 20 #[.agg #[.int .i64 F.wd, .int .i64 F.hi, .int .i64 F.me, .slice F.A F.n F.cap]] w fun e w' => e = .returned (.bool (fdB F)) ∧ Below w.heap.size w w' := by
  obtain ⟨⟨b1, b2, b3⟩, hn, hlen, hA, hHA, hc⟩ := hw
  have HA := Lib.hid (And.intro hA (And.intro hHA (And.intro hlen hc)))
  have hs := Lib.hid (FdQ.new h (Below.refl _ _) 26)
  obtain ⟨k0, k1, k2, k3⟩ := cells4f hs.out.2
  have HI1 := Lib.hid (fun w => s_in12 F.wd 2 12 (decide (2 ≤ F.wd ∧ F.wd ≤ 12)) w rfl)
  have HI2 := Lib.hid (fun w => s_in12 F.hi 2 12 (decide (2 ≤ F.hi ∧ F.hi ≤ 12)) w rfl)
  have HI3 := Lib.hid (fun w => s_in12 F.me 10 100000 (decide (10 ≤ F.me ∧ F.me ≤ 100000)) w rfl)
  have HI4 := Lib.hid (fun w => s_in12 (F.n : Int) 1 24 (decide (1 ≤ (F.n : Int) ∧ (F.n : Int) ≤ 24)) w rfl)
  clear h hA hHA hlen hc
  by_cases h1 : 2 ≤ F.wd ∧ F.wd ≤ 12
  case neg =>
    have HN := Lib.hid (fdB_no (F := F) (fun h => h1 h.1.1))
    rw [decide_eq_false h1] at HI1
    go_enter Try.func20, Try.ntmps20
    go_wp2_with fail
    refine (HI1.out _).mono ?_
    rintro e w1 ⟨rfl, rfl⟩
    go_wp2
    go_ret
    exact ⟨by rw [HN.out]; rfl, hs.out.1.2⟩
  by_cases h2 : 2 ≤ F.hi ∧ F.hi ≤ 12
  case neg =>
    have HN := Lib.hid (fdB_no (F := F) (fun h => h2 h.1.2.1))
    rw [decide_eq_true h1] at HI1
    rw [decide_eq_false h2] at HI2
    go_enter Try.func20, Try.ntmps20
    go_wp2_with fail
    refine (HI1.out _).mono ?_
    rintro e w1 ⟨rfl, rfl⟩
    go_wp2_with fail
    refine (HI2.out _).mono ?_
    rintro e w1 ⟨rfl, rfl⟩
    go_wp2
    go_ret
    exact ⟨by rw [HN.out]; rfl, hs.out.1.2⟩
  by_cases h3 : 10 ≤ F.me ∧ F.me ≤ 100000
  case neg =>
    have HN := Lib.hid (fdB_no (F := F) (fun h => h3 h.1.2.2.1))
    rw [decide_eq_true h1] at HI1
    rw [decide_eq_true h2] at HI2
    rw [decide_eq_false h3] at HI3
    go_enter Try.func20, Try.ntmps20
    go_wp2_with fail
    refine (HI1.out _).mono ?_
    rintro e w1 ⟨rfl, rfl⟩
    go_wp2_with fail
    refine (HI2.out _).mono ?_
    rintro e w1 ⟨rfl, rfl⟩
    go_wp2_with fail
    refine (HI3.out _).mono ?_
    rintro e w1 ⟨rfl, rfl⟩
    go_wp2
    go_ret
    exact ⟨by rw [HN.out]; rfl, hs.out.1.2⟩
  by_cases h4 : 1 ≤ (F.n : Int) ∧ (F.n : Int) ≤ 24
  case neg =>
    have HN := Lib.hid (fdB_no (F := F) (fun h => h4 (by have := h.1.2.2.2; omega)))
    rw [decide_eq_true h1] at HI1
    rw [decide_eq_true h2] at HI2
    rw [decide_eq_true h3] at HI3
    rw [decide_eq_false h4] at HI4
    go_enter Try.func20, Try.ntmps20
    go_wp2_with fail
    refine (HI1.out _).mono ?_
    rintro e w1 ⟨rfl, rfl⟩
    go_wp2_with fail
    refine (HI2.out _).mono ?_
    rintro e w1 ⟨rfl, rfl⟩
    go_wp2_with fail
    refine (HI3.out _).mono ?_
    rintro e w1 ⟨rfl, rfl⟩
    go_wp2_with fail
    refine (HI4.out _).mono ?_
    rintro e w1 ⟨rfl, rfl⟩
    go_wp2
    go_ret
    exact ⟨by rw [HN.out]; rfl, hs.out.1.2⟩
  rw [decide_eq_true h1] at HI1
  rw [decide_eq_true h2] at HI2
  rw [decide_eq_true h3] at HI3
  rw [decide_eq_true h4] at HI4
  obtain ⟨P, hP, hP2⟩ : ∃ P : Nat, F.wd * F.hi = (P : Int) ∧ P ≤ 144 := by
    obtain ⟨a, ha⟩ : ∃ a : Nat, F.wd = a := ⟨F.wd.toNat, by omega⟩
    obtain ⟨b, hb⟩ : ∃ b : Nat, F.hi = b := ⟨F.hi.toNat, by omega⟩
    refine ⟨a * b, by rw [ha, hb]; rfl, ?_⟩
    exact Nat.mul_le_mul (show a ≤ 12 by omega) (show b ≤ 12 by omega)
  have HP := Lib.hid hP
  have HV := Lib.hid (show (2 ≤ F.wd ∧ F.wd ≤ 12) ∧ (2 ≤ F.hi ∧ F.hi ≤ 12) ∧ (10 ≤ F.me ∧ F.me ≤ 100000) ∧ (1 ≤ F.n ∧ F.n ≤ 24) from ⟨h1, h2, h3, by omega⟩)
  go_enter Try.func20, Try.ntmps20
  go_wp2_with fail
  refine (HI1.out _).mono ?_
  rintro e w1 ⟨rfl, rfl⟩
  go_wp2_with fail
  refine (HI2.out _).mono ?_
  rintro e w1 ⟨rfl, rfl⟩
  go_wp2_with fail
  refine (HI3.out _).mono ?_
  rintro e w1 ⟨rfl, rfl⟩
  go_wp2_with fail
  refine (HI4.out _).mono ?_
  rintro e w1 ⟨rfl, rfl⟩
  clear k0 k1 k2 k3 HI1 HI2 HI3 HI4
  go_wp2_with fail
  go_loopw [3, 4] (fun i _ wr => ∃ j : Nat, j ≤ F.n ∧ i = .int .i64 j ∧ (∀ j', j' < j → (F.len j' : Int) = F.wd * F.hi ∧ ∀ i, i < F.len j' → v12B (F.c j' i) = true) ∧ FdQ w F w.heap.size 26 wr) (fun i _ _ => F.n - (intOf i).toNat)
  case atStart => exact ⟨0, Nat.zero_le _, rfl, (fun j h => by omega), hs.out⟩
  case round =>
    obtain ⟨j, hj, rfl, hall, hst⟩ := hrel
    have HL := Lib.hid hall
    clear hall hs
    obtain ⟨k0, k1, k2, k3⟩ := cells4f hst.2
    by_cases hlt : j < F.n
    · have z1 : (j : Int) < (F.n : Int) := by omega
      have z0 : (0 : Int) ≤ (j : Int) := by omega
      have d0 := (hst.1.1 j hlt).1
      have HC := Lib.hid (HA.out.2.2.2 j hlt)
      have HHA := Lib.hid (HA.out.2.1 j hlt)
      have hl9 := HA.out.2.2.1 j hlt
      have HS := Lib.hid hst
      rw [HA.out.1 (by omega)] at k3
      by_cases hlp : F.len j = P
      · have g1 : (((F.len j : Nat) : Int) == (P : Int)) = true := by rw [beq_iff_eq]; omega
        have hlp2 : ((F.len j : Nat) : Int) = (P : Int) := by omega
        clear hst
        go_wp2
        go_quiet (fail)
        have HS2 := Lib.hid (HS.out.drewN nq)
        clear HS k0 k1 k2 k3 d0 g1
        go_wp2_with fail
        go_loopw [4] (fun i wr => ∃ k : Nat, k ≤ F.len j ∧ i = .int .i64 k ∧ (∀ k', k' < k → v12B (F.c j k') = true) ∧ FdQ w F w.heap.size 26 wr) (fun i _ => F.len j - (intOf i).toNat)
        case atStart => exact ⟨0, Nat.zero_le _, rfl, (fun k h => by omega), HS2.out⟩
        case round =>
          obtain ⟨k, hk, rfl, hal, hst⟩ := hrel
          have HK := Lib.hid hal
          clear hal HS2
          obtain ⟨k0, k1, k2, k3⟩ := cells4f hst.2
          rw [HA.out.1 (by omega)] at k3
          have d0 := (hst.1.1 j hlt).1
          by_cases hlk : k < F.len j
          · have y1 : (k : Int) < ((F.len j : Nat) : Int) := by omega
            have y0 : (0 : Int) ≤ (k : Int) := by omega
            have d1 := (hst.1.1 j hlt).2 k hlk
            rw [HHA.out (by omega)] at d0
            have HX := Lib.hid (fun w => s_vel12 (F.c j k) w (HC.out k hlk))
            obtain ⟨v, hv⟩ : ∃ v, F.c j k = v := ⟨_, rfl⟩
            rw [hv] at d1 HX
            have HVV := Lib.hid hv
            have HS := Lib.hid hst
            clear hv hst
            cases ht : v12B v
            · have HN := Lib.hid (fdB_no (F := F) (fun h => by have := (h.2 j hlt).2 k hlk; rw [HVV.out, ht] at this; cases this))
              rw [ht] at HX
              clear ht
              go_wp2_with fail
              refine (HX.out _).mono ?_
              rintro e w5 ⟨rfl, rfl⟩
              go_wp2
              go_ret
              exact ⟨by rw [HN.out]; rfl, HS.out.1.2⟩
            · have HG := Lib.hid (show v12B (F.c j k) = true by rw [HVV.out]; exact ht)
              rw [ht] at HX
              clear ht
              go_wp2_with fail
              refine (HX.out _).mono ?_
              rintro e w5 ⟨rfl, rfl⟩
              go_wp2_with fail
              go_roundw
              case rel => exact ⟨k + 1, by omega, by go_num, (fun k' hk' => by
                rcases Nat.lt_or_ge k' k with h' | h'
                · exact HK.out k' h'
                · rw [show k' = k by omega]; exact HG.out), HS.out⟩
              case measure => simp [intOf]; omega
          · obtain rfl : k = F.len j := by omega
            have y1 : ¬ ((F.len j : Nat) : Int) < ((F.len j : Nat) : Int) := by omega
            have HS := Lib.hid hst
            clear hst
            go_wp2_with fail
            go_roundw
            case rel => exact ⟨j + 1, by omega, by go_num, (fun j' hj' => by
              rcases Nat.lt_or_ge j' j with h' | h'
              · exact HL.out j' h'
              · rw [show j' = j by omega, HP.out]; exact ⟨hlp2, HK.out⟩), HS.out⟩
            case measure => simp [intOf]; omega
      · have g1 : (((F.len j : Nat) : Int) == (P : Int)) = false := by rw [beq_eq_false_iff_ne]; omega
        have HN := Lib.hid (fdB_no (F := F) (fun h => by have := (h.2 j hlt).1; rw [HP.out] at this; omega))
        go_wp2
        go_quiet (fail)
        go_wp2
        go_ret
        exact ⟨by rw [HN.out]; rfl, (HS.out.drewN _).1.2⟩
    · obtain rfl : j = F.n := by omega
      have z1 : ¬ (F.n : Int) < (F.n : Int) := by omega
      have HN := Lib.hid (fdB_iff.2 (show FdP F from ⟨HV.out, HL.out⟩))
      go_wp2
      go_ret
      exact ⟨by rw [HN.out]; rfl, hst.1.2⟩
end Go.Proofs.Ytibkhmdnfloemaa

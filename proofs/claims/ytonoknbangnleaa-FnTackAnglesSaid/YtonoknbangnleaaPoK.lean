/- Binary search and lastUpTo. -/
import Derived.Test.YtonoknbangnleaaPoJ
namespace Go.Proofs.Ytonoknbangnleaa
open Go.RowKit Ieee
set_option linter.unusedSimpArgs false
set_option linter.unusedVariables false

theorem ord_self {a : Nat} (ha : S.isNum a) : FloatKind.f32.format.order a a = some .eq := by rw [ord_num ha ha, Int.compare_eq_eq.2 rfl]
theorem ord_lt {a b : Nat} (ha : S.isNum a) (hb : S.isNum b) : (FloatKind.f32.format.order a b == some .lt) = decide (S.fval a < S.fval b) := by
  rw [ord_num ha hb]
  rcases Int.lt_trichotomy (S.fval a) (S.fval b) with h | h | h
  · rw [Int.compare_eq_lt.2 h, decide_eq_true h]; rfl
  · rw [Int.compare_eq_eq.2 h, decide_eq_false (by omega)]; rfl
  · rw [Int.compare_eq_gt.2 h, decide_eq_false (by omega)]; rfl
theorem ord_eq {a b : Nat} (ha : S.isNum a) (hb : S.isNum b) : (FloatKind.f32.format.order a b == some .eq) = decide (S.fval a = S.fval b) := by
  rw [ord_num ha hb]
  rcases Int.lt_trichotomy (S.fval a) (S.fval b) with h | h | h
  · rw [Int.compare_eq_lt.2 h, decide_eq_false (by omega)]; rfl
  · rw [Int.compare_eq_eq.2 h, decide_eq_true h]; rfl
  · rw [Int.compare_eq_gt.2 h, decide_eq_false (by omega)]; rfl
theorem ord_le {a b : Nat} (ha : S.isNum a) (hb : S.isNum b) : (FloatKind.f32.format.order a b == some .lt || FloatKind.f32.format.order a b == some .eq) = decide (S.fval a ≤ S.fval b) := by
  rw [ord_lt ha hb, ord_eq ha hb]
  rcases Int.lt_trichotomy (S.fval a) (S.fval b) with h | h | h
  · rw [decide_eq_true h, decide_eq_true (Int.le_of_lt h)]; rfl
  · rw [decide_eq_true h, decide_eq_true (Int.le_of_eq h), Bool.or_true]
  · rw [decide_eq_false (by omega), decide_eq_false (by omega), decide_eq_false (by omega)]; rfl
theorem ord_ge {a b : Nat} (ha : S.isNum a) (hb : S.isNum b) : (FloatKind.f32.format.order a b == some .gt || FloatKind.f32.format.order a b == some .eq) = decide (S.fval b ≤ S.fval a) := by
  rw [ord_num ha hb]
  rcases Int.lt_trichotomy (S.fval a) (S.fval b) with h | h | h
  · rw [Int.compare_eq_lt.2 h, decide_eq_false (by omega)]; rfl
  · rw [Int.compare_eq_eq.2 h, decide_eq_true (by omega)]; rfl
  · rw [Int.compare_eq_gt.2 h, decide_eq_true (by omega)]; rfl
theorem ord_gt {a b : Nat} (ha : S.isNum a) (hb : S.isNum b) : (FloatKind.f32.format.order a b == some .gt) = decide (S.fval b < S.fval a) := by
  rw [ord_num ha hb]
  rcases Int.lt_trichotomy (S.fval a) (S.fval b) with h | h | h
  · rw [Int.compare_eq_lt.2 h, decide_eq_false (by omega)]; rfl
  · rw [Int.compare_eq_eq.2 h, decide_eq_false (by omega)]; rfl
  · rw [Int.compare_eq_gt.2 h, decide_eq_true (by omega)]; rfl

set_option maxHeartbeats 400000 in
theorem i_lessF (a b : Nat) (w : World) (ha : S.isNum a) (hb : S.isNum b) :
    Calls Try.prog 100 #[.float .f32 a, .float .f32 b] w fun e w' => e = .returned (.bool (decide (S.fval a < S.fval b))) ∧ w = w' := by
  have e1 := ord_self ha
  have e2 := ord_self hb
  have e3 := ord_lt ha hb
  generalize decide (S.fval a < S.fval b) = t at *
  cases t
  all_goals
    go_enter Try.func100, Try.ntmps100
    go_wp2
    go_ret
    exact ⟨rfl, rfl⟩
set_option maxHeartbeats 400000 in
theorem i_lessI (a b : Int) (w : World) :
    Calls Try.prog 104 #[.int .i64 a, .int .i64 b] w fun e w' => e = .returned (.bool (decide (a < b))) ∧ w = w' := by
  go_enter Try.func104, Try.ntmps104
  go_wp2
  go_ret
  exact ⟨rfl, rfl⟩
/-- Where the first one lies that is not less. -/
def FirstGe (n : Nat) (f : Nat → Int) (x : Int) (i : Nat) : Prop := i ≤ n ∧ (∀ j, j < i → f j < x) ∧ ∀ j, i ≤ j → j < n → x ≤ f j
/-- What a binary search tells. -/
def Found (n : Nat) (f : Nat → Int) (x : Int) (w : World) (e : Ending) (w' : World) : Prop :=
  ∃ (i : Nat) (b : Bool), FirstGe n f x i ∧ (b = true ↔ i < n ∧ f i = x) ∧ e = .returned (.tuple #[.int .i64 i, .bool b]) ∧ Drawn w w'
theorem Found.of {n : Nat} {f : Nat → Int} {x : Int} {w : World} {e : Ending} {w' : World} (i : Nat) (b : Bool) (h1 : FirstGe n f x i) (h2 : b = true ↔ i < n ∧ f i = x) (h3 : e = .returned (.tuple #[.int .i64 i, .bool b])) (h4 : Drawn w w') : Found n f x w e w' := ⟨i, b, h1, h2, h3, h4⟩
set_option maxRecDepth 100000 in
set_option maxHeartbeats 1000000 in
theorem i_searchF (f : Nat → Nat) (A : Option Addr) (n cap x : Nat) (w : World) (h : RowF w A n f) (hnum : ∀ j, j < n → S.isNum (f j)) (hx : S.isNum x) (hasc : ∀ j, j + 1 < n → S.fval (f j) < S.fval (f (j + 1))) :
    Calls Try.prog 98 #[.slice A n cap, .float .f32 x] w fun e w' => Found n (fun j => S.fval (f j)) (S.fval x) w e w' := by
  obtain ⟨hr, hn, _⟩ := h
  have HR := Lib.hid hr
  have HN := Lib.hid hnum
  have HS := Lib.hid hasc
  have ex := ord_self hx
  clear hr hnum hasc
  go_enter Try.func98, Try.ntmps98
  go_wp2
  go_loop [7, 8] (fun i j => ∃ a b : Nat, i = .int .i64 a ∧ j = .int .i64 b ∧ a ≤ b ∧ b ≤ n ∧ (∀ k, k < a → S.fval (f k) < S.fval x) ∧ ∀ k, b ≤ k → k < n → S.fval x ≤ S.fval (f k)) (fun i j => (intOf j).toNat - (intOf i).toNat)
  case atStart => exact ⟨0, n, rfl, rfl, Nat.zero_le _, Nat.le_refl _, fun k h => by omega, fun k h h2 => by omega⟩
  case round =>
    obtain ⟨a, b, rfl, rfl, hab, hb, hlo, hhi⟩ := hrel
    have HL := Lib.hid (And.intro hlo hhi)
    clear hlo hhi
    by_cases hlt : a < b
    · obtain ⟨g, o, rfl, hc⟩ := HR.out (by omega)
      have hlt1 : (a : Int) < (b : Int) := by omega
      have hc0 : a ≤ (a + b) / 2 ∧ (a + b) / 2 < b := by omega
      have c1 : w.cell? ⟨g, o + (a + b) / 2, none⟩ = some (fv (f ((a + b) / 2))) := hc ((a + b) / 2) (by omega)
      unfold fv at c1
      have hl := fun w => i_lessF (f ((a + b) / 2)) x w (HN.out _ (by omega)) hx
      have HC := Lib.hid hc0
      clear hc hc0
      cases hd : decide (S.fval (f ((a + b) / 2)) < S.fval x)
      · rw [hd] at hl
        have hge : ∀ k, (a + b) / 2 ≤ k → k < n → S.fval x ≤ S.fval (f k) := fun k h1 h2 => by
          have := of_decide_eq_false hd
          have := asc_le (f := fun i => S.fval (f i)) HS.out h1 h2
          omega
        have HG := Lib.hid hge
        clear hge hd
        generalize f ((a + b) / 2) = y at *
        go_wp2_with fail
        refine (hl _).mono ?_
        rintro e w1 ⟨rfl, rfl⟩
        clear hl
        go_wp2
        go_round
        case rel => exact ⟨a, (a + b) / 2, rfl, by go_num, HC.out.1, by have := HC.out; omega, HL.out.1, HG.out⟩
        case measure => have := HC.out; simp [intOf]; omega
      · rw [hd] at hl
        have hge : ∀ k, k < (a + b) / 2 + 1 → S.fval (f k) < S.fval x := fun k h1 => by
          have := of_decide_eq_true hd
          have := asc_le (f := fun i => S.fval (f i)) HS.out (show k ≤ (a + b) / 2 by omega) (by omega)
          omega
        have HG := Lib.hid hge
        clear hge hd
        generalize f ((a + b) / 2) = y at *
        go_wp2_with fail
        refine (hl _).mono ?_
        rintro e w1 ⟨rfl, rfl⟩
        clear hl
        go_wp2
        go_round
        case rel => exact ⟨(a + b) / 2 + 1, b, by go_num, rfl, by have := HC.out; omega, hb, HG.out, HL.out.2⟩
        case measure => have := HC.out; simp [intOf]; omega
    · obtain rfl : a = b := by omega
      have hlt1 : ¬ ((a : Int) < (a : Int)) := by omega
      have hFG : FirstGe n (fun j => S.fval (f j)) (S.fval x) a := ⟨hb, HL.out.1, HL.out.2⟩
      have HF := Lib.hid hFG
      clear hFG
      by_cases han : a < n
      · obtain ⟨g, o, rfl, hc⟩ := HR.out (by omega)
        have han1 : (a : Int) < (n : Int) := by omega
        have c1 : w.cell? ⟨g, o + a, none⟩ = some (fv (f a)) := hc a han
        unfold fv at c1
        have hya := HN.out a han
        have e1 := ord_eq hya hx
        have e2 := ord_self hya
        have hB : ∀ t : Bool, t = decide (S.fval (f a) = S.fval x) → (t = true ↔ a < n ∧ S.fval (f a) = S.fval x) := fun t ht => by
          rw [ht, decide_eq_true_iff]; exact ⟨fun h => ⟨han, h⟩, fun h => h.2⟩
        have HB := Lib.hid hB
        clear hc hB hya
        cases ht : decide (S.fval (f a) = S.fval x)
        · rw [ht] at e1
          have HB2 := Lib.hid (fun w' (d : Drawn w w') => Found.of a false HF.out (HB.out false ht.symm) rfl d)
          clear ht HB
          generalize f a = y at *
          go_wp2
          first | go_quiet (fail) | skip
          go_wp2
          go_ret2
          exact HB2.out _ (Drawn.refl _)
        · rw [ht] at e1
          have HB2 := Lib.hid (fun w' (d : Drawn w w') => Found.of a true HF.out (HB.out true ht.symm) rfl d)
          clear ht HB
          generalize f a = y at *
          go_wp2
          go_ret2
          exact HB2.out _ (Drawn.refl _)
      · have han1 : ¬ ((a : Int) < (n : Int)) := by omega
        have hB : (false = true ↔ a < n ∧ S.fval (f a) = S.fval x) := ⟨fun h => (by cases h), fun h => absurd h.1 han⟩
        have HB := Lib.hid hB
        clear hB
        go_wp2
        go_ret2
        exact Found.of a false HF.out HB.out rfl (Drawn.refl _)
set_option maxRecDepth 100000 in
set_option maxHeartbeats 1000000 in
theorem i_searchI (f : Nat → Int) (A : Option Addr) (n cap : Nat) (x : Int) (w : World) (h : RowI w A n f) (hasc : ∀ j, j + 1 < n → f j < f (j + 1)) :
    Calls Try.prog 102 #[.slice A n cap, .int .i64 x] w fun e w' => Found n f x w e w' := by
  obtain ⟨hr, hn, _⟩ := h
  have HR := Lib.hid hr
  have HS := Lib.hid hasc
  clear hr hasc
  go_enter Try.func102, Try.ntmps102
  go_wp2
  go_loop [7, 8] (fun i j => ∃ a b : Nat, i = .int .i64 a ∧ j = .int .i64 b ∧ a ≤ b ∧ b ≤ n ∧ (∀ k, k < a → f k < x) ∧ ∀ k, b ≤ k → k < n → x ≤ f k) (fun i j => (intOf j).toNat - (intOf i).toNat)
  case atStart => exact ⟨0, n, rfl, rfl, Nat.zero_le _, Nat.le_refl _, fun k h => by omega, fun k h h2 => by omega⟩
  case round =>
    obtain ⟨a, b, rfl, rfl, hab, hb, hlo, hhi⟩ := hrel
    have HL := Lib.hid (And.intro hlo hhi)
    clear hlo hhi
    by_cases hlt : a < b
    · obtain ⟨g, o, rfl, hc⟩ := HR.out (by omega)
      have hlt1 : (a : Int) < (b : Int) := by omega
      have hc0 : a ≤ (a + b) / 2 ∧ (a + b) / 2 < b := by omega
      have c1 : w.cell? ⟨g, o + (a + b) / 2, none⟩ = some (iv (f ((a + b) / 2))) := hc ((a + b) / 2) (by omega)
      unfold iv at c1
      have hl := fun w => i_lessI (f ((a + b) / 2)) x w
      have HC := Lib.hid hc0
      clear hc hc0
      cases hd : decide (f ((a + b) / 2) < x)
      · rw [hd] at hl
        have hge : ∀ k, (a + b) / 2 ≤ k → k < n → x ≤ f k := fun k h1 h2 => by
          have := of_decide_eq_false hd
          have := asc_le (f := fun i => f i) HS.out h1 h2
          omega
        have HG := Lib.hid hge
        clear hge hd
        generalize f ((a + b) / 2) = y at *
        go_wp2_with fail
        refine (hl _).mono ?_
        rintro e w1 ⟨rfl, rfl⟩
        clear hl
        go_wp2
        go_round
        case rel => exact ⟨a, (a + b) / 2, rfl, by go_num, HC.out.1, by have := HC.out; omega, HL.out.1, HG.out⟩
        case measure => have := HC.out; simp [intOf]; omega
      · rw [hd] at hl
        have hge : ∀ k, k < (a + b) / 2 + 1 → f k < x := fun k h1 => by
          have := of_decide_eq_true hd
          have := asc_le (f := fun i => f i) HS.out (show k ≤ (a + b) / 2 by omega) (by omega)
          omega
        have HG := Lib.hid hge
        clear hge hd
        generalize f ((a + b) / 2) = y at *
        go_wp2_with fail
        refine (hl _).mono ?_
        rintro e w1 ⟨rfl, rfl⟩
        clear hl
        go_wp2
        go_round
        case rel => exact ⟨(a + b) / 2 + 1, b, by go_num, rfl, by have := HC.out; omega, hb, HG.out, HL.out.2⟩
        case measure => have := HC.out; simp [intOf]; omega
    · obtain rfl : a = b := by omega
      have hlt1 : ¬ ((a : Int) < (a : Int)) := by omega
      have hFG : FirstGe n f x a := ⟨hb, HL.out.1, HL.out.2⟩
      have HF := Lib.hid hFG
      clear hFG
      by_cases han : a < n
      · obtain ⟨g, o, rfl, hc⟩ := HR.out (by omega)
        have han1 : (a : Int) < (n : Int) := by omega
        have c1 : w.cell? ⟨g, o + a, none⟩ = some (iv (f a)) := hc a han
        unfold iv at c1
        have hB : ∀ t : Bool, t = decide (f a = x) → (t = true ↔ a < n ∧ f a = x) := fun t ht => by
          rw [ht, decide_eq_true_iff]; exact ⟨fun h => ⟨han, h⟩, fun h => h.2⟩
        have HB := Lib.hid hB
        clear hc hB
        cases ht : decide (f a = x)
        · have HB2 := Lib.hid (fun w' (d : Drawn w w') => Found.of a false HF.out (HB.out false ht.symm) rfl d)
          have ht' : (f a == x) = false := by simpa using of_decide_eq_false ht
          clear ht HB
          generalize f a = y at *
          go_wp2
          first | go_quiet (fail) | skip
          go_wp2
          go_ret2
          exact HB2.out _ (Drawn.refl _)
        · have HB2 := Lib.hid (fun w' (d : Drawn w w') => Found.of a true HF.out (HB.out true ht.symm) rfl d)
          have ht' : f a = x := of_decide_eq_true ht
          clear ht HB
          generalize f a = y at *
          go_wp2
          go_ret2
          exact HB2.out _ (Drawn.refl _)
      · have han1 : ¬ ((a : Int) < (n : Int)) := by omega
        have hB : (false = true ↔ a < n ∧ f a = x) := ⟨fun h => (by cases h), fun h => absurd h.1 han⟩
        have HB := Lib.hid hB
        clear hB
        go_wp2
        go_ret2
        exact Found.of a false HF.out HB.out rfl (Drawn.refl _)
/-- The place of the last one that is at most x; -1 if there is none. -/
def LastUp (n : Nat) (f : Nat → Int) (x : Int) (w : World) (e : Ending) (w' : World) : Prop :=
  ∃ i : Int, ((∃ k : Nat, i = k ∧ LastIs n f x k) ∨ (i = -1 ∧ ∀ k, k < n → x < f k)) ∧ e = .returned (.int .i64 i) ∧ Drawn w w'
theorem LastUp.of {n : Nat} {f : Nat → Int} {x : Int} {w : World} {e : Ending} {w' : World} (i : Int) (h1 : (∃ k : Nat, i = k ∧ LastIs n f x k) ∨ (i = -1 ∧ ∀ k, k < n → x < f k)) (h3 : e = .returned (.int .i64 i)) (h4 : Drawn w w') : LastUp n f x w e w' := ⟨i, h1, h3, h4⟩
theorem last_of {n : Nat} {f : Nat → Int} {x : Int} (hasc : ∀ j, j + 1 < n → f j < f (j + 1)) {i : Nat} {b : Bool} (h1 : FirstGe n f x i) (h2 : b = true ↔ i < n ∧ f i = x) :
    (∃ k : Nat, (if b then (i : Int) else (i : Int) - 1) = k ∧ LastIs n f x k) ∨ ((if b then (i : Int) else (i : Int) - 1) = -1 ∧ ∀ k, k < n → x < f k) := by
  obtain ⟨g1, g2, g3⟩ := h1
  cases b
  · have hno : ¬ (i < n ∧ f i = x) := fun h => by cases h2.2 h
    have hgt : ∀ k, i ≤ k → k < n → x < f k := fun k hk hkn => by
      have := g3 k hk hkn
      rcases Nat.lt_or_ge i k with h | h
      · have := asc_lt hasc h hkn
        have := g3 i (Nat.le_refl _) (by omega)
        omega
      · obtain rfl : k = i := by omega
        have : f k ≠ x := fun h => hno ⟨hkn, h⟩
        omega
    cases i with
    | zero => exact .inr ⟨rfl, fun k hk => hgt k (Nat.zero_le _) hk⟩
    | succ i => exact .inl ⟨i, by simp, by omega, Int.le_of_lt (g2 i (by omega)), fun h => hgt (i + 1) (Nat.le_refl _) h⟩
  · obtain ⟨a1, a2⟩ := h2.1 rfl
    refine .inl ⟨i, rfl, a1, by omega, fun h => ?_⟩
    have := hasc i h
    omega
set_option maxHeartbeats 400000 in
theorem i_lastF (f : Nat → Nat) (A : Option Addr) (n cap x : Nat) (w : World) (h : RowF w A n f) (hnum : ∀ j, j < n → S.isNum (f j)) (hx : S.isNum x) (hasc : ∀ j, j + 1 < n → S.fval (f j) < S.fval (f (j + 1))) :
    Calls Try.prog 87 #[.slice A n cap, .float .f32 x] w fun e w' => LastUp n (fun j => S.fval (f j)) (S.fval x) w e w' := by
  have hn := h.2.1
  have hl := fun {i : Nat} {b : Bool} h1 h2 => last_of (f := fun j => S.fval (f j)) (x := S.fval x) hasc (i := i) (b := b) h1 h2
  have HL := Lib.hid (fun w' (hw : Keeps w w') => i_searchF f A n cap x w' (h.keeps hw) hnum hx hasc)
  clear h
  go_enter Try.func87, Try.ntmps87
  go_wp2_with fail
  refine (HL.out _ (Keeps.refl _)).mono ?_
  rintro e w1 ⟨i, b, h1, h2, rfl, m, rfl⟩
  have hi := h1.1
  have hX := hl h1 h2
  clear h1 h2 hl
  cases b
  · have HX := Lib.hid (fun w' (d : Drawn w w') => LastUp.of _ hX rfl d)
    clear hX
    go_wp2
    go_ret
    exact HX.out _ (Drawn.one _ _)
  · have HX := Lib.hid (fun w' (d : Drawn w w') => LastUp.of _ hX rfl d)
    clear hX
    go_wp2
    go_ret
    exact HX.out _ (Drawn.one _ _)
set_option maxHeartbeats 400000 in
theorem i_lastI (f : Nat → Int) (A : Option Addr) (n cap : Nat) (x : Int) (w : World) (h : RowI w A n f) (hasc : ∀ j, j + 1 < n → f j < f (j + 1)) :
    Calls Try.prog 99 #[.slice A n cap, .int .i64 x] w fun e w' => LastUp n f x w e w' := by
  have hn := h.2.1
  have hl := fun {i : Nat} {b : Bool} h1 h2 => last_of (x := x) hasc (i := i) (b := b) h1 h2
  have HL := Lib.hid (fun w' (hw : Keeps w w') => i_searchI f A n cap x w' (h.keeps hw) hasc)
  clear h
  go_enter Try.func99, Try.ntmps99
  go_wp2_with fail
  refine (HL.out _ (Keeps.refl _)).mono ?_
  rintro e w1 ⟨i, b, h1, h2, rfl, m, rfl⟩
  have hi := h1.1
  have hX := hl h1 h2
  clear h1 h2 hl
  cases b
  · have HX := Lib.hid (fun w' (d : Drawn w w') => LastUp.of _ hX rfl d)
    clear hX
    go_wp2
    go_ret
    exact HX.out _ (Drawn.one _ _)
  · have HX := Lib.hid (fun w' (d : Drawn w w') => LastUp.of _ hX rfl d)
    clear hX
    go_wp2
    go_ret
    exact HX.out _ (Drawn.one _ _)
end Go.Proofs.Ytonoknbangnleaa

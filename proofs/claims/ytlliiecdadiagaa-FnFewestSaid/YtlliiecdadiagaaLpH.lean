/- No plan has fewer changes: in numbers. What fits fits in the wider sense. -/
import Derived.Test.YtlliiecdadiagaaLpG
namespace Go.Proofs.Ytlliiecdadiagaa
open Go.RowKit Ieee
set_option linter.unusedVariables false
set_option linter.unusedSimpArgs false

/-! ### Runs -/
theorem lenF_wide (f : Nat → Sl) (ms : Nat → Mm) (k : Nat) : ∀ r p i, i < lenF f ms k r p → wideB (f k) (ms (p + i)) = true
  | 0, p, i, h => absurd h (Nat.not_lt_zero _)
  | r + 1, p, i, h => by
    unfold lenF at h
    split at h
    · rename_i hw
      cases i with
      | zero => exact hw
      | succ i =>
        have := lenF_wide f ms k r (p + 1) i (by omega)
        rw [show p + (i + 1) = p + 1 + i by omega]
        exact this
    · omega
theorem lenF_ge (f : Nat → Sl) (ms : Nat → Mm) (k : Nat) : ∀ r p m, m ≤ r → (∀ i, i < m → wideB (f k) (ms (p + i)) = true) → m ≤ lenF f ms k r p
  | 0, p, m, h, _ => by omega
  | r + 1, p, 0, _, _ => Nat.zero_le _
  | r + 1, p, m + 1, h, hw => by
    unfold lenF
    have h0 := hw 0 (Nat.succ_pos _)
    rw [Nat.add_zero] at h0
    rw [if_pos h0]
    have := lenF_ge f ms k r (p + 1) m (by omega) (fun i hi => by
      have := hw (i + 1) (by omega)
      rw [show p + (i + 1) = p + 1 + i by omega] at this
      exact this)
    omega
theorem bs2_most (f : Nat → Sl) (ms : Nat → Mm) (nm p : Nat) : ∀ n k, k < n → lenF f ms k (nm - p) p ≤ (bs2 f ms nm p n).2
  | 0, k, h => absurd h (Nat.not_lt_zero _)
  | n + 1, k, h => by
    have ih := bs2_most f ms nm p n k
    unfold bs2
    split
    · rename_i hl
      rcases Nat.lt_or_ge k n with h' | h'
      · have := ih h'
        show _ ≤ lenF f ms n (nm - p) p
        omega
      · rw [show k = n by omega]; exact Nat.le_refl _
    · rename_i hl
      rcases Nat.lt_or_ge k n with h' | h'
      · exact ih h'
      · rw [show k = n by omega]; omega
theorem bs2_is (f : Nat → Sl) (ms : Nat → Mm) (nm p : Nat) : ∀ n, 0 ≤ (bs2 f ms nm p n).1 → (bs2 f ms nm p n).2 = lenF f ms (bs2 f ms nm p n).1.toNat (nm - p) p
  | 0, h => by have : (bs2 f ms nm p 0).1 = -1 := rfl; omega
  | n + 1, h => by
    have ih := bs2_is f ms nm p n
    unfold bs2 at h ⊢
    split
    · simp
    · rename_i hl
      rw [if_neg hl] at h
      exact ih h
/-! ### The plan that is told -/
theorem few_none {n : Nat} {f : Nat → Sl} {nm : Nat} {ms : Nat → Mm} : ∀ r p, fwF n f nm ms r p = none → ∃ i, p ≤ i ∧ i < nm ∧ ∀ k, k < n → wideB (f k) (ms i) = false
  | 0, p, h => by cases h
  | r + 1, p, h => by
    unfold fwF at h
    split at h
    · rename_i hp
      split at h
      · rename_i hb
        refine ⟨p, Nat.le_refl _, hp, fun k hk => ?_⟩
        have hm := bs2_most f ms nm p n k hk
        rcases bs2_ok f ms nm p n with ⟨h1, h2⟩ | ⟨h1, h2⟩
        · cases hw : wideB (f k) (ms p)
          · rfl
          · exfalso
            have := lenF_ge f ms k (nm - p) p 1 (by omega) (fun i hi => by rw [show i = 0 by omega]; exact hw)
            omega
        · omega
      · obtain ⟨i, h1, h2, h3⟩ := few_none r _ (Option.map_eq_none_iff.1 h)
        exact ⟨i, by omega, h2, h3⟩
    · cases h
theorem few_some {n : Nat} {f : Nat → Sl} {nm : Nat} {ms : Nat → Mm} : ∀ r p l, fwF n f nm ms r p = some l → nm ≤ p + r → p ≤ nm → l.length = nm - p ∧ ∀ i, i < l.length → (0 ≤ l.getD i 0 ∧ l.getD i 0 < (n : Int)) ∧ wideB (f (l.getD i 0).toNat) (ms (p + i)) = true
  | 0, p, l, h, h1, h2 => by
    cases h
    exact ⟨by simp; omega, fun i hi => absurd hi (Nat.not_lt_zero _)⟩
  | r + 1, p, l, h, h1, h2 => by
    unfold fwF at h
    split at h
    · rename_i hp
      split at h
      · cases h
      · rename_i hb
        obtain ⟨l', hl', rfl⟩ := Option.map_eq_some_iff.1 h
        have hi := bs2_is f ms nm p n (by omega)
        rcases bs2_ok f ms nm p n with ⟨q1, q2⟩ | ⟨⟨q1, q2⟩, q3, q4⟩
        · omega
        · have ih := few_some r _ l' hl' (by omega) (by omega)
          generalize bs2 f ms nm p n = B at *
          obtain ⟨b1, M⟩ := B
          dsimp only at *
          refine ⟨by simp; omega, fun i hi2 => ?_⟩
          rcases Nat.lt_or_ge i M with h' | h'
          · have e : (List.replicate M b1 ++ l').getD i 0 = b1 := by
              simp [List.getD, List.getElem?_append, h']
            rw [e]
            exact ⟨⟨q1, q2⟩, lenF_wide f ms b1.toNat (nm - p) p i (by omega)⟩
          · have e : (List.replicate M b1 ++ l').getD i 0 = l'.getD (i - M) 0 := by
              simp only [List.getD]
              rw [List.getElem?_append_right (by simpa using h')]
              simp
            have hlen : i - M < l'.length := by simp at hi2; omega
            have := ih.2 (i - M) hlen
            rw [e, show p + i = p + M + (i - M) by omega]
            exact this
    · cases h
      exact ⟨by simp; omega, fun i hi => absurd hi (Nat.not_lt_zero _)⟩
/-! ### Changes -/
def chL : List Int → Int
  | [] => 0
  | [_] => 0
  | a :: b :: t => (if b = a then 0 else 1) + chL (b :: t)
theorem chL_rep (b : Int) : ∀ m, chL (List.replicate m b) = 0
  | 0 => rfl
  | 1 => rfl
  | m + 2 => by
    have ih := chL_rep b (m + 1)
    show (if b = b then (0 : Int) else 1) + chL (List.replicate (m + 1) b) = 0
    rw [if_pos rfl, ih]
    rfl
theorem chL_app (b : Int) (l : List Int) (hl : l ≠ []) : ∀ m, chL (List.replicate (m + 1) b ++ l) ≤ chL l + 1
  | 0 => by
    cases l with
    | nil => exact absurd rfl hl
    | cons c t =>
      show (if c = b then (0 : Int) else 1) + chL (c :: t) ≤ _
      split <;> omega
  | m + 1 => by
    have ih := chL_app b l hl m
    show (if b = b then (0 : Int) else 1) + chL (List.replicate (m + 1) b ++ l) ≤ _
    rw [if_pos rfl]
    omega
/-- The changes at so many numbers behind one. -/
def chgR (q : Nat → Int) : Nat → Nat → Int
  | 0, _ => 0
  | r + 1, p => (if q (p + 1) = q p then 0 else 1) + chgR q r (p + 1)
theorem chgR_nn (q : Nat → Int) : ∀ r p, 0 ≤ chgR q r p
  | 0, p => Int.le_refl _
  | r + 1, p => by
    have := chgR_nn q r (p + 1)
    unfold chgR
    split <;> omega
theorem chgR_add (q : Nat → Int) : ∀ a b p, chgR q (a + b) p = chgR q a p + chgR q b (p + a)
  | 0, b, p => by simp [chgR]
  | a + 1, b, p => by
    have ih := chgR_add q a b (p + 1)
    have e : ∀ r, chgR q (r + 1) p = (if q (p + 1) = q p then 0 else 1) + chgR q r (p + 1) := fun _ => rfl
    rw [show a + 1 + b = (a + b) + 1 by omega, e, e, ih, show p + 1 + a = p + (a + 1) by omega]
    omega
theorem chgR_zero (q : Nat → Int) : ∀ r p, chgR q r p = 0 → ∀ i, i ≤ r → q (p + i) = q p
  | 0, p, _, i, hi => by rw [show i = 0 by omega]; rfl
  | r + 1, p, h, i, hi => by
    have hn := chgR_nn q r (p + 1)
    unfold chgR at h
    by_cases hq : q (p + 1) = q p
    · rw [if_pos hq] at h
      cases i with
      | zero => rfl
      | succ i =>
        have := chgR_zero q r (p + 1) (by omega) i (by omega)
        rw [show p + (i + 1) = p + 1 + i by omega, this, hq]
    · rw [if_neg hq] at h; omega
theorem chgN_R (q : Nat → Int) : ∀ r i, chgN q (i + 1 + r) = chgN q (i + 1) + chgR q r i
  | 0, i => by simp [chgR]
  | r + 1, i => by
    have ih := chgN_R q r (i + 1)
    rw [show i + 1 + (r + 1) = i + 1 + 1 + r by omega, ih]
    show chgN q (i + 1) + (if 0 < i + 1 ∧ ¬ q (i + 1) = q (i + 1 - 1) then 1 else 0) + chgR q r (i + 1) = chgN q (i + 1) + ((if q (i + 1) = q i then 0 else 1) + chgR q r (i + 1))
    rw [Nat.add_sub_cancel]
    by_cases h : q (i + 1) = q i
    · rw [if_pos h, if_neg (fun h' => h'.2 h)]; omega
    · rw [if_neg h, if_pos ⟨Nat.succ_pos _, h⟩]; omega
theorem chgN_one (q : Nat → Int) : chgN q 1 = 0 := by
  show (0 : Int) + (if 0 < 0 ∧ ¬ q 0 = q (0 - 1) then 1 else 0) = 0
  rw [if_neg (fun h => absurd h.1 (Nat.lt_irrefl _))]
  rfl
theorem chgR_list : ∀ (l : List Int) (a : Int), chgR (fun i => (a :: l).getD i 0) l.length 0 = chL (a :: l)
  | [], a => rfl
  | b :: t, a => by
    have ih := chgR_list t b
    have sh : ∀ r p, chgR (fun i => (a :: b :: t).getD i 0) r (p + 1) = chgR (fun i => (b :: t).getD i 0) r p := by
      intro r
      induction r with
      | zero => intro p; rfl
      | succ r ih2 =>
        intro p
        unfold chgR
        rw [ih2 (p + 1)]
        rfl
    show (if (a :: b :: t).getD (0 + 1) 0 = (a :: b :: t).getD 0 0 then (0 : Int) else 1) + chgR (fun i => (a :: b :: t).getD i 0) t.length (0 + 1) = (if b = a then 0 else 1) + chL (b :: t)
    rw [sh, ih]
    rfl
theorem chgN_list (l : List Int) : chgN (fun i => l.getD i 0) l.length = chL l := by
  cases l with
  | nil => rfl
  | cons a t =>
    have := chgN_R (fun i => (a :: t).getD i 0) t.length 0
    rw [show 0 + 1 + t.length = (a :: t).length by simp; omega] at this
    rw [this, show (0 : Nat) + 1 = 1 from rfl, chgN_one, chgR_list]
    omega
/-- How many runs the plan from a moment on is made of. -/
def segF (n : Nat) (f : Nat → Sl) (nm : Nat) (ms : Nat → Mm) : Nat → Nat → Int
  | 0, _ => 0
  | r + 1, p => if p < nm then 1 + segF n f nm ms r (p + (bs2 f ms nm p n).2) else 0
theorem seg_nn (n : Nat) (f : Nat → Sl) (nm : Nat) (ms : Nat → Mm) : ∀ r p, 0 ≤ segF n f nm ms r p
  | 0, p => Int.le_refl _
  | r + 1, p => by
    have := seg_nn n f nm ms r (p + (bs2 f ms nm p n).2)
    unfold segF
    split <;> omega
theorem seg_plan {n : Nat} {f : Nat → Sl} {nm : Nat} {ms : Nat → Mm} : ∀ r p l, fwF n f nm ms r p = some l → l ≠ [] → chL l + 1 ≤ segF n f nm ms r p
  | 0, p, l, h, hl => by cases h; exact absurd rfl hl
  | r + 1, p, l, h, hl => by
    unfold fwF at h
    split at h
    · rename_i hp
      split at h
      · cases h
      · rename_i hb
        obtain ⟨l', hl', rfl⟩ := Option.map_eq_some_iff.1 h
        have ih := seg_plan r _ l' hl'
        have hn := seg_nn n f nm ms r (p + (bs2 f ms nm p n).2)
        have hok := bs2_ok f ms nm p n
        unfold segF
        rw [if_pos hp]
        generalize bs2 f ms nm p n = B at *
        obtain ⟨b1, M⟩ := B
        dsimp only at *
        obtain ⟨M', rfl⟩ : ∃ M', M = M' + 1 := ⟨M - 1, by omega⟩
        by_cases he : l' = []
        · subst he
          rw [List.append_nil, chL_rep]
          omega
        · have := ih he
          have := chL_app b1 l' he M'
          omega
    · cases h; exact absurd rfl hl
/-- A plan that fits changes at least once in each run of the greedy plan but the last. -/
theorem seg_any {n : Nat} {f : Nat → Sl} {nm : Nat} {ms : Nat → Mm} {q : Nat → Int} (hq : ∀ i, i < nm → (0 ≤ q i ∧ q i < (n : Int)) ∧ wideB (f (q i).toNat) (ms i) = true) :
    ∀ r p, p < nm → segF n f nm ms r p ≤ 1 + chgR q (nm - 1 - p) p
  | 0, p, hp => by have := chgR_nn q (nm - 1 - p) p; show (0 : Int) ≤ _; omega
  | r + 1, p, hp => by
    have hnn := chgR_nn q (nm - 1 - p) p
    unfold segF
    rw [if_pos hp]
    obtain ⟨M, hM⟩ : ∃ M, (bs2 f ms nm p n).2 = M := ⟨_, rfl⟩
    rw [hM]
    by_cases hlt : p + M < nm
    · have ih := seg_any hq r (p + M) hlt
      have hs := chgR_add q M (nm - 1 - (p + M)) p
      rw [show M + (nm - 1 - (p + M)) = nm - 1 - p by omega] at hs
      have h1 : 1 ≤ chgR q M p := by
        rcases Int.lt_or_le 0 (chgR q M p) with h | h
        · exact h
        · exfalso
          have hz : chgR q M p = 0 := Int.le_antisymm h (chgR_nn q M p)
          have hc := chgR_zero q M p hz
          obtain ⟨⟨c1, c2⟩, _⟩ := hq p hp
          have hge := lenF_ge f ms (q p).toNat (nm - p) p (M + 1) (by omega) (fun i hi => by
            have := (hq (p + i) (by omega)).2
            rw [hc i (by omega)] at this
            exact this)
          have hmo := bs2_most f ms nm p n (q p).toNat (by omega)
          omega
      omega
    · have : segF n f nm ms r (p + M) = 0 := by
        cases r with
        | zero => rfl
        | succ r => unfold segF; rw [if_neg (by omega)]
      omega
/-- No plan that fits has fewer changes. -/
theorem few_least {n : Nat} {f : Nat → Sl} {nm : Nat} {ms : Nat → Mm} {l : List Int} (h : fwW n f nm ms = some l) {q : Nat → Int} {np : Nat} (hp : PlanP n f nm ms np q) : chgN (fun i => l.getD i 0) l.length ≤ chgN q np := by
  obtain ⟨⟨h1, h2, rfl⟩, hq⟩ := hp
  unfold fwW at h
  rw [if_pos ⟨h1, h2⟩] at h
  have hs := few_some np 0 l h (by omega) (Nat.zero_le _)
  rw [chgN_list]
  by_cases he : l = []
  · subst he
    exact (chg_bd q np).1
  · have h0 : 0 < np := by
      have := hs.1
      have : 0 < l.length := List.length_pos_iff.2 he
      omega
    have a1 := seg_plan np 0 l h he
    have a2 := seg_any hq np 0 h0
    have a3 := chgN_R q (np - 1) 0
    rw [show 0 + 1 + (np - 1) = np by omega, show (0 : Nat) + 1 = 1 from rfl, chgN_one] at a3
    rw [Nat.sub_zero] at a2
    omega
/-- The plan that is told fits; where none is told no plan fits. -/
theorem few_fits {n : Nat} {f : Nat → Sl} {nm : Nat} {ms : Nat → Mm} {l : List Int} (h : fwW n f nm ms = some l) : PlanP n f nm ms l.length (fun i => l.getD i 0) := by
  unfold fwW at h
  split at h
  · rename_i h1
    have hs := few_some nm 0 l h (by omega) (Nat.zero_le _)
    refine ⟨⟨h1.1, h1.2, by have := hs.1; omega⟩, fun i hi => ?_⟩
    have := hs.2 i hi
    rw [Nat.zero_add] at this
    exact this
  · cases h
theorem few_no {n : Nat} {f : Nat → Sl} {nm : Nat} {ms : Nat → Mm} (h : fwW n f nm ms = none) (np : Nat) (q : Nat → Int) : ¬ PlanP n f nm ms np q := fun hp => by
  obtain ⟨⟨h1, h2, rfl⟩, hq⟩ := hp
  unfold fwW at h
  rw [if_pos ⟨h1, h2⟩] at h
  obtain ⟨i, _, hi, hk⟩ := few_none np 0 h
  obtain ⟨⟨c1, c2⟩, c3⟩ := hq i hi
  rw [hk _ (by omega)] at c3
  cases c3
/-! ### What fits fits in the wider sense -/
theorem one32 : S.isNum 1065353216 ∧ S.fval 1065353216 = S.oneV := by
  have := S.ofInt_val 1 (by omega) (by omega)
  rw [show floatOfInt .f32 1 = 1065353216 from by decide +kernel] at this
  exact ⟨this.1, by rw [this.2]; omega⟩
end Go.Proofs.Ytlliiecdadiagaa

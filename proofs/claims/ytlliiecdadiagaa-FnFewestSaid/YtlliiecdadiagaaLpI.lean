/- What fits a valid sail fits it in the wider sense: in numbers. -/
import Derived.Test.YtlliiecdadiagaaLpH
namespace Go.Proofs.Ytlliiecdadiagaa
open Go.RowKit Ieee
set_option linter.unusedVariables false
set_option linter.unusedSimpArgs false

theorem two32 : S.isNum 1128792064 ∧ S.fval 1128792064 = 200 * (S.oneV : Int) := by
  have := S.ofInt_val 200 (by omega) (by omega)
  rw [show floatOfInt .f32 200 = 1128792064 from by decide +kernel] at this
  exact this
theorem nul32 : S.isNum 0 ∧ S.fval 0 = 0 := by
  have := S.ofInt_val 0 (by omega) (by omega)
  rw [show floatOfInt .f32 0 = 0 from by decide +kernel] at this
  exact ⟨this.1, by rw [this.2]; omega⟩
theorem one_small : 201 * S.oneV < 2 ^ S.fixB := by
  unfold S.oneV
  rw [S.fixE_eq, S.fixB_eq]
  decide +kernel
theorem one_pos : 0 < S.oneV := Nat.two_pow_pos _
theorem inf_lt11 {x y : Nat} (h : S.f32.read x = .infinity false) : FloatKind.f32.format.order x y ≠ some .lt := by
  have h' : FloatKind.f32.format.read x = .infinity false := h
  unfold Format.order
  rw [h']
  cases FloatKind.f32.format.read y with
  | infinity s => cases s <;> simp [Datum.order] <;> decide
  | nan s b => simp [Datum.order]
  | number s m i => simp [Datum.order]
/-- The winds of a valid sail are numbers. -/
theorem sl_num {s : Sl} (hw : SlWf s) (h : slB s = true) : (S.isNum s.lo ∧ S.isNum s.hi) ∧ (0 ≤ S.fval s.lo ∧ S.fval s.lo < S.fval s.hi ∧ S.fval s.hi ≤ 200 * (S.oneV : Int)) := by
  unfold slB at h
  simp only [Bool.and_eq_true] at h
  obtain ⟨⟨⟨_, ⟨h1, h2⟩, h3⟩, _⟩, _⟩ := h
  obtain ⟨_, w1, w2, _⟩ := hw
  rw [← le_ge] at h1
  rw [← lt_gt] at h2
  have nl : S.isNum s.lo := by
    rcases Nat.lt_or_ge (S.expo s.lo) 255 with h | h
    · exact S.num_of_expo w1 h
    · have he : S.expo s.lo = 255 := Nat.le_antisymm (S.expo_le _) h
      exfalso
      rcases S.read_full w1 he with hr | ⟨b', hr⟩
      · have o1 : FloatKind.f32.format.order s.lo 0 = some (if S.sneg s.lo then .lt else .gt) := S.order_inf hr nul32.1
        have h1' : geW s.lo 0 = true := by rw [← le_ge]; exact h1
        unfold geW at h1'
        rw [o1] at h1'
        cases hsn : S.sneg s.lo
        · rw [hsn] at hr
          unfold ltW at h2
          exact inf_lt11 hr (by simpa using h2)
        · rw [hsn] at h1'
          exact absurd h1' (by decide)
      · have o1 : FloatKind.f32.format.order s.lo s.hi = none := S.order_nan hr _
        unfold ltW at h2
        rw [o1] at h2
        cases h2
  have hle : leW s.lo s.hi = true := by
    unfold ltW at h2
    unfold leW
    rw [h2]
    rfl
  have nh : S.isNum s.hi := num_between w2 nl two32.1 hle h3
  rw [leW_num nul32.1 nl, nul32.2] at h1
  rw [ltW_num nl nh] at h2
  rw [leW_num nh two32.1, two32.2] at h3
  exact ⟨⟨nl, nh⟩, of_decide_eq_true h1, of_decide_eq_true h2, of_decide_eq_true h3⟩
theorem fit_wide {s : Sl} {m : Mm} (hw : SlWf s) (hm : MmWf m) (hs : slB s = true) (h : fitB s m = true) : wideB s m = true := by
  obtain ⟨⟨nl, nh⟩, v1, v2, v3⟩ := sl_num hw hs
  unfold fitB at h
  simp only [Bool.and_eq_true, decide_eq_true_eq] at h
  obtain ⟨⟨⟨h1, h2⟩, h3⟩, h4⟩ := h
  rw [← le_ge] at h1
  have np : S.isNum m.1 := num_between hm.1 nl nh h1 h2
  rw [leW_num nl np] at h1
  rw [leW_num np nh] at h2
  have h1 := of_decide_eq_true h1
  have h2 := of_decide_eq_true h2
  have hb := one_small
  have ho := one_pos
  have e1 : wloB m.1 s.lo = true := by
    obtain ⟨r, q1, q2, q3, q4⟩ := S.sub_op nl one32.1 (by rw [one32.2]; omega)
    have hn := (q4.near (by omega) (S.fval s.lo) (S.rep_num nl)).2 (by rw [one32.2]; omega)
    unfold wloB
    rw [show floatBits .sub .f32 s.lo 1065353216 = some r from q1]
    show geW m.1 r = true
    rw [← le_ge, leW_num q2 np]
    exact decide_eq_true (by omega)
  have e2 : whiB m.1 s.hi = true := by
    obtain ⟨r, q1, q2, q3, q4⟩ := S.add_op nh one32.1 (by rw [one32.2]; omega)
    have hn := (q4.near (by omega) (S.fval s.hi) (S.rep_num nh)).1 (by rw [one32.2]; omega)
    unfold whiB
    rw [show floatBits .add .f32 s.hi 1065353216 = some r from q1]
    show leW m.1 r = true
    rw [leW_num np q2]
    exact decide_eq_true (by omega)
  unfold wideB
  rw [e1, e2, decide_eq_true (show s.fr - 5 ≤ m.2 by omega), decide_eq_true (show m.2 ≤ s.to + 5 by omega)]
  rfl
/-- The best sail fits, and none ahead of it does. -/
theorem bs_first (f : Nat → Sl) (m : Mm) : ∀ r i, (bsFrom f m r i = -1 ∧ ∀ j, i ≤ j → j < i + r → fitB (f j) m = false) ∨ ∃ k : Nat, bsFrom f m r i = (k : Int) ∧ i ≤ k ∧ k < i + r ∧ fitB (f k) m = true ∧ ∀ j, i ≤ j → j < k → fitB (f j) m = false
  | 0, i => .inl ⟨rfl, fun j h1 h2 => by omega⟩
  | r + 1, i => by
    have ih := bs_first f m r (i + 1)
    have e : bsFrom f m (r + 1) i = if fitB (f i) m = true then (i : Int) else bsFrom f m r (i + 1) := rfl
    rw [e]
    by_cases h : fitB (f i) m = true
    · rw [if_pos h]
      exact .inr ⟨i, rfl, Nat.le_refl _, by omega, h, fun j h1 h2 => by omega⟩
    · rw [if_neg h]
      have h' : fitB (f i) m = false := by simpa using h
      rcases ih with ⟨h1, h2⟩ | ⟨k, h1, h2, h3, h4, h5⟩
      · exact .inl ⟨h1, fun j q1 q2 => by
          rcases Nat.lt_or_ge i j with h | h
          · exact h2 j h (by omega)
          · rw [show j = i by omega]; exact h'⟩
      · exact .inr ⟨k, h1, by omega, by omega, h4, fun j q1 q2 => by
          rcases Nat.lt_or_ge i j with h | h
          · exact h5 j h q2
          · rw [show j = i by omega]; exact h'⟩
end Go.Proofs.Ytlliiecdadiagaa

/- Plain facts on float64 words: to what an exact value is rounded, said by the numbers that have a word. Nothing here speaks of the program. -/
import Derived.Test.YtbjaedmifacgaaaFe
namespace Go.Proofs.Ytbjaedmifacgaaa
open Go.RowKit Ieee

/-- R is what N / D is rounded to: on the same side of every number of 53 digits, and of every middle between two of them. -/
def Near (R N D : Nat) : Prop :=
  ∀ q k : Nat, q ≤ 9007199254740992 → (q * 2 ^ k * D ≤ N → q * 2 ^ k ≤ R) ∧ (N ≤ q * 2 ^ k * D → R ≤ q * 2 ^ k) ∧
    (4503599627370496 ≤ q → q < 9007199254740992 → 2 * N < (2 * q + 1) * 2 ^ k * D → R ≤ q * 2 ^ k)

theorem cut_sides (neg : Bool) (n d G : Nat) : (n ≤ G * 2 ^ d → Toward.even.cut neg n d ≤ G) ∧ (G * 2 ^ d ≤ n → G ≤ Toward.even.cut neg n d) ∧ (2 * n < (2 * G + 1) * 2 ^ d → Toward.even.cut neg n d ≤ G) := by
  obtain ⟨c1, c2, c3, c4⟩ := cut_near neg n d
  have hp : 0 < 2 ^ d := Nat.two_pow_pos _
  refine ⟨fun h => ?_, fun h => Nat.le_trans ((Nat.le_div_iff_mul_le hp).2 h) c3, fun h => ?_⟩
  · rcases Nat.lt_or_ge (n / 2 ^ d) G with h1 | h1
    · omega
    · have h2 : G * 2 ^ d ≤ n := (Nat.le_div_iff_mul_le hp).1 h1
      have h3 : n = G * 2 ^ d := Nat.le_antisymm h h2
      rw [h3, cut_exact]
      exact Nat.le_refl _
  · generalize Toward.even.cut neg n d = K at *
    rcases Nat.lt_or_ge G K with h1 | h1
    · have h2 : (G + 1) * 2 ^ d ≤ K * 2 ^ d := Nat.mul_le_mul_right _ h1
      rw [Nat.add_mul, Nat.one_mul] at h2
      rw [Nat.add_mul, Nat.one_mul, Nat.mul_assoc] at h
      generalize 2 ^ d = g at *
      generalize K * g = a at *
      generalize G * g = b at *
      omega
    · exact h1

/-- A kept significand at its place, read. -/
theorem kept_word (neg : Bool) (kept : Nat) (last : Int) (hll : -1074 ≤ last) (hlu : last ≤ 900) (hk1 : kept ≤ 9007199254740992) (hk0 : last ≠ -1074 → 4503599627370496 ≤ kept) :
    ∃ p l, f64.read (f64.word neg (min ((last - -1074).toNat * 4503599627370496 + kept) 9218868437227405312)) = .number neg p l ∧ p * 2 ^ (l + 1074).toNat = kept * 2 ^ (last + 1074).toNat := by
  have hmin : min ((last - -1074).toNat * 4503599627370496 + kept) 9218868437227405312 = (last - -1074).toNat * 4503599627370496 + kept := Nat.min_eq_left (by omega)
  rw [hmin]
  by_cases hc : kept = 9007199254740992
  · have r := read_carry neg (last - -1074).toNat (by omega)
    refine ⟨_, _, by rw [hc]; exact r, ?_⟩
    rw [hc, show (-1074 + (((last - -1074).toNat + 1 : Nat) : Int) + 1074).toNat = (last + 1074).toNat + 1 by omega, Nat.pow_succ, Nat.mul_comm (2 ^ _) 2, ← Nat.mul_assoc]
  · exact ⟨_, _, read_kept neg kept last hll (by omega) (Nat.lt_of_le_of_ne hk1 hc) hk0, rfl⟩

set_option maxHeartbeats 1000000 in
theorem near_core (neg : Bool) (mag : Nat) (place : Int) (V P : Nat) (hP : place + 1074 + (V : Int) = (P : Int)) (hb : mag * 2 ^ P < 2 ^ (1900 + V)) :
    isNum (f64.nearest neg mag place) ∧ ∃ R : Nat, fval (f64.nearest neg mag place) = (if neg then -(R : Int) else (R : Int)) ∧ Near R (mag * 2 ^ P) (2 ^ V) := by
  by_cases h0 : mag = 0
  · have e : f64.nearest neg mag place = f64.word neg 0 := by unfold Format.nearest; rw [if_pos h0]
    rw [e]
    have r := read_low neg 0 (by omega)
    refine ⟨isNum_of r, 0, ?_, ?_⟩
    · unfold fval
      rw [r]
      show signed neg 0 _ = _
      rw [fl_signed_zero]
      cases neg <;> rfl
    · intro q k hq
      rw [h0, Nat.zero_mul]
      refine ⟨fun h => ?_, fun _ => Nat.zero_le _, fun _ _ _ => Nat.zero_le _⟩
      have h1 := Nat.le_zero.1 h
      rcases Nat.mul_eq_zero.1 h1 with h2 | h2
      · omega
      · exact absurd h2 (Nat.pos_iff_ne_zero.1 (Nat.two_pow_pos _))
  · obtain ⟨last, hlast⟩ : ∃ last : Int, last = max (place + mag.log2 - 52) (-1074) := ⟨_, rfl⟩
    have e : f64.nearest neg mag place = f64.word neg (min ((last - -1074).toNat * 4503599627370496 + Toward.even.cut neg (mag <<< (place - last).toNat) (last - place).toNat) 9218868437227405312) := by
      unfold Format.nearest
      rw [if_neg h0]
      simp only [lp64, bin64, inf64]
      rw [hlast]; rfl
    have hlow : 2 ^ mag.log2 ≤ mag := Nat.log2_self_le h0
    have hhigh : mag < 2 ^ (mag.log2 + 1) := Nat.lt_log2_self
    have hlK : mag.log2 + P < 1900 + V := by
      have h1 : 2 ^ mag.log2 * 2 ^ P ≤ mag * 2 ^ P := Nat.mul_le_mul_right _ hlow
      rw [← Nat.pow_add] at h1
      exact (Nat.pow_lt_pow_iff_right (by omega : 1 < 2)).1 (Nat.lt_of_le_of_lt h1 hb)
    clear hb
    obtain ⟨kept, hkept⟩ : ∃ kept, kept = Toward.even.cut neg (mag <<< (place - last).toNat) (last - place).toNat := ⟨_, rfl⟩
    rw [← hkept] at e
    rw [Nat.shiftLeft_eq] at hkept
    obtain ⟨a, ha⟩ : ∃ a, a = (place - last).toNat := ⟨_, rfl⟩
    obtain ⟨b, hb'⟩ : ∃ b, b = (last - place).toNat := ⟨_, rfl⟩
    obtain ⟨L, hL⟩ : ∃ L, L = (last + 1074).toNat := ⟨_, rfl⟩
    rw [← ha, ← hb'] at hkept
    have hPb : P + b = (L + V) + a := by omega
    have hsides := fun G => cut_sides neg (mag * 2 ^ a) b G
    rw [← hkept] at hsides
    have c3 := (cut_near neg (mag * 2 ^ a) b).2.2.1
    have c4 := (cut_near neg (mag * 2 ^ a) b).2.2.2
    rw [← hkept] at c3 c4
    -- the sides, in terms of the exact value
    have hpb : 0 < 2 ^ b := Nat.two_pow_pos _
    have hpl : 0 < 2 ^ (L + V) := Nat.two_pow_pos _
    have hA : mag * 2 ^ a * 2 ^ (L + V) = mag * 2 ^ P * 2 ^ b := by
      rw [Nat.mul_assoc, Nat.mul_assoc, ← Nat.pow_add, ← Nat.pow_add, hPb, Nat.add_comm a]
    obtain ⟨A, hAe⟩ : ∃ A, A = mag * 2 ^ P := ⟨_, rfl⟩
    rw [← hAe] at hA
    have X : ∀ G, (A ≤ G * 2 ^ (L + V) → kept ≤ G) ∧ (G * 2 ^ (L + V) ≤ A → G ≤ kept) ∧ (2 * A < (2 * G + 1) * 2 ^ (L + V) → kept ≤ G) := fun G => by
      obtain ⟨s1, s2, s3⟩ := hsides G
      refine ⟨fun h => s1 ?_, fun h => s2 ?_, fun h => s3 ?_⟩
      · refine Nat.le_of_mul_le_mul_right ?_ hpl
        rw [hA]
        have := Nat.mul_le_mul_right (2 ^ b) h
        rw [Nat.mul_right_comm] at this
        exact this
      · refine Nat.le_of_mul_le_mul_right ?_ hpl
        rw [hA, Nat.mul_right_comm]
        exact Nat.mul_le_mul_right (2 ^ b) h
      · refine Nat.lt_of_mul_lt_mul_right (a := 2 ^ (L + V)) ?_
        rw [Nat.mul_assoc, hA, Nat.mul_right_comm, ← Nat.mul_assoc]
        exact Nat.mul_lt_mul_of_pos_right h hpb
    have hup : A < 2 ^ 53 * 2 ^ (L + V) := by
      rw [hAe]
      have h1 : mag * 2 ^ P < 2 ^ (mag.log2 + 1) * 2 ^ P := Nat.mul_lt_mul_of_pos_right hhigh (Nat.two_pow_pos _)
      refine Nat.lt_of_lt_of_le h1 ?_
      rw [← Nat.pow_add, ← Nat.pow_add]
      exact Nat.pow_le_pow_right (by omega) (by omega)
    have hdn : L ≠ 0 → 2 ^ 52 * 2 ^ (L + V) ≤ A := fun hne => by
      rw [hAe]
      refine Nat.le_trans ?_ (Nat.mul_le_mul_right _ hlow)
      rw [← Nat.pow_add, ← Nat.pow_add]
      exact Nat.pow_le_pow_right (by omega) (by omega)
    have e53 : (9007199254740992 : Nat) = 2 ^ 53 := rfl
    have e52 : (4503599627370496 : Nat) = 2 ^ 52 := rfl
    have hk1 : kept ≤ 9007199254740992 := (X _).1 (by rw [e53]; exact Nat.le_of_lt hup)
    have hk0 : L ≠ 0 → 4503599627370496 ≤ kept := fun hne => (X _).2.1 (by rw [e52]; exact hdn hne)
    have hk0' : last ≠ -1074 → 4503599627370496 ≤ kept := fun hne => hk0 (by omega)
    have hlu : last ≤ 900 := by clear hup hlow hhigh hk1 hk0 hk0' e53 e52 hA hAe; omega
    have hll : -1074 ≤ last := by omega
    have hnear : Near (kept * 2 ^ L) A (2 ^ V) := by
      intro q k hq
      have hpv : 0 < 2 ^ V := Nat.two_pow_pos _
      rcases Nat.lt_or_ge k L with hkL | hkL
      · -- a finer number: it lies at or below the least one of the binade
        have hg : q * 2 ^ k ≤ 2 ^ 52 * 2 ^ L := by
          refine Nat.le_trans (Nat.mul_le_mul_right _ hq) ?_
          rw [e53, ← Nat.pow_add, ← Nat.pow_add]
          exact Nat.pow_le_pow_right (by omega) (by omega)
        have hlo := hdn (by omega)
        have hkk := hk0 (by omega)
        rw [Nat.pow_add, ← Nat.mul_assoc] at hlo
        refine ⟨fun _ => Nat.le_trans hg (Nat.mul_le_mul_right _ hkk), fun h => ?_, fun _ hq2 h => ?_⟩
        · have h1 : 2 ^ 52 * 2 ^ L ≤ q * 2 ^ k := Nat.le_of_mul_le_mul_right (Nat.le_trans hlo h) hpv
          have h2 : A ≤ 2 ^ 52 * 2 ^ (L + V) := by
            rw [Nat.pow_add, ← Nat.mul_assoc]
            exact Nat.le_trans h (Nat.mul_le_mul_right _ hg)
          have h3 := (X _).1 h2
          exact Nat.le_trans (Nat.mul_le_mul_right _ h3) h1
        · exfalso
          have h1 : (2 * q + 1) * 2 ^ k ≤ 2 * (2 ^ 52 * 2 ^ L) := by
            have h2 : (2 * q + 1) * 2 ^ k ≤ 2 ^ 54 * 2 ^ k := Nat.mul_le_mul_right _ (by omega)
            refine Nat.le_trans h2 ?_
            rw [← Nat.pow_add, show (2 : Nat) * (2 ^ 52 * 2 ^ L) = 2 ^ (53 + L) by rw [← Nat.mul_assoc, Nat.pow_add]]
            exact Nat.pow_le_pow_right (by omega) (by omega)
          have h2 := Nat.mul_le_mul_right (2 ^ V) h1
          rw [Nat.mul_assoc 2 _ (2 ^ V)] at h2
          generalize 2 ^ 52 * 2 ^ L * 2 ^ V = z at *
          generalize (2 * q + 1) * 2 ^ k * 2 ^ V = y at *
          omega
      · -- a number of the same grain
        obtain ⟨j, rfl⟩ : ∃ j, k = L + j := ⟨k - L, by omega⟩
        have hg : q * 2 ^ (L + j) = q * 2 ^ j * 2 ^ L := by rw [Nat.pow_add, Nat.mul_comm (2 ^ L), Nat.mul_assoc]
        have hgv : q * 2 ^ (L + j) * 2 ^ V = q * 2 ^ j * 2 ^ (L + V) := by rw [hg, Nat.mul_assoc, ← Nat.pow_add]
        obtain ⟨x1, x2, _⟩ := X (q * 2 ^ j)
        rw [hgv, hg]
        refine ⟨fun h => Nat.mul_le_mul_right _ (x2 h), fun h => Nat.mul_le_mul_right _ (x1 h), fun hq0 hq1 h => ?_⟩
        rcases Nat.eq_zero_or_pos j with rfl | hj
        · have h3 := (X q).2.2 (by
            have : (2 * q + 1) * 2 ^ (L + 0) * 2 ^ V = (2 * q + 1) * 2 ^ (L + V) := by rw [Nat.mul_assoc, ← Nat.pow_add]; rfl
            rw [← this]; exact h)
          rw [Nat.pow_zero, Nat.mul_one]
          exact Nat.mul_le_mul_right _ h3
        · refine Nat.mul_le_mul_right _ (x1 (Nat.le_trans (Nat.le_of_lt hup) (Nat.mul_le_mul_right _ ?_)))
          have h5 : 2 ^ 1 ≤ 2 ^ j := Nat.pow_le_pow_right (by omega) hj
          exact Nat.mul_le_mul hq0 h5
    obtain ⟨p, l, r, hv⟩ := kept_word neg kept last hll hlu hk1 hk0'
    rw [e]
    refine ⟨isNum_of r, kept * 2 ^ L, ?_, by rw [← hAe]; exact hnear⟩
    unfold fval
    rw [r]
    show signed neg p (l + 1074).toNat = _
    rw [signed_eq, hv, ← hL]
end Go.Proofs.Ytbjaedmifacgaaa

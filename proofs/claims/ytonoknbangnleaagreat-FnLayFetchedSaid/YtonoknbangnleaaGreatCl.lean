/- The walk of math.Ceil at numbers from 0 on that are not too great. -/
import Derived.Test.YtonoknbangnleaaGreatTZ
namespace Go.Proofs.YtonoknbangnleaaGreat
open Go.RowKit Ieee
set_option linter.unusedVariables false
set_option linter.unusedSimpArgs false

/-- The least whole number that is at least a value. -/
noncomputable def clI (v : Int) : Int := -((-v) / (oneV : Int))
theorem oneV_posI : 0 < (oneV : Int) := by have : 0 < oneV := Nat.two_pow_pos _; omega
theorem clI_whole {v : Int} (h : v / (oneV : Int) * (oneV : Int) = v) : clI v = v / (oneV : Int) := by
  have hpos := oneV_posI
  unfold clI
  obtain ⟨k, hk⟩ : ∃ k, v / (oneV : Int) = k := ⟨_, rfl⟩
  rw [hk] at h ⊢
  rw [← h, ← Int.neg_mul, Int.mul_ediv_cancel _ (by omega)]; omega
theorem clI_more {v : Int} (h : v / (oneV : Int) * (oneV : Int) ≠ v) : clI v = v / (oneV : Int) + 1 := by
  have hpos := oneV_posI
  have h1 := Int.ediv_mul_le v (b := (oneV : Int)) (by omega)
  have h2 := Int.lt_ediv_add_one_mul_self v hpos
  unfold clI
  obtain ⟨k, hk⟩ : ∃ k, v / (oneV : Int) = k := ⟨_, rfl⟩
  rw [hk] at h h1 h2 ⊢
  rw [Int.add_mul] at h2
  have a1 : -(k + 1) ≤ (-v) / (oneV : Int) := (Int.le_ediv_iff_mul_le hpos).2 (by rw [Int.neg_mul, Int.add_mul]; omega)
  have a2 : (-v) / (oneV : Int) < -k := (Int.ediv_lt_iff_lt_mul hpos).2 (by rw [Int.neg_mul]; omega)
  omega
/-- What a rounded-up value says. -/
theorem clI_sides (v : Int) : v ≤ clI v * (oneV : Int) ∧ (clI v - 1) * (oneV : Int) < v := by
  have hpos := oneV_posI
  have h1 := Int.ediv_mul_le (-v) (b := (oneV : Int)) (by omega)
  have h2 := Int.lt_ediv_add_one_mul_self (-v) hpos
  unfold clI
  generalize (-v) / (oneV : Int) = k at *
  rw [Int.add_mul] at h2
  rw [Int.sub_mul, Int.neg_mul]
  omega
theorem clI_le {v n : Int} (h : v ≤ n * (oneV : Int)) : clI v ≤ n := by
  obtain ⟨_, h2⟩ := clI_sides v
  have := Int.lt_of_mul_lt_mul_right (Int.lt_of_lt_of_le h2 h) (by have := oneV_posI; omega)
  omega
theorem clI_nonneg {v : Int} (h : 0 ≤ v) : 0 ≤ clI v := by
  obtain ⟨h1, _⟩ := clI_sides v
  have hpos := oneV_posI
  rcases Int.lt_or_le (clI v) 0 with h2 | h2
  · have := Int.mul_lt_mul_of_pos_right h2 hpos
    omega
  · exact h2

theorem cut_up (n d : Nat) : Toward.up.cut false n d = n / 2 ^ d + (n % 2 ^ d != 0).toNat := by
  unfold Toward.cut
  simp only [Nat.shiftLeft_eq, Nat.one_mul, Bool.not_false, Bool.true_and]
  rcases Nat.le_total d (n.log2 + 2) with h | h
  · rw [Nat.min_eq_left h]
  · rw [Nat.min_eq_right h]
    have h1 : n < 2 ^ (n.log2 + 1) := Nat.lt_log2_self
    have h2 : n < 2 ^ (n.log2 + 2) := Nat.lt_of_lt_of_le h1 (Nat.pow_le_pow_right (by omega) (by omega))
    have h3 : n < 2 ^ d := Nat.lt_of_lt_of_le h2 (Nat.pow_le_pow_right (by omega) h)
    rw [Nat.div_eq_of_lt h2, Nat.div_eq_of_lt h3, Nat.mod_eq_of_lt h2, Nat.mod_eq_of_lt h3]

/-- A number from 0 on, rounded up to a whole one. -/
theorem up_val {x : Nat} (hx : isNum x) (h0 : 0 ≤ fval x) (h1 : fval x ≤ 1000000000 * (oneV : Int)) :
    ∃ s m i, f64.read x = .number s m i ∧ isNum (f64.write (.number s (Toward.up.cut s (m <<< i.toNat) (-i).toNat) 0)) ∧
      fval (f64.write (.number s (Toward.up.cut s (m <<< i.toNat) (-i).toNat) 0)) = clI (fval x) * (oneV : Int) := by
  have hE := fixE_eq
  have hpos := oneV_posI
  obtain ⟨s, m, i, ex, hi, hm⟩ := hx
  refine ⟨s, m, i, ex, ?_⟩
  have vx : fval x = signed s m (i + 1074).toNat := by unfold fval; rw [ex]; rfl
  by_cases hm0 : m = 0
  · have hz : fval x = 0 := by rw [vx, hm0, fl_signed_zero]
    have hc : Toward.up.cut s (m <<< i.toNat) (-i).toNat = 0 := by
      rw [hm0, Nat.shiftLeft_eq, Nat.zero_mul]
      unfold Toward.cut
      simp
    rw [hc]
    obtain ⟨a, b⟩ := write_exact s 0 0 0 0 (by simp) (by omega) (by omega) (by omega)
    refine ⟨a, ?_⟩
    rw [b, fl_signed_zero, hz]
    have : clI 0 = 0 := by unfold clI; simp
    rw [this, Int.zero_mul]
  · have hs : s = false := by
      cases s
      · rfl
      · exfalso
        rw [vx, signed_eq] at h0
        simp only [if_true] at h0
        have : 0 < m * 2 ^ (i + 1074).toNat := Nat.mul_pos (by omega) (Nat.two_pow_pos _)
        omega
    subst hs
    rw [cut_up, Nat.shiftLeft_eq]
    have hv : fval x = ((m * 2 ^ (i + 1074).toNat : Nat) : Int) := by rw [vx, signed_eq]; rfl
    obtain ⟨K, hK⟩ : ∃ K, K = m * 2 ^ i.toNat / 2 ^ (-i).toNat + (m * 2 ^ i.toNat % 2 ^ (-i).toNat != 0).toNat := ⟨_, rfl⟩
    rw [← hK]
    have key : clI (fval x) = (K : Int) := by
      rcases Int.le_total 0 i with h | h
      · rw [show (-i).toNat = 0 by omega, Nat.pow_zero, Nat.div_one, Nat.mod_one] at hK
        have hK2 : K = m * 2 ^ i.toNat := by rw [hK]; rfl
        have e : fval x = (K : Int) * (oneV : Int) := by
          rw [hv, show (i + 1074).toNat = i.toNat + fixE by omega, Nat.pow_add, ← Nat.mul_assoc, ← hK2, Int.natCast_mul]; rfl
        have e2 : fval x / (oneV : Int) = (K : Int) := by rw [e, Int.mul_ediv_cancel _ (by omega)]
        rw [clI_whole (by rw [e2, e]), e2]
      · rw [show i.toNat = 0 by omega, Nat.pow_zero, Nat.mul_one] at hK
        obtain ⟨d, hd⟩ : ∃ d, d = (-i).toNat := ⟨_, rfl⟩
        obtain ⟨I, hI⟩ : ∃ I, I = (i + 1074).toNat := ⟨_, rfl⟩
        rw [← hd] at hK
        rw [← hI] at hv
        have hone : 2 ^ d * 2 ^ I = oneV := pow_exp _ _ (by omega)
        have hpI : 0 < 2 ^ I := Nat.two_pow_pos _
        have hdv : fval x / (oneV : Int) = ((m / 2 ^ d : Nat) : Int) := by
          rw [hv, ← hone, ← Int.natCast_ediv, Nat.mul_div_mul_right _ _ hpI]
        have hdm := Nat.div_add_mod m (2 ^ d)
        by_cases hr : m % 2 ^ d = 0
        · rw [hr] at hK hdm
          rw [clI_whole, hdv, hK]
          · simp
          · have e : m / 2 ^ d * oneV = m * 2 ^ I := by
              rw [← hone, ← Nat.mul_assoc, Nat.mul_comm (m / 2 ^ d), show 2 ^ d * (m / 2 ^ d) = m by omega]
            rw [hdv, hv, ← Int.natCast_mul, e]
        · have hb : (m % 2 ^ d != 0) = true := by simpa using hr
          rw [hb] at hK
          rw [clI_more, hdv, hK]
          · simp
          · rw [hdv, hv, ← hone, ← Int.natCast_mul, ← Nat.mul_assoc, Nat.mul_comm (m / 2 ^ d)]
            intro e
            have e2 : 2 ^ d * (m / 2 ^ d) * 2 ^ I = m * 2 ^ I := by exact_mod_cast e
            have e3 := Nat.eq_of_mul_eq_mul_right hpI e2
            omega
    have hKb : K < 9007199254740992 := by
      have := clI_le h1
      omega
    obtain ⟨a, b⟩ := write_exact false K 0 K 0 (by simp) hKb (by omega) (by omega)
    refine ⟨a, ?_⟩
    rw [b, key, show ((0 : Int) + 1074).toNat = fixE by omega, signed_eq]
    simp only [Bool.false_eq_true, if_false]
    rw [Int.natCast_mul]; rfl

theorem run_ceil (x : Nat) (w : World) {s : Bool} {m : Nat} {i : Int} (h : f64.read x = .number s m i) :
    (callFunc 67 #[.float .f64 x]).run Tryz.prog w = .ok (.value (.float .f64 (f64.write (.number s (Toward.up.cut s (m <<< i.toNat) (-i).toNat) 0)))) w := by
  rw [run_callFunc_extern (e := Extern.MathFloor.toIntegral "math.archCeil" .up) Tryz.func67 (by kernel_rfl) (by kernel_rfl) (by kernel_rfl) (by rfl)]
  have h' : FloatKind.f64.decode x = .number s m i := h
  have hb : Extern.MathFloor.toIntegral "math.archCeil" .up #[.float .f64 x] = pure (.float .f64 (f64.write (.number s (Toward.up.cut s (m <<< i.toNat) (-i).toNat) 0))) := by
    show Extern.MathFloor.toIntegral.match_1 (motive := fun _ => Sem Value) (FloatKind.f64.decode x) _ _ = _
    rw [h']
    rfl
  rw [hb]
  rfl
set_option maxRecDepth 100000 in
set_option maxHeartbeats 1000000 in
theorem c_ceil (x : Nat) (w : World) (hx : isNum x) (h0 : 0 ≤ fval x) (h1 : fval x ≤ 1000000000 * (oneV : Int)) :
    Calls Tryz.prog 38 #[.float .f64 x] w fun e w' => ∃ c, isNum c ∧ fval c = clI (fval x) * (oneV : Int) ∧ e = .returned (.float .f64 c) ∧ w = w' := by
  obtain ⟨s, m, i, hr, c1, c2⟩ := up_val hx h0 h1
  have r1 := fun w => run_ceil x w hr
  have HC := Lib.hid (And.intro c1 c2)
  clear hr c1 c2 hx h0 h1
  generalize f64.write (.number s (Toward.up.cut s (m <<< i.toNat) (-i).toNat) 0) = y at *
  go_enter Tryz.func38, Tryz.ntmps38
  go_wp2
  go_ret
  exact ⟨_, HC.out.1, HC.out.2, rfl, rfl⟩
end Go.Proofs.YtonoknbangnleaaGreat

/- Units, continued: the quotients of a vector by its length, and their length. Nothing here speaks of the program. -/
import Derived.Test.YtbjaedmifacgaaaUnM
namespace Go.Proofs.Ytbjaedmifacgaaa
open Go.RowKit Ieee

theorem unit_sum {a b r v U R S : Nat} (s1 : 35184372088832 * (a * a + b * b) ≤ 35184372088833 * (v * U)) (s2 : 35184372088831 * (v * U) ≤ 35184372088832 * (a * a + b * b))
    (r1 : 4194303 * (v * U) ≤ 4194304 * (r * r)) (r2 : 1000000 * (r * r) ≤ 1000001 * (v * U)) (hU : 1152921504606846976 ≤ U) (hr : 0 < r)
    (d1 : 20282409603651670423947251286016 * ((R * R) * (r * r)) ≤ 20282409603651679431146506027009 * ((a * a) * (U * U)) + 162259276829213363391578010288128 * (r * r * U)) (d2 : 20282409603651661416747996545025 * ((a * a) * (U * U)) ≤ 20282409603651670423947251286016 * ((R * R) * (r * r)) + 324518553658426726783156020576256 * (r * r * U))
    (d3 : 20282409603651670423947251286016 * ((S * S) * (r * r)) ≤ 20282409603651679431146506027009 * ((b * b) * (U * U)) + 162259276829213363391578010288128 * (r * r * U)) (d4 : 20282409603651661416747996545025 * ((b * b) * (U * U)) ≤ 20282409603651670423947251286016 * ((S * S) * (r * r)) + 324518553658426726783156020576256 * (r * r * U)) :
    1000000000 * (R * R + S * S) ≤ 1000000240 * (U * U) ∧ 999998998 * (U * U) ≤ 1000000000 * (R * R + S * S) := by
  have hrr : 0 < r * r := Nat.mul_pos hr hr
  have w : 1152921504606846976 * (r * r * U) ≤ U * U * (r * r) := by
    have := Nat.mul_le_mul_right (r * r * U) hU
    calc 1152921504606846976 * (r * r * U) ≤ U * (r * r * U) := this
      _ = U * U * (r * r) := by rw [Nat.mul_left_comm, Nat.mul_comm (r * r)]
  have m1 := Nat.mul_le_mul_right (U * U) s1
  have m2 := Nat.mul_le_mul_right (U * U) s2
  have m3 := Nat.mul_le_mul_right (U * U) r1
  have m4 := Nat.mul_le_mul_right (U * U) r2
  rw [Nat.mul_assoc 35184372088832, Nat.mul_assoc 35184372088833, Nat.add_mul] at m1
  rw [Nat.mul_assoc 35184372088832, Nat.mul_assoc 35184372088831, Nat.add_mul] at m2
  rw [Nat.mul_assoc 4194303, Nat.mul_assoc 4194304, Nat.mul_comm (r * r)] at m3
  rw [Nat.mul_assoc 1000000, Nat.mul_assoc 1000001, Nat.mul_comm (r * r)] at m4
  constructor
  · refine Nat.le_of_mul_le_mul_right ?_ hrr
    rw [Nat.mul_assoc 1000000000, Nat.mul_assoc 1000000240, Nat.add_mul]
    clear s1 s2 r1 r2
    generalize R * R * (r * r) = A at *
    generalize S * S * (r * r) = B at *
    generalize a * a * (U * U) = C at *
    generalize b * b * (U * U) = D at *
    generalize v * U * (U * U) = E at *
    generalize U * U * (r * r) = F at *
    generalize r * r * U = G at *
    omega
  · refine Nat.le_of_mul_le_mul_right ?_ hrr
    rw [Nat.mul_assoc 1000000000, Nat.mul_assoc 999998998, Nat.add_mul]
    clear s1 s2 r1 r2
    generalize R * R * (r * r) = A at *
    generalize S * S * (r * r) = B at *
    generalize a * a * (U * U) = C at *
    generalize b * b * (U * U) = D at *
    generalize v * U * (U * U) = E at *
    generalize U * U * (r * r) = F at *
    generalize r * r * U = G at *
    omega

theorem below_num : f64.read 4607182409792818153 = .number false 9007190247541737 (-53) := by kernel_rfl
theorem above_num : f64.read 4607182423303617035 = .number false 4503604130970123 (-52) := by kernel_rfl
theorem oneV_53 : oneV = 9007199254740992 * 2 ^ (fixE - 53) := by
  have hE := fixE_eq
  unfold oneV
  rw [show (9007199254740992 : Nat) = 2 ^ 53 from rfl, ← Nat.pow_add, show 53 + (fixE - 53) = fixE by omega]
theorem below_val : fval 4607182409792818153 = ((9007190247541737 * 2 ^ (fixE - 53) : Nat) : Int) := by
  have hf := fixE_eq
  unfold fval; rw [below_num]; show signed false 9007190247541737 (-53 + 1074 : Int).toNat = _
  rw [show (-53 + 1074 : Int).toNat = fixE - 53 by omega, signed_eq]; rfl
theorem above_val : fval 4607182423303617035 = ((9007208261940246 * 2 ^ (fixE - 53) : Nat) : Int) := by
  have hf := fixE_eq
  unfold fval; rw [above_num]; show signed false 4503604130970123 (-52 + 1074 : Int).toNat = _
  rw [show (-52 + 1074 : Int).toNat = (fixE - 53) + 1 by omega, signed_eq, Nat.pow_succ]
  show ((4503604130970123 * (2 ^ (fixE - 53) * 2) : Nat) : Int) = _
  generalize 2 ^ (fixE - 53) = y
  omega

theorem sq_nonneg_abs (x : Int) : x * x = ((x.natAbs * x.natAbs : Nat) : Int) := Int.natAbs_mul_self.symm

set_option maxHeartbeats 1000000 in
theorem unit_close {z : Nat × Nat} {g : Nat} (h1 : okP z.1) (h2 : okP z.2) (h : inR (dotW z z)) (hb : begins (dotW z z) g) :
    ∃ u : Nat × Nat, floatBits .quo .f64 z.1 (newtN (dotW z z) g 60) = some u.1 ∧ floatBits .quo .f64 z.2 (newtN (dotW z z) g 60) = some u.2 ∧ u.1 < 18446744073709551616 ∧ u.2 < 18446744073709551616 ∧ okP u.1 ∧ okP u.2 ∧ inR (dotW u u) ∧
      ∀ g', begins (dotW u u) g' → isNum (newtN (dotW u u) g' 60) ∧ fval 4607182409792818153 < fval (newtN (dotW u u) g' 60) ∧ fval (newtN (dotW u u) g' 60) < fval 4607182423303617035 := by
  have hE := fixE_eq
  have hlb := lowV_big
  have hol := oneV_low
  have hroof := oneV_roof
  have hfloor := lowV_floor
  have hU : 0 < oneV := Nat.two_pow_pos _
  obtain ⟨rn, r0, ra1, ra2⟩ := root_acc h hb
  obtain ⟨_, rl⟩ : isNum (newtN (dotW z z) g 60) ∧ (lowV : Int) ≤ fval (newtN (dotW z z) g 60) := by
    obtain ⟨mn, mx, a, b, c, d, e, _, f, g0, g1⟩ := begin_bounds h hb
    obtain ⟨k1, k2, _⟩ := newtN_in h a b c d e f g0 g1 60
    exact ⟨k1, by omega⟩
  generalize newtN (dotW z z) g 60 = r at *
  obtain ⟨p, q, _, _, _, dn, dl, np, nq, nv, p0, q0⟩ := sq_ok h1 h2
  obtain ⟨b0, _⟩ := inR_bd h
  -- the squares of the vector
  have S := sq_sum (A := (fval z.1).natAbs * (fval z.1).natAbs) (B := (fval z.2).natAbs * (fval z.2).natAbs) (p := (fval p).toNat) (q := (fval q).toNat) (v := (fval (dotW z z)).toNat) (U := oneV)
    (by rw [← sq_nonneg_abs, show (((fval p).toNat : Nat) : Int) = fval p by omega]; exact np) (by rw [← sq_nonneg_abs, show (((fval q).toNat : Nat) : Int) = fval q by omega]; exact nq)
    (by rw [show (((fval (dotW z z)).toNat : Nat) : Int) = fval (dotW z z) by omega, show (((fval p).toNat + (fval q).toNat : Nat) : Int) = fval p + fval q by omega]; exact nv) hU (.inl (by omega))
  -- its parts by its length
  have quo : ∀ x : Nat, okP x → ∃ u, f64.div x r = some u ∧ isNum u ∧ u < 18446744073709551616 ∧ NearI ((fval u).natAbs : Int) (((fval x).natAbs * oneV : Nat) : Int) (fval r).toNat := fun x hx => by
    obtain ⟨u, a1, a2, a3, s, t, R, a4, _, _, a7⟩ := div_op hx.1 rn (by have := hx.2; omega) (by omega)
    have eR : (fval u).natAbs = R := by rw [a4]; split <;> omega
    have er : (fval r).natAbs = (fval r).toNat := by omega
    rw [er] at a7
    refine ⟨u, a1, a2, a3, ?_⟩
    rw [eR]
    exact near_int_pos a7 (by omega)
  obtain ⟨u1, c1, c2, c3, c4⟩ := quo _ h1
  obtain ⟨u2, e1, e2, e3, e4⟩ := quo _ h2
  have small : ∀ x y : Nat, 35184372088832 * (x * x + y * y) ≤ 35184372088833 * ((fval (dotW z z)).toNat * oneV) → x ≤ 2 * (fval r).toNat := fun x y hxy => by
    rcases Nat.lt_or_ge (2 * (fval r).toNat) x with hlt | hge
    · exfalso
      have m := Nat.mul_le_mul (Nat.le_of_lt hlt) (Nat.le_of_lt hlt)
      rw [show 2 * (fval r).toNat * (2 * (fval r).toNat) = 4 * ((fval r).toNat * (fval r).toNat) by rw [Nat.mul_mul_mul_comm]] at m
      have hpos : 0 < (fval r).toNat * (fval r).toNat := Nat.mul_pos (by omega) (by omega)
      generalize (fval (dotW z z)).toNat * oneV = V at *
      generalize (fval r).toNat * (fval r).toNat = rr at *
      generalize x * x = xx at *
      generalize y * y = yy at *
      omega
    · exact hge
  have d1 := div_sq c4 (by omega) (small _ _ S.1) hU
  have d2 := div_sq e4 (by omega) (small (fval z.2).natAbs (fval z.1).natAbs (by rw [Nat.add_comm]; exact S.1)) hU
  have Q := unit_sum S.1 S.2 ra1 ra2 (by omega) (by omega) d1.1 d1.2 d2.1 d2.2
  clear d1 d2 S ra1 ra2 np nq nv quo c4 e4
  obtain ⟨Q1, Q2⟩ := Q
  have huu : 0 < oneV * oneV := Nat.mul_pos hU hU
  -- they are parts of a valid vector
  have part : ∀ x y : Nat, 1000000000 * (x * x + y * y) ≤ 1000000240 * (oneV * oneV) → x ≤ 100000000 * oneV := fun x y hxy => by
    rcases Nat.lt_or_ge (2 * oneV) x with hlt | hge
    · exfalso
      have m := Nat.mul_le_mul (Nat.le_of_lt hlt) (Nat.le_of_lt hlt)
      rw [show 2 * oneV * (2 * oneV) = 4 * (oneV * oneV) by rw [Nat.mul_mul_mul_comm]] at m
      generalize oneV * oneV = uu at *
      generalize x * x = xx at *
      generalize y * y = yy at *
      omega
    · omega
  have k1 : okP u1 := ⟨c2, part _ _ Q1⟩
  have k2 : okP u2 := ⟨e2, part (fval u2).natAbs (fval u1).natAbs (by rw [Nat.add_comm]; exact Q1)⟩
  refine ⟨(u1, u2), c1, e1, c3, e3, k1, k2, ?_⟩
  obtain ⟨p, q, _, _, _, dn, dl, np, nq, nv, p0, q0⟩ := sq_ok (z := (u1, u2)) k1 k2
  have v0 : 0 ≤ fval (dotW (u1, u2) (u1, u2)) := (nv 0 rep_zero).1 (by omega)
  have S := sq_sum (A := (fval u1).natAbs * (fval u1).natAbs) (B := (fval u2).natAbs * (fval u2).natAbs) (p := (fval p).toNat) (q := (fval q).toNat) (v := (fval (dotW (u1, u2) (u1, u2))).toNat) (U := oneV)
    (by rw [← sq_nonneg_abs, show (((fval p).toNat : Nat) : Int) = fval p by omega]; exact np) (by rw [← sq_nonneg_abs, show (((fval q).toNat : Nat) : Int) = fval q by omega]; exact nq)
    (by rw [show (((fval (dotW (u1, u2) (u1, u2))).toNat : Nat) : Int) = fval (dotW (u1, u2) (u1, u2)) by omega, show (((fval p).toNat + (fval q).toNat : Nat) : Int) = fval p + fval q by omega]; exact nv) hU (.inr (by
      have : 36028797018963968 * oneV ≤ oneV * oneV := Nat.mul_le_mul_right _ (by omega)
      generalize (fval u1).natAbs * (fval u1).natAbs + (fval u2).natAbs * (fval u2).natAbs = t at *
      generalize oneV * oneV = uu at *
      omega))
  obtain ⟨S1, S2⟩ := S
  clear np nq nv p0 q0
  have hin : inR (dotW (u1, u2) (u1, u2)) := by
    have up : (fval (dotW (u1, u2) (u1, u2))).toNat ≤ 2 * oneV := by
      refine Nat.le_of_mul_le_mul_right ?_ hU
      rw [Nat.mul_assoc]
      generalize (fval (dotW (u1, u2) (u1, u2))).toNat * oneV = vu at *
      generalize (fval u1).natAbs * (fval u1).natAbs + (fval u2).natAbs * (fval u2).natAbs = t at *
      generalize oneV * oneV = uu at *
      omega
    have dn2 : oneV ≤ 2 * (fval (dotW (u1, u2) (u1, u2))).toNat := by
      refine Nat.le_of_mul_le_mul_right ?_ hU
      rw [Nat.mul_assoc]
      generalize (fval (dotW (u1, u2) (u1, u2))).toNat * oneV = vu at *
      generalize (fval u1).natAbs * (fval u1).natAbs + (fval u2).natAbs * (fval u2).natAbs = t at *
      generalize oneV * oneV = uu at *
      omega
    refine ⟨dn, ?_, ?_⟩
    · have hq : f64.order 4427486594234968593 4602678819172646912 = some .lt := by kernel_rfl
      rw [order_val (isNum_of minq_num) (isNum_of ch_num), ch_val.1] at hq
      injection hq with hq
      have hq2 := Int.compare_eq_lt.1 hq
      have := oneV_eq
      omega
    · rw [maxq_val]; omega
  refine ⟨hin, fun g' hb' => ?_⟩
  obtain ⟨sn, s0, a1, a2⟩ := root_acc hin hb'
  refine ⟨sn, ?_, ?_⟩
  · rw [below_val]
    rcases Int.lt_or_le ((9007190247541737 * 2 ^ (fixE - 53) : Nat) : Int) (fval (newtN (dotW (u1, u2) (u1, u2)) g' 60)) with hlt | hge
    · exact hlt
    · exfalso
      have hle : (fval (newtN (dotW (u1, u2) (u1, u2)) g' 60)).toNat ≤ 9007190247541737 * 2 ^ (fixE - 53) := by omega
      have m := Nat.mul_le_mul hle hle
      rw [Nat.mul_mul_mul_comm 9007190247541737] at m
      have e53 : oneV * oneV = 81129638414606681695789005144064 * (2 ^ (fixE - 53) * 2 ^ (fixE - 53)) := by rw [oneV_53, Nat.mul_mul_mul_comm]
      have hpw : 0 < 2 ^ (fixE - 53) * 2 ^ (fixE - 53) := Nat.mul_pos (Nat.two_pow_pos _) (Nat.two_pow_pos _)
      rw [e53] at Q1 Q2
      generalize (fval (newtN (dotW (u1, u2) (u1, u2)) g' 60)).toNat * (fval (newtN (dotW (u1, u2) (u1, u2)) g' 60)).toNat = ss at *
      generalize (fval (dotW (u1, u2) (u1, u2))).toNat * oneV = vu at *
      generalize (fval u1).natAbs * (fval u1).natAbs + (fval u2).natAbs * (fval u2).natAbs = t at *
      generalize 2 ^ (fixE - 53) * 2 ^ (fixE - 53) = ww at *
      omega
  · rw [above_val]
    rcases Int.lt_or_le (fval (newtN (dotW (u1, u2) (u1, u2)) g' 60)) ((9007208261940246 * 2 ^ (fixE - 53) : Nat) : Int) with hlt | hge
    · exact hlt
    · exfalso
      have hle : 9007208261940246 * 2 ^ (fixE - 53) ≤ (fval (newtN (dotW (u1, u2) (u1, u2)) g' 60)).toNat := by omega
      have m := Nat.mul_le_mul hle hle
      rw [Nat.mul_mul_mul_comm 9007208261940246] at m
      have e53 : oneV * oneV = 81129638414606681695789005144064 * (2 ^ (fixE - 53) * 2 ^ (fixE - 53)) := by rw [oneV_53, Nat.mul_mul_mul_comm]
      have hpw : 0 < 2 ^ (fixE - 53) * 2 ^ (fixE - 53) := Nat.mul_pos (Nat.two_pow_pos _) (Nat.two_pow_pos _)
      rw [e53] at Q1 Q2
      generalize (fval (newtN (dotW (u1, u2) (u1, u2)) g' 60)).toNat * (fval (newtN (dotW (u1, u2) (u1, u2)) g' 60)).toNat = ss at *
      generalize (fval (dotW (u1, u2) (u1, u2))).toNat * oneV = vu at *
      generalize (fval u1).natAbs * (fval u1).natAbs + (fval u2).natAbs * (fval u2).natAbs = t at *
      generalize 2 ^ (fixE - 53) * 2 ^ (fixE - 53) = ww at *
      omega
end Go.Proofs.Ytbjaedmifacgaaa

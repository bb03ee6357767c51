/- One text out of: Rt, RtM, RtW, RtA, Fd. -/
import Derived.Test.YtonoknbangnleaaGreatFA
import Derived.Test.YtonoknbangnleaaGreatRows
import Derived.WalkKit
import Derived.WalkSpells
import Derived.WalkLawsBesides
import Derived.Lib.Hide
/- Roots: one step of Newton's on float64 words, and sixty of them. Nothing here speaks of the program. -/
namespace Go.Proofs.YtonoknbangnleaaGreat
open Go.RowKit Ieee

noncomputable def lowV : Nat := 2 ^ (fixE - 41)
theorem oneV_low : oneV = 2199023255552 * lowV := by
  have hE := fixE_eq
  unfold oneV lowV
  rw [show (2199023255552 : Nat) = 2 ^ 41 from rfl, ← Nat.pow_add, show 41 + (fixE - 41) = fixE by omega]
theorem lowV_big : 18014398509481984 ≤ lowV := by
  have hE := fixE_eq
  unfold lowV
  rw [show (18014398509481984 : Nat) = 2 ^ 54 from rfl]
  exact Nat.pow_le_pow_right (by omega) (by omega)
theorem lowV_floor : 2 ^ (fixE - 200) ≤ lowV := by
  unfold lowV; exact Nat.pow_le_pow_right (by omega) (by omega)
theorem oneV_roof : 1152921504606846976 * oneV < 2 ^ (fixE + 200) := by
  unfold oneV
  rw [Nat.pow_add, Nat.mul_comm]
  exact Nat.mul_lt_mul_of_pos_left (by rw [show (1152921504606846976 : Nat) = 2 ^ 60 from rfl]; exact Nat.pow_lt_pow_right (by omega) (by omega)) (Nat.two_pow_pos _)
theorem oneV_bound : 1152921504606846976 * oneV < 2 ^ fixB := by
  refine Nat.lt_trans oneV_roof ?_
  have h1 := fixE_eq
  have h2 := fixB_eq
  exact Nat.pow_lt_pow_right (by omega) (by omega)

theorem one_num : f64.read 4607182418800017408 = .number false 4503599627370496 (-52) := by kernel_rfl
theorem two_num : f64.read 4611686018427387904 = .number false 4503599627370496 (-51) := by kernel_rfl
theorem minq_num : f64.read 4427486594234968593 = .number false 4951760157141521 (-92) := by kernel_rfl
theorem maxq_num : f64.read 4861130398305394688 = .number false 6250000000000000 4 := by kernel_rfl
theorem one_val : fval 4607182418800017408 = (oneV : Int) := by
  have hf := fixE_eq
  unfold fval; rw [one_num]; show signed false 4503599627370496 (-52 + 1074 : Int).toNat = _
  rw [show (-52 + 1074 : Int).toNat = fixE - 52 by omega, signed_eq]
  exact congrArg (fun n : Nat => (n : Int)) (pow_exp 52 (fixE - 52) (by omega))
theorem two_val : fval 4611686018427387904 = 2 * (oneV : Int) := by
  have hf := fixE_eq
  unfold fval; rw [two_num]; show signed false 4503599627370496 (-51 + 1074 : Int).toNat = _
  rw [show (-51 + 1074 : Int).toNat = (fixE - 52) + 1 by omega, signed_shift, signed_eq]
  show ((4503599627370496 * 2 ^ (fixE - 52) : Nat) : Int) * ((2 : Nat) : Int) = _
  rw [show 4503599627370496 * 2 ^ (fixE - 52) = oneV from pow_exp 52 (fixE - 52) (by omega), Int.mul_comm]; rfl
theorem minq_val : (lowV : Int) ≤ fval 4427486594234968593 := by
  have hf := fixE_eq
  unfold fval; rw [minq_num]; show _ ≤ signed false 4951760157141521 (-92 + 1074 : Int).toNat
  rw [show (-92 + 1074 : Int).toNat = fixE - 92 by omega, signed_eq]
  show (lowV : Int) ≤ ((4951760157141521 * 2 ^ (fixE - 92) : Nat) : Int)
  have h : lowV ≤ 4951760157141521 * 2 ^ (fixE - 92) := by
    unfold lowV
    rw [show fixE - 41 = 51 + (fixE - 92) by omega, Nat.pow_add]
    exact Nat.mul_le_mul_right _ (by omega)
  omega
theorem maxq_val : fval 4861130398305394688 = 100000000000000000 * (oneV : Int) := by
  have hf := fixE_eq
  unfold fval; rw [maxq_num]; show signed false 6250000000000000 (4 + 1074 : Int).toNat = _
  rw [show (4 + 1074 : Int).toNat = fixE + 4 by omega, signed_shift, signed_eq]
  show ((6250000000000000 * 2 ^ fixE : Nat) : Int) * ((16 : Nat) : Int) = 100000000000000000 * ((2 ^ fixE : Nat) : Int)
  generalize 2 ^ fixE = z
  omega

/-- A quotient of positive numbers. -/
theorem pos_div {x y : Nat} (hx : isNum x) (hy : isNum y) (x0 : 0 < fval x) (x1 : fval x ≤ 1152921504606846976 * (oneV : Int)) (y0 : (lowV : Int) ≤ fval y) :
    ∃ r, f64.div x y = some r ∧ isNum r ∧ r < 18446744073709551616 ∧ 0 ≤ fval r ∧ NearI (fval r) (fval x * (oneV : Int)) (fval y).toNat ∧ Near (fval r).toNat ((fval x).toNat * oneV) (fval y).toNat := by
  have hlb := lowV_big
  have hroof := oneV_roof
  have hfloor := lowV_floor
  obtain ⟨r, h1, h2, h3, s, t, R, hv, sx, sy, hn⟩ := div_op hx hy (by omega) (by omega)
  have hs : s = false := by cases s with
    | false => rfl
    | true => rw [if_pos rfl] at sx; omega
  have ht : t = false := by cases t with
    | false => rfl
    | true => rw [if_pos rfl] at sy; omega
  subst hs; subst ht
  have hv' : fval r = (R : Int) := hv
  have ex : (fval x).natAbs = (fval x).toNat := by omega
  have ey : (fval y).natAbs = (fval y).toNat := by omega
  rw [ex, ey] at hn
  refine ⟨r, h1, h2, h3, by omega, ?_, by rw [hv']; exact hn⟩
  have := near_int_pos hn (by omega)
  rw [Int.natCast_mul, show (((fval x).toNat : Nat) : Int) = fval x by omega, ← hv'] at this
  exact this

/-- One step of Newton's for the root of x. -/
def newtQ (x g : Nat) : Nat := (f64.div x g).getD 0
def newtS (x g : Nat) : Nat := (f64.add g (newtQ x g)).getD 0
def newt (x g : Nat) : Nat := (f64.div (newtS x g) 4611686018427387904).getD 0
def newtN (x g : Nat) : Nat → Nat
  | 0 => g
  | k + 1 => newt x (newtN x g k)

/-- The half of a number that is no tiny one. -/
theorem half_op {s : Nat} (hs : isNum s) (s0 : 18014398509481984 ≤ fval s) (s1 : fval s ≤ 1152921504606846976 * (oneV : Int)) :
    ∃ r, f64.div s 4611686018427387904 = some r ∧ isNum r ∧ r < 18446744073709551616 ∧ fval s = 2 * fval r := by
  have hol := oneV_low
  have hlb := lowV_big
  obtain ⟨r, h1, h2, h3, r0, hnear, _⟩ := pos_div hs (isNum_of two_num) (by omega) s1 (by rw [two_val]; omega)
  obtain ⟨z, hz, hrep⟩ := rep_half (rep_num hs) (by omega)
  refine ⟨r, h1, h2, h3, ?_⟩
  rw [two_val] at hnear
  have e : fval s * (oneV : Int) = z * (((2 * (oneV : Int)).toNat : Nat) : Int) := by
    rw [hz, show (((2 * (oneV : Int)).toNat : Nat) : Int) = 2 * (oneV : Int) by omega, Int.mul_comm 2 z, Int.mul_assoc]
  rw [e] at hnear
  rw [hnear.exact hrep, hz]

/-- A step between two bounds whose product is that of the root with itself. -/
theorem newt_step {x g : Nat} {mn mx : Int} (hx : isNum x) (hg : isNum g) (hmn : Rep mn) (hmx : Rep mx) (hprod : mn * mx = fval x * (oneV : Int)) (x0 : 0 < fval x) (x1 : fval x ≤ 144115188075855872 * (oneV : Int))
    (m0 : (lowV : Int) ≤ mn) (m1 : mx ≤ 144115188075855872 * (oneV : Int)) (g0 : mn ≤ fval g) (g1 : fval g ≤ mx) :
    f64.div x g = some (newtQ x g) ∧ f64.add g (newtQ x g) = some (newtS x g) ∧ f64.div (newtS x g) 4611686018427387904 = some (newt x g) ∧ isNum (newt x g) ∧ newt x g < 18446744073709551616 ∧ mn ≤ fval (newt x g) ∧ fval (newt x g) ≤ mx ∧
      NearI (fval (newtQ x g)) (fval x * (oneV : Int)) (fval g).toNat ∧ Near (fval (newtQ x g)).toNat ((fval x).toNat * oneV) (fval g).toNat ∧ NearI (fval g + fval (newtQ x g)) (fval g + fval (newtQ x g)) 1 ∧ NearI (fval (newtS x g)) (fval g + fval (newtQ x g)) 1 ∧ fval (newtS x g) = 2 * fval (newt x g) ∧ 0 ≤ fval (newtQ x g) := by
  have hlb := lowV_big
  have hbound := oneV_bound
  obtain ⟨q, hq, qn, _, q0, nq, nq2⟩ := pos_div hx hg x0 (by omega) (by omega)
  have eq : newtQ x g = q := by unfold newtQ; rw [hq]; rfl
  have eD : (((fval g).toNat : Nat) : Int) = fval g := by omega
  have lo : mn ≤ fval q := by
    refine (nq mn hmn).1 ?_
    rw [eD, ← hprod]
    exact Int.mul_le_mul_of_nonneg_left g1 (by omega)
  have hi : fval q ≤ mx := by
    refine (nq mx hmx).2 ?_
    rw [eD, ← hprod, Int.mul_comm mn mx]
    exact Int.mul_le_mul_of_nonneg_left g0 (by omega)
  obtain ⟨s, hs, sn, _, sr⟩ := add_op hg qn (by omega)
  have ns := sr.near (by omega)
  have es : newtS x g = s := by unfold newtS; rw [eq, hs]; rfl
  have slo : 2 * mn ≤ fval s := (ns (2 * mn) (rep_two hmn)).1 (by omega)
  have shi : fval s ≤ 2 * mx := (ns (2 * mx) (rep_two hmx)).2 (by omega)
  obtain ⟨r, hr, rn, rl, hv⟩ := half_op sn (by omega) (by omega)
  have er : newt x g = r := by unfold newt; rw [es, hr]; rfl
  rw [er, es, eq]
  exact ⟨hq, hs, hr, rn, rl, by omega, by omega, nq, nq2, fun g _ => ⟨fun h => by omega, fun h => by omega⟩, ns, hv, q0⟩

/-- What has a root: a number from MinSquare to MaxSquare. -/
def inR (x : Nat) : Prop := isNum x ∧ fval 4427486594234968593 ≤ fval x ∧ fval x ≤ fval 4861130398305394688
/-- With which number its steps begin. -/
def begins (x g : Nat) : Prop := (fval x < (oneV : Int) ∧ g = 4607182418800017408) ∨ ((oneV : Int) ≤ fval x ∧ g = x)
theorem inR_bd {x : Nat} (h : inR x) : (lowV : Int) ≤ fval x ∧ fval x ≤ 144115188075855872 * (oneV : Int) := by
  obtain ⟨_, h1, h2⟩ := h
  have := minq_val
  have := maxq_val
  have : 0 ≤ (oneV : Int) := Int.natCast_nonneg _
  omega
/-- The bounds between which all steps lie. -/
theorem begin_bounds {x g : Nat} (hx : inR x) (hb : begins x g) : ∃ mn mx : Int, Rep mn ∧ Rep mx ∧ mn * mx = fval x * (oneV : Int) ∧ (lowV : Int) ≤ mn ∧ mx ≤ 144115188075855872 * (oneV : Int) ∧ mn ≤ (oneV : Int) ∧ isNum g ∧ mn ≤ fval g ∧ fval g ≤ mx := by
  obtain ⟨b0, b1⟩ := inR_bd hx
  have hol := oneV_low
  have hlb := lowV_big
  have r1 : Rep (oneV : Int) := by rw [← one_val]; exact rep_num (isNum_of one_num)
  rcases hb with ⟨h, rfl⟩ | ⟨h, rfl⟩
  · exact ⟨fval x, oneV, rep_num hx.1, r1, rfl, b0, by omega, by omega, isNum_of one_num, by rw [one_val]; omega, by rw [one_val]; omega⟩
  · exact ⟨oneV, fval g, r1, rep_num hx.1, Int.mul_comm _ _, by omega, b1, by omega, hx.1, h, Int.le_refl _⟩
theorem newtN_in {x g : Nat} {mn mx : Int} (hx : inR x) (hmn : Rep mn) (hmx : Rep mx) (hprod : mn * mx = fval x * (oneV : Int)) (m0 : (lowV : Int) ≤ mn) (m1 : mx ≤ 144115188075855872 * (oneV : Int)) (hg : isNum g) (g0 : mn ≤ fval g) (g1 : fval g ≤ mx) (k : Nat) :
    isNum (newtN x g k) ∧ mn ≤ fval (newtN x g k) ∧ fval (newtN x g k) ≤ mx := by
  obtain ⟨b0, b1⟩ := inR_bd hx
  have hlb := lowV_big
  induction k with
  | zero => exact ⟨hg, g0, g1⟩
  | succ k ih =>
    obtain ⟨_, _, _, h1, _, h2, h3, _⟩ := newt_step hx.1 ih.1 hmn hmx hprod (by omega) b1 m0 m1 ih.2.1 ih.2.2
    exact ⟨h1, h2, h3⟩
/-- All that the walk asks of a step. -/
theorem newt_ops {x g : Nat} (hx : inR x) (hb : begins x g) (k : Nat) :
    ∃ q s, floatBits .quo .f64 x (newtN x g k) = some q ∧ floatBits .add .f64 (newtN x g k) q = some s ∧ floatBits .quo .f64 s 4611686018427387904 = some (newtN x g (k + 1)) := by
  obtain ⟨b0, b1⟩ := inR_bd hx
  have hlb := lowV_big
  obtain ⟨mn, mx, hmn, hmx, hprod, m0, m1, _, hg, g0, g1⟩ := begin_bounds hx hb
  obtain ⟨hk, k0, k1⟩ := newtN_in hx hmn hmx hprod m0 m1 hg g0 g1 k
  obtain ⟨h1, h2, h3, _⟩ := newt_step hx.1 hk hmn hmx hprod (by omega) b1 m0 m1 k0 k1
  exact ⟨_, _, h1, h2, h3⟩
theorem begins_ex (x : Nat) : ∃ g, begins x g := by
  rcases Int.lt_or_le (fval x) (oneV : Int) with h | h
  · exact ⟨_, .inl ⟨h, rfl⟩⟩
  · exact ⟨_, .inr ⟨h, rfl⟩⟩
/-- What Root answers. -/
def RootIs (x r : Nat) : Prop := (¬ inR x ∧ r = 0) ∨ (inR x ∧ ∃ g, begins x g ∧ r = newtN x g 60)
theorem root_ex (x : Nat) : ∃ r, RootIs x r := by
  by_cases h : inR x
  · obtain ⟨g, hg⟩ := begins_ex x
    exact ⟨_, .inr ⟨h, g, hg, rfl⟩⟩
  · exact ⟨0, .inl ⟨h, rfl⟩⟩

/-- How the constants stand to a word. -/
theorem order_c {x : Nat} (hx : x < 18446744073709551616) {c : Nat} (hc : isNum c) : (isNum x ∧ f64.order x c = some (compare (fval x) (fval c)) ∧ f64.order c x = some (compare (fval c) (fval x))) ∨
    (¬ isNum x ∧ ((f64.order x c = none ∧ f64.order c x = none) ∨ (f64.order x c = some .gt ∧ f64.order c x = some .lt) ∨ (f64.order x c = some .lt ∧ f64.order c x = some .gt))) := by
  by_cases hE : expo x < 2047
  · have hn := num_of_expo hx hE
    exact .inl ⟨hn, order_val hn hc, order_val hc hn⟩
  · have hE2 : expo x = 2047 := by have := expo_le x; omega
    refine .inr ⟨fun hn => hE (expo_of_num hx hn), ?_⟩
    obtain ⟨s, m, i, e, _⟩ := hc
    rcases read_full hx hE2 with h | ⟨b, h⟩
    · cases hs : sneg x
      · rw [hs] at h
        exact .inr (.inl ⟨by unfold Format.order; rw [h, e]; rfl, by unfold Format.order; rw [h, e]; rfl⟩)
      · rw [hs] at h
        exact .inr (.inr ⟨by unfold Format.order; rw [h, e]; rfl, by unfold Format.order; rw [h, e]; rfl⟩)
    · exact .inl ⟨by unfold Format.order; rw [h, e]; rfl, by unfold Format.order; rw [h, e]; rfl⟩
end Go.Proofs.YtonoknbangnleaaGreat

/- Roots of squares: the steps of Newton's for the square of a whole number end at that number. Nothing here speaks of the program. -/
namespace Go.Proofs.YtonoknbangnleaaGreat
open Go.RowKit Ieee

/-- A number of 53 digits that is no tiny one, written with just 53. -/
theorem rep_norm {v : Nat} (h : Rep (v : Int)) (hb : 9007199254740992 ≤ v) : ∃ q k : Nat, 4503599627370496 ≤ q ∧ q < 9007199254740992 ∧ v = q * 2 ^ k := by
  obtain ⟨q, k, hq, hv⟩ := h
  rw [Int.natAbs_natCast] at hv
  have hv0 : v ≠ 0 := by omega
  have h1 : 2 ^ v.log2 ≤ v := Nat.log2_self_le hv0
  have h2 : v < 2 ^ (v.log2 + 1) := Nat.lt_log2_self
  have hl : 53 ≤ v.log2 := by
    rcases Nat.lt_or_ge v.log2 53 with h | h
    · have : 2 ^ (v.log2 + 1) ≤ 2 ^ 53 := Nat.pow_le_pow_right (by omega) (by omega)
      have : (2 : Nat) ^ 53 = 9007199254740992 := rfl
      omega
    · exact h
  obtain ⟨j, hj⟩ : ∃ j, v.log2 = 52 + j := ⟨v.log2 - 52, by omega⟩
  rw [hj] at h1 h2
  have e52 : (2 : Nat) ^ 52 = 4503599627370496 := rfl
  have e53 : (2 : Nat) ^ 53 = 9007199254740992 := rfl
  have hpj : 0 < 2 ^ j := Nat.two_pow_pos _
  have fin : ∀ a, v = a * 2 ^ j → 4503599627370496 ≤ a ∧ a < 9007199254740992 := fun a ha => by
    rw [ha, Nat.pow_add, e52] at h1
    rw [ha, show 52 + j + 1 = 53 + j by omega, Nat.pow_add, e53] at h2
    exact ⟨Nat.le_of_mul_le_mul_right h1 hpj, Nat.lt_of_mul_lt_mul_right h2⟩
  rcases Nat.lt_or_ge k j with hkj | hkj
  · -- then q is the greatest
    obtain ⟨i, rfl⟩ : ∃ i, j = k + 1 + i := ⟨j - k - 1, by omega⟩
    have h3 : 2 ^ (53 + i) ≤ q := by
      refine Nat.le_of_mul_le_mul_right ?_ (Nat.two_pow_pos k)
      rw [← Nat.pow_add, ← hv]
      rw [show 52 + (k + 1 + i) = 53 + i + k by omega] at h1
      exact h1
    have h4 : 2 ^ 53 ≤ 2 ^ (53 + i) := Nat.pow_le_pow_right (by omega) (by omega)
    have h5 : q = 9007199254740992 := by omega
    have h6 : i = 0 := by
      rcases Nat.eq_zero_or_pos i with h | h
      · exact h
      · have : 2 ^ 54 ≤ 2 ^ (53 + i) := Nat.pow_le_pow_right (by omega) (by omega)
        have : (2 : Nat) ^ 54 = 18014398509481984 := rfl
        omega
    subst h6
    have hva : v = 4503599627370496 * 2 ^ (k + 1 + 0) := by rw [hv, h5, Nat.add_zero, Nat.pow_succ, Nat.mul_comm (2 ^ k) 2, ← Nat.mul_assoc]
    exact ⟨_, _, (fin _ hva).1, (fin _ hva).2, hva⟩
  · obtain ⟨i, rfl⟩ : ∃ i, k = j + i := ⟨k - j, by omega⟩
    have hva : v = (q * 2 ^ i) * 2 ^ j := by rw [hv, Nat.pow_add, Nat.mul_comm (2 ^ j), Nat.mul_assoc]
    exact ⟨_, _, (fin _ hva).1, (fin _ hva).2, hva⟩

/-- What is between two numbers of 53 digits and no greater than either is one (Sterbenz). -/
theorem rep_sub {a b : Nat} (ha : Rep (a : Int)) (hb : Rep (b : Int)) (h : b ≤ a) (h2 : a - b ≤ b) : Rep ((a - b : Nat) : Int) := by
  obtain ⟨p, k, hp, ea⟩ := ha
  obtain ⟨q, l, hq, eb⟩ := hb
  rw [Int.natAbs_natCast] at ea eb
  have hsub : ∀ z i : Nat, a - b = z * 2 ^ i → (∃ y, y ≤ 9007199254740992 ∧ a - b ≤ y * 2 ^ i) → Rep ((a - b : Nat) : Int) := fun z i hz ⟨y, hy, hle⟩ => by
    refine ⟨z, i, ?_, by rw [Int.natAbs_natCast]; exact hz⟩
    rw [hz] at hle
    exact Nat.le_trans (Nat.le_of_mul_le_mul_right hle (Nat.two_pow_pos _)) hy
  rcases Nat.le_total k l with hkl | hkl
  · obtain ⟨i, rfl⟩ : ∃ i, l = k + i := ⟨l - k, by omega⟩
    refine hsub (p - q * 2 ^ i) k ?_ ⟨p, hp, by rw [← ea]; omega⟩
    rw [Nat.sub_mul, ea, eb, Nat.pow_add, Nat.mul_comm (2 ^ k), Nat.mul_assoc]
  · obtain ⟨i, rfl⟩ : ∃ i, k = l + i := ⟨k - l, by omega⟩
    refine hsub (p * 2 ^ i - q) l ?_ ⟨q, hq, by rw [← eb]; omega⟩
    rw [Nat.sub_mul, ea, eb, Nat.pow_add, Nat.mul_comm (2 ^ l), Nat.mul_assoc]

theorem rep_whole (m : Nat) (hm : m ≤ 9007199254740992) : Rep ((m * oneV : Nat) : Int) := ⟨m, fixE, hm, by rw [Int.natAbs_natCast]; rfl⟩

/-- The square of a whole number. -/
structure Sq (n x : Nat) : Prop where
  n1 : 1 ≤ n
  n2 : n ≤ 16384
  num : isNum x
  val : fval x = ((n * oneV * n : Nat) : Int)
theorem Sq.inR {n x : Nat} (h : Sq n x) : inR x := by
  refine ⟨h.num, ?_, ?_⟩
  · have hv := h.val
    have h1 : fval 4427486594234968593 < fval 4607182418800017408 := by
      have hq : f64.order 4427486594234968593 4607182418800017408 = some .lt := by kernel_rfl
      rw [order_val (isNum_of minq_num) (isNum_of one_num)] at hq
      injection hq with hq
      exact Int.compare_eq_lt.1 hq
    rw [one_val] at h1
    have h2 : 1 * oneV * 1 ≤ n * oneV * n := Nat.mul_le_mul (Nat.mul_le_mul h.n1 (Nat.le_refl _)) h.n1
    omega
  · have hv := h.val
    have h2 : n * oneV * n ≤ 16384 * oneV * 16384 := Nat.mul_le_mul (Nat.mul_le_mul h.n2 (Nat.le_refl _)) h.n2
    rw [maxq_val]
    omega
theorem Sq.mul {n x : Nat} (h : Sq n x) : (fval x).toNat * oneV = (n * oneV) * (n * oneV) := by
  rw [h.val, Int.toNat_natCast, Nat.mul_assoc (n * oneV)]

theorem mul_sides {a G : Nat} (h0 : a ≤ G) (h1 : G ≤ 2 * a) : (2 * a - G) * G + (G - a) * (G - a) = a * a := by
  obtain ⟨d, rfl⟩ : ∃ d, G = a + d := ⟨G - a, by omega⟩
  obtain ⟨c, rfl⟩ : ∃ c, a = c + d := ⟨a - d, by omega⟩
  rw [show 2 * (c + d) - (c + d + d) = c by omega, show c + d + d - (c + d) = d by omega]
  simp only [Nat.mul_add, Nat.add_mul]
  rw [Nat.mul_comm d c]
  omega

/-- What a step makes of a number from n on, below the square. -/
theorem sq_base {n x g : Nat} (h : Sq n x) (hg : isNum g) (g0 : n * oneV ≤ (fval g).toNat) (gx : (fval g).toNat ≤ n * oneV * n) :
    isNum (newt x g) ∧ (fval (newt x g)).toNat ≤ n * oneV * n ∧ 0 ≤ fval (newt x g) ∧ fval (newtS x g) = 2 * fval (newt x g) ∧ Near (fval (newtQ x g)).toNat ((n * oneV) * (n * oneV)) (fval g).toNat ∧
      NearI (fval (newtS x g)) (((fval g).toNat + (fval (newtQ x g)).toNat : Nat) : Int) 1 ∧ (fval (newtQ x g)).toNat ≤ n * oneV ∧ ((fval g).toNat ≤ 2 * (n * oneV) → 2 * (n * oneV) - (fval g).toNat ≤ (fval (newtQ x g)).toNat) := by
  have hol := oneV_low
  have hlb := lowV_big
  have hn1 := h.n1
  have hn2 := h.n2
  have hmul := h.mul
  have hval := h.val
  obtain ⟨b0, b1⟩ := inR_bd h.inR
  have hnU : oneV ≤ n * oneV := Nat.le_mul_of_pos_left _ hn1
  have hrx : Rep (fval x) := rep_num h.num
  have hr1 : Rep (oneV : Int) := by rw [← one_val]; exact rep_num (isNum_of one_num)
  obtain ⟨_, _, _, rn, _, r0, r1, _, nq2, _, ns, hs, q0⟩ := newt_step (mn := (oneV : Int)) (mx := fval x) h.num hg hr1 hrx (Int.mul_comm _ _) (by omega) b1 (by omega) b1 (by omega) (by omega)
  rw [hmul] at nq2
  rw [show fval g + fval (newtQ x g) = (((fval g).toNat + (fval (newtQ x g)).toNat : Nat) : Int) by omega] at ns
  refine ⟨rn, by omega, by omega, hs, nq2, ns, ?_, fun h2 => ?_⟩
  · have := (nq2 n fixE (by omega)).2.1
    exact this (Nat.mul_le_mul_left (n * oneV) g0)
  · have ha : Rep ((2 * (n * oneV) : Nat) : Int) := by
      have := rep_whole (2 * n) (by omega)
      rw [Nat.mul_assoc] at this
      exact this
    have hb : Rep (((fval g).toNat : Nat) : Int) := by
      rw [show (((fval g).toNat : Nat) : Int) = fval g by omega]; exact rep_num hg
    obtain ⟨p, k, hp, he⟩ := rep_sub ha hb h2 (by omega)
    rw [Int.natAbs_natCast] at he
    rw [he]
    refine (nq2 p k hp).1 ?_
    rw [← he]
    have := mul_sides g0 h2
    omega

theorem rep_roof (n e : Nat) (hn : n ≤ 16384) (he : e ≤ fixE + 28) (he2 : fixE ≤ e + 37) : Rep ((2 * (n * oneV) + 2 ^ (e + 1) : Nat) : Int) := by
  rcases Nat.lt_or_ge fixE (e + 1) with h | h
  · obtain ⟨j, hj⟩ : ∃ j, e + 1 = fixE + j := ⟨e + 1 - fixE, by omega⟩
    have hp : 2 ^ j ≤ 2 ^ 29 := Nat.pow_le_pow_right (by omega) (by omega)
    have e29 : (2 : Nat) ^ 29 = 536870912 := rfl
    refine ⟨2 * n + 2 ^ j, fixE, by omega, ?_⟩
    rw [Int.natAbs_natCast, hj, Nat.pow_add, Nat.add_mul, Nat.mul_comm (2 ^ fixE), Nat.mul_assoc]
    rfl
  · obtain ⟨j, hj⟩ : ∃ j, fixE = e + 1 + j := ⟨fixE - (e + 1), by omega⟩
    have hp : 2 ^ j ≤ 2 ^ 36 := Nat.pow_le_pow_right (by omega) (by omega)
    have e36 : (2 : Nat) ^ 36 = 68719476736 := rfl
    have hm : 2 * n * 2 ^ j ≤ 32768 * 2 ^ 36 := Nat.mul_le_mul (by omega) hp
    refine ⟨2 * n * 2 ^ j + 1, e + 1, by omega, ?_⟩
    rw [Int.natAbs_natCast, Nat.add_mul, Nat.one_mul]
    unfold oneV
    rw [hj, Nat.pow_add 2 (e + 1) j, Nat.mul_comm (2 ^ (e + 1)), Nat.mul_assoc, Nat.mul_assoc]

/-- The steps go down to the number, and never below it. -/
theorem sq_step {n x g : Nat} (h : Sq n x) (hg : isNum g) (e : Nat) (he : e ≤ fixE + 28) (he2 : fixE ≤ e + 37) (g0 : n * oneV ≤ (fval g).toNat) (g1 : (fval g).toNat ≤ n * oneV + 2 ^ (e + 1)) (gx : (fval g).toNat ≤ n * oneV * n) :
    isNum (newt x g) ∧ n * oneV ≤ (fval (newt x g)).toNat ∧ (fval (newt x g)).toNat ≤ n * oneV + 2 ^ e ∧ (fval (newt x g)).toNat ≤ n * oneV * n := by
  obtain ⟨rn, rx, r0, hs, _, ns, qhi, qlo⟩ := sq_base h hg g0 gx
  have hn2 := h.n2
  have lo := (ns ((2 * (n * oneV) : Nat) : Int) (by have := rep_whole (2 * n) (by omega); rw [Nat.mul_assoc] at this; exact this)).1
  have hi := (ns _ (rep_roof n e hn2 he he2)).2
  have e2 : 2 ^ (e + 1) = 2 * 2 ^ e := by rw [Nat.pow_succ, Nat.mul_comm]
  rw [e2] at hi g1
  clear he he2 ns
  generalize 2 ^ e = E at *
  generalize n * oneV = a at *
  have l1 : 2 * a ≤ (fval g).toNat + (fval (newtQ x g)).toNat := by
    rcases Nat.le_total (fval g).toNat (2 * a) with h | h
    · have := qlo h; omega
    · omega
  have lo' := lo (by omega)
  have hi' := hi (by omega)
  exact ⟨rn, by omega, by omega, rx⟩

/-- Near enough, the next step is the number. -/
theorem sq_last {n x g : Nat} (h : Sq n x) (hg : isNum g) (g0 : n * oneV ≤ (fval g).toNat) (g1 : (fval g).toNat ≤ n * oneV + 2 ^ (fixE - 29)) (gx : (fval g).toNat ≤ n * oneV * n) :
    isNum (newt x g) ∧ fval (newt x g) = ((n * oneV : Nat) : Int) := by
  obtain ⟨rn, rx, r0, hs, nq, ns, qhi, qlo⟩ := sq_base h hg g0 gx
  have hE := fixE_eq
  have hol := oneV_low
  have hlb := lowV_big
  have hn1 := h.n1
  have hn2 := h.n2
  have hnU : oneV ≤ n * oneV := Nat.le_mul_of_pos_left _ hn1
  have h29 : oneV = 536870912 * 2 ^ (fixE - 29) := by
    unfold oneV
    rw [show (536870912 : Nat) = 2 ^ 29 from rfl, ← Nat.pow_add, show 29 + (fixE - 29) = fixE by omega]
  have ha : Rep ((2 * (n * oneV) : Nat) : Int) := by
    have := rep_whole (2 * n) (by omega)
    rw [Nat.mul_assoc] at this
    exact this
  have hb : Rep (((fval g).toNat : Nat) : Int) := by
    rw [show (((fval g).toNat : Nat) : Int) = fval g by omega]; exact rep_num hg
  have hc := rep_sub ha hb (by omega) (by omega)
  obtain ⟨q, k, q0, q1, he⟩ := rep_norm hc (by omega)
  have hms := mul_sides g0 (show (fval g).toNat ≤ 2 * (n * oneV) by omega)
  have hq : (fval (newtQ x g)).toNat ≤ q * 2 ^ k := by
    refine (nq q k (by omega)).2.2 q0 q1 ?_
    have hkc : q * 2 ^ k < 9007199254740992 * 2 ^ k := Nat.mul_lt_mul_of_pos_right q1 (Nat.two_pow_pos _)
    rw [← he] at hkc
    have e1 : (2 * q + 1) * 2 ^ k * (fval g).toNat = 2 * ((2 * (n * oneV) - (fval g).toNat) * (fval g).toNat) + 2 ^ k * (fval g).toNat := by
      rw [he, Nat.add_mul, Nat.one_mul, Nat.add_mul, Nat.mul_assoc 2, Nat.mul_assoc 2]
    rw [e1, ← hms]
    -- the square of what is too much is less than half a last place
    obtain ⟨d, hd⟩ : ∃ d, d = (fval g).toNat - n * oneV := ⟨_, rfl⟩
    rw [← hd]
    have hd1 : 536870912 * d ≤ n * oneV := by omega
    have hk1 : n * oneV ≤ 18014398509481984 * 2 ^ k := by omega
    have m1 : (536870912 * d) * (536870912 * d) ≤ (n * oneV) * (n * oneV) := Nat.mul_le_mul hd1 hd1
    have m2 : (n * oneV) * (n * oneV) ≤ 18014398509481984 * (2 ^ k * (fval g).toNat) := Nat.le_trans (Nat.mul_le_mul hk1 g0) (Nat.le_of_eq (Nat.mul_assoc _ _ _))
    have m3 : (536870912 * d) * (536870912 * d) = 288230376151711744 * (d * d) := by
      rw [Nat.mul_assoc, Nat.mul_left_comm d 536870912 d, ← Nat.mul_assoc]
    rw [m3] at m1
    have hpos : 0 < 2 ^ k * (fval g).toNat := Nat.mul_pos (Nat.two_pow_pos _) (by omega)
    clear hms e1 nq ns hkc he m3
    generalize 2 ^ k * (fval g).toNat = z at *
    generalize d * d = y at *
    generalize (2 * (n * oneV) - (fval g).toNat) * (fval g).toNat = t at *
    generalize n * oneV * (n * oneV) = v at *
    omega
  have hq2 := qlo (by omega)
  rw [he] at hq2
  have hsum : (((fval g).toNat + (fval (newtQ x g)).toNat : Nat) : Int) = ((2 * (n * oneV) : Nat) : Int) * ((1 : Nat) : Int) := by omega
  rw [hsum] at ns
  have hfin := ns.exact ha
  refine ⟨rn, ?_⟩
  omega

theorem sq_iter {n x : Nat} (h : Sq n x) (j : Nat) (hj : j ≤ 57) : isNum (newtN x x j) ∧ n * oneV ≤ (fval (newtN x x j)).toNat ∧ (fval (newtN x x j)).toNat ≤ n * oneV + 2 ^ (fixE + 28 - j) ∧ (fval (newtN x x j)).toNat ≤ n * oneV * n := by
  have hE := fixE_eq
  induction j with
  | zero =>
    have hval := h.val
    have hn1 := h.n1
    have e : (fval (newtN x x 0)).toNat = n * oneV * n := by show (fval x).toNat = _; rw [hval, Int.toNat_natCast]
    refine ⟨h.num, ?_, ?_, by rw [e]; exact Nat.le_refl _⟩
    · rw [e]; exact Nat.le_mul_of_pos_right _ hn1
    · rw [e, Nat.sub_zero]
      have hn2 := h.n2
      have h1 : n * oneV * n ≤ 16384 * oneV * 16384 := Nat.mul_le_mul (Nat.mul_le_mul hn2 (Nat.le_refl _)) hn2
      have key : n * oneV * n ≤ n * oneV + oneV * 268435456 := by clear hE e hval; generalize oneV = u at *; omega
      have e28 : 2 ^ (fixE + 28) = oneV * 268435456 := by
        rw [Nat.pow_add, show (268435456 : Nat) = 2 ^ 28 from rfl]; unfold oneV; exact rfl
      exact Nat.le_trans key (Nat.le_of_eq (congrArg (fun z => n * oneV + z) e28.symm))
  | succ j ih =>
    obtain ⟨i1, i2, i3, i4⟩ := ih (by omega)
    have := sq_step h i1 (fixE + 28 - (j + 1)) (by omega) (by omega) i2 (by rw [show fixE + 28 - (j + 1) + 1 = fixE + 28 - j by omega]; exact i3) i4
    exact this

/-- The root of the square of a whole number. -/
theorem root_sq {n x : Nat} (h : Sq n x) : isNum (newtN x x 60) ∧ fval (newtN x x 60) = ((n * oneV : Nat) : Int) := by
  have hE := fixE_eq
  obtain ⟨i1, i2, i3, i4⟩ := sq_iter h 57 (by omega)
  rw [show fixE + 28 - 57 = fixE - 29 by omega] at i3
  have hnx : n * oneV ≤ n * oneV * n := Nat.le_mul_of_pos_right _ h.n1
  have keep : ∀ g, isNum g → fval g = ((n * oneV : Nat) : Int) → isNum (newt x g) ∧ fval (newt x g) = ((n * oneV : Nat) : Int) := fun g a b => by
    refine sq_last h a ?_ ?_ ?_
    · rw [b, Int.toNat_natCast]; exact Nat.le_refl _
    · rw [b, Int.toNat_natCast]; exact Nat.le_add_right _ _
    · rw [b, Int.toNat_natCast]; exact hnx
  obtain ⟨a1, a2⟩ := sq_last h i1 i2 i3 i4
  obtain ⟨b1, b2⟩ := keep _ a1 a2
  exact keep _ b1 b2
end Go.Proofs.YtonoknbangnleaaGreat

/- The walks of impl.Root and spec.Root; the walk of the law FnExactRoot. -/
namespace Go.Proofs.YtonoknbangnleaaGreat
open Go.RowKit Ieee

theorem run_max_f {P : Program} (w : World) (ts : Array TypeId) (t : TypeId) (x y r : Nat)
    (h : (FloatKind.f64.format.order x y = some .lt ∧ r = y) ∨ (FloatKind.f64.format.order x y = some .gt ∧ r = x) ∨ (FloatKind.f64.format.order x y = some .eq ∧ (FloatKind.f64.decode x).neg = false ∧ r = x)) :
    (Builtin.max_ ts t #[.float .f64 x, .float .f64 y]).run P w = .ok (.float .f64 r) w := by
  rcases h with ⟨h, rfl⟩ | ⟨h, rfl⟩ | ⟨h, h2, rfl⟩
  · simp [Builtin.max_, Builtin.max2, h]
  · simp [Builtin.max_, Builtin.max2, h]
  · simp [Builtin.max_, Builtin.max2, h, h2]
/-- A positive number has no sign. -/
theorem neg_pos {x : Nat} (h : 0 < fval x) : (FloatKind.f64.decode x).neg = false := by
  show (f64.read x).neg = false
  unfold fval at h
  cases e : f64.read x with
  | nan a b => rw [e] at h; exact absurd h (by simp [dval])
  | infinity a => rw [e] at h; exact absurd h (by simp [dval])
  | number s m i =>
    rw [e] at h
    cases s with
    | false => rfl
    | true =>
      have h2 : 0 < signed true m (i + 1074).toNat := h
      rw [signed_eq, if_pos rfl] at h2
      omega

/-- How a number of the range stands to the bounds and to one. -/
theorem inR_orders {x : Nat} (h : inR x) : (f64.order 4427486594234968593 x = some .lt ∧ f64.order x 4427486594234968593 = some .gt ∨ f64.order 4427486594234968593 x = some .eq ∧ f64.order x 4427486594234968593 = some .eq) ∧
    (f64.order x 4861130398305394688 = some .lt ∨ f64.order x 4861130398305394688 = some .eq) := by
  obtain ⟨hn, h1, h2⟩ := h
  rw [order_val hn (isNum_of minq_num), order_val (isNum_of minq_num) hn, order_val hn (isNum_of maxq_num)]
  refine ⟨?_, ?_⟩
  · rcases Int.lt_or_eq_of_le h1 with h | h
    · exact .inl ⟨congrArg some (Int.compare_eq_lt.2 h), congrArg some (Int.compare_eq_gt.2 h)⟩
    · exact .inr ⟨congrArg some (Int.compare_eq_eq.2 h), congrArg some (Int.compare_eq_eq.2 h.symm)⟩
  · rcases Int.lt_or_eq_of_le h2 with h | h
    · exact .inl (congrArg some (Int.compare_eq_lt.2 h))
    · exact .inr (congrArg some (Int.compare_eq_eq.2 h))
theorem inR_one {x : Nat} (h : isNum x) : ((fval x < (oneV : Int) → f64.order x 4607182418800017408 = some .lt) ∧ ((oneV : Int) ≤ fval x → f64.order x 4607182418800017408 = some .gt ∨ f64.order x 4607182418800017408 = some .eq)) := by
  rw [order_val h (isNum_of one_num), one_val]
  refine ⟨fun h => congrArg some (Int.compare_eq_lt.2 h), fun h => ?_⟩
  rcases Int.lt_or_eq_of_le h with h | h
  · exact .inl (congrArg some (Int.compare_eq_gt.2 h))
  · exact .inr (congrArg some (Int.compare_eq_eq.2 h.symm))
/-- How a word out of the range stands to the bounds. -/
theorem outR_orders {x : Nat} (hx : x < 18446744073709551616) (h : ¬ inR x) :
    (((f64.order 4427486594234968593 x == some .lt) = false ∧ (f64.order 4427486594234968593 x == some .eq) = false ∧ (f64.order x 4427486594234968593 == some .gt) = false ∧ (f64.order x 4427486594234968593 == some .eq) = false) ∨
    (f64.order 4427486594234968593 x = some .lt ∧ f64.order x 4427486594234968593 = some .gt ∧ (f64.order x 4861130398305394688 == some .lt) = false ∧ (f64.order x 4861130398305394688 == some .eq) = false)) := by
  have hmm := minq_val
  have hmx := maxq_val
  have hol := oneV_low
  rcases order_c hx (isNum_of minq_num) with ⟨hn, h1, h2⟩ | ⟨hn, ⟨h1, h2⟩ | ⟨h1, h2⟩ | ⟨h1, h2⟩⟩
  · rcases Int.lt_or_le (fval x) (fval 4427486594234968593) with hl | hl
    · left
      rw [h1, h2, Int.compare_eq_lt.2 hl, Int.compare_eq_gt.2 hl]
      exact ⟨rfl, rfl, rfl, rfl⟩
    · rcases Int.lt_or_le (fval 4861130398305394688) (fval x) with hg | hg
      · right
        have hlt : fval 4427486594234968593 < fval x := by
          have hq : f64.order 4427486594234968593 4861130398305394688 = some .lt := by kernel_rfl
          rw [order_val (isNum_of minq_num) (isNum_of maxq_num)] at hq
          injection hq with hq
          have := Int.compare_eq_lt.1 hq
          omega
        rw [h1, h2, Int.compare_eq_gt.2 hlt, Int.compare_eq_lt.2 hlt, order_val hn (isNum_of maxq_num), Int.compare_eq_gt.2 hg]
        exact ⟨rfl, rfl, rfl, rfl⟩
      · exact absurd ⟨hn, hl, hg⟩ h
  · left; rw [h1, h2]; exact ⟨rfl, rfl, rfl, rfl⟩
  · rcases order_c hx (isNum_of maxq_num) with ⟨hn2, _⟩ | ⟨_, ⟨g1, g2⟩ | ⟨g1, g2⟩ | ⟨g1, g2⟩⟩
    · exact absurd hn2 hn
    · right; rw [h1, h2, g1]; exact ⟨rfl, rfl, rfl, rfl⟩
    · right; rw [h1, h2, g1]; exact ⟨rfl, rfl, rfl, rfl⟩
    · exfalso
      -- an infinity is on one side of all numbers
      have hE : expo x = 2047 := by
        rcases Nat.lt_or_ge (expo x) 2047 with hE | hE
        · exact absurd (num_of_expo hx hE) hn
        · have := expo_le x; omega
      rcases read_full hx hE with h | ⟨b, h⟩
      · have e1 := order_inf h (isNum_of minq_num)
        have e2 := order_inf h (isNum_of maxq_num)
        rw [h1] at e1; rw [g1] at e2
        rw [← e2] at e1; cases e1
      · have e1 := order_nan h 4427486594234968593
        rw [h1] at e1; cases e1
  · left; rw [h1, h2]; exact ⟨rfl, rfl, rfl, rfl⟩

set_option maxHeartbeats 1000000 in
theorem i_root_out (x : Nat) (w : World) (hx : x < 18446744073709551616) (h : ¬ inR x) :
    Calls Tryz.prog 40 #[.float .f64 x] w fun e w' => e = .returned (.float .f64 0) ∧ w = w' := by
  have ho := outR_orders hx h
  rcases ho with ⟨o1, o2, o3, o4⟩ | ⟨o1, o2, o3, o4⟩
  all_goals
    go_enter Tryz.func40, Tryz.ntmps40
    go_wp2
    go_ret
    exact ⟨rfl, rfl⟩
set_option maxHeartbeats 1000000 in
theorem s_root_out (x : Nat) (w : World) (hx : x < 18446744073709551616) (h : ¬ inR x) :
    Calls Tryz.prog 97 #[.float .f64 x] w fun e w' => e = .returned (.float .f64 0) ∧ w = w' := by
  have ho := outR_orders hx h
  rcases ho with ⟨o1, o2, o3, o4⟩ | ⟨o1, o2, o3, o4⟩
  all_goals
    go_enter Tryz.func97, Tryz.ntmps97
    go_wp2
    go_ret
    exact ⟨rfl, rfl⟩

set_option maxRecDepth 100000 in
set_option maxHeartbeats 1000000 in
theorem i_root_in (x g : Nat) (w : World) (h : inR x) (hb : begins x g) :
    Calls Tryz.prog 40 #[.float .f64 x] w fun e w' => e = .returned (.float .f64 (newtN x g 60)) ∧ w = w' := by
  obtain ⟨ho1, ho2⟩ := inR_orders h
  have hmax : ∀ (ts : Array TypeId) (t : TypeId) (w : World), (Builtin.max_ ts t #[.float .f64 x, .float .f64 4607182418800017408]).run Tryz.prog w = .ok (.float .f64 g) w := fun ts t w => by
    obtain ⟨b0, b1⟩ := inR_bd h
    have hlb := lowV_big
    refine run_max_f w ts t _ _ _ ?_
    rcases hb with ⟨hl, rfl⟩ | ⟨hl, rfl⟩
    · exact .inl ⟨(inR_one h.1).1 hl, rfl⟩
    · rcases (inR_one h.1).2 hl with o | o
      · exact .inr (.inl ⟨o, rfl⟩)
      · exact .inr (.inr ⟨o, neg_pos (by omega), rfl⟩)
  have H := Lib.hid (And.intro h hb)
  clear h hb
  have o1 : (FloatKind.f64.format.order 4427486594234968593 x == some .lt || FloatKind.f64.format.order 4427486594234968593 x == some .eq) = true := by
    rcases ho1 with ⟨o, _⟩ | ⟨o, _⟩ <;> (rw [show FloatKind.f64.format.order 4427486594234968593 x = _ from o]; rfl)
  have o2 : (FloatKind.f64.format.order x 4861130398305394688 == some .lt || FloatKind.f64.format.order x 4861130398305394688 == some .eq) = true := by
    rcases ho2 with o | o <;> (rw [show FloatKind.f64.format.order x 4861130398305394688 = _ from o]; rfl)
  clear ho1 ho2
  · go_enter Tryz.func40, Tryz.ntmps40
    go_wp2
    go_loop [3, 13] (fun v i => ∃ k : Nat, k ≤ 60 ∧ i = .int .i64 k ∧ v = .float .f64 (newtN x g k)) (fun _ i => 60 - (intOf i).toNat)
    case atStart => exact ⟨0, by omega, rfl, rfl⟩
    case round =>
      obtain ⟨k, hk, rfl, rfl⟩ := hrel
      by_cases hlt : k < 60
      · obtain ⟨q, s, h1, h2, h3⟩ := newt_ops H.out.1 H.out.2 k
        have q1 := fun w => run_float_arith (P := Tryz.prog) w .quo 42 .f64 _ _ q h1
        have q2 := fun w => run_float_arith (P := Tryz.prog) w .add 42 .f64 _ _ s h2
        have q3 := fun w => run_float_arith (P := Tryz.prog) w .quo 42 .f64 _ _ _ h3
        clear h1 h2 h3 o1 o2 hmax
        generalize newtN x g k = v at *
        generalize hz : newtN x g (k + 1) = z at *
        go_wp2
        go_round
        case rel => exact ⟨k + 1, by omega, by go_num, by rw [hz]⟩
        case measure => simp [intOf]; omega
      · have hk60 : k = 60 := by omega
        subst hk60
        clear hmax
        go_wp2
        go_ret
        exact ⟨rfl, rfl⟩
set_option maxRecDepth 100000 in
set_option maxHeartbeats 1000000 in
theorem s_root_in (x g : Nat) (w : World) (h : inR x) (hb : begins x g) :
    Calls Tryz.prog 97 #[.float .f64 x] w fun e w' => e = .returned (.float .f64 (newtN x g 60)) ∧ w = w' := by
  obtain ⟨ho1, ho2⟩ := inR_orders h
  have ho3 : (f64.order x 4607182418800017408 = some .lt ∧ g = 4607182418800017408) ∨ ((f64.order x 4607182418800017408 == some .lt) = false ∧ g = x) := by
    rcases hb with ⟨hl, rfl⟩ | ⟨hl, rfl⟩
    · exact .inl ⟨(inR_one h.1).1 hl, rfl⟩
    · rcases (inR_one h.1).2 hl with o | o
      · exact .inr ⟨by rw [o]; rfl, rfl⟩
      · exact .inr ⟨by rw [o]; rfl, rfl⟩
  have H := Lib.hid (And.intro h hb)
  clear h hb
  have o1 : (FloatKind.f64.format.order x 4427486594234968593 == some .gt || FloatKind.f64.format.order x 4427486594234968593 == some .eq) = true := by
    rcases ho1 with ⟨_, o⟩ | ⟨_, o⟩ <;> (rw [show FloatKind.f64.format.order x 4427486594234968593 = _ from o]; rfl)
  have o2 : (FloatKind.f64.format.order x 4861130398305394688 == some .lt || FloatKind.f64.format.order x 4861130398305394688 == some .eq) = true := by
    rcases ho2 with o | o <;> (rw [show FloatKind.f64.format.order x 4861130398305394688 = _ from o]; rfl)
  clear ho1 ho2
  rcases ho3 with ⟨o3, og⟩ | ⟨o3, og⟩
  all_goals
    have OG := Lib.hid og
    clear og
    go_enter Tryz.func97, Tryz.ntmps97
    go_wp2
    go_loop [3, 4] (fun v i => ∃ k : Nat, k ≤ 60 ∧ i = .int .i64 k ∧ v = .float .f64 (newtN x g k)) (fun _ i => 60 - (intOf i).toNat)
    case atStart => exact ⟨0, by omega, rfl, by rw [show newtN x g 0 = g from rfl, OG.out]⟩
    case round =>
      obtain ⟨k, hk, rfl, rfl⟩ := hrel
      by_cases hlt : k < 60
      · obtain ⟨q, s, h1, h2, h3⟩ := newt_ops H.out.1 H.out.2 k
        have q1 := fun w => run_float_arith (P := Tryz.prog) w .quo 42 .f64 _ _ q h1
        have q2 := fun w => run_float_arith (P := Tryz.prog) w .add 42 .f64 _ _ s h2
        have q3 := fun w => run_float_arith (P := Tryz.prog) w .quo 42 .f64 _ _ _ h3
        clear h1 h2 h3 o1 o2 o3
        generalize newtN x g k = v at *
        generalize hz : newtN x g (k + 1) = z at *
        go_wp2
        go_round
        case rel => exact ⟨k + 1, by omega, by go_num, by rw [hz]⟩
        case measure => simp [intOf]; omega
      · have hk60 : k = 60 := by omega
        subst hk60
        go_wp2
        go_ret
        exact ⟨rfl, rfl⟩

theorem i_root (x r : Nat) (w : World) (hx : x < 18446744073709551616) (h : RootIs x r) :
    Calls Tryz.prog 40 #[.float .f64 x] w fun e w' => e = .returned (.float .f64 r) ∧ w = w' := by
  rcases h with ⟨h, he⟩ | ⟨h, g, hb, he⟩ <;> rw [he]
  · exact i_root_out x w hx h
  · exact i_root_in x g w h hb
theorem s_root (x r : Nat) (w : World) (hx : x < 18446744073709551616) (h : RootIs x r) :
    Calls Tryz.prog 97 #[.float .f64 x] w fun e w' => e = .returned (.float .f64 r) ∧ w = w' := by
  rcases h with ⟨h, he⟩ | ⟨h, g, hb, he⟩ <;> rw [he]
  · exact s_root_out x w hx h
  · exact s_root_in x g w h hb
theorem f64_bd {x : Nat} (h : (Lit.float .f64 x).wf = true) : x < 18446744073709551616 := by
  simpa [Lit.wf] using h
end Go.Proofs.YtonoknbangnleaaGreat

/- Roots: how near sixty steps of Newton's come. Nothing here speaks of the program. -/
namespace Go.Proofs.YtonoknbangnleaaGreat
open Go.RowKit Ieee

theorem rep_nat2 {q k : Nat} (hq : q ≤ 9007199254740992) : Rep ((q * 2 ^ k : Nat) : Int) := ⟨q, k, hq, Int.natAbs_natCast _⟩
theorem isqrt_ex (M : Nat) : ∃ a, a * a ≤ M ∧ M < (a + 1) * (a + 1) := by
  induction M with
  | zero => exact ⟨0, by omega, by omega⟩
  | succ M ih =>
    obtain ⟨a, h1, h2⟩ := ih
    rcases Nat.lt_or_ge (M + 1) ((a + 1) * (a + 1)) with h | h
    · exact ⟨a, by omega, h⟩
    · refine ⟨a + 1, by omega, ?_⟩
      have : (a + 1) * (a + 1) < (a + 1 + 1) * (a + 1 + 1) := Nat.mul_lt_mul_of_lt_of_lt (by omega) (by omega)
      omega
theorem pow_sq (e : Nat) : 2 ^ e * 2 ^ e = 2 ^ (2 * e) := by rw [← Nat.pow_add, Nat.two_mul]
/-- A root to 24 digits. -/
theorem root24 (N : Nat) (hN : 2 ^ 46 ≤ N) : ∃ a e, 8388608 ≤ a ∧ a < 16777216 ∧ (a * 2 ^ e) * (a * 2 ^ e) ≤ N ∧ N < ((a + 1) * 2 ^ e) * ((a + 1) * 2 ^ e) ∧ 2 * e + 46 ≤ N.log2 ∧ N.log2 ≤ 2 * e + 47 := by
  have h0 : N ≠ 0 := by have := Nat.two_pow_pos 46; omega
  have hl : 46 ≤ N.log2 := (Nat.le_log2 h0).2 hN
  have h1 : 2 ^ N.log2 ≤ N := Nat.log2_self_le h0
  have h2 : N < 2 ^ (N.log2 + 1) := Nat.lt_log2_self
  obtain ⟨e, he⟩ : ∃ e, e = (N.log2 - 46) / 2 := ⟨_, rfl⟩
  have e1 : 2 * e + 46 ≤ N.log2 := by omega
  have e2 : N.log2 ≤ 2 * e + 47 := by omega
  have hp : 0 < 2 ^ (2 * e) := Nat.two_pow_pos _
  have b1 : 70368744177664 * 2 ^ (2 * e) ≤ N := by
    refine Nat.le_trans ?_ h1
    rw [show (70368744177664 : Nat) = 2 ^ 46 from rfl, ← Nat.pow_add]
    exact Nat.pow_le_pow_right (by omega) (by omega)
  have b2 : N < 281474976710656 * 2 ^ (2 * e) := by
    refine Nat.lt_of_lt_of_le h2 ?_
    rw [show (281474976710656 : Nat) = 2 ^ 48 from rfl, ← Nat.pow_add]
    exact Nat.pow_le_pow_right (by omega) (by omega)
  obtain ⟨a, a1, a2⟩ := isqrt_ex (N / 2 ^ (2 * e))
  have m1 : 70368744177664 ≤ N / 2 ^ (2 * e) := (Nat.le_div_iff_mul_le hp).2 b1
  have m2 : N / 2 ^ (2 * e) < 281474976710656 := (Nat.div_lt_iff_lt_mul hp).2 b2
  have hlo : 8388608 ≤ a := by
    rcases Nat.lt_or_ge a 8388608 with h | h
    · have : (a + 1) * (a + 1) ≤ 8388608 * 8388608 := Nat.mul_le_mul h h
      omega
    · exact h
  have hhi : a < 16777216 := by
    rcases Nat.lt_or_ge a 16777216 with h | h
    · exact h
    · have : 16777216 * 16777216 ≤ a * a := Nat.mul_le_mul h h
      omega
  have sq : ∀ b : Nat, (b * 2 ^ e) * (b * 2 ^ e) = b * b * 2 ^ (2 * e) := fun b => by rw [Nat.mul_mul_mul_comm, pow_sq]
  have hdm := Nat.div_add_mod N (2 ^ (2 * e))
  have hml := Nat.mod_lt N hp
  refine ⟨a, e, hlo, hhi, ?_, ?_, e1, e2⟩
  · rw [sq]
    exact (Nat.le_div_iff_mul_le hp).1 a1
  · rw [sq]
    have := Nat.mul_le_mul_right (2 ^ (2 * e)) (show N / 2 ^ (2 * e) + 1 ≤ (a + 1) * (a + 1) from a2)
    rw [Nat.add_mul, Nat.one_mul, Nat.mul_comm] at this
    omega

/-- One step, between G and what halves towards R. -/
theorem acc_step {x g a e f : Nat} {mn mx : Int} (hx : isNum x) (hg : isNum g) (hmn : Rep mn) (hmx : Rep mx) (hprod : mn * mx = fval x * (oneV : Int)) (x0 : 0 < fval x) (x1 : fval x ≤ 144115188075855872 * (oneV : Int))
    (m0 : (lowV : Int) ≤ mn) (m1 : mx ≤ 144115188075855872 * (oneV : Int)) (g0 : mn ≤ fval g) (g1 : fval g ≤ mx)
    (ha0 : 8388608 ≤ a) (ha : a < 16777216) (s0 : (a * 2 ^ e) * (a * 2 ^ e) ≤ (fval x).toNat * oneV) (s1 : (fval x).toNat * oneV < ((a + 1) * 2 ^ e) * ((a + 1) * 2 ^ e))
    (lo : a * 2 ^ e ≤ (fval g).toNat) (hi : (fval g).toNat + (a + 3) * 2 ^ e ≤ 2 * ((a + 3) * 2 ^ e) + 2 ^ f) (f0 : f ≤ e + 52) (f1 : e ≤ f + 7) :
    a * 2 ^ e ≤ (fval (newt x g)).toNat ∧ 2 * (fval (newt x g)).toNat ≤ 2 * ((a + 3) * 2 ^ e) + 2 ^ f := by
  obtain ⟨_, _, _, rn, _, r0, _, _, nq, _, ns, hs, q0⟩ := newt_step hx hg hmn hmx hprod x0 x1 m0 m1 g0 g1
  have hlb := lowV_big
  have eg : (((fval g).toNat : Nat) : Int) = fval g := by omega
  have eq : (((fval (newtQ x g)).toNat : Nat) : Int) = fval (newtQ x g) := by omega
  -- the quotient is at most R
  have qhi : (fval (newtQ x g)).toNat ≤ (a + 3) * 2 ^ e := by
    refine (nq (a + 3) e (by omega)).2.1 ?_
    refine Nat.le_trans (Nat.le_of_lt s1) (Nat.le_trans ?_ (Nat.mul_le_mul_left ((a + 3) * 2 ^ e) lo))
    have e1 : ∀ b c : Nat, (b * 2 ^ e) * (c * 2 ^ e) = b * c * (2 ^ e * 2 ^ e) := fun b c => Nat.mul_mul_mul_comm _ _ _ _
    rw [e1, e1]
    refine Nat.mul_le_mul_right _ ?_
    have : a ≤ a * a := Nat.le_mul_of_pos_left _ (by omega)
    simp only [Nat.add_mul, Nat.mul_add]
    omega
  have ra : Rep ((2 * (a * 2 ^ e) : Nat) : Int) := by
    have := rep_nat2 (q := 2 * a) (k := e) (by omega)
    rw [Nat.mul_assoc] at this; exact this
  have rg : Rep (((fval g).toNat : Nat) : Int) := by rw [eg]; exact rep_num hg
  have qlo : (fval g).toNat ≤ 2 * (a * 2 ^ e) → 2 * (a * 2 ^ e) - (fval g).toNat ≤ (fval (newtQ x g)).toNat := fun h2 => by
    obtain ⟨p, k, hp, he⟩ := rep_sub ra rg h2 (by omega)
    rw [Int.natAbs_natCast] at he
    rw [he]
    refine (nq p k hp).1 ?_
    rw [← he]
    have := mul_sides lo h2
    omega
  have sum : fval g + fval (newtQ x g) = (((fval g).toNat + (fval (newtQ x g)).toNat : Nat) : Int) := by omega
  rw [sum] at ns
  have slo := (ns _ ra).1
  have rb : Rep ((2 * ((a + 3) * 2 ^ e) + 2 ^ f : Nat) : Int) := by
    rcases Nat.lt_or_ge f e with h | h
    · obtain ⟨j, rfl⟩ : ∃ j, e = f + j := ⟨e - f, by omega⟩
      have hj : 2 ^ j ≤ 2 ^ 7 := Nat.pow_le_pow_right (by omega) (by omega)
      have e7 : (2 : Nat) ^ 7 = 128 := rfl
      have hm : (2 * (a + 3)) * 2 ^ j ≤ 33554438 * 128 := Nat.mul_le_mul (by omega) (by omega)
      have := rep_nat2 (q := 2 * (a + 3) * 2 ^ j + 1) (k := f) (by omega)
      rw [Nat.add_mul, Nat.one_mul, Nat.mul_assoc, Nat.mul_assoc, Nat.mul_comm (2 ^ j), ← Nat.pow_add] at this
      exact this
    · obtain ⟨j, rfl⟩ : ∃ j, f = e + j := ⟨f - e, by omega⟩
      have hj : 2 ^ j ≤ 2 ^ 52 := Nat.pow_le_pow_right (by omega) (by omega)
      have e52 : (2 : Nat) ^ 52 = 4503599627370496 := rfl
      have := rep_nat2 (q := 2 * (a + 3) + 2 ^ j) (k := e) (by omega)
      rw [Nat.add_mul, Nat.mul_assoc, Nat.mul_comm (2 ^ j), ← Nat.pow_add] at this
      exact this
  have shi := (ns _ rb).2
  clear ns nq ra rg rb s0 s1 hprod
  generalize (a + 3) * 2 ^ e = R at *
  generalize a * 2 ^ e = G at *
  generalize 2 ^ f = E at *
  have l1 : 2 * G ≤ (fval g).toNat + (fval (newtQ x g)).toNat := by
    rcases Nat.le_total (fval g).toNat (2 * G) with h | h
    · have := qlo h; omega
    · omega
  have := slo (by omega)
  have := shi (by omega)
  omega

/-- Sixty steps: the square of the root is near. -/
theorem root_acc {x g : Nat} (hx : inR x) (hb : begins x g) : isNum (newtN x g 60) ∧ 0 ≤ fval (newtN x g 60) ∧
    4194303 * ((fval x).toNat * oneV) ≤ 4194304 * ((fval (newtN x g 60)).toNat * (fval (newtN x g 60)).toNat) ∧ 1000000 * ((fval (newtN x g 60)).toNat * (fval (newtN x g 60)).toNat) ≤ 1000001 * ((fval x).toNat * oneV) := by
  have hE := fixE_eq
  obtain ⟨b0, b1⟩ := inR_bd hx
  have hlb := lowV_big
  have hol := oneV_low
  obtain ⟨mn, mx, hmn, hmx, hprod, m0, m1, mo, hg, g0, g1⟩ := begin_bounds hx hb
  have hin := newtN_in hx hmn hmx hprod m0 m1 hg g0 g1
  have hN : 2 ^ 46 ≤ (fval x).toNat * oneV := by
    have h1 : (2 : Nat) ^ 46 = 70368744177664 := rfl
    have : lowV * 1 ≤ (fval x).toNat * oneV := Nat.mul_le_mul (by omega) (by omega)
    omega
  obtain ⟨a, e, ha0, ha, s0, s1, l0, l1⟩ := root24 _ hN
  have hN0 : (fval x).toNat * oneV ≠ 0 := by omega
  -- the first number, and how far it is
  have hm : ∃ m, (fval g).toNat ≤ 2 ^ m ∧ m ≤ e + 52 ∧ e + 24 ≤ m ∧ a * 2 ^ e ≤ (fval g).toNat := by
    have hG : a * 2 ^ e * (a * 2 ^ e) ≤ (fval g).toNat * (fval g).toNat → a * 2 ^ e ≤ (fval g).toNat := fun h => by
      rcases Nat.lt_or_ge (fval g).toNat (a * 2 ^ e) with h2 | h2
      · have := Nat.mul_lt_mul_of_lt_of_lt h2 h2; omega
      · exact h2
    rcases hb with ⟨hl, hg2⟩ | ⟨hl, hg2⟩
    · -- less than one
      have hv : (fval g).toNat = oneV := by rw [hg2, one_val, Int.toNat_natCast]
      rw [hv] at hG ⊢
      have hlt : (fval x).toNat * oneV < 2 ^ (2 * fixE) := by
        rw [← pow_sq]
        exact Nat.mul_lt_mul_of_pos_right (show (fval x).toNat < oneV by omega) (Nat.two_pow_pos _)
      have hge : 2 ^ (2 * fixE - 41) ≤ (fval x).toNat * oneV := by
        have h2 : lowV * oneV ≤ (fval x).toNat * oneV := Nat.mul_le_mul_right _ (by omega)
        refine Nat.le_trans ?_ h2
        unfold lowV oneV
        rw [← Nat.pow_add]
        exact Nat.pow_le_pow_right (by omega) (by omega)
      have k1 := (Nat.log2_lt hN0).2 hlt
      have k2 := (Nat.le_log2 hN0).2 hge
      refine ⟨fixE, Nat.le_refl _, by omega, by omega, hG (Nat.le_trans s0 ?_)⟩
      exact Nat.mul_le_mul_right _ (by omega)
    · rw [hg2] at hG ⊢
      obtain ⟨j, hj⟩ : ∃ j, j = (fval x).toNat.log2 := ⟨_, rfl⟩
      have hx0 : (fval x).toNat ≠ 0 := by omega
      have c1 : 2 ^ j ≤ (fval x).toNat := by rw [hj]; exact Nat.log2_self_le hx0
      have c2 : (fval x).toNat < 2 ^ (j + 1) := by rw [hj]; exact Nat.lt_log2_self
      have j0 : fixE ≤ j := by
        rw [hj]
        refine (Nat.le_log2 hx0).2 ?_
        show oneV ≤ _
        omega
      have j1 : j < fixE + 57 := by
        rw [hj]
        refine (Nat.log2_lt hx0).2 ?_
        have h3 := hx.2.2
        rw [maxq_val] at h3
        have h57 : 2 ^ (fixE + 57) = 144115188075855872 * oneV := by
          rw [Nat.pow_add, Nat.mul_comm]; rfl
        rw [h57]
        omega
      have hlog : ((fval x).toNat * oneV).log2 = j + fixE := by
        refine (Nat.log2_eq_iff hN0).2 ⟨?_, ?_⟩
        · rw [Nat.pow_add]; exact Nat.mul_le_mul_right _ c1
        · rw [show j + fixE + 1 = (j + 1) + fixE by omega, Nat.pow_add]; exact Nat.mul_lt_mul_of_pos_right c2 (Nat.two_pow_pos _)
      rw [hlog] at l0 l1
      refine ⟨j + 1, Nat.le_of_lt c2, by omega, by omega, hG (Nat.le_trans s0 ?_)⟩
      exact Nat.mul_le_mul_left _ (by omega)
  obtain ⟨m, q1, q2, q3, q4⟩ := hm
  -- all the steps
  have all : ∀ k, k ≤ 60 → a * 2 ^ e ≤ (fval (newtN x g k)).toNat ∧ (fval (newtN x g k)).toNat ≤ (a + 3) * 2 ^ e + 2 ^ (max (m - k) (e - 8)) := fun k => by
    induction k with
    | zero =>
      intro _
      refine ⟨q4, ?_⟩
      show (fval g).toNat ≤ _
      rw [show max (m - 0) (e - 8) = m by omega]
      omega
    | succ k ih =>
      intro hk
      obtain ⟨i1, i2⟩ := ih (by omega)
      obtain ⟨n1, n2, n3⟩ := hin k
      obtain ⟨f, hf⟩ : ∃ f, f = max (m - (k + 1)) (e - 8) + 1 := ⟨_, rfl⟩
      have hle : 2 ^ (max (m - k) (e - 8)) ≤ 2 ^ f := Nat.pow_le_pow_right (by omega) (by omega)
      have hst := acc_step (x := x) (g := newtN x g k) (a := a) (e := e) (f := f) hx.1 n1 hmn hmx hprod (by omega) b1 m0 m1 n2 n3 ha0 ha s0 s1 i1 (by omega) (by omega) (by omega)
      refine ⟨hst.1, ?_⟩
      have h2 := hst.2
      have ef : 2 ^ f = 2 * 2 ^ (max (m - (k + 1)) (e - 8)) := by rw [hf, Nat.pow_succ, Nat.mul_comm]
      rw [ef] at h2
      show (fval (newt x (newtN x g k))).toNat ≤ _
      omega
  obtain ⟨r0, r1⟩ := all 60 (by omega)
  rw [show max (m - 60) (e - 8) = e - 8 by omega] at r1
  obtain ⟨n1, n2, _⟩ := hin 60
  have hp8 : 2 ^ (e - 8) ≤ 2 ^ e := Nat.pow_le_pow_right (by omega) (by omega)
  have r2 : (fval (newtN x g 60)).toNat ≤ (a + 4) * 2 ^ e := by
    rw [Nat.add_mul] at r1 ⊢
    omega
  refine ⟨n1, by omega, ?_, ?_⟩
  · have t1 := Nat.mul_le_mul r0 r0
    have e1 : ∀ b : Nat, (b * 2 ^ e) * (b * 2 ^ e) = b * b * (2 ^ e * 2 ^ e) := fun b => Nat.mul_mul_mul_comm _ _ _ _
    rw [e1] at s1 t1
    have key : 4194303 * ((a + 1) * (a + 1)) ≤ 4194304 * (a * a) := by
      have : 8388608 * (a + 1) ≤ (a + 1) * (a + 1) := Nat.mul_le_mul_right _ (by omega)
      have h2 : (a + 1) * (a + 1) = a * a + 2 * a + 1 := by simp only [Nat.add_mul, Nat.mul_add]; omega
      generalize (a + 1) * (a + 1) = u at *
      generalize a * a = v at *
      omega
    have k2 := Nat.mul_le_mul_right (2 ^ e * 2 ^ e) key
    rw [Nat.mul_assoc 4194303, Nat.mul_assoc 4194304] at k2
    generalize (a + 1) * (a + 1) * (2 ^ e * 2 ^ e) = u at *
    generalize a * a * (2 ^ e * 2 ^ e) = v at *
    omega
  · have t1 := Nat.mul_le_mul r2 r2
    have e1 : ∀ b : Nat, (b * 2 ^ e) * (b * 2 ^ e) = b * b * (2 ^ e * 2 ^ e) := fun b => Nat.mul_mul_mul_comm _ _ _ _
    rw [e1] at s0 t1
    have key : 1000000 * ((a + 4) * (a + 4)) ≤ 1000001 * (a * a) := by
      have : 8388608 * a ≤ a * a := Nat.mul_le_mul_right _ ha0
      have h2 : (a + 4) * (a + 4) = a * a + 8 * a + 16 := by simp only [Nat.add_mul, Nat.mul_add]; omega
      generalize (a + 4) * (a + 4) = u at *
      generalize a * a = v at *
      omega
    have k2 := Nat.mul_le_mul_right (2 ^ e * 2 ^ e) key
    rw [Nat.mul_assoc 1000000, Nat.mul_assoc 1000001] at k2
    generalize (a + 4) * (a + 4) * (2 ^ e * 2 ^ e) = u at *
    generalize a * a * (2 ^ e * 2 ^ e) = v at *
    omega
end Go.Proofs.YtonoknbangnleaaGreat

/- Plain facts on float64 words: the rounded value as a formula; that twice a number rounds to twice as much. Nothing here speaks of the program. -/
namespace Go.Proofs.YtonoknbangnleaaGreat
open Go.RowKit Ieee

theorem cut_eq (neg : Bool) (n d : Nat) : Toward.even.cut neg n d = n / 2 ^ d + (decide (2 ^ d < 2 * (n % 2 ^ d)) || 2 ^ d == 2 * (n % 2 ^ d) && n / 2 ^ d % 2 == 1).toNat := by
  unfold Toward.cut
  simp only [Nat.shiftLeft_eq, Nat.one_mul]
  rcases Nat.le_total d (n.log2 + 2) with h | h
  · rw [Nat.min_eq_left h]
  · rw [Nat.min_eq_right h]
    have h1 : n < 2 ^ (n.log2 + 1) := Nat.lt_log2_self
    have e1 : 2 ^ (n.log2 + 2) = 2 * 2 ^ (n.log2 + 1) := by rw [show n.log2 + 2 = (n.log2 + 1) + 1 by omega, Nat.pow_succ, Nat.mul_comm]
    have h3 : 2 ^ (n.log2 + 2) ≤ 2 ^ d := Nat.pow_le_pow_right (by omega) h
    rw [Nat.div_eq_of_lt (show n < 2 ^ (n.log2 + 2) by omega), Nat.mod_eq_of_lt (show n < 2 ^ (n.log2 + 2) by omega), Nat.div_eq_of_lt (show n < 2 ^ d by omega), Nat.mod_eq_of_lt (show n < 2 ^ d by omega)]
    generalize 2 ^ (n.log2 + 2) = g at *
    generalize 2 ^ d = g2 at *
    have a1 : (decide (g < 2 * n) || g == 2 * n && 0 % 2 == 1) = false := by simp; omega
    have a2 : (decide (g2 < 2 * n) || g2 == 2 * n && 0 % 2 == 1) = false := by simp; omega
    rw [a1, a2]
theorem cut_sign (neg : Bool) (n d : Nat) : Toward.even.cut neg n d = Toward.even.cut false n d := by rw [cut_eq, cut_eq]
theorem cut_scale (neg : Bool) (n d c : Nat) : Toward.even.cut neg (n * 2 ^ c) (d + c) = Toward.even.cut neg n d := by
  rw [cut_eq, cut_eq]
  have hp : 0 < 2 ^ c := Nat.two_pow_pos _
  have e1 : n * 2 ^ c / 2 ^ (d + c) = n / 2 ^ d := by rw [Nat.pow_add, Nat.mul_div_mul_right _ _ hp]
  have e2 : n * 2 ^ c % 2 ^ (d + c) = n % 2 ^ d * 2 ^ c := by rw [Nat.pow_add, Nat.mul_mod_mul_right]
  rw [e1, e2, Nat.pow_add, ← Nat.mul_assoc]
  generalize n % 2 ^ d = m
  generalize 2 ^ d = g
  have f1 : decide (g * 2 ^ c < 2 * m * 2 ^ c) = decide (g < 2 * m) := by
    rw [decide_eq_decide]; exact Nat.mul_lt_mul_right hp
  have f2 : (g * 2 ^ c == 2 * m * 2 ^ c) = (g == 2 * m) := by
    rw [Bool.eq_iff_iff]; simp only [beq_iff_eq]
    exact ⟨fun h => Nat.eq_of_mul_eq_mul_right hp h, fun h => by rw [h]⟩
  rw [f1, f2]

/-- The value to which A / 2^V is rounded. -/
def rE (A V : Nat) : Nat := Toward.even.cut false A (A.log2 - (V + 52) + V) * 2 ^ (A.log2 - (V + 52))

set_option maxHeartbeats 1000000 in
theorem round_val (neg : Bool) (mag : Nat) (place : Int) (V P : Nat) (hP : place + 1074 + (V : Int) = (P : Int)) (h0 : mag ≠ 0) (hb : mag * 2 ^ P < 2 ^ (1900 + V)) : (fval (f64.nearest neg mag place)).natAbs = rE (mag * 2 ^ P) V := by
  obtain ⟨last, hlast⟩ : ∃ last : Int, last = max (place + mag.log2 - 52) (-1074) := ⟨_, rfl⟩
  have e : f64.nearest neg mag place = f64.word neg (min ((last - -1074).toNat * 4503599627370496 + Toward.even.cut neg (mag <<< (place - last).toNat) (last - place).toNat) 9218868437227405312) := by
    unfold Format.nearest
    rw [if_neg h0]
    simp only [lp64, bin64, inf64]
    rw [hlast]; rfl
  have hlow : 2 ^ mag.log2 ≤ mag := Nat.log2_self_le h0
  have hhigh : mag < 2 ^ (mag.log2 + 1) := Nat.lt_log2_self
  have hlog : (mag * 2 ^ P).log2 = mag.log2 + P := by
    refine (Nat.log2_eq_iff (Nat.mul_ne_zero h0 (Nat.pos_iff_ne_zero.1 (Nat.two_pow_pos _)))).2 ⟨?_, ?_⟩
    · rw [Nat.pow_add]; exact Nat.mul_le_mul_right _ hlow
    · rw [show mag.log2 + P + 1 = (mag.log2 + 1) + P by omega, Nat.pow_add]; exact Nat.mul_lt_mul_of_pos_right hhigh (Nat.two_pow_pos _)
  have hlK : mag.log2 + P < 1900 + V := by
    have h1 : 2 ^ mag.log2 * 2 ^ P ≤ mag * 2 ^ P := Nat.mul_le_mul_right _ hlow
    rw [← Nat.pow_add] at h1
    exact (Nat.pow_lt_pow_iff_right (by omega : 1 < 2)).1 (Nat.lt_of_le_of_lt h1 hb)
  clear hb
  obtain ⟨L, hL⟩ : ∃ L, L = mag.log2 + P - (V + 52) := ⟨_, rfl⟩
  have hLl : (last + 1074).toNat = L := by omega
  obtain ⟨a, ha⟩ : ∃ a, a = (place - last).toNat := ⟨_, rfl⟩
  obtain ⟨b, hb'⟩ : ∃ b, b = (last - place).toNat := ⟨_, rfl⟩
  have hcut : Toward.even.cut neg (mag <<< (place - last).toNat) (last - place).toNat = Toward.even.cut false (mag * 2 ^ P) (L + V) := by
    rw [← ha, ← hb', Nat.shiftLeft_eq, cut_sign]
    have e1 : mag * 2 ^ P = mag * 2 ^ a * 2 ^ (P - a) := by rw [Nat.mul_assoc, ← Nat.pow_add, show a + (P - a) = P by omega]
    have e2 : L + V = b + (P - a) := by omega
    rw [e1, e2, cut_scale]
  rw [hcut] at e
  obtain ⟨kept, hkept⟩ : ∃ kept, kept = Toward.even.cut false (mag * 2 ^ P) (L + V) := ⟨_, rfl⟩
  rw [← hkept] at e
  have hsides := fun G => cut_sides false (mag * 2 ^ P) (L + V) G
  rw [← hkept] at hsides
  have hup : mag * 2 ^ P ≤ 9007199254740992 * 2 ^ (L + V) := by
    rw [show (9007199254740992 : Nat) = 2 ^ 53 from rfl]
    have h1 : mag * 2 ^ P < 2 ^ (mag.log2 + 1) * 2 ^ P := Nat.mul_lt_mul_of_pos_right hhigh (Nat.two_pow_pos _)
    refine Nat.le_of_lt (Nat.lt_of_lt_of_le h1 ?_)
    rw [← Nat.pow_add, ← Nat.pow_add]
    exact Nat.pow_le_pow_right (by omega) (by omega)
  have hdn : last ≠ -1074 → 4503599627370496 * 2 ^ (L + V) ≤ mag * 2 ^ P := fun hne => by
    rw [show (4503599627370496 : Nat) = 2 ^ 52 from rfl]
    refine Nat.le_trans ?_ (Nat.mul_le_mul_right _ hlow)
    rw [← Nat.pow_add, ← Nat.pow_add]
    exact Nat.pow_le_pow_right (by omega) (by omega)
  have hk1 := (hsides _).1 hup
  have hk0 := fun h => (hsides _).2.1 (hdn h)
  have hlu : last ≤ 900 := by clear hup hlow hhigh hk1 hk0 hdn hsides; omega
  have hll : -1074 ≤ last := by clear hup hlow hhigh hk1 hk0 hdn hsides; omega
  obtain ⟨p, l, r, hv⟩ := kept_word neg kept last hll hlu hk1 hk0
  have hfv : fval (f64.nearest neg mag place) = signed neg p (l + 1074).toNat := by
    rw [e]; unfold fval; rw [r]; rfl
  rw [hfv, (val_amount neg p _).1, hv, hLl]
  unfold rE
  rw [hlog, ← hL, hkept]

theorem log2_two {A : Nat} (h : A ≠ 0) : (2 * A).log2 = A.log2 + 1 := by
  refine (Nat.log2_eq_iff (by omega)).2 ⟨?_, ?_⟩
  · rw [Nat.pow_succ, Nat.mul_comm]; exact Nat.mul_le_mul_left 2 (Nat.log2_self_le h)
  · have : A < 2 ^ (A.log2 + 1) := Nat.lt_log2_self
    rw [Nat.pow_succ, Nat.mul_comm (2 ^ (A.log2 + 1))]; omega
theorem rE_double {A V : Nat} (h : 2 ^ (52 + V) ≤ A) : rE (2 * A) V = 2 * rE A V := by
  have h0 : A ≠ 0 := by have := Nat.two_pow_pos (52 + V); omega
  have hl : 52 + V ≤ A.log2 := (Nat.le_log2 h0).2 h
  unfold rE
  rw [log2_two h0]
  obtain ⟨L, hL⟩ : ∃ L, A.log2 = L + (V + 52) := ⟨A.log2 - (V + 52), by omega⟩
  rw [hL, show L + (V + 52) + 1 - (V + 52) = L + 1 by omega, show L + (V + 52) - (V + 52) = L by omega, show L + 1 + V = L + V + 1 by omega]
  have e := cut_scale false A (L + V) 1
  rw [Nat.pow_one, Nat.mul_comm A 2] at e
  rw [e, Nat.pow_succ, Nat.mul_comm (2 ^ L) 2, ← Nat.mul_assoc, Nat.mul_comm _ 2, Nat.mul_assoc]
theorem rE_small {A : Nat} (h : A < 2 ^ 53) : rE A 0 = A := by
  by_cases h0 : A = 0
  · subst h0; unfold rE; rw [cut_eq]; simp
  · have hl : A.log2 < 53 := (Nat.log2_lt h0).2 h
    unfold rE
    rw [show A.log2 - (0 + 52) = 0 by omega, Nat.pow_zero, Nat.mul_one]
    have := cut_exact false A 0
    rw [Nat.pow_zero, Nat.mul_one] at this
    exact this
/-- Sums: twice as much, always. -/
theorem rE_twice (A : Nat) : rE (2 * A) 0 = 2 * rE A 0 := by
  rcases Nat.lt_or_ge A (2 ^ 52) with h | h
  · have e : (2 : Nat) ^ 53 = 2 * 2 ^ 52 := rfl
    rw [rE_small (by omega), rE_small (by omega)]
  · exact rE_double (V := 0) h
/-- A great number and a trifle: the great one. -/
theorem rE_trifle {A q : Nat} (hq : Rep (q : Int)) (hb : 1298074214633706907132624082305024 ≤ q) (h1 : A ≤ q + 9007199254740992) (h2 : q ≤ A + 9007199254740992) : rE A 0 = q := by
  obtain ⟨q0, k, a, b, e⟩ := rep_norm hq (by omega)
  have hk : 58 ≤ k := by
    rcases Nat.lt_or_ge k 58 with h | h
    · exfalso
      have h3 : 2 ^ k ≤ 2 ^ 57 := Nat.pow_le_pow_right (by omega) (by omega)
      have h4 : q0 * 2 ^ k ≤ 9007199254740991 * 2 ^ 57 := Nat.mul_le_mul (by omega) h3
      rw [← e] at h4
      have e57 : (2 : Nat) ^ 57 = 144115188075855872 := rfl
      omega
    · exact h
  obtain ⟨j, hj⟩ : ∃ j, k = j + 1 := ⟨k - 1, by omega⟩
  have hz : 288230376151711744 ≤ 2 ^ k := by
    rw [show (288230376151711744 : Nat) = 2 ^ 58 from rfl]
    exact Nat.pow_le_pow_right (by omega) hk
  have hA0 : A ≠ 0 := by omega
  have h3 : 4503599627370496 * 2 ^ k ≤ q := by rw [e]; exact Nat.mul_le_mul_right _ a
  have h5 : q ≤ 9007199254740991 * 2 ^ k := by rw [e]; exact Nat.mul_le_mul_right _ (by omega)
  have h4 : 2 ^ (52 + j) * 2 = 4503599627370496 * 2 ^ k := by
    rw [← Nat.pow_succ, show (4503599627370496 : Nat) = 2 ^ 52 from rfl, ← Nat.pow_add, hj]
    exact congrArg (fun z => 2 ^ z) (by omega)
  have h6 : 2 ^ (52 + k + 1) = 9007199254740992 * 2 ^ k := by
    rw [show (9007199254740992 : Nat) = 2 ^ 53 from rfl, ← Nat.pow_add]
    exact congrArg (fun z => 2 ^ z) (by omega)
  -- the last place that is kept
  have hlo : 52 + j ≤ A.log2 := by
    refine (Nat.le_log2 hA0).2 ?_
    clear h6 hj e
    generalize 2 ^ (52 + j) = y at *
    generalize 2 ^ k = z at *
    omega
  have hhi : A.log2 ≤ 52 + k := by
    have : A.log2 < 52 + k + 1 := by
      refine (Nat.log2_lt hA0).2 ?_
      rw [h6]
      clear h4 h6 hj e hlo
      generalize 2 ^ k = z at *
      omega
    omega
  clear h4 h6
  unfold rE
  obtain ⟨L, hL⟩ : ∃ L, A.log2 - (0 + 52) = L := ⟨_, rfl⟩
  rw [hL, Nat.add_zero]
  obtain ⟨c1, c2, _, _⟩ := cut_near false A L
  generalize Toward.even.cut false A L = kept at *
  have hL57 : 57 ≤ L := by clear h3 h5 hz c1 c2 e; omega
  have hLk : L ≤ k := by clear h3 h5 hz c1 c2 e; omega
  obtain ⟨M, hM⟩ : ∃ M, q = M * 2 ^ L := ⟨q0 * 2 ^ (k - L), by rw [Nat.mul_assoc, ← Nat.pow_add, show k - L + L = k by clear h3 h5 hz c1 c2 e; omega]; exact e⟩
  have hg : 144115188075855872 ≤ 2 ^ L := by
    rw [show (144115188075855872 : Nat) = 2 ^ 57 from rfl]
    exact Nat.pow_le_pow_right (by omega) (by omega)
  rw [hM] at h1 h2
  rw [hM]
  clear hM e hlo hhi hq hb h3 h5 hz
  generalize 2 ^ L = g at *
  rcases Nat.lt_trichotomy kept M with h | h | h
  · exfalso
    have := Nat.mul_le_mul_right g (show kept + 1 ≤ M by omega)
    rw [Nat.add_mul, Nat.one_mul] at this
    generalize kept * g = x at *
    generalize M * g = y at *
    omega
  · rw [h]
  · exfalso
    have := Nat.mul_le_mul_right g (show M + 1 ≤ kept by omega)
    rw [Nat.add_mul, Nat.one_mul] at this
    generalize kept * g = x at *
    generalize M * g = y at *
    omega

/-- The amounts of a product and of a sum. -/
theorem mul_val {x y r : Nat} (hx : isNum x) (hy : isNum y) (hb : (fval x * fval y).natAbs < 2 ^ (fixB + fixE)) (hn : fval x * fval y ≠ 0) (h : f64.mul x y = some r) : (fval r).natAbs = rE (fval x * fval y).natAbs fixE := by
  have hE := fixE_eq
  obtain ⟨s, m, i, ex, hi, _⟩ := hx
  obtain ⟨t, n, j, ey, hj, _⟩ := hy
  have hr : f64.mul x y = some (f64.nearest (s ^^ t) (m * n) (i + j)) := by unfold Format.mul; rw [ex, ey]; rfl
  rw [h] at hr
  injection hr with hr
  obtain ⟨u, hu⟩ : ∃ u : Nat, u = (i + 1074).toNat := ⟨_, rfl⟩
  obtain ⟨v, hv'⟩ : ∃ v : Nat, v = (j + 1074).toNat := ⟨_, rfl⟩
  have hprod : fval x * fval y = if s ^^ t then -((m * n * 2 ^ (u + v) : Nat) : Int) else ((m * n * 2 ^ (u + v) : Nat) : Int) := by
    unfold fval; rw [ex, ey]
    show signed s m (i + 1074).toNat * signed t n (j + 1074).toNat = _
    rw [← hu, ← hv']; exact signed_mul s t m n u v
  have habs : (fval x * fval y).natAbs = m * n * 2 ^ (u + v) := by
    rw [hprod]; split
    · rw [Int.natAbs_neg]; rfl
    · rfl
  have h0 : m * n ≠ 0 := fun e => by
    rw [e, Nat.zero_mul] at habs
    exact hn (Int.natAbs_eq_zero.1 habs)
  rw [hr, habs]
  exact round_val (s ^^ t) (m * n) (i + j) fixE (u + v) (by omega) h0 (by rw [← habs, ← fixB_eq]; exact hb)
theorem add_val {x y r : Nat} (hx : isNum x) (hy : isNum y) (hb : (fval x + fval y).natAbs < 2 ^ fixB) (hn : fval x + fval y ≠ 0) (h : f64.add x y = some r) : (fval r).natAbs = rE (fval x + fval y).natAbs 0 := by
  obtain ⟨s, m, i, ex, hi, _⟩ := hx
  obtain ⟨t, n, j, ey, hj, _⟩ := hy
  obtain ⟨T, hT⟩ : ∃ T, T = signed s m (i - min i j).toNat + signed t n (j - min i j).toNat := ⟨_, rfl⟩
  obtain ⟨neg, hneg⟩ : ∃ neg : Bool, neg = (if T = 0 then s && t else decide (T < 0)) := ⟨_, rfl⟩
  have hr : f64.add x y = some (f64.nearest neg T.natAbs (min i j)) := by
    unfold Format.add; rw [ex, ey]
    show some (f64.write (.number (if signed s m (i - min i j).toNat + signed t n (j - min i j).toNat = 0 then s && t else decide (signed s m (i - min i j).toNat + signed t n (j - min i j).toNat < 0)) (signed s m (i - min i j).toNat + signed t n (j - min i j).toNat).natAbs (min i j))) = _
    rw [← hT, ← hneg]; rfl
  rw [h] at hr
  injection hr with hr
  obtain ⟨P, hP⟩ : ∃ P : Nat, P = (min i j + 1074).toNat := ⟨_, rfl⟩
  have hsum : fval x + fval y = T * ((2 ^ P : Nat) : Int) := by
    unfold fval; rw [ex, ey]
    show signed s m (i + 1074).toNat + signed t n (j + 1074).toNat = _
    rw [show (i + 1074).toNat = (i - min i j).toNat + P by omega, show (j + 1074).toNat = (j - min i j).toNat + P by omega, signed_shift, signed_shift, ← Int.add_mul, hT]
  have habs : (fval x + fval y).natAbs = T.natAbs * 2 ^ P := by rw [hsum, Int.natAbs_mul]; rfl
  have h0 : T.natAbs ≠ 0 := fun e => by
    rw [e, Nat.zero_mul] at habs
    exact hn (Int.natAbs_eq_zero.1 habs)
  rw [hr, habs]
  exact round_val neg T.natAbs (min i j) 0 P (by omega) h0 (by rw [← habs, Nat.add_zero, ← fixB_eq]; exact hb)
/-- What is rounded keeps its side. -/
theorem Rounds.side {v N : Int} {D : Nat} (h : Rounds v N D) : (0 ≤ N → 0 ≤ v ∨ N = 0) ∧ (N ≤ 0 → v ≤ 0 ∨ N = 0) := by
  obtain ⟨s, R, A, rfl, rfl, _⟩ := h
  cases s <;> simp <;> omega
end Go.Proofs.YtonoknbangnleaaGreat

/- Roots: one step of Newton's on float64 words, and sixty of them. Nothing here speaks of the program. -/
import Derived.Test.YtibkhmdnfloemaaFA
namespace Go.Proofs.Ytibkhmdnfloemaa
open Go.RowKit Ieee

noncomputable def lowV : Nat := 2 ^ (fixE - 41)
theorem oneV_low : oneV = 2199023255552 * lowV := by
  have hE := fixE_eq
  unfold oneV lowV
  rw [show (2199023255552 : Nat) = 2 ^ 41 from rfl, ← Nat.pow_add, show 41 + (fixE - 41) = fixE by omega]
theorem lowV_big : 18014398509481984 ≤ lowV := by
  have hE := fixE_eq
  unfold lowV
  rw [show (18014398509481984 : Nat) = 2 ^ 54 from rfl]
  exact Nat.pow_le_pow_right (by omega) (by omega)
theorem lowV_floor : 2 ^ (fixE - 200) ≤ lowV := by
  unfold lowV; exact Nat.pow_le_pow_right (by omega) (by omega)
theorem oneV_roof : 1152921504606846976 * oneV < 2 ^ (fixE + 200) := by
  unfold oneV
  rw [Nat.pow_add, Nat.mul_comm]
  exact Nat.mul_lt_mul_of_pos_left (by rw [show (1152921504606846976 : Nat) = 2 ^ 60 from rfl]; exact Nat.pow_lt_pow_right (by omega) (by omega)) (Nat.two_pow_pos _)
theorem oneV_bound : 1152921504606846976 * oneV < 2 ^ fixB := by
  refine Nat.lt_trans oneV_roof ?_
  have h1 := fixE_eq
  have h2 := fixB_eq
  exact Nat.pow_lt_pow_right (by omega) (by omega)

theorem one_num : f64.read 4607182418800017408 = .number false 4503599627370496 (-52) := by kernel_rfl
theorem two_num : f64.read 4611686018427387904 = .number false 4503599627370496 (-51) := by kernel_rfl
theorem minq_num : f64.read 4427486594234968593 = .number false 4951760157141521 (-92) := by kernel_rfl
theorem maxq_num : f64.read 4861130398305394688 = .number false 6250000000000000 4 := by kernel_rfl
theorem one_val : fval 4607182418800017408 = (oneV : Int) := by
  have hf := fixE_eq
  unfold fval; rw [one_num]; show signed false 4503599627370496 (-52 + 1074 : Int).toNat = _
  rw [show (-52 + 1074 : Int).toNat = fixE - 52 by omega, signed_eq]
  exact congrArg (fun n : Nat => (n : Int)) (pow_exp 52 (fixE - 52) (by omega))
theorem two_val : fval 4611686018427387904 = 2 * (oneV : Int) := by
  have hf := fixE_eq
  unfold fval; rw [two_num]; show signed false 4503599627370496 (-51 + 1074 : Int).toNat = _
  rw [show (-51 + 1074 : Int).toNat = (fixE - 52) + 1 by omega, signed_shift, signed_eq]
  show ((4503599627370496 * 2 ^ (fixE - 52) : Nat) : Int) * ((2 : Nat) : Int) = _
  rw [show 4503599627370496 * 2 ^ (fixE - 52) = oneV from pow_exp 52 (fixE - 52) (by omega), Int.mul_comm]; rfl
theorem minq_val : (lowV : Int) ≤ fval 4427486594234968593 := by
  have hf := fixE_eq
  unfold fval; rw [minq_num]; show _ ≤ signed false 4951760157141521 (-92 + 1074 : Int).toNat
  rw [show (-92 + 1074 : Int).toNat = fixE - 92 by omega, signed_eq]
  show (lowV : Int) ≤ ((4951760157141521 * 2 ^ (fixE - 92) : Nat) : Int)
  have h : lowV ≤ 4951760157141521 * 2 ^ (fixE - 92) := by
    unfold lowV
    rw [show fixE - 41 = 51 + (fixE - 92) by omega, Nat.pow_add]
    exact Nat.mul_le_mul_right _ (by omega)
  omega
theorem maxq_val : fval 4861130398305394688 = 100000000000000000 * (oneV : Int) := by
  have hf := fixE_eq
  unfold fval; rw [maxq_num]; show signed false 6250000000000000 (4 + 1074 : Int).toNat = _
  rw [show (4 + 1074 : Int).toNat = fixE + 4 by omega, signed_shift, signed_eq]
  show ((6250000000000000 * 2 ^ fixE : Nat) : Int) * ((16 : Nat) : Int) = 100000000000000000 * ((2 ^ fixE : Nat) : Int)
  generalize 2 ^ fixE = z
  omega

/-- A quotient of positive numbers. -/
theorem pos_div {x y : Nat} (hx : isNum x) (hy : isNum y) (x0 : 0 < fval x) (x1 : fval x ≤ 1152921504606846976 * (oneV : Int)) (y0 : (lowV : Int) ≤ fval y) :
    ∃ r, f64.div x y = some r ∧ isNum r ∧ r < 18446744073709551616 ∧ 0 ≤ fval r ∧ NearI (fval r) (fval x * (oneV : Int)) (fval y).toNat ∧ Near (fval r).toNat ((fval x).toNat * oneV) (fval y).toNat := by
  have hlb := lowV_big
  have hroof := oneV_roof
  have hfloor := lowV_floor
  obtain ⟨r, h1, h2, h3, s, t, R, hv, sx, sy, hn⟩ := div_op hx hy (by omega) (by omega)
  have hs : s = false := by cases s with
    | false => rfl
    | true => rw [if_pos rfl] at sx; omega
  have ht : t = false := by cases t with
    | false => rfl
    | true => rw [if_pos rfl] at sy; omega
  subst hs; subst ht
  have hv' : fval r = (R : Int) := hv
  have ex : (fval x).natAbs = (fval x).toNat := by omega
  have ey : (fval y).natAbs = (fval y).toNat := by omega
  rw [ex, ey] at hn
  refine ⟨r, h1, h2, h3, by omega, ?_, by rw [hv']; exact hn⟩
  have := near_int_pos hn (by omega)
  rw [Int.natCast_mul, show (((fval x).toNat : Nat) : Int) = fval x by omega, ← hv'] at this
  exact this

/-- One step of Newton's for the root of x. -/
def newtQ (x g : Nat) : Nat := (f64.div x g).getD 0
def newtS (x g : Nat) : Nat := (f64.add g (newtQ x g)).getD 0
def newt (x g : Nat) : Nat := (f64.div (newtS x g) 4611686018427387904).getD 0
def newtN (x g : Nat) : Nat → Nat
  | 0 => g
  | k + 1 => newt x (newtN x g k)

/-- The half of a number that is no tiny one. -/
theorem half_op {s : Nat} (hs : isNum s) (s0 : 18014398509481984 ≤ fval s) (s1 : fval s ≤ 1152921504606846976 * (oneV : Int)) :
    ∃ r, f64.div s 4611686018427387904 = some r ∧ isNum r ∧ r < 18446744073709551616 ∧ fval s = 2 * fval r := by
  have hol := oneV_low
  have hlb := lowV_big
  obtain ⟨r, h1, h2, h3, r0, hnear, _⟩ := pos_div hs (isNum_of two_num) (by omega) s1 (by rw [two_val]; omega)
  obtain ⟨z, hz, hrep⟩ := rep_half (rep_num hs) (by omega)
  refine ⟨r, h1, h2, h3, ?_⟩
  rw [two_val] at hnear
  have e : fval s * (oneV : Int) = z * (((2 * (oneV : Int)).toNat : Nat) : Int) := by
    rw [hz, show (((2 * (oneV : Int)).toNat : Nat) : Int) = 2 * (oneV : Int) by omega, Int.mul_comm 2 z, Int.mul_assoc]
  rw [e] at hnear
  rw [hnear.exact hrep, hz]

/-- A step between two bounds whose product is that of the root with itself. -/
theorem newt_step {x g : Nat} {mn mx : Int} (hx : isNum x) (hg : isNum g) (hmn : Rep mn) (hmx : Rep mx) (hprod : mn * mx = fval x * (oneV : Int)) (x0 : 0 < fval x) (x1 : fval x ≤ 144115188075855872 * (oneV : Int))
    (m0 : (lowV : Int) ≤ mn) (m1 : mx ≤ 144115188075855872 * (oneV : Int)) (g0 : mn ≤ fval g) (g1 : fval g ≤ mx) :
    f64.div x g = some (newtQ x g) ∧ f64.add g (newtQ x g) = some (newtS x g) ∧ f64.div (newtS x g) 4611686018427387904 = some (newt x g) ∧ isNum (newt x g) ∧ newt x g < 18446744073709551616 ∧ mn ≤ fval (newt x g) ∧ fval (newt x g) ≤ mx ∧
      NearI (fval (newtQ x g)) (fval x * (oneV : Int)) (fval g).toNat ∧ Near (fval (newtQ x g)).toNat ((fval x).toNat * oneV) (fval g).toNat ∧ NearI (fval g + fval (newtQ x g)) (fval g + fval (newtQ x g)) 1 ∧ NearI (fval (newtS x g)) (fval g + fval (newtQ x g)) 1 ∧ fval (newtS x g) = 2 * fval (newt x g) ∧ 0 ≤ fval (newtQ x g) := by
  have hlb := lowV_big
  have hbound := oneV_bound
  obtain ⟨q, hq, qn, _, q0, nq, nq2⟩ := pos_div hx hg x0 (by omega) (by omega)
  have eq : newtQ x g = q := by unfold newtQ; rw [hq]; rfl
  have eD : (((fval g).toNat : Nat) : Int) = fval g := by omega
  have lo : mn ≤ fval q := by
    refine (nq mn hmn).1 ?_
    rw [eD, ← hprod]
    exact Int.mul_le_mul_of_nonneg_left g1 (by omega)
  have hi : fval q ≤ mx := by
    refine (nq mx hmx).2 ?_
    rw [eD, ← hprod, Int.mul_comm mn mx]
    exact Int.mul_le_mul_of_nonneg_left g0 (by omega)
  obtain ⟨s, hs, sn, _, sr⟩ := add_op hg qn (by omega)
  have ns := sr.near (by omega)
  have es : newtS x g = s := by unfold newtS; rw [eq, hs]; rfl
  have slo : 2 * mn ≤ fval s := (ns (2 * mn) (rep_two hmn)).1 (by omega)
  have shi : fval s ≤ 2 * mx := (ns (2 * mx) (rep_two hmx)).2 (by omega)
  obtain ⟨r, hr, rn, rl, hv⟩ := half_op sn (by omega) (by omega)
  have er : newt x g = r := by unfold newt; rw [es, hr]; rfl
  rw [er, es, eq]
  exact ⟨hq, hs, hr, rn, rl, by omega, by omega, nq, nq2, fun g _ => ⟨fun h => by omega, fun h => by omega⟩, ns, hv, q0⟩

/-- What has a root: a number from MinSquare to MaxSquare. -/
def inR (x : Nat) : Prop := isNum x ∧ fval 4427486594234968593 ≤ fval x ∧ fval x ≤ fval 4861130398305394688
/-- With which number its steps begin. -/
def begins (x g : Nat) : Prop := (fval x < (oneV : Int) ∧ g = 4607182418800017408) ∨ ((oneV : Int) ≤ fval x ∧ g = x)
theorem inR_bd {x : Nat} (h : inR x) : (lowV : Int) ≤ fval x ∧ fval x ≤ 144115188075855872 * (oneV : Int) := by
  obtain ⟨_, h1, h2⟩ := h
  have := minq_val
  have := maxq_val
  have : 0 ≤ (oneV : Int) := Int.natCast_nonneg _
  omega
/-- The bounds between which all steps lie. -/
theorem begin_bounds {x g : Nat} (hx : inR x) (hb : begins x g) : ∃ mn mx : Int, Rep mn ∧ Rep mx ∧ mn * mx = fval x * (oneV : Int) ∧ (lowV : Int) ≤ mn ∧ mx ≤ 144115188075855872 * (oneV : Int) ∧ mn ≤ (oneV : Int) ∧ isNum g ∧ mn ≤ fval g ∧ fval g ≤ mx := by
  obtain ⟨b0, b1⟩ := inR_bd hx
  have hol := oneV_low
  have hlb := lowV_big
  have r1 : Rep (oneV : Int) := by rw [← one_val]; exact rep_num (isNum_of one_num)
  rcases hb with ⟨h, rfl⟩ | ⟨h, rfl⟩
  · exact ⟨fval x, oneV, rep_num hx.1, r1, rfl, b0, by omega, by omega, isNum_of one_num, by rw [one_val]; omega, by rw [one_val]; omega⟩
  · exact ⟨oneV, fval g, r1, rep_num hx.1, Int.mul_comm _ _, by omega, b1, by omega, hx.1, h, Int.le_refl _⟩
theorem newtN_in {x g : Nat} {mn mx : Int} (hx : inR x) (hmn : Rep mn) (hmx : Rep mx) (hprod : mn * mx = fval x * (oneV : Int)) (m0 : (lowV : Int) ≤ mn) (m1 : mx ≤ 144115188075855872 * (oneV : Int)) (hg : isNum g) (g0 : mn ≤ fval g) (g1 : fval g ≤ mx) (k : Nat) :
    isNum (newtN x g k) ∧ mn ≤ fval (newtN x g k) ∧ fval (newtN x g k) ≤ mx := by
  obtain ⟨b0, b1⟩ := inR_bd hx
  have hlb := lowV_big
  induction k with
  | zero => exact ⟨hg, g0, g1⟩
  | succ k ih =>
    obtain ⟨_, _, _, h1, _, h2, h3, _⟩ := newt_step hx.1 ih.1 hmn hmx hprod (by omega) b1 m0 m1 ih.2.1 ih.2.2
    exact ⟨h1, h2, h3⟩
/-- All that the walk asks of a step. -/
theorem newt_ops {x g : Nat} (hx : inR x) (hb : begins x g) (k : Nat) :
    ∃ q s, floatBits .quo .f64 x (newtN x g k) = some q ∧ floatBits .add .f64 (newtN x g k) q = some s ∧ floatBits .quo .f64 s 4611686018427387904 = some (newtN x g (k + 1)) := by
  obtain ⟨b0, b1⟩ := inR_bd hx
  have hlb := lowV_big
  obtain ⟨mn, mx, hmn, hmx, hprod, m0, m1, _, hg, g0, g1⟩ := begin_bounds hx hb
  obtain ⟨hk, k0, k1⟩ := newtN_in hx hmn hmx hprod m0 m1 hg g0 g1 k
  obtain ⟨h1, h2, h3, _⟩ := newt_step hx.1 hk hmn hmx hprod (by omega) b1 m0 m1 k0 k1
  exact ⟨_, _, h1, h2, h3⟩
theorem begins_ex (x : Nat) : ∃ g, begins x g := by
  rcases Int.lt_or_le (fval x) (oneV : Int) with h | h
  · exact ⟨_, .inl ⟨h, rfl⟩⟩
  · exact ⟨_, .inr ⟨h, rfl⟩⟩
/-- What Root answers. -/
def RootIs (x r : Nat) : Prop := (¬ inR x ∧ r = 0) ∨ (inR x ∧ ∃ g, begins x g ∧ r = newtN x g 60)
theorem root_ex (x : Nat) : ∃ r, RootIs x r := by
  by_cases h : inR x
  · obtain ⟨g, hg⟩ := begins_ex x
    exact ⟨_, .inr ⟨h, g, hg, rfl⟩⟩
  · exact ⟨0, .inl ⟨h, rfl⟩⟩

/-- How the constants stand to a word. -/
theorem order_c {x : Nat} (hx : x < 18446744073709551616) {c : Nat} (hc : isNum c) : (isNum x ∧ f64.order x c = some (compare (fval x) (fval c)) ∧ f64.order c x = some (compare (fval c) (fval x))) ∨
    (¬ isNum x ∧ ((f64.order x c = none ∧ f64.order c x = none) ∨ (f64.order x c = some .gt ∧ f64.order c x = some .lt) ∨ (f64.order x c = some .lt ∧ f64.order c x = some .gt))) := by
  by_cases hE : expo x < 2047
  · have hn := num_of_expo hx hE
    exact .inl ⟨hn, order_val hn hc, order_val hc hn⟩
  · have hE2 : expo x = 2047 := by have := expo_le x; omega
    refine .inr ⟨fun hn => hE (expo_of_num hx hn), ?_⟩
    obtain ⟨s, m, i, e, _⟩ := hc
    rcases read_full hx hE2 with h | ⟨b, h⟩
    · cases hs : sneg x
      · rw [hs] at h
        exact .inr (.inl ⟨by unfold Format.order; rw [h, e]; rfl, by unfold Format.order; rw [h, e]; rfl⟩)
      · rw [hs] at h
        exact .inr (.inr ⟨by unfold Format.order; rw [h, e]; rfl, by unfold Format.order; rw [h, e]; rfl⟩)
    · exact .inl ⟨by unfold Format.order; rw [h, e]; rfl, by unfold Format.order; rw [h, e]; rfl⟩
end Go.Proofs.Ytibkhmdnfloemaa

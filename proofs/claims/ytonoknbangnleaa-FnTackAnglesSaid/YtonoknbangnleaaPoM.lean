/- Polars av data: what a valid one is, the speed that it tells, quotients up to 1, damped parts: plain facts on float32 words. Nothing here speaks of the program. -/
import Derived.Test.YtonoknbangnleaaDmM
import Derived.Test.YtonoknbangnleaaTnW
namespace Go.Proofs.Ytonoknbangnleaa
open Go.RowKit Ieee
set_option linter.unusedSimpArgs false

theorem half_pow (J k : Nat) : 2 ^ (J + k) = 2 ^ J * 2 ^ k := Nat.pow_add _ _ _
/-- A quotient of two numbers whose first one is at most twice the other. -/
theorem quo_two {x y : Nat} (hx : S.isNum x) (hy : S.isNum y) (hy0 : 0 < (S.fval y).natAbs) (hxy : (S.fval x).natAbs ≤ 2 * (S.fval y).natAbs) :
    ∃ r, S.f32.div x y = some r ∧ S.isNum r ∧ r < 4294967296 ∧ ∃ s t : Bool, ∃ R : Nat, S.fval r = (if s ^^ t then -(R : Int) else (R : Int)) ∧ (S.fval x = if s then -(((S.fval x).natAbs : Nat) : Int) else (((S.fval x).natAbs : Nat) : Int)) ∧ (S.fval y = if t then -(((S.fval y).natAbs : Nat) : Int) else (((S.fval y).natAbs : Nat) : Int)) ∧
      S.Near R ((S.fval x).natAbs * S.oneV) (S.fval y).natAbs := by
  have hE := S.fixE_eq
  obtain ⟨s, m, i, ex, hi, hm⟩ := hx
  obtain ⟨t, n, j, ey, hj, hn'⟩ := hy
  have vx : S.fval x = signed s m (i + 149).toNat := by unfold S.fval; rw [ex]; rfl
  have vy : S.fval y = signed t n (j + 149).toNat := by unfold S.fval; rw [ey]; rfl
  have ax : (S.fval x).natAbs = m * 2 ^ (i + 149).toNat := by rw [vx]; exact (S.val_amount s m _).1
  have ay : (S.fval y).natAbs = n * 2 ^ (j + 149).toNat := by rw [vy]; exact (S.val_amount t n _).1
  have hn : 0 < n := by
    rcases Nat.eq_zero_or_pos n with h | h
    · rw [ay, h, Nat.zero_mul] at hy0
      omega
    · exact h
  obtain ⟨more, hmore⟩ : ∃ more, more = 25 + n.log2 - m.log2 := ⟨_, rfl⟩
  obtain ⟨dvd, hdvd⟩ : ∃ dvd, dvd = m * 2 ^ more := ⟨_, rfl⟩
  obtain ⟨Q, hQ⟩ : ∃ Q, Q = dvd / n := ⟨_, rfl⟩
  obtain ⟨st, hst⟩ : ∃ st, st = (dvd % n != 0).toNat := ⟨_, rfl⟩
  have hr : S.f32.div x y = some (S.f32.nearest (s ^^ t) (2 * Q + st) (i - j - more - 1)) := by
    unfold Format.div; rw [ex, ey]
    unfold Datum.quotient
    simp only [if_neg (show ¬ n = 0 by omega)]
    rw [show S.f32.fractionBits + 2 = 25 from rfl, ← hmore, Nat.shiftLeft_eq, ← hdvd, ← hQ, ← hst]
    rfl
  obtain ⟨I, hI⟩ : ∃ I : Nat, I = (i + 149).toNat := ⟨_, rfl⟩
  obtain ⟨J, hJ⟩ : ∃ J : Nat, J = (j + 149).toNat := ⟨_, rfl⟩
  rw [← hI] at ax vx
  rw [← hJ] at ay vy
  have sx : S.fval x = if s then -(((S.fval x).natAbs : Nat) : Int) else (((S.fval x).natAbs : Nat) : Int) := by rw [vx]; exact S.signed_abs s m I
  have sy : S.fval y = if t then -(((S.fval y).natAbs : Nat) : Int) else (((S.fval y).natAbs : Nat) : Int) := by rw [vy]; exact S.signed_abs t n J
  have hP : (i - j - more - 1 : Int) + 149 + ((J + more + 1 : Nat) : Int) = ((I + S.fixE : Nat) : Int) := by omega
  by_cases h0 : m = 0
  · have hd0 : dvd = 0 := by rw [hdvd, h0, Nat.zero_mul]
    have hmag : 2 * Q + st = 0 := by rw [hst, hQ, hd0]; simp
    rw [hmag] at hr
    obtain ⟨hn2, R, hv, hnear⟩ := S.near_core (s ^^ t) 0 (i - j - more - 1) (J + more + 1) (I + S.fixE) hP (by rw [Nat.zero_mul]; exact Nat.two_pow_pos _)
    refine ⟨_, hr, hn2, FloatKind.f32.format.div_lt hr, s, t, R, hv, sx, sy, ?_⟩
    rw [ax, h0, Nat.zero_mul, Nat.zero_mul]
    rw [Nat.zero_mul] at hnear
    have hR : R = 0 := by have := (hnear 0 0 (by omega)).2.1 (by simp); simpa using this
    intro q k hq
    rw [hR]
    refine ⟨fun h => ?_, fun _ => Nat.zero_le _, fun _ _ _ => Nat.zero_le _⟩
    rcases Nat.mul_eq_zero.1 (Nat.le_zero.1 h) with h2 | h2
    · omega
    · exfalso; omega
  · have hQ0 : 16777216 ≤ Q := by
      rw [hQ, Nat.le_div_iff_mul_le hn, hdvd]
      have h1 : n < 2 ^ (n.log2 + 1) := Nat.lt_log2_self
      have h2 : 2 ^ m.log2 * 2 ^ more ≤ m * 2 ^ more := Nat.mul_le_mul_right _ (Nat.log2_self_le h0)
      rw [← Nat.pow_add] at h2
      have h3 : 2 ^ 24 * n ≤ 2 ^ 24 * 2 ^ (n.log2 + 1) := Nat.mul_le_mul_left _ (Nat.le_of_lt h1)
      rw [← Nat.pow_add] at h3
      have h4 : 2 ^ (24 + (n.log2 + 1)) ≤ 2 ^ (m.log2 + more) := Nat.pow_le_pow_right (by omega) (by omega)
      exact Nat.le_trans h3 (Nat.le_trans h4 h2)
    have hst1 : st ≤ 1 := by rw [hst]; cases (dvd % n != 0) <;> simp
    obtain ⟨V, hV⟩ : ∃ V, V = J + more + 1 := ⟨_, rfl⟩
    rw [← hV] at hP
    have hpv : 0 < 2 ^ V := Nat.two_pow_pos _
    have hpJ : 0 < 2 ^ J := Nat.two_pow_pos _
    have key : (S.fval x).natAbs * S.oneV * 2 ^ V = 2 * dvd * 2 ^ (I + S.fixE) * 2 ^ J := by
      rw [ax, hV, hdvd]; unfold S.oneV
      rw [Nat.pow_add 2 (J + more) 1, Nat.pow_add 2 J more, Nat.pow_add 2 I S.fixE, Nat.pow_one]
      simp only [Nat.mul_assoc, Nat.mul_comm, Nat.mul_left_comm]
    have hD : ∀ h : Nat, h * (S.fval y).natAbs * 2 ^ V = h * 2 ^ V * n * 2 ^ J := fun h => by
      rw [ay]; simp only [Nat.mul_assoc, Nat.mul_comm, Nat.mul_left_comm]
    have hA : (2 * Q + st) * 2 ^ (I + S.fixE) < 2 ^ (270 + V) := by
      have h1 : (2 * Q + st) * n ≤ 4 * dvd := by
        have h2 : Q * n ≤ dvd := by rw [hQ]; exact Nat.div_mul_le_self dvd n
        have h3 : (2 * Q + st) * n ≤ (4 * Q) * n := Nat.mul_le_mul_right _ (by omega)
        rw [Nat.mul_assoc] at h3; omega
      have h2 : (2 * Q + st) * 2 ^ (I + S.fixE) * (n * 2 ^ J) ≤ 2 * ((S.fval x).natAbs * S.oneV * 2 ^ V) := by
        rw [key]
        have := Nat.mul_le_mul_right (2 ^ (I + S.fixE) * 2 ^ J) h1
        calc (2 * Q + st) * 2 ^ (I + S.fixE) * (n * 2 ^ J) = (2 * Q + st) * n * (2 ^ (I + S.fixE) * 2 ^ J) := by simp only [Nat.mul_assoc, Nat.mul_comm, Nat.mul_left_comm]
          _ ≤ 4 * dvd * (2 ^ (I + S.fixE) * 2 ^ J) := this
          _ = 2 * (2 * dvd * 2 ^ (I + S.fixE) * 2 ^ J) := by rw [show 4 * dvd = 2 * (2 * dvd) by omega]; simp only [Nat.mul_assoc]
      have h3 : 2 * ((S.fval x).natAbs * S.oneV * 2 ^ V) ≤ 2 * (2 * (S.fval y).natAbs * S.oneV * 2 ^ V) := Nat.mul_le_mul_left _ (Nat.mul_le_mul_right _ (Nat.mul_le_mul_right _ hxy))
      have h5 : 2 * (2 * (S.fval y).natAbs * S.oneV * 2 ^ V) = 2 ^ (S.fixE + V + 2) * (n * 2 ^ J) := by
        rw [ay]; unfold S.oneV
        rw [Nat.pow_add 2 (S.fixE + V) 2, Nat.pow_add 2 S.fixE V, show (2 : Nat) ^ 2 = 2 * 2 from rfl]
        simp only [Nat.mul_assoc, Nat.mul_comm, Nat.mul_left_comm]
      rw [h5] at h3
      have h7 := Nat.le_of_mul_le_mul_right (Nat.le_trans h2 h3) (Nat.mul_pos hn hpJ)
      exact Nat.lt_of_le_of_lt h7 (Nat.pow_lt_pow_right (by omega) (by clear h1 h2 h3 h5 h7 key hD; omega))
    obtain ⟨hn2, R, hv, hnear⟩ := S.near_core (s ^^ t) (2 * Q + st) (i - j - more - 1) V (I + S.fixE) hP hA
    refine ⟨_, hr, hn2, FloatKind.f32.format.div_lt hr, s, t, R, hv, sx, sy, ?_⟩
    intro q k hq
    obtain ⟨n1, n2, n3⟩ := hnear q k hq
    have e : ∀ z : Nat, z * 2 ^ k * 2 ^ V = z * 2 ^ (k + V) := fun z => by rw [Nat.mul_assoc, ← Nat.pow_add]
    rw [e] at n1 n2 n3
    obtain ⟨d1, d2, d3⟩ := S.div_sides dvd n Q st q (I + S.fixE) (k + V) hn hQ hst hQ0 hq
    refine ⟨fun h => n1 (d1 ?_), fun h => n2 (d2 ?_), fun hq0 hq1 h => n3 hq0 hq1 (d3 hq1 ?_)⟩
    · refine Nat.le_of_mul_le_mul_right ?_ hpJ
      have h2 := Nat.mul_le_mul_right (2 ^ V) h
      rw [key, hD, e] at h2
      exact h2
    · refine Nat.le_of_mul_le_mul_right ?_ hpJ
      have h2 := Nat.mul_le_mul_right (2 ^ V) h
      rw [key, hD, e] at h2
      exact h2
    · refine Nat.lt_of_mul_lt_mul_right (a := 2 ^ J) ?_
      have h2 := Nat.mul_lt_mul_of_pos_right h hpv
      rw [hD, e, Nat.mul_assoc, key, ← Nat.mul_assoc] at h2
      exact h2
/-- A share, or what is rounded like one. -/
def okQ (k : Nat) : Prop := S.isNum k ∧ 0 ≤ S.fval k ∧ S.fval k ≤ 2 * (S.oneV : Int)
/-- .. of two that are not negative: a share. -/
theorem share_of {x y : Nat} (hx : S.isNum x) (hy : S.isNum y) (h0 : 0 ≤ S.fval x) (h1 : 0 < S.fval y) (h2 : S.fval x ≤ 2 * S.fval y) :
    ∃ r, floatBits .quo .f32 x y = some r ∧ r < 4294967296 ∧ okQ r ∧ (S.fval x = S.fval y → S.fval r = (S.oneV : Int)) ∧ (S.fval x = 0 → S.fval r = 0) := by
  obtain ⟨r, e, hn, hl, s, t, R, v1, v2, v3, hnear⟩ := quo_two hx hy (by omega) (by omega)
  have ht : t = false := by
    cases t
    · rfl
    · simp only [if_true] at v3; omega
  subst ht
  have hO := oneS_pos
  have hone := hnear 1 S.fixE (by omega)
  have e1 : 1 * 2 ^ S.fixE = S.oneV := by rw [Nat.one_mul]; rfl
  rw [e1] at hone
  have htwo := hnear 2 S.fixE (by omega)
  have e2 : 2 * 2 ^ S.fixE = 2 * S.oneV := rfl
  rw [e2] at htwo
  have hR1 : R ≤ 2 * S.oneV := htwo.2.1 (by
    rw [show 2 * S.oneV * (S.fval y).natAbs = (2 * (S.fval y).natAbs) * S.oneV by simp only [Nat.mul_assoc, Nat.mul_comm, Nat.mul_left_comm]]
    exact Nat.mul_le_mul_right _ (by omega))
  have hv : (S.fval x = 0 ∧ R = 0) ∨ (S.fval r = (R : Int)) := by
    by_cases hz : S.fval x = 0
    · left
      refine ⟨hz, ?_⟩
      have := (hnear 0 0 (by omega)).2.1 (by rw [hz]; simp)
      simpa using this
    · right
      have hs : s = false := by
        cases s
        · rfl
        · simp only [if_true] at v2; omega
      subst hs
      simpa using v1
  have hr0 : 0 ≤ S.fval r ∧ S.fval r ≤ 2 * (S.oneV : Int) := by
    rcases hv with ⟨_, h⟩ | h
    · rw [h] at v1
      rw [v1]
      split <;> constructor <;> omega
    · rw [h]; omega
  refine ⟨r, e, hl, ⟨hn, hr0.1, hr0.2⟩, fun h => ?_, fun h => ?_⟩
  · have h3 : S.oneV ≤ R := hone.1 (by rw [h, Nat.mul_comm]; exact Nat.le_refl _)
    have h4 : R ≤ S.oneV := hone.2.1 (by rw [h, Nat.mul_comm]; exact Nat.le_refl _)
    rcases hv with ⟨hz, _⟩ | h5
    · omega
    · rw [h5]; omega
  · rcases hv with ⟨_, h4⟩ | h4
    · rw [h4] at v1; rw [v1]; split <;> rfl
    · have := (hnear 0 0 (by omega)).2.1 (by rw [h]; simp)
      rw [h4]
      have : R = 0 := by simpa using this
      omega
/-- A number of at most M. -/
def okB (M x : Nat) : Prop := x < 4294967296 ∧ S.isNum x ∧ (S.fval x).natAbs ≤ M * S.oneV
theorem okB_up {M M' x : Nat} (h : okB M x) (hM : M ≤ M') : okB M' x := ⟨h.1, h.2.1, Nat.le_trans h.2.2 (Nat.mul_le_mul_right _ hM)⟩
theorem near_bd {v N : Int} {D c : Nat} (h : S.NearI v N D) (hc : c ≤ 16777216) (hN : N.natAbs ≤ c * S.oneV * D) : v.natAbs ≤ c * S.oneV := by
  have h1 := near_le h (rep_times c hc) (by
    have : (N.natAbs : Int) ≤ ((c * S.oneV * D : Nat) : Int) := by exact_mod_cast hN
    rw [Int.natCast_mul, Int.natCast_mul] at this
    omega)
  have h2 := near_ge h (S.rep_neg (rep_times c hc)) (by
    have : (N.natAbs : Int) ≤ ((c * S.oneV * D : Nat) : Int) := by exact_mod_cast hN
    rw [Int.natCast_mul, Int.natCast_mul] at this
    rw [Int.neg_mul]
    omega)
  have h3 : ((c * S.oneV : Nat) : Int) = (c : Int) * (S.oneV : Int) := Int.natCast_mul _ _
  omega
/-- A product with a number of at most c. -/
theorem mul_bd {M c x y : Nat} (hx : okB M x) (hy : S.isNum y ∧ (S.fval y).natAbs ≤ c * S.oneV) (hM : M * c ≤ 100000) :
    ∃ r, floatBits .mul .f32 x y = some r ∧ okB (M * c) r ∧ S.NearI (S.fval r) (S.fval x * S.fval y) S.oneV := by
  have hO := oneS_pos
  have hb : (S.fval x * S.fval y).natAbs ≤ M * c * S.oneV * S.oneV := by
    rw [Int.natAbs_mul, show M * c * S.oneV * S.oneV = (M * S.oneV) * (c * S.oneV) by simp only [Nat.mul_assoc, Nat.mul_comm, Nat.mul_left_comm]]
    exact Nat.mul_le_mul hx.2.2 hy.2
  obtain ⟨r, r1, r2, r3, r4⟩ := S.mul_op hx.2.1 hy.1 (by
    have h0 : (2 : Nat) ^ 100 = 1267650600228229401496703205376 := rfl
    have h1 : M * c * S.oneV * S.oneV < 2 ^ S.fixB * S.oneV := Nat.mul_lt_mul_of_pos_right (oneS_lt (M * c) (by omega)) hO
    rw [Nat.pow_add]
    exact Nat.lt_of_le_of_lt hb h1)
  have n1 := r4.near hO
  exact ⟨r, r1, ⟨r3, r2, near_bd n1 (by omega) hb⟩, n1⟩
/-- A number between two. -/
theorem mix_ex {M l x k : Nat} (hM : M ≤ 1000) (hl : okB M l) (hx : okB M x) (hk : okQ k) :
    ∃ r, DampIs l x k r ∧ okB (5 * M) r ∧ (S.fval k = 0 → S.fval r = S.fval l) := by
  have hO := oneS_pos
  have b1 := oneS_lt 100000 (by decide)
  have l1 := hl.2.2
  have x1 := hx.2.2
  have hMo : M * S.oneV ≤ 1000 * S.oneV := Nat.mul_le_mul_right _ hM
  have e2 : 2 * M * S.oneV = 2 * (M * S.oneV) := Nat.mul_assoc _ _ _
  have e3 : 5 * M * S.oneV = 5 * (M * S.oneV) := Nat.mul_assoc _ _ _
  have e4 : 2 * M * 2 * S.oneV = 4 * (M * S.oneV) := by rw [show 2 * M * 2 = 4 * M by omega]; exact Nat.mul_assoc _ _ _
  obtain ⟨d, d1, d2, d3, d4⟩ := S.sub_op hx.2.1 hl.2.1 (by omega)
  have n1 := d4.near (by omega)
  have db : (S.fval d).natAbs ≤ 2 * M * S.oneV := near_bd n1 (by omega) (by rw [Nat.mul_one, e2]; omega)
  obtain ⟨p, p1, ⟨p2, p3, p4⟩, n2⟩ := mul_bd (M := 2 * M) (c := 2) (x := d) (y := k) ⟨d3, d2, db⟩ ⟨hk.1, by have := hk.2; omega⟩ (by omega)
  rw [e4] at p4
  obtain ⟨r, r1, r2, r3, r4⟩ := S.add_op hl.2.1 p3 (by omega)
  have n3 := r4.near (by omega)
  refine ⟨r, ⟨d, p, d1, p1, r1⟩, ⟨r3, r2, near_bd n3 (by omega) (by rw [Nat.mul_one, e3]; omega)⟩, fun h => ?_⟩
  rw [h, Int.mul_zero] at n2
  have hp : S.fval p = 0 := S.NearI.exact (g := 0) (by rw [Int.zero_mul]; exact n2) repS_zero
  rw [hp, Int.add_zero] at n3
  exact near_one (g := S.fval l) n3 (S.rep_num hl.2.1)
theorem damp_fun {l x k r r' : Nat} (h : DampIs l x k r) (h' : DampIs l x k r') : r = r' := by
  obtain ⟨d, p, h1, h2, h3⟩ := h
  obtain ⟨d', p', h1', h2', h3'⟩ := h'
  rw [h1] at h1'
  obtain rfl := Option.some.inj h1'
  rw [h2] at h2'
  obtain rfl := Option.some.inj h2'
  rw [h3] at h3'
  exact Option.some.inj h3'

/-- A polar, as it lies in memory: where its lists lie, how long they are, and what they hold. -/
structure Pol where
  W : Option Addr
  nw : Nat
  cw : Nat
  ws : Nat → Nat
  A : Option Addr
  na : Nat
  ca : Nat
  av : Nat → Int
  S : Option Addr
  ns : Nat
  cs : Nat
  R : Nat → Option Addr
  rn : Nat → Nat
  rc : Nat → Nat
  sp : Nat → Nat → Nat

/-- A wind's speed. -/
def okA (x : Nat) : Prop := x < 4294967296 ∧ S.isNum x ∧ 0 ≤ S.fval x ∧ S.fval x ≤ 100 * (S.oneV : Int)
/-- A boat's speed. -/
def okS (x : Nat) : Prop := x < 4294967296 ∧ S.isNum x ∧ 0 ≤ S.fval x ∧ S.fval x ≤ 50 * (S.oneV : Int)
theorem okS_bd {x : Nat} (h : okS x) : okB 50 x := ⟨h.1, h.2.1, by have := h.2.2; omega⟩
def WindsOk4 (n : Nat) (ws : Nat → Nat) : Prop := (1 ≤ n ∧ n ≤ 12) ∧ (∀ i, i < n → okA (ws i) ∧ 0 < S.fval (ws i)) ∧ ∀ i, i + 1 < n → S.fval (ws i) < S.fval (ws (i + 1))
def AnglesOk (n : Nat) (av : Nat → Int) : Prop := (2 ≤ n ∧ n ≤ 24) ∧ av 0 = 0 ∧ av (n - 1) = 180 ∧ ∀ j, j + 1 < n → av j < av (j + 1)
def RowOk (n : Nat) (f : Nat → Nat) : Prop := ∀ k, k < n → okS (f k)
/-- A valid polar. -/
def PolOk (P : Pol) : Prop := WindsOk4 P.nw P.ws ∧ AnglesOk P.na P.av ∧ P.ns = P.nw ∧ ∀ i, i < P.ns → P.rn i = P.na ∧ RowOk P.na (P.sp i)
theorem asc_lt {n : Nat} {f : Nat → Int} (h : ∀ j, j + 1 < n → f j < f (j + 1)) : ∀ {i j : Nat}, i < j → j < n → f i < f j := by
  intro i j hij hj
  obtain ⟨d, rfl⟩ : ∃ d, j = i + 1 + d := ⟨j - (i + 1), by omega⟩
  induction d with
  | zero => exact h i hj
  | succ d ih => exact Int.lt_trans (ih (by omega) (by omega)) (h (i + 1 + d) hj)
theorem asc_le {n : Nat} {f : Nat → Int} (h : ∀ j, j + 1 < n → f j < f (j + 1)) {i j : Nat} (hij : i ≤ j) (hj : j < n) : f i ≤ f j := by
  rcases Nat.lt_or_ge i j with h1 | h1
  · exact Int.le_of_lt (asc_lt h h1 hj)
  · rw [show i = j by omega]; exact Int.le_refl _
/-- The last one that is at most x. -/
def LastIs (n : Nat) (f : Nat → Int) (x : Int) (j : Nat) : Prop := j < n ∧ f j ≤ x ∧ (j + 1 < n → x < f (j + 1))
theorem last_fun {n : Nat} {f : Nat → Int} (h : ∀ j, j + 1 < n → f j < f (j + 1)) {x : Int} {i j : Nat} (hi : LastIs n f x i) (hj : LastIs n f x j) : i = j := by
  obtain ⟨a1, a2, a3⟩ := hi
  obtain ⟨b1, b2, b3⟩ := hj
  rcases Nat.lt_trichotomy i j with h1 | h1 | h1
  · have := a3 (by omega)
    have := asc_le h (show i + 1 ≤ j by omega) b1
    omega
  · exact h1
  · have := b3 (by omega)
    have := asc_le h (show j + 1 ≤ i by omega) a1
    omega
theorem last_ex {n : Nat} {f : Nat → Int} {x : Int} (hn : 0 < n) (h0 : f 0 ≤ x) : ∃ j, LastIs n f x j := by
  suffices h : ∀ d i, i + d + 1 = n → f i ≤ x → ∃ j, LastIs n f x j by exact h (n - 1) 0 (by omega) h0
  intro d
  induction d with
  | zero => intro i hi hx; exact ⟨i, by omega, hx, fun h => by omega⟩
  | succ d ih =>
    intro i hi hx
    rcases Int.lt_or_le x (f (i + 1)) with h | h
    · exact ⟨i, by omega, hx, fun _ => h⟩
    · exact ih (i + 1) (by omega) h
/-- The speed of a row at an angle. -/
def RowSpd (P : Pol) (i : Nat) (a : Int) (r : Nat) : Prop :=
  ∃ j, LastIs P.na P.av a j ∧ ((P.av j = a ∧ r = P.sp i j) ∨
    (P.av j < a ∧ ∃ q, floatBits .quo .f32 (floatOfInt .f32 (a - P.av j)) (floatOfInt .f32 (P.av (j + 1) - P.av j)) = some q ∧ okQ q ∧ DampIs (P.sp i j) (P.sp i (j + 1)) q r))
theorem row_fun {P : Pol} (hP : PolOk P) {i : Nat} {a : Int} {r r' : Nat} (h : RowSpd P i a r) (h' : RowSpd P i a r') : r = r' := by
  obtain ⟨j, h1, h2⟩ := h
  obtain ⟨j', h1', h2'⟩ := h'
  obtain rfl := last_fun hP.2.1.2.2.2 h1 h1'
  rcases h2 with ⟨e, rfl⟩ | ⟨e, q, hq, _, hr⟩ <;> rcases h2' with ⟨e', rfl⟩ | ⟨e', q', hq', _, hr'⟩
  · rfl
  · omega
  · omega
  · rw [hq] at hq'
    obtain rfl := Option.some.inj hq'
    exact damp_fun hr hr'
/-- The share of an angle between two. -/
theorem angle_share {n : Nat} {av : Nat → Int} (h : AnglesOk n av) {a : Int} (h1 : a ≤ 180) {j : Nat} (hj : LastIs n av a j) (hlt : av j < a) :
    j + 1 < n ∧ 0 ≤ av j ∧ av (j + 1) ≤ 180 ∧ a < av (j + 1) ∧ ∃ q, floatBits .quo .f32 (floatOfInt .f32 (a - av j)) (floatOfInt .f32 (av (j + 1) - av j)) = some q ∧ q < 4294967296 ∧ okQ q := by
  obtain ⟨⟨n0, n1⟩, a0, a1, hasc⟩ := h
  obtain ⟨j1, j2, j3⟩ := hj
  have hjn : j + 1 < n := by
    rcases Nat.lt_or_ge (j + 1) n with h | h
    · exact h
    · rw [show n - 1 = j by omega] at a1
      omega
  have hb := j3 hjn
  have h0 : 0 ≤ av j := by rw [← a0]; exact asc_le hasc (Nat.zero_le _) j1
  have h2 : av (j + 1) ≤ 180 := by rw [← a1]; exact asc_le hasc (by omega) (by omega)
  obtain ⟨x1, x2⟩ := S.ofInt_val (a - av j) (by omega) (by omega)
  obtain ⟨y1, y2⟩ := S.ofInt_val (av (j + 1) - av j) (by omega) (by omega)
  have hO : (0 : Int) < (S.oneV : Int) := by have := oneS_pos; omega
  obtain ⟨q, q1, q2, q3, _⟩ := share_of x1 y1 (by rw [x2]; exact Int.le_of_lt (Int.mul_pos (by omega) hO)) (by rw [y2]; exact Int.mul_pos (by omega) hO) (by
    rw [x2, y2]
    have h5 : (a - av j) * (S.oneV : Int) ≤ (av (j + 1) - av j) * (S.oneV : Int) := Int.mul_le_mul_of_nonneg_right (by omega) (by omega)
    have h6 : 0 ≤ (av (j + 1) - av j) * (S.oneV : Int) := Int.mul_nonneg (by omega) (by omega)
    rw [Int.two_mul]; exact Int.le_trans h5 (Int.le_add_of_nonneg_left h6))
  exact ⟨hjn, h0, h2, hb, q, q1, q2, q3⟩
theorem row_ex {P : Pol} (hP : PolOk P) {i : Nat} (hi : i < P.ns) {a : Int} (h0 : 0 ≤ a) (h1 : a ≤ 180) : ∃ r, RowSpd P i a r ∧ okB 250 r := by
  obtain ⟨hw, ha, hns, hr⟩ := hP
  obtain ⟨j, hj⟩ := last_ex (n := P.na) (f := P.av) (x := a) (by have := ha.1; omega) (by rw [ha.2.1]; exact h0)
  rcases Int.lt_or_le (P.av j) a with hlt | hge
  · obtain ⟨j1, _, _, _, q, q1, q2, q3⟩ := angle_share ha h1 hj hlt
    obtain ⟨r, r1, r2, _⟩ := mix_ex (M := 50) (by omega) (okS_bd ((hr i hi).2 j hj.1)) (okS_bd ((hr i hi).2 (j + 1) j1)) q3
    exact ⟨r, ⟨j, hj, .inr ⟨hlt, q, q1, q3, r1⟩⟩, r2⟩
  · have he : P.av j = a := Int.le_antisymm hj.2.1 hge
    exact ⟨_, ⟨j, hj, .inl ⟨he, rfl⟩⟩, okB_up (okS_bd ((hr i hi).2 j hj.1)) (by omega)⟩
/-- The speed at a wind and an angle. -/
def Spd (P : Pol) (w : Nat) (a : Int) (r : Nat) : Prop :=
  (S.fval w ≤ S.fval (P.ws 0) ∧ ∃ q s, floatBits .quo .f32 w (P.ws 0) = some q ∧ RowSpd P 0 a s ∧ floatBits .mul .f32 q s = some r) ∨
  (S.fval (P.ws 0) < S.fval w ∧ ∃ i, LastIs P.nw (fun i => S.fval (P.ws i)) (S.fval w) i ∧
    ((i + 1 = P.nw ∧ RowSpd P i a r) ∨
     (i + 1 < P.nw ∧ ∃ d e q s t, floatBits .sub .f32 w (P.ws i) = some d ∧ floatBits .sub .f32 (P.ws (i + 1)) (P.ws i) = some e ∧ floatBits .quo .f32 d e = some q ∧ okQ q ∧ RowSpd P i a s ∧ RowSpd P (i + 1) a t ∧ DampIs s t q r)))
theorem spd_fun {P : Pol} (hP : PolOk P) {w : Nat} {a : Int} {r r' : Nat} (h : Spd P w a r) (h' : Spd P w a r') : r = r' := by
  rcases h with ⟨e, q, s, h1, h2, h3⟩ | ⟨e, i, h1, h2⟩ <;> rcases h' with ⟨e', q', s', h1', h2', h3'⟩ | ⟨e', i', h1', h2'⟩
  · rw [h1] at h1'
    obtain rfl := Option.some.inj h1'
    obtain rfl := row_fun hP h2 h2'
    rw [h3] at h3'
    exact Option.some.inj h3'
  · omega
  · omega
  · obtain rfl := last_fun hP.1.2.2 h1 h1'
    rcases h2 with ⟨f, h2⟩ | ⟨f, d, e, q, s, t, a1, a2, a3, _, a4, a5, a6⟩ <;> rcases h2' with ⟨f', h2'⟩ | ⟨f', d', e', q', s', t', b1, b2, b3, _, b4, b5, b6⟩
    · exact row_fun hP h2 h2'
    · omega
    · omega
    · rw [a1] at b1
      obtain rfl := Option.some.inj b1
      rw [a2] at b2
      obtain rfl := Option.some.inj b2
      rw [a3] at b3
      obtain rfl := Option.some.inj b3
      obtain rfl := row_fun hP a4 b4
      obtain rfl := row_fun hP a5 b5
      exact damp_fun a6 b6
/-- Below the first wind. -/
theorem low_share {w f : Nat} (hw : okA w) (hf : okA f) (h0 : 0 < S.fval f) (h : S.fval w ≤ S.fval f) : ∃ q, floatBits .quo .f32 w f = some q ∧ q < 4294967296 ∧ okQ q ∧ (S.fval w = S.fval f → S.fval q = (S.oneV : Int)) := by
  obtain ⟨q, q1, q2, q3, q4, _⟩ := share_of hw.2.1 hf.2.1 hw.2.2.1 h0 (by omega)
  exact ⟨q, q1, q2, q3, q4⟩
/-- Between two winds. -/
theorem mid_share {w u v : Nat} (hw : okA w) (hu : okA u) (hv : okA v) (h1 : S.fval u ≤ S.fval w) (h2 : S.fval w < S.fval v) :
    ∃ d e q, floatBits .sub .f32 w u = some d ∧ floatBits .sub .f32 v u = some e ∧ floatBits .quo .f32 d e = some q ∧ q < 4294967296 ∧ okQ q ∧ (S.fval w = S.fval u → S.fval q = 0) := by
  have b1 := oneS_lt 1000 (by decide)
  have hO := oneS_pos
  obtain ⟨_, w1, w2, w3⟩ := hw
  obtain ⟨_, u1, u2, u3⟩ := hu
  obtain ⟨_, v1, v2, v3⟩ := hv
  obtain ⟨d, d1, d2, d3, d4⟩ := S.sub_op w1 u1 (by omega)
  obtain ⟨e, e1, e2, e3, e4⟩ := S.sub_op v1 u1 (by omega)
  have n1 := d4.near (by omega)
  have n2 := e4.near (by omega)
  have rone : S.Rep 1 := ⟨1, 0, by omega, by simp⟩
  have hd0 : 0 ≤ S.fval d := near_ge n1 repS_zero (by omega)
  have he1 : 1 ≤ S.fval e := near_ge n2 rone (by omega)
  have hde : S.fval v - S.fval u ≤ 2 * S.fval e := by
    rcases Int.lt_or_le (2 * S.fval e) (S.fval v - S.fval u) with h | h
    · have := near_ge n2 (S.rep_two (S.rep_num e2)) (by rw [Int.natCast_one, Int.mul_one]; omega)
      omega
    · exact h
  have hdd : S.fval d ≤ 2 * S.fval e := near_le n1 (S.rep_two (S.rep_num e2)) (by rw [Int.natCast_one, Int.mul_one]; omega)
  obtain ⟨q, q1, q2, q3, _, q5⟩ := share_of d2 e2 hd0 (by omega) hdd
  refine ⟨d, e, q, d1, e1, q1, q2, q3, fun h => q5 ?_⟩
  rw [h, Int.sub_self] at n1
  exact near_one n1 repS_zero
theorem spd_ex {P : Pol} (hP : PolOk P) {w : Nat} (hw : okA w) {a : Int} (h0 : 0 ≤ a) (h1 : a ≤ 180) : ∃ r, Spd P w a r ∧ okB 1250 r := by
  obtain ⟨hwd, _, hns, _⟩ := id hP
  have hn := hwd.1
  rcases Int.lt_or_le (S.fval (P.ws 0)) (S.fval w) with hlt | hle
  · obtain ⟨i, hi⟩ := last_ex (n := P.nw) (f := fun i => S.fval (P.ws i)) (x := S.fval w) (by omega) (Int.le_of_lt hlt)
    obtain ⟨s, s1, s2⟩ := row_ex hP (i := i) (by have := hi.1; omega) h0 h1
    by_cases hl : i + 1 = P.nw
    · exact ⟨s, .inr ⟨hlt, i, hi, .inl ⟨hl, s1⟩⟩, okB_up s2 (by omega)⟩
    · have hi1 := hi.1
      obtain ⟨t, t1, t2⟩ := row_ex hP (i := i + 1) (by omega) h0 h1
      obtain ⟨d, e, q, q1, q2, q3, _, q5, _⟩ := mid_share hw (hwd.2.1 i hi1).1 (hwd.2.1 (i + 1) (by omega)).1 hi.2.1 (hi.2.2 (by omega))
      obtain ⟨r, r1, r2, _⟩ := mix_ex (M := 250) (by omega) s2 t2 q5
      exact ⟨r, .inr ⟨hlt, i, hi, .inr ⟨by omega, d, e, q, s, t, q1, q2, q3, q5, s1, t1, r1⟩⟩, r2⟩
  · obtain ⟨s, s1, s2⟩ := row_ex hP (i := 0) (by omega) h0 h1
    obtain ⟨q, q1, q2, q3, _⟩ := low_share hw (hwd.2.1 0 (by omega)).1 (hwd.2.1 0 (by omega)).2 hle
    obtain ⟨r, r1, r2, _⟩ := mul_bd (M := 2) (c := 250) (x := q) (y := s) ⟨q2, q3.1, by have := q3.2; omega⟩ s2.2 (by omega)
    exact ⟨r, .inl ⟨hle, q, s, q1, s1, r1⟩, okB_up r2 (by omega)⟩
/-- .. as functions. -/
noncomputable def rowS (P : Pol) (i : Nat) (a : Int) : Nat := by classical exact if h : ∃ r, RowSpd P i a r then h.choose else 0
noncomputable def spd (P : Pol) (w : Nat) (a : Int) : Nat := by classical exact if h : ∃ r, Spd P w a r then h.choose else 0
theorem rowS_is {P : Pol} (hP : PolOk P) {i : Nat} {a : Int} {r : Nat} (h : RowSpd P i a r) : rowS P i a = r := by
  unfold rowS
  rw [dif_pos ⟨r, h⟩]
  exact row_fun hP (Exists.choose_spec (⟨r, h⟩ : ∃ r, RowSpd P i a r)) h
theorem spd_is {P : Pol} (hP : PolOk P) {w : Nat} {a : Int} {r : Nat} (h : Spd P w a r) : spd P w a = r := by
  unfold spd
  rw [dif_pos ⟨r, h⟩]
  exact spd_fun hP (Exists.choose_spec (⟨r, h⟩ : ∃ r, Spd P w a r)) h
theorem rowS_ok {P : Pol} (hP : PolOk P) {i : Nat} (hi : i < P.ns) {a : Int} (h0 : 0 ≤ a) (h1 : a ≤ 180) : RowSpd P i a (rowS P i a) ∧ okB 250 (rowS P i a) := by
  obtain ⟨r, r1, r2⟩ := row_ex hP hi h0 h1
  rw [rowS_is hP r1]; exact ⟨r1, r2⟩
theorem spd_ok {P : Pol} (hP : PolOk P) {w : Nat} (hw : okA w) {a : Int} (h0 : 0 ≤ a) (h1 : a ≤ 180) : Spd P w a (spd P w a) ∧ okB 1250 (spd P w a) := by
  obtain ⟨r, r1, r2⟩ := spd_ex hP hw h0 h1
  rw [spd_is hP r1]; exact ⟨r1, r2⟩
/-- At its own winds and angles a polar tells its own numbers. -/
theorem spd_own {P : Pol} (hP : PolOk P) {i k : Nat} (hi : i < P.nw) (hk : k < P.na) : S.isNum (spd P (P.ws i) (P.av k)) ∧ spd P (P.ws i) (P.av k) < 4294967296 ∧ S.fval (spd P (P.ws i) (P.av k)) = S.fval (P.sp i k) := by
  obtain ⟨hwd, ha, hns, hr⟩ := id hP
  have hn := hwd.1
  have hn2 := ha.1
  have ha0 : 0 ≤ P.av k := by rw [← ha.2.1]; exact asc_le ha.2.2.2 (Nat.zero_le _) hk
  have ha1 : P.av k ≤ 180 := by rw [← ha.2.2.1]; exact asc_le ha.2.2.2 (by omega) (by omega)
  have hown : ∀ i, i < P.nw → RowSpd P i (P.av k) (P.sp i k) := fun i hi => ⟨k, ⟨hk, Int.le_refl _, fun h => ha.2.2.2 k h⟩, .inl ⟨rfl, rfl⟩⟩
  have hsp : ∀ i, i < P.nw → okB 50 (P.sp i k) := fun i hi => okS_bd ((hr i (by omega)).2 k hk)
  obtain ⟨_, o1, o2, _⟩ := (spd_ok hP (hwd.2.1 i hi).1 ha0 ha1)
  refine ⟨o2, o1, ?_⟩
  clear o1 o2
  by_cases h0 : i = 0
  · subst h0
    obtain ⟨q, q1, q2, q3, q4⟩ := low_share (hwd.2.1 0 hi).1 (hwd.2.1 0 hi).1 (hwd.2.1 0 hi).2 (Int.le_refl _)
    obtain ⟨r, r1, _, r3⟩ := mul_bd (M := 2) (c := 50) (x := q) (y := P.sp 0 k) ⟨q2, q3.1, by have := q3.2; omega⟩ (hsp 0 hi).2 (by omega)
    rw [spd_is hP (.inl ⟨Int.le_refl _, q, _, q1, hown 0 hi, r1⟩)]
    rw [q4 rfl, Int.mul_comm] at r3
    exact S.NearI.exact r3 (S.rep_num (hsp 0 hi).2.1)
  · have hlt : S.fval (P.ws 0) < S.fval (P.ws i) := asc_lt (f := fun i => S.fval (P.ws i)) hwd.2.2 (by omega) hi
    have hl : LastIs P.nw (fun i => S.fval (P.ws i)) (S.fval (P.ws i)) i := ⟨hi, Int.le_refl _, fun h => hwd.2.2 i h⟩
    by_cases hl1 : i + 1 = P.nw
    · rw [spd_is hP (.inr ⟨hlt, i, hl, .inl ⟨hl1, hown i hi⟩⟩)]
    · obtain ⟨d, e, q, q1, q2, q3, _, q5, q6⟩ := mid_share (hwd.2.1 i hi).1 (hwd.2.1 i hi).1 (hwd.2.1 (i + 1) (by omega)).1 (Int.le_refl _) (hwd.2.2 i (by omega))
      obtain ⟨r, r1, _, r3⟩ := mix_ex (M := 50) (by omega) (hsp i hi) (hsp (i + 1) (by omega)) q5
      rw [spd_is hP (.inr ⟨hlt, i, hl, .inr ⟨by omega, d, e, q, _, _, q1, q2, q3, q5, hown i hi, hown (i + 1) (by omega), r1⟩⟩)]
      exact r3 (q6 rfl)
end Go.Proofs.Ytonoknbangnleaa

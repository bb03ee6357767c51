/- One text out of: PoM, PoI, PoJ, PoK, PoR, PoV, PoT. -/
import Derived.Test.YtonoknbangnleaaGreatWZ
import Derived.Test.YtonoknbangnleaaGreatTZ
import Derived.Deep.RegionHeld3
import Derived.Deep.Draws
import Derived.BigQuiet
/- Polars av data: what a valid one is, the speed that it tells, quotients up to 1, damped parts: plain facts on float32 words. Nothing here speaks of the program. -/
namespace Go.Proofs.YtonoknbangnleaaGreat
open Go.RowKit Ieee
set_option linter.unusedSimpArgs false

theorem half_pow (J k : Nat) : 2 ^ (J + k) = 2 ^ J * 2 ^ k := Nat.pow_add _ _ _
/-- A quotient of two numbers whose first one is at most twice the other. -/
theorem quo_two {x y : Nat} (hx : S.isNum x) (hy : S.isNum y) (hy0 : 0 < (S.fval y).natAbs) (hxy : (S.fval x).natAbs ≤ 2 * (S.fval y).natAbs) :
    ∃ r, S.f32.div x y = some r ∧ S.isNum r ∧ r < 4294967296 ∧ ∃ s t : Bool, ∃ R : Nat, S.fval r = (if s ^^ t then -(R : Int) else (R : Int)) ∧ (S.fval x = if s then -(((S.fval x).natAbs : Nat) : Int) else (((S.fval x).natAbs : Nat) : Int)) ∧ (S.fval y = if t then -(((S.fval y).natAbs : Nat) : Int) else (((S.fval y).natAbs : Nat) : Int)) ∧
      S.Near R ((S.fval x).natAbs * S.oneV) (S.fval y).natAbs := by
  have hE := S.fixE_eq
  obtain ⟨s, m, i, ex, hi, hm⟩ := hx
  obtain ⟨t, n, j, ey, hj, hn'⟩ := hy
  have vx : S.fval x = signed s m (i + 149).toNat := by unfold S.fval; rw [ex]; rfl
  have vy : S.fval y = signed t n (j + 149).toNat := by unfold S.fval; rw [ey]; rfl
  have ax : (S.fval x).natAbs = m * 2 ^ (i + 149).toNat := by rw [vx]; exact (S.val_amount s m _).1
  have ay : (S.fval y).natAbs = n * 2 ^ (j + 149).toNat := by rw [vy]; exact (S.val_amount t n _).1
  have hn : 0 < n := by
    rcases Nat.eq_zero_or_pos n with h | h
    · rw [ay, h, Nat.zero_mul] at hy0
      omega
    · exact h
  obtain ⟨more, hmore⟩ : ∃ more, more = 25 + n.log2 - m.log2 := ⟨_, rfl⟩
  obtain ⟨dvd, hdvd⟩ : ∃ dvd, dvd = m * 2 ^ more := ⟨_, rfl⟩
  obtain ⟨Q, hQ⟩ : ∃ Q, Q = dvd / n := ⟨_, rfl⟩
  obtain ⟨st, hst⟩ : ∃ st, st = (dvd % n != 0).toNat := ⟨_, rfl⟩
  have hr : S.f32.div x y = some (S.f32.nearest (s ^^ t) (2 * Q + st) (i - j - more - 1)) := by
    unfold Format.div; rw [ex, ey]
    unfold Datum.quotient
    simp only [if_neg (show ¬ n = 0 by omega)]
    rw [show S.f32.fractionBits + 2 = 25 from rfl, ← hmore, Nat.shiftLeft_eq, ← hdvd, ← hQ, ← hst]
    rfl
  obtain ⟨I, hI⟩ : ∃ I : Nat, I = (i + 149).toNat := ⟨_, rfl⟩
  obtain ⟨J, hJ⟩ : ∃ J : Nat, J = (j + 149).toNat := ⟨_, rfl⟩
  rw [← hI] at ax vx
  rw [← hJ] at ay vy
  have sx : S.fval x = if s then -(((S.fval x).natAbs : Nat) : Int) else (((S.fval x).natAbs : Nat) : Int) := by rw [vx]; exact S.signed_abs s m I
  have sy : S.fval y = if t then -(((S.fval y).natAbs : Nat) : Int) else (((S.fval y).natAbs : Nat) : Int) := by rw [vy]; exact S.signed_abs t n J
  have hP : (i - j - more - 1 : Int) + 149 + ((J + more + 1 : Nat) : Int) = ((I + S.fixE : Nat) : Int) := by omega
  by_cases h0 : m = 0
  · have hd0 : dvd = 0 := by rw [hdvd, h0, Nat.zero_mul]
    have hmag : 2 * Q + st = 0 := by rw [hst, hQ, hd0]; simp
    rw [hmag] at hr
    obtain ⟨hn2, R, hv, hnear⟩ := S.near_core (s ^^ t) 0 (i - j - more - 1) (J + more + 1) (I + S.fixE) hP (by rw [Nat.zero_mul]; exact Nat.two_pow_pos _)
    refine ⟨_, hr, hn2, FloatKind.f32.format.div_lt hr, s, t, R, hv, sx, sy, ?_⟩
    rw [ax, h0, Nat.zero_mul, Nat.zero_mul]
    rw [Nat.zero_mul] at hnear
    have hR : R = 0 := by have := (hnear 0 0 (by omega)).2.1 (by simp); simpa using this
    intro q k hq
    rw [hR]
    refine ⟨fun h => ?_, fun _ => Nat.zero_le _, fun _ _ _ => Nat.zero_le _⟩
    rcases Nat.mul_eq_zero.1 (Nat.le_zero.1 h) with h2 | h2
    · omega
    · exfalso; omega
  · have hQ0 : 16777216 ≤ Q := by
      rw [hQ, Nat.le_div_iff_mul_le hn, hdvd]
      have h1 : n < 2 ^ (n.log2 + 1) := Nat.lt_log2_self
      have h2 : 2 ^ m.log2 * 2 ^ more ≤ m * 2 ^ more := Nat.mul_le_mul_right _ (Nat.log2_self_le h0)
      rw [← Nat.pow_add] at h2
      have h3 : 2 ^ 24 * n ≤ 2 ^ 24 * 2 ^ (n.log2 + 1) := Nat.mul_le_mul_left _ (Nat.le_of_lt h1)
      rw [← Nat.pow_add] at h3
      have h4 : 2 ^ (24 + (n.log2 + 1)) ≤ 2 ^ (m.log2 + more) := Nat.pow_le_pow_right (by omega) (by omega)
      exact Nat.le_trans h3 (Nat.le_trans h4 h2)
    have hst1 : st ≤ 1 := by rw [hst]; cases (dvd % n != 0) <;> simp
    obtain ⟨V, hV⟩ : ∃ V, V = J + more + 1 := ⟨_, rfl⟩
    rw [← hV] at hP
    have hpv : 0 < 2 ^ V := Nat.two_pow_pos _
    have hpJ : 0 < 2 ^ J := Nat.two_pow_pos _
    have key : (S.fval x).natAbs * S.oneV * 2 ^ V = 2 * dvd * 2 ^ (I + S.fixE) * 2 ^ J := by
      rw [ax, hV, hdvd]; unfold S.oneV
      rw [Nat.pow_add 2 (J + more) 1, Nat.pow_add 2 J more, Nat.pow_add 2 I S.fixE, Nat.pow_one]
      simp only [Nat.mul_assoc, Nat.mul_comm, Nat.mul_left_comm]
    have hD : ∀ h : Nat, h * (S.fval y).natAbs * 2 ^ V = h * 2 ^ V * n * 2 ^ J := fun h => by
      rw [ay]; simp only [Nat.mul_assoc, Nat.mul_comm, Nat.mul_left_comm]
    have hA : (2 * Q + st) * 2 ^ (I + S.fixE) < 2 ^ (270 + V) := by
      have h1 : (2 * Q + st) * n ≤ 4 * dvd := by
        have h2 : Q * n ≤ dvd := by rw [hQ]; exact Nat.div_mul_le_self dvd n
        have h3 : (2 * Q + st) * n ≤ (4 * Q) * n := Nat.mul_le_mul_right _ (by omega)
        rw [Nat.mul_assoc] at h3; omega
      have h2 : (2 * Q + st) * 2 ^ (I + S.fixE) * (n * 2 ^ J) ≤ 2 * ((S.fval x).natAbs * S.oneV * 2 ^ V) := by
        rw [key]
        have := Nat.mul_le_mul_right (2 ^ (I + S.fixE) * 2 ^ J) h1
        calc (2 * Q + st) * 2 ^ (I + S.fixE) * (n * 2 ^ J) = (2 * Q + st) * n * (2 ^ (I + S.fixE) * 2 ^ J) := by simp only [Nat.mul_assoc, Nat.mul_comm, Nat.mul_left_comm]
          _ ≤ 4 * dvd * (2 ^ (I + S.fixE) * 2 ^ J) := this
          _ = 2 * (2 * dvd * 2 ^ (I + S.fixE) * 2 ^ J) := by rw [show 4 * dvd = 2 * (2 * dvd) by omega]; simp only [Nat.mul_assoc]
      have h3 : 2 * ((S.fval x).natAbs * S.oneV * 2 ^ V) ≤ 2 * (2 * (S.fval y).natAbs * S.oneV * 2 ^ V) := Nat.mul_le_mul_left _ (Nat.mul_le_mul_right _ (Nat.mul_le_mul_right _ hxy))
      have h5 : 2 * (2 * (S.fval y).natAbs * S.oneV * 2 ^ V) = 2 ^ (S.fixE + V + 2) * (n * 2 ^ J) := by
        rw [ay]; unfold S.oneV
        rw [Nat.pow_add 2 (S.fixE + V) 2, Nat.pow_add 2 S.fixE V, show (2 : Nat) ^ 2 = 2 * 2 from rfl]
        simp only [Nat.mul_assoc, Nat.mul_comm, Nat.mul_left_comm]
      rw [h5] at h3
      have h7 := Nat.le_of_mul_le_mul_right (Nat.le_trans h2 h3) (Nat.mul_pos hn hpJ)
      exact Nat.lt_of_le_of_lt h7 (Nat.pow_lt_pow_right (by omega) (by clear h1 h2 h3 h5 h7 key hD; omega))
    obtain ⟨hn2, R, hv, hnear⟩ := S.near_core (s ^^ t) (2 * Q + st) (i - j - more - 1) V (I + S.fixE) hP hA
    refine ⟨_, hr, hn2, FloatKind.f32.format.div_lt hr, s, t, R, hv, sx, sy, ?_⟩
    intro q k hq
    obtain ⟨n1, n2, n3⟩ := hnear q k hq
    have e : ∀ z : Nat, z * 2 ^ k * 2 ^ V = z * 2 ^ (k + V) := fun z => by rw [Nat.mul_assoc, ← Nat.pow_add]
    rw [e] at n1 n2 n3
    obtain ⟨d1, d2, d3⟩ := S.div_sides dvd n Q st q (I + S.fixE) (k + V) hn hQ hst hQ0 hq
    refine ⟨fun h => n1 (d1 ?_), fun h => n2 (d2 ?_), fun hq0 hq1 h => n3 hq0 hq1 (d3 hq1 ?_)⟩
    · refine Nat.le_of_mul_le_mul_right ?_ hpJ
      have h2 := Nat.mul_le_mul_right (2 ^ V) h
      rw [key, hD, e] at h2
      exact h2
    · refine Nat.le_of_mul_le_mul_right ?_ hpJ
      have h2 := Nat.mul_le_mul_right (2 ^ V) h
      rw [key, hD, e] at h2
      exact h2
    · refine Nat.lt_of_mul_lt_mul_right (a := 2 ^ J) ?_
      have h2 := Nat.mul_lt_mul_of_pos_right h hpv
      rw [hD, e, Nat.mul_assoc, key, ← Nat.mul_assoc] at h2
      exact h2
/-- A share, or what is rounded like one. -/
def okQ (k : Nat) : Prop := S.isNum k ∧ 0 ≤ S.fval k ∧ S.fval k ≤ 2 * (S.oneV : Int)
/-- .. of two that are not negative: a share. -/
theorem share_of {x y : Nat} (hx : S.isNum x) (hy : S.isNum y) (h0 : 0 ≤ S.fval x) (h1 : 0 < S.fval y) (h2 : S.fval x ≤ 2 * S.fval y) :
    ∃ r, floatBits .quo .f32 x y = some r ∧ r < 4294967296 ∧ okQ r ∧ (S.fval x = S.fval y → S.fval r = (S.oneV : Int)) ∧ (S.fval x = 0 → S.fval r = 0) := by
  obtain ⟨r, e, hn, hl, s, t, R, v1, v2, v3, hnear⟩ := quo_two hx hy (by omega) (by omega)
  have ht : t = false := by
    cases t
    · rfl
    · simp only [if_true] at v3; omega
  subst ht
  have hO := oneS_pos
  have hone := hnear 1 S.fixE (by omega)
  have e1 : 1 * 2 ^ S.fixE = S.oneV := by rw [Nat.one_mul]; rfl
  rw [e1] at hone
  have htwo := hnear 2 S.fixE (by omega)
  have e2 : 2 * 2 ^ S.fixE = 2 * S.oneV := rfl
  rw [e2] at htwo
  have hR1 : R ≤ 2 * S.oneV := htwo.2.1 (by
    rw [show 2 * S.oneV * (S.fval y).natAbs = (2 * (S.fval y).natAbs) * S.oneV by simp only [Nat.mul_assoc, Nat.mul_comm, Nat.mul_left_comm]]
    exact Nat.mul_le_mul_right _ (by omega))
  have hv : (S.fval x = 0 ∧ R = 0) ∨ (S.fval r = (R : Int)) := by
    by_cases hz : S.fval x = 0
    · left
      refine ⟨hz, ?_⟩
      have := (hnear 0 0 (by omega)).2.1 (by rw [hz]; simp)
      simpa using this
    · right
      have hs : s = false := by
        cases s
        · rfl
        · simp only [if_true] at v2; omega
      subst hs
      simpa using v1
  have hr0 : 0 ≤ S.fval r ∧ S.fval r ≤ 2 * (S.oneV : Int) := by
    rcases hv with ⟨_, h⟩ | h
    · rw [h] at v1
      rw [v1]
      split <;> constructor <;> omega
    · rw [h]; omega
  refine ⟨r, e, hl, ⟨hn, hr0.1, hr0.2⟩, fun h => ?_, fun h => ?_⟩
  · have h3 : S.oneV ≤ R := hone.1 (by rw [h, Nat.mul_comm]; exact Nat.le_refl _)
    have h4 : R ≤ S.oneV := hone.2.1 (by rw [h, Nat.mul_comm]; exact Nat.le_refl _)
    rcases hv with ⟨hz, _⟩ | h5
    · omega
    · rw [h5]; omega
  · rcases hv with ⟨_, h4⟩ | h4
    · rw [h4] at v1; rw [v1]; split <;> rfl
    · have := (hnear 0 0 (by omega)).2.1 (by rw [h]; simp)
      rw [h4]
      have : R = 0 := by simpa using this
      omega
/-- A number of at most M. -/
def okB (M x : Nat) : Prop := x < 4294967296 ∧ S.isNum x ∧ (S.fval x).natAbs ≤ M * S.oneV
theorem okB_up {M M' x : Nat} (h : okB M x) (hM : M ≤ M') : okB M' x := ⟨h.1, h.2.1, Nat.le_trans h.2.2 (Nat.mul_le_mul_right _ hM)⟩
theorem near_bd {v N : Int} {D c : Nat} (h : S.NearI v N D) (hc : c ≤ 16777216) (hN : N.natAbs ≤ c * S.oneV * D) : v.natAbs ≤ c * S.oneV := by
  have h1 := near_le h (rep_times c hc) (by
    have : (N.natAbs : Int) ≤ ((c * S.oneV * D : Nat) : Int) := by exact_mod_cast hN
    rw [Int.natCast_mul, Int.natCast_mul] at this
    omega)
  have h2 := near_ge h (S.rep_neg (rep_times c hc)) (by
    have : (N.natAbs : Int) ≤ ((c * S.oneV * D : Nat) : Int) := by exact_mod_cast hN
    rw [Int.natCast_mul, Int.natCast_mul] at this
    rw [Int.neg_mul]
    omega)
  have h3 : ((c * S.oneV : Nat) : Int) = (c : Int) * (S.oneV : Int) := Int.natCast_mul _ _
  omega
/-- A product with a number of at most c. -/
theorem mul_bd {M c x y : Nat} (hx : okB M x) (hy : S.isNum y ∧ (S.fval y).natAbs ≤ c * S.oneV) (hM : M * c ≤ 100000) :
    ∃ r, floatBits .mul .f32 x y = some r ∧ okB (M * c) r ∧ S.NearI (S.fval r) (S.fval x * S.fval y) S.oneV := by
  have hO := oneS_pos
  have hb : (S.fval x * S.fval y).natAbs ≤ M * c * S.oneV * S.oneV := by
    rw [Int.natAbs_mul, show M * c * S.oneV * S.oneV = (M * S.oneV) * (c * S.oneV) by simp only [Nat.mul_assoc, Nat.mul_comm, Nat.mul_left_comm]]
    exact Nat.mul_le_mul hx.2.2 hy.2
  obtain ⟨r, r1, r2, r3, r4⟩ := S.mul_op hx.2.1 hy.1 (by
    have h0 : (2 : Nat) ^ 100 = 1267650600228229401496703205376 := rfl
    have h1 : M * c * S.oneV * S.oneV < 2 ^ S.fixB * S.oneV := Nat.mul_lt_mul_of_pos_right (oneS_lt (M * c) (by omega)) hO
    rw [Nat.pow_add]
    exact Nat.lt_of_le_of_lt hb h1)
  have n1 := r4.near hO
  exact ⟨r, r1, ⟨r3, r2, near_bd n1 (by omega) hb⟩, n1⟩
/-- A number between two. -/
theorem mix_ex {M l x k : Nat} (hM : M ≤ 1000) (hl : okB M l) (hx : okB M x) (hk : okQ k) :
    ∃ r, DampIs l x k r ∧ okB (5 * M) r ∧ (S.fval k = 0 → S.fval r = S.fval l) := by
  have hO := oneS_pos
  have b1 := oneS_lt 100000 (by decide)
  have l1 := hl.2.2
  have x1 := hx.2.2
  have hMo : M * S.oneV ≤ 1000 * S.oneV := Nat.mul_le_mul_right _ hM
  have e2 : 2 * M * S.oneV = 2 * (M * S.oneV) := Nat.mul_assoc _ _ _
  have e3 : 5 * M * S.oneV = 5 * (M * S.oneV) := Nat.mul_assoc _ _ _
  have e4 : 2 * M * 2 * S.oneV = 4 * (M * S.oneV) := by rw [show 2 * M * 2 = 4 * M by omega]; exact Nat.mul_assoc _ _ _
  obtain ⟨d, d1, d2, d3, d4⟩ := S.sub_op hx.2.1 hl.2.1 (by omega)
  have n1 := d4.near (by omega)
  have db : (S.fval d).natAbs ≤ 2 * M * S.oneV := near_bd n1 (by omega) (by rw [Nat.mul_one, e2]; omega)
  obtain ⟨p, p1, ⟨p2, p3, p4⟩, n2⟩ := mul_bd (M := 2 * M) (c := 2) (x := d) (y := k) ⟨d3, d2, db⟩ ⟨hk.1, by have := hk.2; omega⟩ (by omega)
  rw [e4] at p4
  obtain ⟨r, r1, r2, r3, r4⟩ := S.add_op hl.2.1 p3 (by omega)
  have n3 := r4.near (by omega)
  refine ⟨r, ⟨d, p, d1, p1, r1⟩, ⟨r3, r2, near_bd n3 (by omega) (by rw [Nat.mul_one, e3]; omega)⟩, fun h => ?_⟩
  rw [h, Int.mul_zero] at n2
  have hp : S.fval p = 0 := S.NearI.exact (g := 0) (by rw [Int.zero_mul]; exact n2) repS_zero
  rw [hp, Int.add_zero] at n3
  exact near_one (g := S.fval l) n3 (S.rep_num hl.2.1)
theorem damp_fun {l x k r r' : Nat} (h : DampIs l x k r) (h' : DampIs l x k r') : r = r' := by
  obtain ⟨d, p, h1, h2, h3⟩ := h
  obtain ⟨d', p', h1', h2', h3'⟩ := h'
  rw [h1] at h1'
  obtain rfl := Option.some.inj h1'
  rw [h2] at h2'
  obtain rfl := Option.some.inj h2'
  rw [h3] at h3'
  exact Option.some.inj h3'

/-- A polar, as it lies in memory: where its lists lie, how long they are, and what they hold. -/
structure Pol where
  W : Option Addr
  nw : Nat
  cw : Nat
  ws : Nat → Nat
  A : Option Addr
  na : Nat
  ca : Nat
  av : Nat → Int
  S : Option Addr
  ns : Nat
  cs : Nat
  R : Nat → Option Addr
  rn : Nat → Nat
  rc : Nat → Nat
  sp : Nat → Nat → Nat

/-- A wind's speed. -/
def okA (x : Nat) : Prop := x < 4294967296 ∧ S.isNum x ∧ 0 ≤ S.fval x ∧ S.fval x ≤ 100 * (S.oneV : Int)
/-- A boat's speed. -/
def okS (x : Nat) : Prop := x < 4294967296 ∧ S.isNum x ∧ 0 ≤ S.fval x ∧ S.fval x ≤ 50 * (S.oneV : Int)
theorem okS_bd {x : Nat} (h : okS x) : okB 50 x := ⟨h.1, h.2.1, by have := h.2.2; omega⟩
def WindsOk4 (n : Nat) (ws : Nat → Nat) : Prop := (1 ≤ n ∧ n ≤ 12) ∧ (∀ i, i < n → okA (ws i) ∧ 0 < S.fval (ws i)) ∧ ∀ i, i + 1 < n → S.fval (ws i) < S.fval (ws (i + 1))
def AnglesOk (n : Nat) (av : Nat → Int) : Prop := (2 ≤ n ∧ n ≤ 24) ∧ av 0 = 0 ∧ av (n - 1) = 180 ∧ ∀ j, j + 1 < n → av j < av (j + 1)
def RowOk (n : Nat) (f : Nat → Nat) : Prop := ∀ k, k < n → okS (f k)
/-- A valid polar. -/
def PolOk (P : Pol) : Prop := WindsOk4 P.nw P.ws ∧ AnglesOk P.na P.av ∧ P.ns = P.nw ∧ ∀ i, i < P.ns → P.rn i = P.na ∧ RowOk P.na (P.sp i)
theorem asc_lt {n : Nat} {f : Nat → Int} (h : ∀ j, j + 1 < n → f j < f (j + 1)) : ∀ {i j : Nat}, i < j → j < n → f i < f j := by
  intro i j hij hj
  obtain ⟨d, rfl⟩ : ∃ d, j = i + 1 + d := ⟨j - (i + 1), by omega⟩
  induction d with
  | zero => exact h i hj
  | succ d ih => exact Int.lt_trans (ih (by omega) (by omega)) (h (i + 1 + d) hj)
theorem asc_le {n : Nat} {f : Nat → Int} (h : ∀ j, j + 1 < n → f j < f (j + 1)) {i j : Nat} (hij : i ≤ j) (hj : j < n) : f i ≤ f j := by
  rcases Nat.lt_or_ge i j with h1 | h1
  · exact Int.le_of_lt (asc_lt h h1 hj)
  · rw [show i = j by omega]; exact Int.le_refl _
/-- The last one that is at most x. -/
def LastIs (n : Nat) (f : Nat → Int) (x : Int) (j : Nat) : Prop := j < n ∧ f j ≤ x ∧ (j + 1 < n → x < f (j + 1))
theorem last_fun {n : Nat} {f : Nat → Int} (h : ∀ j, j + 1 < n → f j < f (j + 1)) {x : Int} {i j : Nat} (hi : LastIs n f x i) (hj : LastIs n f x j) : i = j := by
  obtain ⟨a1, a2, a3⟩ := hi
  obtain ⟨b1, b2, b3⟩ := hj
  rcases Nat.lt_trichotomy i j with h1 | h1 | h1
  · have := a3 (by omega)
    have := asc_le h (show i + 1 ≤ j by omega) b1
    omega
  · exact h1
  · have := b3 (by omega)
    have := asc_le h (show j + 1 ≤ i by omega) a1
    omega
theorem last_ex {n : Nat} {f : Nat → Int} {x : Int} (hn : 0 < n) (h0 : f 0 ≤ x) : ∃ j, LastIs n f x j := by
  suffices h : ∀ d i, i + d + 1 = n → f i ≤ x → ∃ j, LastIs n f x j by exact h (n - 1) 0 (by omega) h0
  intro d
  induction d with
  | zero => intro i hi hx; exact ⟨i, by omega, hx, fun h => by omega⟩
  | succ d ih =>
    intro i hi hx
    rcases Int.lt_or_le x (f (i + 1)) with h | h
    · exact ⟨i, by omega, hx, fun _ => h⟩
    · exact ih (i + 1) (by omega) h
/-- The speed of a row at an angle. -/
def RowSpd (P : Pol) (i : Nat) (a : Int) (r : Nat) : Prop :=
  ∃ j, LastIs P.na P.av a j ∧ ((P.av j = a ∧ r = P.sp i j) ∨
    (P.av j < a ∧ ∃ q, floatBits .quo .f32 (floatOfInt .f32 (a - P.av j)) (floatOfInt .f32 (P.av (j + 1) - P.av j)) = some q ∧ okQ q ∧ DampIs (P.sp i j) (P.sp i (j + 1)) q r))
theorem row_fun {P : Pol} (hP : PolOk P) {i : Nat} {a : Int} {r r' : Nat} (h : RowSpd P i a r) (h' : RowSpd P i a r') : r = r' := by
  obtain ⟨j, h1, h2⟩ := h
  obtain ⟨j', h1', h2'⟩ := h'
  obtain rfl := last_fun hP.2.1.2.2.2 h1 h1'
  rcases h2 with ⟨e, rfl⟩ | ⟨e, q, hq, _, hr⟩ <;> rcases h2' with ⟨e', rfl⟩ | ⟨e', q', hq', _, hr'⟩
  · rfl
  · omega
  · omega
  · rw [hq] at hq'
    obtain rfl := Option.some.inj hq'
    exact damp_fun hr hr'
/-- The share of an angle between two. -/
theorem angle_share {n : Nat} {av : Nat → Int} (h : AnglesOk n av) {a : Int} (h1 : a ≤ 180) {j : Nat} (hj : LastIs n av a j) (hlt : av j < a) :
    j + 1 < n ∧ 0 ≤ av j ∧ av (j + 1) ≤ 180 ∧ a < av (j + 1) ∧ ∃ q, floatBits .quo .f32 (floatOfInt .f32 (a - av j)) (floatOfInt .f32 (av (j + 1) - av j)) = some q ∧ q < 4294967296 ∧ okQ q := by
  obtain ⟨⟨n0, n1⟩, a0, a1, hasc⟩ := h
  obtain ⟨j1, j2, j3⟩ := hj
  have hjn : j + 1 < n := by
    rcases Nat.lt_or_ge (j + 1) n with h | h
    · exact h
    · rw [show n - 1 = j by omega] at a1
      omega
  have hb := j3 hjn
  have h0 : 0 ≤ av j := by rw [← a0]; exact asc_le hasc (Nat.zero_le _) j1
  have h2 : av (j + 1) ≤ 180 := by rw [← a1]; exact asc_le hasc (by omega) (by omega)
  obtain ⟨x1, x2⟩ := S.ofInt_val (a - av j) (by omega) (by omega)
  obtain ⟨y1, y2⟩ := S.ofInt_val (av (j + 1) - av j) (by omega) (by omega)
  have hO : (0 : Int) < (S.oneV : Int) := by have := oneS_pos; omega
  obtain ⟨q, q1, q2, q3, _⟩ := share_of x1 y1 (by rw [x2]; exact Int.le_of_lt (Int.mul_pos (by omega) hO)) (by rw [y2]; exact Int.mul_pos (by omega) hO) (by
    rw [x2, y2]
    have h5 : (a - av j) * (S.oneV : Int) ≤ (av (j + 1) - av j) * (S.oneV : Int) := Int.mul_le_mul_of_nonneg_right (by omega) (by omega)
    have h6 : 0 ≤ (av (j + 1) - av j) * (S.oneV : Int) := Int.mul_nonneg (by omega) (by omega)
    rw [Int.two_mul]; exact Int.le_trans h5 (Int.le_add_of_nonneg_left h6))
  exact ⟨hjn, h0, h2, hb, q, q1, q2, q3⟩
theorem row_ex {P : Pol} (hP : PolOk P) {i : Nat} (hi : i < P.ns) {a : Int} (h0 : 0 ≤ a) (h1 : a ≤ 180) : ∃ r, RowSpd P i a r ∧ okB 250 r := by
  obtain ⟨hw, ha, hns, hr⟩ := hP
  obtain ⟨j, hj⟩ := last_ex (n := P.na) (f := P.av) (x := a) (by have := ha.1; omega) (by rw [ha.2.1]; exact h0)
  rcases Int.lt_or_le (P.av j) a with hlt | hge
  · obtain ⟨j1, _, _, _, q, q1, q2, q3⟩ := angle_share ha h1 hj hlt
    obtain ⟨r, r1, r2, _⟩ := mix_ex (M := 50) (by omega) (okS_bd ((hr i hi).2 j hj.1)) (okS_bd ((hr i hi).2 (j + 1) j1)) q3
    exact ⟨r, ⟨j, hj, .inr ⟨hlt, q, q1, q3, r1⟩⟩, r2⟩
  · have he : P.av j = a := Int.le_antisymm hj.2.1 hge
    exact ⟨_, ⟨j, hj, .inl ⟨he, rfl⟩⟩, okB_up (okS_bd ((hr i hi).2 j hj.1)) (by omega)⟩
/-- The speed at a wind and an angle. -/
def Spd (P : Pol) (w : Nat) (a : Int) (r : Nat) : Prop :=
  (S.fval w ≤ S.fval (P.ws 0) ∧ ∃ q s, floatBits .quo .f32 w (P.ws 0) = some q ∧ RowSpd P 0 a s ∧ floatBits .mul .f32 q s = some r) ∨
  (S.fval (P.ws 0) < S.fval w ∧ ∃ i, LastIs P.nw (fun i => S.fval (P.ws i)) (S.fval w) i ∧
    ((i + 1 = P.nw ∧ RowSpd P i a r) ∨
     (i + 1 < P.nw ∧ ∃ d e q s t, floatBits .sub .f32 w (P.ws i) = some d ∧ floatBits .sub .f32 (P.ws (i + 1)) (P.ws i) = some e ∧ floatBits .quo .f32 d e = some q ∧ okQ q ∧ RowSpd P i a s ∧ RowSpd P (i + 1) a t ∧ DampIs s t q r)))
theorem spd_fun {P : Pol} (hP : PolOk P) {w : Nat} {a : Int} {r r' : Nat} (h : Spd P w a r) (h' : Spd P w a r') : r = r' := by
  rcases h with ⟨e, q, s, h1, h2, h3⟩ | ⟨e, i, h1, h2⟩ <;> rcases h' with ⟨e', q', s', h1', h2', h3'⟩ | ⟨e', i', h1', h2'⟩
  · rw [h1] at h1'
    obtain rfl := Option.some.inj h1'
    obtain rfl := row_fun hP h2 h2'
    rw [h3] at h3'
    exact Option.some.inj h3'
  · omega
  · omega
  · obtain rfl := last_fun hP.1.2.2 h1 h1'
    rcases h2 with ⟨f, h2⟩ | ⟨f, d, e, q, s, t, a1, a2, a3, _, a4, a5, a6⟩ <;> rcases h2' with ⟨f', h2'⟩ | ⟨f', d', e', q', s', t', b1, b2, b3, _, b4, b5, b6⟩
    · exact row_fun hP h2 h2'
    · omega
    · omega
    · rw [a1] at b1
      obtain rfl := Option.some.inj b1
      rw [a2] at b2
      obtain rfl := Option.some.inj b2
      rw [a3] at b3
      obtain rfl := Option.some.inj b3
      obtain rfl := row_fun hP a4 b4
      obtain rfl := row_fun hP a5 b5
      exact damp_fun a6 b6
/-- Below the first wind. -/
theorem low_share {w f : Nat} (hw : okA w) (hf : okA f) (h0 : 0 < S.fval f) (h : S.fval w ≤ S.fval f) : ∃ q, floatBits .quo .f32 w f = some q ∧ q < 4294967296 ∧ okQ q ∧ (S.fval w = S.fval f → S.fval q = (S.oneV : Int)) := by
  obtain ⟨q, q1, q2, q3, q4, _⟩ := share_of hw.2.1 hf.2.1 hw.2.2.1 h0 (by omega)
  exact ⟨q, q1, q2, q3, q4⟩
/-- Between two winds. -/
theorem mid_share {w u v : Nat} (hw : okA w) (hu : okA u) (hv : okA v) (h1 : S.fval u ≤ S.fval w) (h2 : S.fval w < S.fval v) :
    ∃ d e q, floatBits .sub .f32 w u = some d ∧ floatBits .sub .f32 v u = some e ∧ floatBits .quo .f32 d e = some q ∧ q < 4294967296 ∧ okQ q ∧ (S.fval w = S.fval u → S.fval q = 0) := by
  have b1 := oneS_lt 1000 (by decide)
  have hO := oneS_pos
  obtain ⟨_, w1, w2, w3⟩ := hw
  obtain ⟨_, u1, u2, u3⟩ := hu
  obtain ⟨_, v1, v2, v3⟩ := hv
  obtain ⟨d, d1, d2, d3, d4⟩ := S.sub_op w1 u1 (by omega)
  obtain ⟨e, e1, e2, e3, e4⟩ := S.sub_op v1 u1 (by omega)
  have n1 := d4.near (by omega)
  have n2 := e4.near (by omega)
  have rone : S.Rep 1 := ⟨1, 0, by omega, by simp⟩
  have hd0 : 0 ≤ S.fval d := near_ge n1 repS_zero (by omega)
  have he1 : 1 ≤ S.fval e := near_ge n2 rone (by omega)
  have hde : S.fval v - S.fval u ≤ 2 * S.fval e := by
    rcases Int.lt_or_le (2 * S.fval e) (S.fval v - S.fval u) with h | h
    · have := near_ge n2 (S.rep_two (S.rep_num e2)) (by rw [Int.natCast_one, Int.mul_one]; omega)
      omega
    · exact h
  have hdd : S.fval d ≤ 2 * S.fval e := near_le n1 (S.rep_two (S.rep_num e2)) (by rw [Int.natCast_one, Int.mul_one]; omega)
  obtain ⟨q, q1, q2, q3, _, q5⟩ := share_of d2 e2 hd0 (by omega) hdd
  refine ⟨d, e, q, d1, e1, q1, q2, q3, fun h => q5 ?_⟩
  rw [h, Int.sub_self] at n1
  exact near_one n1 repS_zero
theorem spd_ex {P : Pol} (hP : PolOk P) {w : Nat} (hw : okA w) {a : Int} (h0 : 0 ≤ a) (h1 : a ≤ 180) : ∃ r, Spd P w a r ∧ okB 1250 r := by
  obtain ⟨hwd, _, hns, _⟩ := id hP
  have hn := hwd.1
  rcases Int.lt_or_le (S.fval (P.ws 0)) (S.fval w) with hlt | hle
  · obtain ⟨i, hi⟩ := last_ex (n := P.nw) (f := fun i => S.fval (P.ws i)) (x := S.fval w) (by omega) (Int.le_of_lt hlt)
    obtain ⟨s, s1, s2⟩ := row_ex hP (i := i) (by have := hi.1; omega) h0 h1
    by_cases hl : i + 1 = P.nw
    · exact ⟨s, .inr ⟨hlt, i, hi, .inl ⟨hl, s1⟩⟩, okB_up s2 (by omega)⟩
    · have hi1 := hi.1
      obtain ⟨t, t1, t2⟩ := row_ex hP (i := i + 1) (by omega) h0 h1
      obtain ⟨d, e, q, q1, q2, q3, _, q5, _⟩ := mid_share hw (hwd.2.1 i hi1).1 (hwd.2.1 (i + 1) (by omega)).1 hi.2.1 (hi.2.2 (by omega))
      obtain ⟨r, r1, r2, _⟩ := mix_ex (M := 250) (by omega) s2 t2 q5
      exact ⟨r, .inr ⟨hlt, i, hi, .inr ⟨by omega, d, e, q, s, t, q1, q2, q3, q5, s1, t1, r1⟩⟩, r2⟩
  · obtain ⟨s, s1, s2⟩ := row_ex hP (i := 0) (by omega) h0 h1
    obtain ⟨q, q1, q2, q3, _⟩ := low_share hw (hwd.2.1 0 (by omega)).1 (hwd.2.1 0 (by omega)).2 hle
    obtain ⟨r, r1, r2, _⟩ := mul_bd (M := 2) (c := 250) (x := q) (y := s) ⟨q2, q3.1, by have := q3.2; omega⟩ s2.2 (by omega)
    exact ⟨r, .inl ⟨hle, q, s, q1, s1, r1⟩, okB_up r2 (by omega)⟩
/-- .. as functions. -/
noncomputable def rowS (P : Pol) (i : Nat) (a : Int) : Nat := by classical exact if h : ∃ r, RowSpd P i a r then h.choose else 0
noncomputable def spd (P : Pol) (w : Nat) (a : Int) : Nat := by classical exact if h : ∃ r, Spd P w a r then h.choose else 0
theorem rowS_is {P : Pol} (hP : PolOk P) {i : Nat} {a : Int} {r : Nat} (h : RowSpd P i a r) : rowS P i a = r := by
  unfold rowS
  rw [dif_pos ⟨r, h⟩]
  exact row_fun hP (Exists.choose_spec (⟨r, h⟩ : ∃ r, RowSpd P i a r)) h
theorem spd_is {P : Pol} (hP : PolOk P) {w : Nat} {a : Int} {r : Nat} (h : Spd P w a r) : spd P w a = r := by
  unfold spd
  rw [dif_pos ⟨r, h⟩]
  exact spd_fun hP (Exists.choose_spec (⟨r, h⟩ : ∃ r, Spd P w a r)) h
theorem rowS_ok {P : Pol} (hP : PolOk P) {i : Nat} (hi : i < P.ns) {a : Int} (h0 : 0 ≤ a) (h1 : a ≤ 180) : RowSpd P i a (rowS P i a) ∧ okB 250 (rowS P i a) := by
  obtain ⟨r, r1, r2⟩ := row_ex hP hi h0 h1
  rw [rowS_is hP r1]; exact ⟨r1, r2⟩
theorem spd_ok {P : Pol} (hP : PolOk P) {w : Nat} (hw : okA w) {a : Int} (h0 : 0 ≤ a) (h1 : a ≤ 180) : Spd P w a (spd P w a) ∧ okB 1250 (spd P w a) := by
  obtain ⟨r, r1, r2⟩ := spd_ex hP hw h0 h1
  rw [spd_is hP r1]; exact ⟨r1, r2⟩
/-- At its own winds and angles a polar tells its own numbers. -/
theorem spd_own {P : Pol} (hP : PolOk P) {i k : Nat} (hi : i < P.nw) (hk : k < P.na) : S.isNum (spd P (P.ws i) (P.av k)) ∧ spd P (P.ws i) (P.av k) < 4294967296 ∧ S.fval (spd P (P.ws i) (P.av k)) = S.fval (P.sp i k) := by
  obtain ⟨hwd, ha, hns, hr⟩ := id hP
  have hn := hwd.1
  have hn2 := ha.1
  have ha0 : 0 ≤ P.av k := by rw [← ha.2.1]; exact asc_le ha.2.2.2 (Nat.zero_le _) hk
  have ha1 : P.av k ≤ 180 := by rw [← ha.2.2.1]; exact asc_le ha.2.2.2 (by omega) (by omega)
  have hown : ∀ i, i < P.nw → RowSpd P i (P.av k) (P.sp i k) := fun i hi => ⟨k, ⟨hk, Int.le_refl _, fun h => ha.2.2.2 k h⟩, .inl ⟨rfl, rfl⟩⟩
  have hsp : ∀ i, i < P.nw → okB 50 (P.sp i k) := fun i hi => okS_bd ((hr i (by omega)).2 k hk)
  obtain ⟨_, o1, o2, _⟩ := (spd_ok hP (hwd.2.1 i hi).1 ha0 ha1)
  refine ⟨o2, o1, ?_⟩
  clear o1 o2
  by_cases h0 : i = 0
  · subst h0
    obtain ⟨q, q1, q2, q3, q4⟩ := low_share (hwd.2.1 0 hi).1 (hwd.2.1 0 hi).1 (hwd.2.1 0 hi).2 (Int.le_refl _)
    obtain ⟨r, r1, _, r3⟩ := mul_bd (M := 2) (c := 50) (x := q) (y := P.sp 0 k) ⟨q2, q3.1, by have := q3.2; omega⟩ (hsp 0 hi).2 (by omega)
    rw [spd_is hP (.inl ⟨Int.le_refl _, q, _, q1, hown 0 hi, r1⟩)]
    rw [q4 rfl, Int.mul_comm] at r3
    exact S.NearI.exact r3 (S.rep_num (hsp 0 hi).2.1)
  · have hlt : S.fval (P.ws 0) < S.fval (P.ws i) := asc_lt (f := fun i => S.fval (P.ws i)) hwd.2.2 (by omega) hi
    have hl : LastIs P.nw (fun i => S.fval (P.ws i)) (S.fval (P.ws i)) i := ⟨hi, Int.le_refl _, fun h => hwd.2.2 i h⟩
    by_cases hl1 : i + 1 = P.nw
    · rw [spd_is hP (.inr ⟨hlt, i, hl, .inl ⟨hl1, hown i hi⟩⟩)]
    · obtain ⟨d, e, q, q1, q2, q3, _, q5, q6⟩ := mid_share (hwd.2.1 i hi).1 (hwd.2.1 i hi).1 (hwd.2.1 (i + 1) (by omega)).1 (Int.le_refl _) (hwd.2.2 i (by omega))
      obtain ⟨r, r1, _, r3⟩ := mix_ex (M := 50) (by omega) (hsp i hi) (hsp (i + 1) (by omega)) q5
      rw [spd_is hP (.inr ⟨hlt, i, hl, .inr ⟨by omega, d, e, q, _, _, q1, q2, q3, q5, hown i hi, hown (i + 1) (by omega), r1⟩⟩)]
      exact r3 (q6 rfl)
end Go.Proofs.YtonoknbangnleaaGreat

/- Polars in memory; impl's checks: ascending, polarWindsOk, polarAnglesOk, polarRowOk, PolarOk. -/
namespace Go.Proofs.YtonoknbangnleaaGreat
open Go.RowKit Ieee
set_option linter.unusedSimpArgs false
set_option linter.unusedVariables false

/-- What could be read can be read again. -/
def Keeps (w w' : World) : Prop := w.heap.size ≤ w'.heap.size ∧ ∀ p v, w.cell? p = some v → w'.cell? p = some v
theorem Keeps.refl (w : World) : Keeps w w := ⟨Nat.le_refl _, fun _ _ h => h⟩
theorem Keeps.trans {a b c : World} (h : Keeps a b) (k : Keeps b c) : Keeps a c := ⟨Nat.le_trans h.1 k.1, fun p v hp => k.2 p v (h.2 p v hp)⟩
theorem Below.keeps {w w' : World} (h : Below w.heap.size w w') : Keeps w w' := ⟨h.size, fun p v hp => by
  rw [h.cell (World.block_lt_of_cell? w p hp)]; exact hp⟩
theorem keeps_drewN (w : World) (n : Nat) : Keeps w (w.drewN n) := ⟨Nat.le_refl _, fun _ _ h => h⟩
theorem keeps_alloc (w : World) (o : Obj) : Keeps w (w.alloc o) := ⟨by simp, fun p v hp => (World.cell?_alloc_lt w _ _ (World.block_lt_of_cell? w p hp)).trans hp⟩
/-- A list that lies in memory: its elements. -/
def Row (w : World) (A : Option Addr) (n : Nat) (V : Nat → Value) : Prop := 0 < n → ∃ g o, A = some ⟨g, o, none⟩ ∧ ∀ j, j < n → w.cell? ⟨g, o + j, none⟩ = some (V j)
theorem Row.keeps {w w' : World} {A : Option Addr} {n : Nat} {V : Nat → Value} (h : Row w A n V) (k : Keeps w w') : Row w' A n V := fun hn => by
  obtain ⟨g, o, e, hc⟩ := h hn
  exact ⟨g, o, e, fun j hj => k.2 _ _ (hc j hj)⟩
def fv (x : Nat) : Value := .float .f32 x
def iv (x : Int) : Value := .int .i64 x
/-- A list of singles, of ints. -/
def RowF (w : World) (A : Option Addr) (n : Nat) (f : Nat → Nat) : Prop := Row w A n (fun j => fv (f j)) ∧ n ≤ 1048576 ∧ ∀ j, j < n → f j < 4294967296
def RowI (w : World) (A : Option Addr) (n : Nat) (f : Nat → Int) : Prop := Row w A n (fun j => iv (f j)) ∧ n ≤ 1048576 ∧ ∀ j, j < n → -9223372036854775808 ≤ f j ∧ f j ≤ 9223372036854775807
/-- A polar in memory. -/
def PolIn (w : World) (P : Pol) : Prop :=
  RowF w P.W P.nw P.ws ∧ RowI w P.A P.na P.av ∧ (Row w P.S P.ns (fun i => .slice (P.R i) (P.rn i) (P.rc i)) ∧ P.ns ≤ 1048576) ∧ ∀ i, i < P.ns → RowF w (P.R i) (P.rn i) (P.sp i)
theorem RowF.keeps {w w' : World} {A : Option Addr} {n : Nat} {f : Nat → Nat} (h : RowF w A n f) (k : Keeps w w') : RowF w' A n f := ⟨h.1.keeps k, h.2⟩
theorem RowI.keeps {w w' : World} {A : Option Addr} {n : Nat} {f : Nat → Int} (h : RowI w A n f) (k : Keeps w w') : RowI w' A n f := ⟨h.1.keeps k, h.2⟩
theorem PolIn.keeps {w w' : World} {P : Pol} (h : PolIn w P) (k : Keeps w w') : PolIn w' P :=
  ⟨h.1.keeps k, h.2.1.keeps k, ⟨h.2.2.1.1.keeps k, h.2.2.1.2⟩, fun i hi => (h.2.2.2 i hi).keeps k⟩
def Pol.val (P : Pol) : Value := .agg #[.slice P.W P.nw P.cw, .slice P.A P.na P.ca, .slice P.S P.ns P.cs]

/-- Nothing but draws. -/
def Drawn (w w' : World) : Prop := ∃ m, w' = w.drewN m
theorem Drawn.refl (w : World) : Drawn w w := ⟨0, rfl⟩
theorem Drawn.one (w : World) (n : Nat) : Drawn w (w.drewN n) := ⟨n, rfl⟩
theorem Drawn.trans {a b c : World} (h : Drawn a b) (k : Drawn b c) : Drawn a c := by
  obtain ⟨n, rfl⟩ := h
  obtain ⟨m, rfl⟩ := k
  exact ⟨n + m, World.drewN_drewN _ _ _⟩
theorem Drawn.keeps {a b : World} (h : Drawn a b) : Keeps a b := by
  obtain ⟨n, rfl⟩ := h
  exact keeps_drewN a n
theorem drewN_below (w : World) (n : Nat) : Below w.heap.size w (w.drewN n) := ⟨rfl, rfl, rfl, Nat.le_refl _, fun _ _ => rfl⟩
/-- The answer to a question, nothing turned. -/
def SaysB (p : Prop) (w : World) (e : Ending) (w' : World) : Prop := ∃ t : Bool, (t = true ↔ p) ∧ e = .returned (.bool t) ∧ Drawn w w'
theorem SaysB.yes {p : Prop} {w : World} {e : Ending} {w' : World} (h : p) (he : e = .returned (.bool true)) (d : Drawn w w') : SaysB p w e w' := ⟨true, ⟨fun _ => h, fun _ => rfl⟩, he, d⟩
theorem SaysB.no {p : Prop} {w : World} {e : Ending} {w' : World} (h : ¬ p) (he : e = .returned (.bool false)) (d : Drawn w w') : SaysB p w e w' := ⟨false, ⟨fun e => (by cases e), fun e => absurd e h⟩, he, d⟩
theorem SaysB.iff {p q : Prop} {w : World} {e : Ending} {w' : World} (h : SaysB p w e w') (k : p ↔ q) : SaysB q w e w' := by
  obtain ⟨t, h1, h2, h3⟩ := h
  exact ⟨t, h1.trans k, h2, h3⟩
/-- The answer to a question, nothing old turned. -/
def SaysW (p : Prop) (w : World) (e : Ending) (w' : World) : Prop := ∃ t : Bool, (t = true ↔ p) ∧ e = .returned (.bool t) ∧ Below w.heap.size w w'
theorem SaysW.yes {p : Prop} {w : World} {e : Ending} {w' : World} (h : p) (he : e = .returned (.bool true)) (d : Below w.heap.size w w') : SaysW p w e w' := ⟨true, ⟨fun _ => h, fun _ => rfl⟩, he, d⟩
theorem SaysW.no {p : Prop} {w : World} {e : Ending} {w' : World} (h : ¬ p) (he : e = .returned (.bool false)) (d : Below w.heap.size w w') : SaysW p w e w' := ⟨false, ⟨fun e => (by cases e), fun e => absurd e h⟩, he, d⟩

theorem says_no {p : Prop} (h : false = true ↔ p) : ¬ p := fun hp => by cases h.2 hp
theorem says_yes {p : Prop} (h : true = true ↔ p) : p := h.1 rfl

/-! ### Comparisons -/
theorem ord_num {x y : Nat} (hx : S.isNum x) (hy : S.isNum y) : FloatKind.f32.format.order x y = some (compare (S.fval x) (S.fval y)) := S.order_val hx hy
theorem fifty_num : S.f32.read 1112014848 = .number false 13107200 (-18) := by kernel_rfl
theorem fifty_val : S.fval 1112014848 = 50 * (S.oneV : Int) := by
  have hf := S.fixE_eq
  unfold S.fval; rw [fifty_num]; show signed false 13107200 (-18 + 149 : Int).toNat = _
  rw [show (-18 + 149 : Int).toNat = S.fixE - 18 by omega, signed_eq]
  show ((13107200 * 2 ^ (S.fixE - 18) : Nat) : Int) = 50 * ((S.oneV : Nat) : Int)
  unfold S.oneV; rw [show (13107200 : Nat) = 50 * 2 ^ 18 from rfl, Nat.mul_assoc, ← Nat.pow_add, show 18 + (S.fixE - 18) = S.fixE by omega, Int.natCast_mul]; rfl
/-- A word is a number from 0 to C. -/
theorem range_flag (C : Nat) (hC : S.isNum C) (k : Nat) (hk : k < 4294967296) : ∃ t u : Bool, ((t && u) = true ↔ S.isNum k ∧ 0 ≤ S.fval k ∧ S.fval k ≤ S.fval C) ∧
    (FloatKind.f32.format.order 0 k == some .lt || FloatKind.f32.format.order 0 k == some .eq) = t ∧
    (FloatKind.f32.format.order k 0 == some .gt || FloatKind.f32.format.order k 0 == some .eq) = t ∧
    (FloatKind.f32.format.order k C == some .lt || FloatKind.f32.format.order k C == some .eq) = u := by
  have h0 := S.isNum_of S.nought_num
  by_cases hE : S.expo k < 255
  · have hn := S.num_of_expo hk hE
    have e1 : FloatKind.f32.format.order 0 k = some (compare 0 (S.fval k)) := by have := S.order_val h0 hn; rw [S.nought_val] at this; exact this
    have e2 : FloatKind.f32.format.order k 0 = some (compare (S.fval k) 0) := by have := S.order_val hn h0; rw [S.nought_val] at this; exact this
    rw [e1, e2, ord_num hn hC]
    refine ⟨_, _, ?_, rfl, ?_, rfl⟩
    · rw [Bool.and_eq_true, S.cmp_flag, S.cmp_flag]
      exact ⟨fun h => ⟨hn, h⟩, fun h => h.2⟩
    · generalize S.fval k = v
      rcases Int.lt_trichotomy v 0 with h | h | h
      · rw [Int.compare_eq_lt.2 h, Int.compare_eq_gt.2 h]; rfl
      · subst h; rfl
      · rw [Int.compare_eq_gt.2 h, Int.compare_eq_lt.2 h]; rfl
  · have hE2 : S.expo k = 255 := by have := S.expo_le k; omega
    have hno : ¬ (S.isNum k ∧ 0 ≤ S.fval k ∧ S.fval k ≤ S.fval C) := fun h => hE (S.expo_of_num hk h.1)
    rcases S.read_full hk hE2 with h | ⟨b, h⟩
    · have e2 : FloatKind.f32.format.order k 0 = some (if S.sneg k then .lt else .gt) := S.order_inf h h0
      have e3 : FloatKind.f32.format.order k C = some (if S.sneg k then .lt else .gt) := S.order_inf h hC
      have e1 : FloatKind.f32.format.order 0 k = some (if S.sneg k then .gt else .lt) := by
        have h' : FloatKind.f32.format.read k = .infinity (S.sneg k) := h
        unfold Format.order; rw [h', show FloatKind.f32.format.read 0 = _ from S.nought_num]; cases S.sneg k <;> rfl
      rw [e1, e2, e3]
      refine ⟨_, _, ?_, rfl, ?_, rfl⟩
      · cases S.sneg k <;> simp [hno]
      · cases S.sneg k <;> rfl
    · have e2 : ∀ z, FloatKind.f32.format.order k z = none := fun z => S.order_nan h z
      have e1 : FloatKind.f32.format.order 0 k = none := by
        have h' : FloatKind.f32.format.read k = .nan (S.sneg k) b := h
        unfold Format.order; rw [h', show FloatKind.f32.format.read 0 = _ from S.nought_num]; rfl
      rw [e1, e2, e2]
      exact ⟨false, false, by simp [hno], rfl, rfl, rfl⟩
theorem air_flag (k : Nat) (hk : k < 4294967296) : ∃ t u : Bool, ((t && u) = true ↔ okA k) ∧
    (FloatKind.f32.format.order 0 k == some .lt || FloatKind.f32.format.order 0 k == some .eq) = t ∧
    (FloatKind.f32.format.order k 0 == some .gt || FloatKind.f32.format.order k 0 == some .eq) = t ∧
    (FloatKind.f32.format.order k 1120403456 == some .lt || FloatKind.f32.format.order k 1120403456 == some .eq) = u := by
  obtain ⟨t, u, h, r⟩ := range_flag 1120403456 (S.isNum_of S.hund_num) k hk
  rw [S.hund_val] at h
  exact ⟨t, u, h.trans ⟨fun h => ⟨hk, h⟩, fun h => h.2⟩, r⟩
theorem boat_flag (k : Nat) (hk : k < 4294967296) : ∃ t u : Bool, ((t && u) = true ↔ okS k) ∧
    (FloatKind.f32.format.order 0 k == some .lt || FloatKind.f32.format.order 0 k == some .eq) = t ∧
    (FloatKind.f32.format.order k 0 == some .gt || FloatKind.f32.format.order k 0 == some .eq) = t ∧
    (FloatKind.f32.format.order k 1112014848 == some .lt || FloatKind.f32.format.order k 1112014848 == some .eq) = u := by
  obtain ⟨t, u, h, r⟩ := range_flag 1112014848 (S.isNum_of fifty_num) k hk
  rw [fifty_val] at h
  exact ⟨t, u, h.trans ⟨fun h => ⟨hk, h⟩, fun h => h.2⟩, r⟩
/-- Greater than 0. -/
theorem above_zero {x : Nat} (hx : x < 4294967296) (h : (FloatKind.f32.format.order x 0 == some .gt) = true) : (S.isNum x ∧ 0 < S.fval x) ∨ S.f32.read x = .infinity false := by
  have h0 := S.isNum_of S.nought_num
  have h' : FloatKind.f32.format.order x 0 = some .gt := by simpa using h
  by_cases hE : S.expo x < 255
  · have hn := S.num_of_expo hx hE
    rw [ord_num hn h0, S.nought_val] at h'
    exact .inl ⟨hn, Int.compare_eq_gt.1 (Option.some.inj h')⟩
  · have hE2 : S.expo x = 255 := by have := S.expo_le x; omega
    rcases S.read_full hx hE2 with hr | ⟨b, hr⟩
    · right
      have e2 : FloatKind.f32.format.order x 0 = some (if S.sneg x then .lt else .gt) := S.order_inf hr h0
      rw [e2] at h'
      cases hs : S.sneg x
      · rw [hr, hs]
      · rw [hs] at h'; cases h'
    · have e2 : FloatKind.f32.format.order x 0 = none := S.order_nan hr 0
      rw [e2] at h'; cases h'
theorem inf_lt {x y : Nat} (h : S.f32.read x = .infinity false) : FloatKind.f32.format.order x y ≠ some .lt := by
  have h' : FloatKind.f32.format.read x = .infinity false := h
  unfold Format.order
  rw [h']
  cases FloatKind.f32.format.read y with
  | infinity s => cases s <;> simp [Datum.order] <;> decide
  | nan s b => simp [Datum.order]
  | number s m i => simp [Datum.order]
theorem lt_above {x y : Nat} (hx : x < 4294967296) (hy : y < 4294967296) (h0 : (FloatKind.f32.format.order x 0 == some .gt) = true) (h : FloatKind.f32.format.order x y = some .lt) :
    S.isNum x ∧ (FloatKind.f32.format.order y 0 == some .gt) = true := by
  have z0 := S.isNum_of S.nought_num
  rcases above_zero hx h0 with ⟨hn, hv⟩ | hi
  · refine ⟨hn, ?_⟩
    by_cases hE : S.expo y < 255
    · have hny := S.num_of_expo hy hE
      rw [ord_num hn hny] at h
      have h1 := Int.compare_eq_lt.1 (Option.some.inj h)
      rw [ord_num hny z0, S.nought_val, Int.compare_eq_gt.2 (Int.lt_trans hv h1)]; rfl
    · have hE2 : S.expo y = 255 := by have := S.expo_le y; omega
      rcases S.read_full hy hE2 with hr | ⟨b, hr⟩
      · have e2 : FloatKind.f32.format.order y 0 = some (if S.sneg y then .lt else .gt) := S.order_inf hr z0
        rw [e2]
        cases hs : S.sneg y
        · rfl
        · exfalso
          obtain ⟨s, m, i, e, _⟩ := hn
          have hr' : FloatKind.f32.format.read y = .infinity true := by rw [← hs]; exact hr
          have e' : FloatKind.f32.format.read x = .number s m i := e
          unfold Format.order at h; rw [hr', e'] at h; simp [Datum.order] at h
      · exfalso
        obtain ⟨s, m, i, e, _⟩ := hn
        have hr' : FloatKind.f32.format.read y = .nan (S.sneg y) b := hr
        have e' : FloatKind.f32.format.read x = .number s m i := e
        unfold Format.order at h; rw [hr', e'] at h; simp [Datum.order] at h
  · exact absurd h (inf_lt hi)
/-- Winds by their comparisons. -/
def WindsBy (n : Nat) (f : Nat → Nat) : Prop := (1 ≤ n ∧ n ≤ 12) ∧ (FloatKind.f32.format.order (f 0) 0 == some .gt) = true ∧
  (FloatKind.f32.format.order (f (n - 1)) 1120403456 == some .lt || FloatKind.f32.format.order (f (n - 1)) 1120403456 == some .eq) = true ∧ ∀ i, i + 1 < n → FloatKind.f32.format.order (f i) (f (i + 1)) = some .lt
theorem winds_by {n : Nat} {f : Nat → Nat} (hf : ∀ j, j < n → f j < 4294967296) : WindsBy n f ↔ WindsOk4 n f := by
  constructor
  · rintro ⟨hn, h0, hl, hasc⟩
    have hpos : ∀ i, i < n → (FloatKind.f32.format.order (f i) 0 == some .gt) = true := by
      intro i
      induction i with
      | zero => intro _; exact h0
      | succ i ih => intro hi; exact (lt_above (hf i (by omega)) (hf (i + 1) hi) (ih (by omega)) (hasc i hi)).2
    have hnum : ∀ i, i < n → S.isNum (f i) := by
      intro i hi
      by_cases h : i + 1 < n
      · exact (lt_above (hf i (by omega)) (hf (i + 1) h) (hpos i hi) (hasc i h)).1
      · obtain rfl : i = n - 1 := by omega
        rcases above_zero (hf _ hi) (hpos _ hi) with h | h
        · exact h.1
        · exfalso
          have := S.order_inf h (S.isNum_of S.hund_num)
          have e : FloatKind.f32.format.order (f (n - 1)) 1120403456 = some .gt := this
          rw [e] at hl; cases hl
    have hval : ∀ i, i < n → 0 < S.fval (f i) := fun i hi => by
      rcases above_zero (hf _ hi) (hpos _ hi) with h | h
      · exact h.2
      · obtain ⟨s, m, j, e, _⟩ := hnum i hi
        rw [e] at h; cases h
    have hlt : ∀ i, i + 1 < n → S.fval (f i) < S.fval (f (i + 1)) := fun i hi => by
      have := hasc i hi
      rw [ord_num (hnum i (by omega)) (hnum (i + 1) hi)] at this
      exact Int.compare_eq_lt.1 (Option.some.inj this)
    have hlast : S.fval (f (n - 1)) ≤ 100 * (S.oneV : Int) := by
      rw [ord_num (hnum _ (by omega)) (S.isNum_of S.hund_num), S.hund_val] at hl
      exact (S.cmp_flag _ _).1 hl
    refine ⟨hn, fun i hi => ⟨⟨hf i hi, hnum i hi, Int.le_of_lt (hval i hi), ?_⟩, hval i hi⟩, hlt⟩
    exact Int.le_trans (asc_le (f := fun i => S.fval (f i)) hlt (show i ≤ n - 1 by omega) (by omega)) hlast
  · rintro ⟨hn, hok, hlt⟩
    refine ⟨hn, ?_, ?_, fun i hi => ?_⟩
    · rw [ord_num (hok 0 (by omega)).1.2.1 (S.isNum_of S.nought_num), S.nought_val, Int.compare_eq_gt.2 (hok 0 (by omega)).2]; rfl
    · rw [ord_num (hok (n - 1) (by omega)).1.2.1 (S.isNum_of S.hund_num), S.hund_val]
      exact (S.cmp_flag _ _).2 (hok (n - 1) (by omega)).1.2.2.2
    · rw [ord_num (hok i (by omega)).1.2.1 (hok (i + 1) hi).1.2.1, Int.compare_eq_lt.2 (hlt i hi)]

/-! ### The walks -/
set_option maxHeartbeats 400000 in
theorem i_air (k : Nat) (w : World) (hk : k < 4294967296) :
    Calls Tryz.prog 33 #[.float .f32 k] w fun e w' => ∃ t, (t = true ↔ okA k) ∧ e = .returned (.bool t) ∧ w = w' := by
  obtain ⟨t, u, h, f1, f2, f3⟩ := air_flag k hk
  have H := Lib.hid h
  clear h f2
  cases t <;> cases u
  all_goals
    go_enter Tryz.func33, Tryz.ntmps33
    go_wp2
    go_ret
    exact ⟨_, H.out, rfl, rfl⟩
set_option maxHeartbeats 400000 in
theorem i_boat (k : Nat) (w : World) (hk : k < 4294967296) :
    Calls Tryz.prog 83 #[.float .f32 k] w fun e w' => ∃ t, (t = true ↔ okS k) ∧ e = .returned (.bool t) ∧ w = w' := by
  obtain ⟨t, u, h, f1, f2, f3⟩ := boat_flag k hk
  have H := Lib.hid h
  clear h f2
  cases t <;> cases u
  all_goals
    go_enter Tryz.func83, Tryz.ntmps83
    go_wp2
    go_ret
    exact ⟨_, H.out, rfl, rfl⟩
set_option maxRecDepth 100000 in
set_option maxHeartbeats 1000000 in
theorem i_ascF (f : Nat → Nat) (A : Option Addr) (n cap : Nat) (w : World) (h : RowF w A n f) :
    Calls Tryz.prog 81 #[.slice A n cap] w fun e w' => SaysB (∀ i, i + 1 < n → FloatKind.f32.format.order (f i) (f (i + 1)) = some .lt) w e w' := by
  suffices hs : ∀ p : Prop, Hid (p ↔ (∀ i, i + 1 < n → FloatKind.f32.format.order (f i) (f (i + 1)) = some .lt)) → Calls Tryz.prog 81 #[.slice A n cap] w fun e w' => SaysB p w e w' from hs _ (Lib.hid Iff.rfl)
  intro p HP
  obtain ⟨hr, hn, _⟩ := h
  have HR := Lib.hid hr
  clear hr
  go_enter Tryz.func81, Tryz.ntmps81
  go_wp2
  go_loopw [3] (fun i wr => ∃ k m : Nat, k + 1 ≤ max n 1 ∧ i = .int .i64 ((k : Int) + 1) ∧ wr = w.drewN m ∧ ∀ j, j < k → FloatKind.f32.format.order (f j) (f (j + 1)) = some .lt) (fun i _ => n + 1 - (intOf i).toNat)
  case atStart => exact ⟨0, 0, by omega, rfl, rfl, fun j h => by omega⟩
  case round =>
    obtain ⟨k, m, hk, rfl, rfl, hall⟩ := hrel
    have HA := Lib.hid hall
    clear hall
    by_cases hlt : k + 1 < n
    · obtain ⟨g, o, rfl, hc⟩ := HR.out (by omega)
      have c1 : w.cell? ⟨g, o + k, none⟩ = some (fv (f k)) := hc k (by omega)
      have c2 : w.cell? ⟨g, o + (k + 1), none⟩ = some (fv (f (k + 1))) := hc (k + 1) hlt
      unfold fv at c1 c2
      clear hc
      have hk1 : (k : Int) + 1 < (n : Int) := by omega
      have wi : IntKind.i64.wrap (k : Int) = (k : Int) := IntWalk.i64_in _ (by omega)
      have i1 : (0 : Int) ≤ (k : Int) := by omega
      have i2 : (k : Int) < (n : Int) := by omega
      have i3 : (0 : Int) ≤ (k : Int) + 1 := by omega
      cases hb : (FloatKind.f32.format.order (f k) (f (k + 1)) == some .lt)
      · have hno : ¬ ∀ i, i + 1 < n → FloatKind.f32.format.order (f i) (f (i + 1)) = some .lt := fun h => by
          rw [h k hlt] at hb; cases hb
        have HN := Lib.hid hno
        clear hno
        generalize f k = x at *
        generalize f (k + 1) = y at *
        go_wp2
        go_quiet (fail)
        go_wp2
        go_ret
        exact SaysB.no (fun h => absurd (HP.out.1 h) HN.out) rfl ⟨_, World.drewN_drewN _ _ _⟩
      · have hyes : ∀ j, j < k + 1 → FloatKind.f32.format.order (f j) (f (j + 1)) = some .lt := fun j hj => by
          rcases Nat.lt_or_ge j k with h | h
          · exact HA.out j h
          · obtain rfl : j = k := by omega
            simpa using hb
        have HY := Lib.hid hyes
        clear hyes
        generalize f k = x at *
        generalize f (k + 1) = y at *
        go_wp2
        go_quiet (fail)
        go_wp2
        go_roundw
        case rel => exact ⟨k + 1, _, by omega, by go_num, rfl, HY.out⟩
        case measure => simp [intOf]; omega
    · have hk1 : ¬ ((k : Int) + 1 < (n : Int)) := by omega
      go_wp2
      go_ret
      exact SaysB.yes (HP.out.2 fun i hi => HA.out i (by omega)) rfl (Drawn.one _ _)
set_option maxRecDepth 100000 in
set_option maxHeartbeats 1000000 in
theorem i_ascI (f : Nat → Int) (A : Option Addr) (n cap : Nat) (w : World) (h : RowI w A n f) :
    Calls Tryz.prog 82 #[.slice A n cap] w fun e w' => SaysB (∀ i, i + 1 < n → f i < f (i + 1)) w e w' := by
  suffices hs : ∀ p : Prop, Hid (p ↔ (∀ i, i + 1 < n → f i < f (i + 1))) → Calls Tryz.prog 82 #[.slice A n cap] w fun e w' => SaysB p w e w' from hs _ (Lib.hid Iff.rfl)
  intro p HP
  obtain ⟨hr, hn, _⟩ := h
  have HR := Lib.hid hr
  clear hr
  go_enter Tryz.func82, Tryz.ntmps82
  go_wp2
  go_loopw [3] (fun i wr => ∃ k m : Nat, k + 1 ≤ max n 1 ∧ i = .int .i64 ((k : Int) + 1) ∧ wr = w.drewN m ∧ ∀ j, j < k → f j < f (j + 1)) (fun i _ => n + 1 - (intOf i).toNat)
  case atStart => exact ⟨0, 0, by omega, rfl, rfl, fun j h => by omega⟩
  case round =>
    obtain ⟨k, m, hk, rfl, rfl, hall⟩ := hrel
    have HA := Lib.hid hall
    clear hall
    by_cases hlt : k + 1 < n
    · obtain ⟨g, o, rfl, hc⟩ := HR.out (by omega)
      have c1 : w.cell? ⟨g, o + k, none⟩ = some (iv (f k)) := hc k (by omega)
      have c2 : w.cell? ⟨g, o + (k + 1), none⟩ = some (iv (f (k + 1))) := hc (k + 1) hlt
      unfold iv at c1 c2
      clear hc
      have hk1 : (k : Int) + 1 < (n : Int) := by omega
      have wi : IntKind.i64.wrap (k : Int) = (k : Int) := IntWalk.i64_in _ (by omega)
      have i1 : (0 : Int) ≤ (k : Int) := by omega
      have i2 : (k : Int) < (n : Int) := by omega
      have i3 : (0 : Int) ≤ (k : Int) + 1 := by omega
      cases hb : decide (f k < f (k + 1))
      case false =>
        have hno : ¬ ∀ i, i + 1 < n → f i < f (i + 1) := fun h => of_decide_eq_false hb (h k hlt)
        have HN := Lib.hid hno
        clear hno
        generalize f k = x at *
        generalize f (k + 1) = y at *
        go_wp2
        go_quiet (fail)
        go_wp2
        go_ret
        exact SaysB.no (fun h => absurd (HP.out.1 h) HN.out) rfl ⟨_, World.drewN_drewN _ _ _⟩
      case true =>
        have hyes : ∀ j, j < k + 1 → f j < f (j + 1) := fun j hj => by
          rcases Nat.lt_or_ge j k with h | h
          · exact HA.out j h
          · obtain rfl : j = k := by omega
            exact of_decide_eq_true hb
        have HY := Lib.hid hyes
        clear hyes
        generalize f k = x at *
        generalize f (k + 1) = y at *
        go_wp2
        go_quiet (fail)
        go_wp2
        go_roundw
        case rel => exact ⟨k + 1, _, by omega, by go_num, rfl, HY.out⟩
        case measure => simp [intOf]; omega
    · have hk1 : ¬ ((k : Int) + 1 < (n : Int)) := by omega
      go_wp2
      go_ret
      exact SaysB.yes (HP.out.2 fun i hi => HA.out i (by omega)) rfl (Drawn.one _ _)
set_option maxRecDepth 100000 in
set_option maxHeartbeats 1000000 in
theorem i_windsOk (f : Nat → Nat) (A : Option Addr) (n cap : Nat) (w : World) (h : RowF w A n f) :
    Calls Tryz.prog 57 #[.slice A n cap] w fun e w' => SaysB (WindsOk4 n f) w e w' := by
  suffices hs : ∀ p : Prop, Hid (p ↔ WindsBy n f) → Calls Tryz.prog 57 #[.slice A n cap] w fun e w' => SaysB p w e w' from
    (hs _ (Lib.hid Iff.rfl)).mono fun e w' h' => h'.iff (winds_by h.2.2)
  intro P HP
  have hn := h.2.1
  have HR := Lib.hid h
  clear h
  by_cases hr : 1 ≤ n ∧ n ≤ 12
  · have hn1 : (1 : Int) ≤ (n : Int) := by omega
    have hn2 : (n : Int) ≤ 12 := by omega
    have hasc := i_ascF f A n cap w HR.out
    obtain ⟨hrow, _, _⟩ := HR.out
    obtain ⟨g, o, rfl, hc⟩ := hrow (by omega)
    obtain ⟨p, rfl⟩ : ∃ p, n = p + 1 := ⟨n - 1, by omega⟩
    have c0 : w.cell? ⟨g, o, none⟩ = some (fv (f 0)) := hc 0 (by omega)
    have c1 : w.cell? ⟨g, o + p, none⟩ = some (fv (f p)) := hc p (by omega)
    unfold fv at c0 c1
    have e1 : ((p + 1 : Nat) : Int) = (p : Int) + 1 := by omega
    have i1 : (0 : Int) ≤ (p : Int) := by omega
    have i2 : (p : Int) < (p : Int) + 1 := by omega
    have i3 : (0 : Int) < (p : Int) + 1 := by omega
    have wi : IntKind.i64.wrap (p : Int) = (p : Int) := IntWalk.i64_in _ (by omega)
    have hW : P ↔ (FloatKind.f32.format.order (f 0) 0 == some .gt) = true ∧ (FloatKind.f32.format.order (f p) 1120403456 == some .lt || FloatKind.f32.format.order (f p) 1120403456 == some .eq) = true ∧ ∀ i, i + 1 < p + 1 → FloatKind.f32.format.order (f i) (f (i + 1)) = some .lt :=
      HP.out.trans ⟨fun h => ⟨h.2.1, h.2.2.1, h.2.2.2⟩, fun h => ⟨hr, h.1, h.2.1, h.2.2⟩⟩
    have HW := Lib.hid hW
    have HC := Lib.hid hasc
    clear hW hc hrow hasc
    cases b0 : (FloatKind.f32.format.order (f 0) 0 == some .gt)
    · have hno : ¬ P := fun h => by have := (HW.out.1 h).1; rw [b0] at this; cases this
      have HN := Lib.hid hno
      clear hno
      go_enter Tryz.func57, Tryz.ntmps57
      go_wp2
      go_ret
      exact SaysB.no HN.out rfl (Drawn.refl _)
    · cases b1 : (FloatKind.f32.format.order (f p) 1120403456 == some .lt || FloatKind.f32.format.order (f p) 1120403456 == some .eq)
      · have hno : ¬ P := fun h => by have := (HW.out.1 h).2.1; rw [b1] at this; cases this
        have HN := Lib.hid hno
        clear hno
        go_enter Tryz.func57, Tryz.ntmps57
        go_wp2
        go_ret
        exact SaysB.no HN.out rfl (Drawn.refl _)
      · have hB := Lib.hid (And.intro b0 b1)
        go_enter Tryz.func57, Tryz.ntmps57
        go_wp2_with fail
        refine HC.out.mono ?_
        rintro e w1 ⟨t, ht, rfl, m, rfl⟩
        cases t
        · have hno : ¬ P := fun h => says_no ht (HW.out.1 h).2.2
          have HN := Lib.hid hno
          clear hno ht
          go_wp2
          go_ret
          exact SaysB.no HN.out rfl (Drawn.one _ _)
        · have hyes : P := HW.out.2 ⟨b0, b1, says_yes ht⟩
          have HY := Lib.hid hyes
          clear hyes ht
          go_wp2
          go_ret
          exact SaysB.yes HY.out rfl (Drawn.one _ _)
  · have hno : ¬ P := fun h => hr (HP.out.1 h).1
    have HN := Lib.hid hno
    clear hno
    rcases Nat.lt_or_ge n 1 with h | h
    · obtain rfl : n = 0 := by omega
      go_enter Tryz.func57, Tryz.ntmps57
      go_wp2
      go_ret
      exact SaysB.no HN.out rfl (Drawn.refl _)
    · have hn1 : (1 : Int) ≤ (n : Int) := by omega
      have hn2 : ¬ ((n : Int) ≤ 12) := by omega
      go_enter Tryz.func57, Tryz.ntmps57
      go_wp2
      go_ret
      exact SaysB.no HN.out rfl (Drawn.refl _)
set_option maxRecDepth 100000 in
set_option maxHeartbeats 1000000 in
theorem i_anglesOk (f : Nat → Int) (A : Option Addr) (n cap : Nat) (w : World) (h : RowI w A n f) :
    Calls Tryz.prog 58 #[.slice A n cap] w fun e w' => SaysB (AnglesOk n f) w e w' := by
  suffices hs : ∀ p : Prop, Hid (p ↔ AnglesOk n f) → Calls Tryz.prog 58 #[.slice A n cap] w fun e w' => SaysB p w e w' from hs _ (Lib.hid Iff.rfl)
  intro P HP
  have hn := h.2.1
  have HR := Lib.hid h
  clear h
  by_cases hr : 2 ≤ n ∧ n ≤ 24
  · have hn1 : (2 : Int) ≤ (n : Int) := by omega
    have hn2 : (n : Int) ≤ 24 := by omega
    have hasc := i_ascI f A n cap w HR.out
    obtain ⟨hrow, _, _⟩ := HR.out
    obtain ⟨g, o, rfl, hc⟩ := hrow (by omega)
    obtain ⟨p, rfl⟩ : ∃ p, n = p + 1 := ⟨n - 1, by omega⟩
    have c0 : w.cell? ⟨g, o, none⟩ = some (iv (f 0)) := hc 0 (by omega)
    have c1 : w.cell? ⟨g, o + p, none⟩ = some (iv (f p)) := hc p (by omega)
    unfold iv at c0 c1
    have e1 : ((p + 1 : Nat) : Int) = (p : Int) + 1 := by omega
    have i1 : (0 : Int) ≤ (p : Int) := by omega
    have i2 : (p : Int) < (p : Int) + 1 := by omega
    have i3 : (0 : Int) < (p : Int) + 1 := by omega
    have i4 : (2 : Int) ≤ (p : Int) + 1 := by omega
    have i5 : (p : Int) + 1 ≤ 24 := by omega
    have wi : IntKind.i64.wrap (p : Int) = (p : Int) := IntWalk.i64_in _ (by omega)
    have hW : P ↔ f 0 = 0 ∧ f p = 180 ∧ ∀ i, i + 1 < p + 1 → f i < f (i + 1) := HP.out.trans ⟨fun h => ⟨h.2.1, h.2.2.1, h.2.2.2⟩, fun h => ⟨hr, h.1, h.2.1, h.2.2⟩⟩
    have HW := Lib.hid hW
    have HC := Lib.hid hasc
    clear hW hc hrow hasc
    by_cases b0 : f 0 = 0
    · rw [b0] at c0
      by_cases b1 : f p = 180
      · rw [b1] at c1
        have HB := Lib.hid (And.intro b0 b1)
        clear b0 b1
        go_enter Tryz.func58, Tryz.ntmps58
        go_wp2_with fail
        refine HC.out.mono ?_
        rintro e w1 ⟨t, ht, rfl, m, rfl⟩
        cases t
        · have hno : ¬ P := fun h => says_no ht (HW.out.1 h).2.2
          have HN := Lib.hid hno
          clear hno ht
          go_wp2
          go_ret
          exact SaysB.no HN.out rfl (Drawn.one _ _)
        · have hyes : P := HW.out.2 ⟨HB.out.1, HB.out.2, says_yes ht⟩
          have HY := Lib.hid hyes
          clear hyes ht
          go_wp2
          go_ret
          exact SaysB.yes HY.out rfl (Drawn.one _ _)
      · have hno : ¬ P := fun h => b1 (HW.out.1 h).2.1
        have HN := Lib.hid hno
        clear hno b0
        generalize f p = y at *
        go_enter Tryz.func58, Tryz.ntmps58
        go_wp2
        go_ret
        exact SaysB.no HN.out rfl (Drawn.refl _)
    · have hno : ¬ P := fun h => b0 (HW.out.1 h).1
      have HN := Lib.hid hno
      clear hno
      generalize f 0 = y at *
      go_enter Tryz.func58, Tryz.ntmps58
      go_wp2
      go_ret
      exact SaysB.no HN.out rfl (Drawn.refl _)
  · have hno : ¬ P := fun h => hr (HP.out.1 h).1
    have HN := Lib.hid hno
    clear hno
    rcases Nat.lt_or_ge n 2 with h | h
    · have hn1 : ¬ ((2 : Int) ≤ (n : Int)) := by omega
      go_enter Tryz.func58, Tryz.ntmps58
      go_wp2
      go_ret
      exact SaysB.no HN.out rfl (Drawn.refl _)
    · have hn1 : (2 : Int) ≤ (n : Int) := by omega
      have hn2 : ¬ ((n : Int) ≤ 24) := by omega
      go_enter Tryz.func58, Tryz.ntmps58
      go_wp2
      go_ret
      exact SaysB.no HN.out rfl (Drawn.refl _)
set_option maxRecDepth 100000 in
set_option maxHeartbeats 1000000 in
theorem i_rowOk (f : Nat → Nat) (A : Option Addr) (n cap c : Nat) (w : World) (h : RowF w A n f) (hcl : c ≤ 1048576) :
    Calls Tryz.prog 59 #[.slice A n cap, .int .i64 c] w fun e w' => SaysB (n = c ∧ RowOk n f) w e w' := by
  suffices hs : ∀ p : Prop, Hid (p ↔ n = c ∧ RowOk n f) → Calls Tryz.prog 59 #[.slice A n cap, .int .i64 c] w fun e w' => SaysB p w e w' from hs _ (Lib.hid Iff.rfl)
  intro P HP
  obtain ⟨hr, hn, hf⟩ := h
  have HR := Lib.hid hr
  have HF := Lib.hid hf
  clear hr hf
  by_cases hnc : n = c
  · subst hnc
    go_enter Tryz.func59, Tryz.ntmps59
    go_wp2
    go_loop [13] (fun i => ∃ k : Nat, k ≤ n ∧ i = .int .i64 k ∧ ∀ j, j < k → okS (f j)) (fun i => n - (intOf i).toNat)
    case atStart => exact ⟨0, Nat.zero_le _, rfl, fun j h => by omega⟩
    case round =>
      obtain ⟨k, hk, rfl, hall⟩ := hrel
      have HA := Lib.hid hall
      clear hall
      by_cases hlt : k < n
      · obtain ⟨g, o, rfl, hc⟩ := HR.out (by omega)
        have c1 : w.cell? ⟨g, o + k, none⟩ = some (fv (f k)) := hc k (by omega)
        unfold fv at c1
        have fl := HF.out k hlt
        have hk1 : (k : Int) < (n : Int) := by omega
        clear hc
        have hb := fun w => i_boat (f k) w fl
        generalize hx : f k = x at *
        have HX := Lib.hid hx
        clear hx fl
        go_wp2_with fail
        refine (hb _).mono ?_
        rintro e w1 ⟨t, ht, rfl, rfl⟩
        clear hb
        cases t
        · have hno : ¬ P := fun h => says_no ht (by rw [← HX.out]; exact (HP.out.1 h).2 k hlt)
          have HN := Lib.hid hno
          clear hno ht
          go_wp2
          go_ret
          exact SaysB.no HN.out rfl (Drawn.refl _)
        · have HT := Lib.hid (says_yes ht)
          clear ht
          go_wp2
          go_round
          case rel => exact ⟨k + 1, by omega, by go_num, fun j hj => by
            rcases Nat.lt_or_ge j k with h | h
            · exact HA.out j h
            · obtain rfl : j = k := by omega
              rw [HX.out]; exact HT.out⟩
          case measure => simp [intOf]; omega
      · obtain rfl : k = n := by omega
        go_wp2
        go_ret
        exact SaysB.yes (HP.out.2 ⟨trivial, HA.out⟩) rfl (Drawn.refl _)
  · have hnc1 : ¬ ((n : Int) = (c : Int)) := by omega
    have hno : ¬ P := fun h => hnc (HP.out.1 h).1
    have HN := Lib.hid hno
    clear hno
    go_enter Tryz.func59, Tryz.ntmps59
    go_wp2
    go_ret
    exact SaysB.no HN.out rfl (Drawn.refl _)
end Go.Proofs.YtonoknbangnleaaGreat

/- impl.PolarOk; binary search, lastUpTo. -/
namespace Go.Proofs.YtonoknbangnleaaGreat
open Go.RowKit Ieee
set_option linter.unusedSimpArgs false
set_option linter.unusedVariables false

/-- The box of a polar. -/
def boxP (P : Pol) : Obj := .cells #[.slice P.W P.nw P.cw, .slice P.A P.na P.ca, .slice P.S P.ns P.cs] 28
set_option maxRecDepth 100000 in
set_option maxHeartbeats 1000000 in
theorem i_polarOk (P : Pol) (w : World) (h : PolIn w P) :
    Calls Tryz.prog 32 #[.agg #[.slice P.W P.nw P.cw, .slice P.A P.na P.ca, .slice P.S P.ns P.cs]] w fun e w' => SaysW (PolOk P) w e w' := by
  suffices hs : ∀ p : Prop, Hid (p ↔ PolOk P) → Calls Tryz.prog 32 #[.agg #[.slice P.W P.nw P.cw, .slice P.A P.na P.ca, .slice P.S P.ns P.cs]] w fun e w' => SaysW p w e w' from hs _ (Lib.hid Iff.rfl)
  intro p HP
  obtain ⟨W, nw, cw, ws, A, na, ca, av, Z, ns, cs, R, rn, rc, sp⟩ := P
  have HI := Lib.hid h
  clear h
  dsimp only
  have hb0 : Below w.heap.size w (w.alloc (.cells #[.slice W nw cw, .slice A na ca, .slice Z ns cs] 28)) := (Below.refl _ w).alloc (Nat.le_refl _) _
  have hk0 : Keeps w (w.alloc (.cells #[.slice W nw cw, .slice A na ca, .slice Z ns cs] 28)) := keeps_alloc _ _
  have hx0 : (w.alloc (.cells #[.slice W nw cw, .slice A na ca, .slice Z ns cs] 28)).heap[w.heap.size]? = some (.cells #[.slice W nw cw, .slice A na ca, .slice Z ns cs] 28) := heap_alloc_new w _
  have HB := Lib.hid (And.intro hb0 (And.intro hk0 hx0))
  clear hb0 hk0 hx0
  go_enter Tryz.func32, Tryz.ntmps32
  go_wp2_with fail
  refine (i_windsOk ws W nw cw _ (HI.out.1.keeps HB.out.2.1)).mono ?_
  rintro e w1 ⟨t, ht, rfl, m, rfl⟩
  cases t
  · have hno : ¬ p := fun h => says_no ht (HP.out.1 h).1
    have HN := Lib.hid hno
    clear hno ht
    go_wp2
    go_ret
    exact SaysW.no HN.out rfl (below_drewN HB.out.1 _)
  · have H1 := Lib.hid (says_yes ht)
    clear ht
    go_wp2_with fail
    refine (i_anglesOk av A na ca _ (HI.out.2.1.keeps (HB.out.2.1.trans (keeps_drewN _ _)))).mono ?_
    rintro e w1 ⟨t, ht, rfl, m2, rfl⟩
    cases t
    · have hno : ¬ p := fun h => says_no ht (HP.out.1 h).2.1
      have HN := Lib.hid hno
      clear hno ht
      go_wp2
      go_ret
      exact SaysW.no HN.out rfl (below_drewN HB.out.1 _)
    · have H2 := Lib.hid (says_yes ht)
      clear ht
      have hns := HI.out.2.2.1.2
      have hna := HI.out.2.1.2.1
      have hnw := HI.out.1.2.1
      by_cases heq : ns = nw
      · have H3 := Lib.hid heq
        have heq1 : ((ns : Nat) : Int) = ((nw : Nat) : Int) := by omega
        clear heq
        go_wp2
        go_loopw [27] (fun i wr => ∃ k m : Nat, k ≤ ns ∧ i = .int .i64 k ∧ wr = (w.alloc (.cells #[.slice W nw cw, .slice A na ca, .slice Z ns cs] 28)).drewN m ∧ ∀ j, j < k → rn j = na ∧ RowOk na (sp j)) (fun i _ => ns - (intOf i).toNat)
        case atStart => exact ⟨0, _, Nat.zero_le _, rfl, rfl, fun j h => by omega⟩
        case round =>
          obtain ⟨k, m3, hk, rfl, rfl, hall⟩ := hrel
          have HA := Lib.hid hall
          clear hall
          by_cases hlt : k < ns
          · obtain ⟨g, o, rfl, hc⟩ := (HI.out.2.2.1.1.keeps HB.out.2.1) (show 0 < ns by omega)
            have c1 := hc k hlt
            have hrow := fun m => (HI.out.2.2.2 k hlt).keeps (HB.out.2.1.trans (keeps_drewN _ m))
            have HR := Lib.hid hrow
            have hk1 : (k : Int) < (ns : Int) := by omega
            clear hc hrow
            go_wp2_with fail
            refine (i_rowOk (sp k) (R k) (rn k) (rc k) na _ (HR.out _) hna).mono ?_
            rintro e w1 ⟨t, ht, rfl, m4, rfl⟩
            cases t
            · have hno : ¬ p := fun h => says_no ht (by
                have h2 : rn k = na ∧ RowOk na (sp k) := (HP.out.1 h).2.2.2 k hlt
                exact ⟨h2.1, by rw [h2.1]; exact h2.2⟩)
              have HN := Lib.hid hno
              clear hno ht
              go_wp2
              go_ret
              exact SaysW.no HN.out rfl (below_drewN HB.out.1 _)
            · have hyes : rn k = na ∧ RowOk na (sp k) := by
                have h2 := says_yes ht
                exact ⟨h2.1, by rw [← h2.1]; exact h2.2⟩
              have HT := Lib.hid hyes
              clear ht hyes
              go_wp2
              go_roundw
              case rel => exact ⟨k + 1, _, by omega, by go_num, rfl, fun j hj => by
                rcases Nat.lt_or_ge j k with h | h
                · exact HA.out j h
                · obtain rfl : j = k := by omega
                  exact HT.out⟩
              case measure => simp [intOf]; omega
          · have hke : k = ns := by omega
            have hyes : p := HP.out.2 ⟨H1.out, H2.out, H3.out, fun i (hi : i < ns) => HA.out i (by omega)⟩
            have HY := Lib.hid hyes
            have hk1 : ¬ ((k : Int) < (ns : Int)) := by omega
            clear hyes
            go_wp2
            go_ret
            exact SaysW.yes HY.out rfl (below_drewN HB.out.1 _)
      · have heq1 : ¬ (((ns : Nat) : Int) = ((nw : Nat) : Int)) := by omega
        have hno : ¬ p := fun h => heq (HP.out.1 h).2.2.1
        have HN := Lib.hid hno
        clear hno
        go_wp2
        go_ret
        exact SaysW.no HN.out rfl (below_drewN HB.out.1 _)
end Go.Proofs.YtonoknbangnleaaGreat

/- Binary search and lastUpTo. -/
namespace Go.Proofs.YtonoknbangnleaaGreat
open Go.RowKit Ieee
set_option linter.unusedSimpArgs false
set_option linter.unusedVariables false

theorem ord_self {a : Nat} (ha : S.isNum a) : FloatKind.f32.format.order a a = some .eq := by rw [ord_num ha ha, Int.compare_eq_eq.2 rfl]
theorem ord_lt {a b : Nat} (ha : S.isNum a) (hb : S.isNum b) : (FloatKind.f32.format.order a b == some .lt) = decide (S.fval a < S.fval b) := by
  rw [ord_num ha hb]
  rcases Int.lt_trichotomy (S.fval a) (S.fval b) with h | h | h
  · rw [Int.compare_eq_lt.2 h, decide_eq_true h]; rfl
  · rw [Int.compare_eq_eq.2 h, decide_eq_false (by omega)]; rfl
  · rw [Int.compare_eq_gt.2 h, decide_eq_false (by omega)]; rfl
theorem ord_eq {a b : Nat} (ha : S.isNum a) (hb : S.isNum b) : (FloatKind.f32.format.order a b == some .eq) = decide (S.fval a = S.fval b) := by
  rw [ord_num ha hb]
  rcases Int.lt_trichotomy (S.fval a) (S.fval b) with h | h | h
  · rw [Int.compare_eq_lt.2 h, decide_eq_false (by omega)]; rfl
  · rw [Int.compare_eq_eq.2 h, decide_eq_true h]; rfl
  · rw [Int.compare_eq_gt.2 h, decide_eq_false (by omega)]; rfl
theorem ord_le {a b : Nat} (ha : S.isNum a) (hb : S.isNum b) : (FloatKind.f32.format.order a b == some .lt || FloatKind.f32.format.order a b == some .eq) = decide (S.fval a ≤ S.fval b) := by
  rw [ord_lt ha hb, ord_eq ha hb]
  rcases Int.lt_trichotomy (S.fval a) (S.fval b) with h | h | h
  · rw [decide_eq_true h, decide_eq_true (Int.le_of_lt h)]; rfl
  · rw [decide_eq_true h, decide_eq_true (Int.le_of_eq h), Bool.or_true]
  · rw [decide_eq_false (by omega), decide_eq_false (by omega), decide_eq_false (by omega)]; rfl
theorem ord_ge {a b : Nat} (ha : S.isNum a) (hb : S.isNum b) : (FloatKind.f32.format.order a b == some .gt || FloatKind.f32.format.order a b == some .eq) = decide (S.fval b ≤ S.fval a) := by
  rw [ord_num ha hb]
  rcases Int.lt_trichotomy (S.fval a) (S.fval b) with h | h | h
  · rw [Int.compare_eq_lt.2 h, decide_eq_false (by omega)]; rfl
  · rw [Int.compare_eq_eq.2 h, decide_eq_true (by omega)]; rfl
  · rw [Int.compare_eq_gt.2 h, decide_eq_true (by omega)]; rfl
theorem ord_gt {a b : Nat} (ha : S.isNum a) (hb : S.isNum b) : (FloatKind.f32.format.order a b == some .gt) = decide (S.fval b < S.fval a) := by
  rw [ord_num ha hb]
  rcases Int.lt_trichotomy (S.fval a) (S.fval b) with h | h | h
  · rw [Int.compare_eq_lt.2 h, decide_eq_false (by omega)]; rfl
  · rw [Int.compare_eq_eq.2 h, decide_eq_false (by omega)]; rfl
  · rw [Int.compare_eq_gt.2 h, decide_eq_true (by omega)]; rfl

set_option maxHeartbeats 400000 in
theorem i_lessF (a b : Nat) (w : World) (ha : S.isNum a) (hb : S.isNum b) :
    Calls Tryz.prog 98 #[.float .f32 a, .float .f32 b] w fun e w' => e = .returned (.bool (decide (S.fval a < S.fval b))) ∧ w = w' := by
  have e1 := ord_self ha
  have e2 := ord_self hb
  have e3 := ord_lt ha hb
  generalize decide (S.fval a < S.fval b) = t at *
  cases t
  all_goals
    go_enter Tryz.func98, Tryz.ntmps98
    go_wp2
    go_ret
    exact ⟨rfl, rfl⟩
set_option maxHeartbeats 400000 in
theorem i_lessI (a b : Int) (w : World) :
    Calls Tryz.prog 108 #[.int .i64 a, .int .i64 b] w fun e w' => e = .returned (.bool (decide (a < b))) ∧ w = w' := by
  go_enter Tryz.func108, Tryz.ntmps108
  go_wp2
  go_ret
  exact ⟨rfl, rfl⟩
/-- Where the first one lies that is not less. -/
def FirstGe (n : Nat) (f : Nat → Int) (x : Int) (i : Nat) : Prop := i ≤ n ∧ (∀ j, j < i → f j < x) ∧ ∀ j, i ≤ j → j < n → x ≤ f j
/-- What a binary search tells. -/
def Found (n : Nat) (f : Nat → Int) (x : Int) (w : World) (e : Ending) (w' : World) : Prop :=
  ∃ (i : Nat) (b : Bool), FirstGe n f x i ∧ (b = true ↔ i < n ∧ f i = x) ∧ e = .returned (.tuple #[.int .i64 i, .bool b]) ∧ Drawn w w'
theorem Found.of {n : Nat} {f : Nat → Int} {x : Int} {w : World} {e : Ending} {w' : World} (i : Nat) (b : Bool) (h1 : FirstGe n f x i) (h2 : b = true ↔ i < n ∧ f i = x) (h3 : e = .returned (.tuple #[.int .i64 i, .bool b])) (h4 : Drawn w w') : Found n f x w e w' := ⟨i, b, h1, h2, h3, h4⟩
set_option maxRecDepth 100000 in
set_option maxHeartbeats 1000000 in
theorem i_searchF (f : Nat → Nat) (A : Option Addr) (n cap x : Nat) (w : World) (h : RowF w A n f) (hnum : ∀ j, j < n → S.isNum (f j)) (hx : S.isNum x) (hasc : ∀ j, j + 1 < n → S.fval (f j) < S.fval (f (j + 1))) :
    Calls Tryz.prog 84 #[.slice A n cap, .float .f32 x] w fun e w' => Found n (fun j => S.fval (f j)) (S.fval x) w e w' := by
  obtain ⟨hr, hn, _⟩ := h
  have HR := Lib.hid hr
  have HN := Lib.hid hnum
  have HS := Lib.hid hasc
  have ex := ord_self hx
  clear hr hnum hasc
  go_enter Tryz.func84, Tryz.ntmps84
  go_wp2
  go_loop [7, 8] (fun i j => ∃ a b : Nat, i = .int .i64 a ∧ j = .int .i64 b ∧ a ≤ b ∧ b ≤ n ∧ (∀ k, k < a → S.fval (f k) < S.fval x) ∧ ∀ k, b ≤ k → k < n → S.fval x ≤ S.fval (f k)) (fun i j => (intOf j).toNat - (intOf i).toNat)
  case atStart => exact ⟨0, n, rfl, rfl, Nat.zero_le _, Nat.le_refl _, fun k h => by omega, fun k h h2 => by omega⟩
  case round =>
    obtain ⟨a, b, rfl, rfl, hab, hb, hlo, hhi⟩ := hrel
    have HL := Lib.hid (And.intro hlo hhi)
    clear hlo hhi
    by_cases hlt : a < b
    · obtain ⟨g, o, rfl, hc⟩ := HR.out (by omega)
      have hlt1 : (a : Int) < (b : Int) := by omega
      have hc0 : a ≤ (a + b) / 2 ∧ (a + b) / 2 < b := by omega
      have c1 : w.cell? ⟨g, o + (a + b) / 2, none⟩ = some (fv (f ((a + b) / 2))) := hc ((a + b) / 2) (by omega)
      unfold fv at c1
      have hl := fun w => i_lessF (f ((a + b) / 2)) x w (HN.out _ (by omega)) hx
      have HC := Lib.hid hc0
      clear hc hc0
      cases hd : decide (S.fval (f ((a + b) / 2)) < S.fval x)
      · rw [hd] at hl
        have hge : ∀ k, (a + b) / 2 ≤ k → k < n → S.fval x ≤ S.fval (f k) := fun k h1 h2 => by
          have := of_decide_eq_false hd
          have := asc_le (f := fun i => S.fval (f i)) HS.out h1 h2
          omega
        have HG := Lib.hid hge
        clear hge hd
        generalize f ((a + b) / 2) = y at *
        go_wp2_with fail
        refine (hl _).mono ?_
        rintro e w1 ⟨rfl, rfl⟩
        clear hl
        go_wp2
        go_round
        case rel => exact ⟨a, (a + b) / 2, rfl, by go_num, HC.out.1, by have := HC.out; omega, HL.out.1, HG.out⟩
        case measure => have := HC.out; simp [intOf]; omega
      · rw [hd] at hl
        have hge : ∀ k, k < (a + b) / 2 + 1 → S.fval (f k) < S.fval x := fun k h1 => by
          have := of_decide_eq_true hd
          have := asc_le (f := fun i => S.fval (f i)) HS.out (show k ≤ (a + b) / 2 by omega) (by omega)
          omega
        have HG := Lib.hid hge
        clear hge hd
        generalize f ((a + b) / 2) = y at *
        go_wp2_with fail
        refine (hl _).mono ?_
        rintro e w1 ⟨rfl, rfl⟩
        clear hl
        go_wp2
        go_round
        case rel => exact ⟨(a + b) / 2 + 1, b, by go_num, rfl, by have := HC.out; omega, hb, HG.out, HL.out.2⟩
        case measure => have := HC.out; simp [intOf]; omega
    · obtain rfl : a = b := by omega
      have hlt1 : ¬ ((a : Int) < (a : Int)) := by omega
      have hFG : FirstGe n (fun j => S.fval (f j)) (S.fval x) a := ⟨hb, HL.out.1, HL.out.2⟩
      have HF := Lib.hid hFG
      clear hFG
      by_cases han : a < n
      · obtain ⟨g, o, rfl, hc⟩ := HR.out (by omega)
        have han1 : (a : Int) < (n : Int) := by omega
        have c1 : w.cell? ⟨g, o + a, none⟩ = some (fv (f a)) := hc a han
        unfold fv at c1
        have hya := HN.out a han
        have e1 := ord_eq hya hx
        have e2 := ord_self hya
        have hB : ∀ t : Bool, t = decide (S.fval (f a) = S.fval x) → (t = true ↔ a < n ∧ S.fval (f a) = S.fval x) := fun t ht => by
          rw [ht, decide_eq_true_iff]; exact ⟨fun h => ⟨han, h⟩, fun h => h.2⟩
        have HB := Lib.hid hB
        clear hc hB hya
        cases ht : decide (S.fval (f a) = S.fval x)
        · rw [ht] at e1
          have HB2 := Lib.hid (fun w' (d : Drawn w w') => Found.of a false HF.out (HB.out false ht.symm) rfl d)
          clear ht HB
          generalize f a = y at *
          go_wp2
          first | go_quiet (fail) | skip
          go_wp2
          go_ret2
          exact HB2.out _ (Drawn.refl _)
        · rw [ht] at e1
          have HB2 := Lib.hid (fun w' (d : Drawn w w') => Found.of a true HF.out (HB.out true ht.symm) rfl d)
          clear ht HB
          generalize f a = y at *
          go_wp2
          go_ret2
          exact HB2.out _ (Drawn.refl _)
      · have han1 : ¬ ((a : Int) < (n : Int)) := by omega
        have hB : (false = true ↔ a < n ∧ S.fval (f a) = S.fval x) := ⟨fun h => (by cases h), fun h => absurd h.1 han⟩
        have HB := Lib.hid hB
        clear hB
        go_wp2
        go_ret2
        exact Found.of a false HF.out HB.out rfl (Drawn.refl _)
set_option maxRecDepth 100000 in
set_option maxHeartbeats 1000000 in
theorem i_searchI (f : Nat → Int) (A : Option Addr) (n cap : Nat) (x : Int) (w : World) (h : RowI w A n f) (hasc : ∀ j, j + 1 < n → f j < f (j + 1)) :
    Calls Tryz.prog 100 #[.slice A n cap, .int .i64 x] w fun e w' => Found n f x w e w' := by
  obtain ⟨hr, hn, _⟩ := h
  have HR := Lib.hid hr
  have HS := Lib.hid hasc
  clear hr hasc
  go_enter Tryz.func100, Tryz.ntmps100
  go_wp2
  go_loop [7, 8] (fun i j => ∃ a b : Nat, i = .int .i64 a ∧ j = .int .i64 b ∧ a ≤ b ∧ b ≤ n ∧ (∀ k, k < a → f k < x) ∧ ∀ k, b ≤ k → k < n → x ≤ f k) (fun i j => (intOf j).toNat - (intOf i).toNat)
  case atStart => exact ⟨0, n, rfl, rfl, Nat.zero_le _, Nat.le_refl _, fun k h => by omega, fun k h h2 => by omega⟩
  case round =>
    obtain ⟨a, b, rfl, rfl, hab, hb, hlo, hhi⟩ := hrel
    have HL := Lib.hid (And.intro hlo hhi)
    clear hlo hhi
    by_cases hlt : a < b
    · obtain ⟨g, o, rfl, hc⟩ := HR.out (by omega)
      have hlt1 : (a : Int) < (b : Int) := by omega
      have hc0 : a ≤ (a + b) / 2 ∧ (a + b) / 2 < b := by omega
      have c1 : w.cell? ⟨g, o + (a + b) / 2, none⟩ = some (iv (f ((a + b) / 2))) := hc ((a + b) / 2) (by omega)
      unfold iv at c1
      have hl := fun w => i_lessI (f ((a + b) / 2)) x w
      have HC := Lib.hid hc0
      clear hc hc0
      cases hd : decide (f ((a + b) / 2) < x)
      · rw [hd] at hl
        have hge : ∀ k, (a + b) / 2 ≤ k → k < n → x ≤ f k := fun k h1 h2 => by
          have := of_decide_eq_false hd
          have := asc_le (f := fun i => f i) HS.out h1 h2
          omega
        have HG := Lib.hid hge
        clear hge hd
        generalize f ((a + b) / 2) = y at *
        go_wp2_with fail
        refine (hl _).mono ?_
        rintro e w1 ⟨rfl, rfl⟩
        clear hl
        go_wp2
        go_round
        case rel => exact ⟨a, (a + b) / 2, rfl, by go_num, HC.out.1, by have := HC.out; omega, HL.out.1, HG.out⟩
        case measure => have := HC.out; simp [intOf]; omega
      · rw [hd] at hl
        have hge : ∀ k, k < (a + b) / 2 + 1 → f k < x := fun k h1 => by
          have := of_decide_eq_true hd
          have := asc_le (f := fun i => f i) HS.out (show k ≤ (a + b) / 2 by omega) (by omega)
          omega
        have HG := Lib.hid hge
        clear hge hd
        generalize f ((a + b) / 2) = y at *
        go_wp2_with fail
        refine (hl _).mono ?_
        rintro e w1 ⟨rfl, rfl⟩
        clear hl
        go_wp2
        go_round
        case rel => exact ⟨(a + b) / 2 + 1, b, by go_num, rfl, by have := HC.out; omega, hb, HG.out, HL.out.2⟩
        case measure => have := HC.out; simp [intOf]; omega
    · obtain rfl : a = b := by omega
      have hlt1 : ¬ ((a : Int) < (a : Int)) := by omega
      have hFG : FirstGe n f x a := ⟨hb, HL.out.1, HL.out.2⟩
      have HF := Lib.hid hFG
      clear hFG
      by_cases han : a < n
      · obtain ⟨g, o, rfl, hc⟩ := HR.out (by omega)
        have han1 : (a : Int) < (n : Int) := by omega
        have c1 : w.cell? ⟨g, o + a, none⟩ = some (iv (f a)) := hc a han
        unfold iv at c1
        have hB : ∀ t : Bool, t = decide (f a = x) → (t = true ↔ a < n ∧ f a = x) := fun t ht => by
          rw [ht, decide_eq_true_iff]; exact ⟨fun h => ⟨han, h⟩, fun h => h.2⟩
        have HB := Lib.hid hB
        clear hc hB
        cases ht : decide (f a = x)
        · have HB2 := Lib.hid (fun w' (d : Drawn w w') => Found.of a false HF.out (HB.out false ht.symm) rfl d)
          have ht' : (f a == x) = false := by simpa using of_decide_eq_false ht
          clear ht HB
          generalize f a = y at *
          go_wp2
          first | go_quiet (fail) | skip
          go_wp2
          go_ret2
          exact HB2.out _ (Drawn.refl _)
        · have HB2 := Lib.hid (fun w' (d : Drawn w w') => Found.of a true HF.out (HB.out true ht.symm) rfl d)
          have ht' : f a = x := of_decide_eq_true ht
          clear ht HB
          generalize f a = y at *
          go_wp2
          go_ret2
          exact HB2.out _ (Drawn.refl _)
      · have han1 : ¬ ((a : Int) < (n : Int)) := by omega
        have hB : (false = true ↔ a < n ∧ f a = x) := ⟨fun h => (by cases h), fun h => absurd h.1 han⟩
        have HB := Lib.hid hB
        clear hB
        go_wp2
        go_ret2
        exact Found.of a false HF.out HB.out rfl (Drawn.refl _)
/-- The place of the last one that is at most x; -1 if there is none. -/
def LastUp (n : Nat) (f : Nat → Int) (x : Int) (w : World) (e : Ending) (w' : World) : Prop :=
  ∃ i : Int, ((∃ k : Nat, i = k ∧ LastIs n f x k) ∨ (i = -1 ∧ ∀ k, k < n → x < f k)) ∧ e = .returned (.int .i64 i) ∧ Drawn w w'
theorem LastUp.of {n : Nat} {f : Nat → Int} {x : Int} {w : World} {e : Ending} {w' : World} (i : Int) (h1 : (∃ k : Nat, i = k ∧ LastIs n f x k) ∨ (i = -1 ∧ ∀ k, k < n → x < f k)) (h3 : e = .returned (.int .i64 i)) (h4 : Drawn w w') : LastUp n f x w e w' := ⟨i, h1, h3, h4⟩
theorem last_of {n : Nat} {f : Nat → Int} {x : Int} (hasc : ∀ j, j + 1 < n → f j < f (j + 1)) {i : Nat} {b : Bool} (h1 : FirstGe n f x i) (h2 : b = true ↔ i < n ∧ f i = x) :
    (∃ k : Nat, (if b then (i : Int) else (i : Int) - 1) = k ∧ LastIs n f x k) ∨ ((if b then (i : Int) else (i : Int) - 1) = -1 ∧ ∀ k, k < n → x < f k) := by
  obtain ⟨g1, g2, g3⟩ := h1
  cases b
  · have hno : ¬ (i < n ∧ f i = x) := fun h => by cases h2.2 h
    have hgt : ∀ k, i ≤ k → k < n → x < f k := fun k hk hkn => by
      have := g3 k hk hkn
      rcases Nat.lt_or_ge i k with h | h
      · have := asc_lt hasc h hkn
        have := g3 i (Nat.le_refl _) (by omega)
        omega
      · obtain rfl : k = i := by omega
        have : f k ≠ x := fun h => hno ⟨hkn, h⟩
        omega
    cases i with
    | zero => exact .inr ⟨rfl, fun k hk => hgt k (Nat.zero_le _) hk⟩
    | succ i => exact .inl ⟨i, by simp, by omega, Int.le_of_lt (g2 i (by omega)), fun h => hgt (i + 1) (Nat.le_refl _) h⟩
  · obtain ⟨a1, a2⟩ := h2.1 rfl
    refine .inl ⟨i, rfl, a1, by omega, fun h => ?_⟩
    have := hasc i h
    omega
set_option maxHeartbeats 400000 in
theorem i_lastF (f : Nat → Nat) (A : Option Addr) (n cap x : Nat) (w : World) (h : RowF w A n f) (hnum : ∀ j, j < n → S.isNum (f j)) (hx : S.isNum x) (hasc : ∀ j, j + 1 < n → S.fval (f j) < S.fval (f (j + 1))) :
    Calls Tryz.prog 60 #[.slice A n cap, .float .f32 x] w fun e w' => LastUp n (fun j => S.fval (f j)) (S.fval x) w e w' := by
  have hn := h.2.1
  have hl := fun {i : Nat} {b : Bool} h1 h2 => last_of (f := fun j => S.fval (f j)) (x := S.fval x) hasc (i := i) (b := b) h1 h2
  have HL := Lib.hid (fun w' (hw : Keeps w w') => i_searchF f A n cap x w' (h.keeps hw) hnum hx hasc)
  clear h
  go_enter Tryz.func60, Tryz.ntmps60
  go_wp2_with fail
  refine (HL.out _ (Keeps.refl _)).mono ?_
  rintro e w1 ⟨i, b, h1, h2, rfl, m, rfl⟩
  have hi := h1.1
  have hX := hl h1 h2
  clear h1 h2 hl
  cases b
  · have HX := Lib.hid (fun w' (d : Drawn w w') => LastUp.of _ hX rfl d)
    clear hX
    go_wp2
    go_ret
    exact HX.out _ (Drawn.one _ _)
  · have HX := Lib.hid (fun w' (d : Drawn w w') => LastUp.of _ hX rfl d)
    clear hX
    go_wp2
    go_ret
    exact HX.out _ (Drawn.one _ _)
set_option maxHeartbeats 400000 in
theorem i_lastI (f : Nat → Int) (A : Option Addr) (n cap : Nat) (x : Int) (w : World) (h : RowI w A n f) (hasc : ∀ j, j + 1 < n → f j < f (j + 1)) :
    Calls Tryz.prog 85 #[.slice A n cap, .int .i64 x] w fun e w' => LastUp n f x w e w' := by
  have hn := h.2.1
  have hl := fun {i : Nat} {b : Bool} h1 h2 => last_of (x := x) hasc (i := i) (b := b) h1 h2
  have HL := Lib.hid (fun w' (hw : Keeps w w') => i_searchI f A n cap x w' (h.keeps hw) hasc)
  clear h
  go_enter Tryz.func85, Tryz.ntmps85
  go_wp2_with fail
  refine (HL.out _ (Keeps.refl _)).mono ?_
  rintro e w1 ⟨i, b, h1, h2, rfl, m, rfl⟩
  have hi := h1.1
  have hX := hl h1 h2
  clear h1 h2 hl
  cases b
  · have HX := Lib.hid (fun w' (d : Drawn w w') => LastUp.of _ hX rfl d)
    clear hX
    go_wp2
    go_ret
    exact HX.out _ (Drawn.one _ _)
  · have HX := Lib.hid (fun w' (d : Drawn w w') => LastUp.of _ hX rfl d)
    clear hX
    go_wp2
    go_ret
    exact HX.out _ (Drawn.one _ _)
end Go.Proofs.YtonoknbangnleaaGreat

/- rowSpeed, speedOf, SpeedAt (impl). -/
namespace Go.Proofs.YtonoknbangnleaaGreat
open Go.RowKit Ieee
set_option linter.unusedSimpArgs false
set_option linter.unusedVariables false

theorem alloc_below (w : World) (o : Obj) (n : Nat) : Below w.heap.size w ((w.alloc o).drewN n) := below_drewN ((Below.refl _ w).alloc (Nat.le_refl _) o) n
theorem alloc_keeps (w : World) (o : Obj) (n : Nat) : Keeps w ((w.alloc o).drewN n) := (keeps_alloc w o).trans (keeps_drewN _ n)
/-- The lists of a polar that is valid, taken apart. -/
theorem row_at {w : World} {P : Pol} (h : PolIn w P) (hP : PolOk P) {i : Nat} (hi : i < P.ns) :
    ∃ gS oS gR oR, P.S = some ⟨gS, oS, none⟩ ∧ P.R i = some ⟨gR, oR, none⟩ ∧ w.cell? ⟨gS, oS + i, none⟩ = some (.slice (some ⟨gR, oR, none⟩) P.na (P.rc i)) ∧ ∀ k, k < P.na → w.cell? ⟨gR, oR + k, none⟩ = some (.float .f32 (P.sp i k)) := by
  obtain ⟨gS, oS, e1, c1⟩ := h.2.2.1.1 (by omega)
  have hrn := (hP.2.2.2 i hi).1
  have hna := hP.2.1.1
  obtain ⟨gR, oR, e2, c2⟩ := (h.2.2.2 i hi).1 (by omega)
  refine ⟨gS, oS, gR, oR, e1, e2, ?_, fun k hk => c2 k (by omega)⟩
  rw [c1 i hi]
  show some (Value.slice (P.R i) (P.rn i) (P.rc i)) = _
  rw [e2, hrn]
theorem ang_at {w : World} {P : Pol} (h : PolIn w P) (hP : PolOk P) : ∃ gA oA, P.A = some ⟨gA, oA, none⟩ ∧ ∀ k, k < P.na → w.cell? ⟨gA, oA + k, none⟩ = some (.int .i64 (P.av k)) := by
  have hna := hP.2.1.1
  obtain ⟨gA, oA, e1, c1⟩ := h.2.1.1 (by omega)
  exact ⟨gA, oA, e1, c1⟩
theorem wnd_at {w : World} {P : Pol} (h : PolIn w P) (hP : PolOk P) : ∃ gW oW, P.W = some ⟨gW, oW, none⟩ ∧ ∀ k, k < P.nw → w.cell? ⟨gW, oW + k, none⟩ = some (.float .f32 (P.ws k)) := by
  have hnw := hP.1.1
  obtain ⟨gA, oA, e1, c1⟩ := h.1.1 (by omega)
  exact ⟨gA, oA, e1, c1⟩

/-- A callee that turns nothing, met where draws have been counted together. -/
theorem quiet_plus {P : Program} {f : FuncId} {args : Array Value} {w : World} {m n : Nat} {v : Value}
    (h : Calls P f args (w.drewN (m + n)) fun e w' => e = .returned v ∧ w.drewN (m + n) = w') : Calls P f args (w.drewN (m + n)) fun e w'' => e = .returned v ∧ ∃ k, w'' = w.drewN (m + k) :=
  h.mono fun _ _ ⟨he, hm⟩ => ⟨he, n, hm.symm⟩
set_option maxRecDepth 100000 in
set_option maxHeartbeats 1000000 in
theorem i_row (P : Pol) (i : Nat) (a : Int) (w : World) (h : PolIn w P) (hP : PolOk P) (hi : i < P.ns) (h0 : 0 ≤ a) (h1 : a ≤ 180) :
    Calls Tryz.prog 61 #[.agg #[.slice P.W P.nw P.cw, .slice P.A P.na P.ca, .slice P.S P.ns P.cs], .int .i64 i, .int .i64 a] w fun e w' => e = .returned (.float .f32 (rowS P i a)) ∧ Below w.heap.size w w' := by
  have hr := (rowS_ok hP hi h0 h1).1
  generalize rowS P i a = r at hr
  obtain ⟨gS, oS, gR, oR, eS, eR, cS, cR⟩ := row_at h hP hi
  obtain ⟨gA, oA, eA, cA⟩ := ang_at h hP
  have hl : ∀ w', Keeps w w' → Calls Tryz.prog 85 #[.slice P.A P.na P.ca, .int .i64 a] w' fun e w'' => LastUp P.na P.av a w' e w'' := fun w' k => i_lastI P.av P.A P.na P.ca a w' (h.2.1.keeps k) hP.2.1.2.2.2
  obtain ⟨⟨n0, n1⟩, a0, a1, hasc⟩ := id hP.2.1
  have hang := hP.2.1
  have hns : P.ns ≤ 1048576 := h.2.2.1.2
  have hnn : ¬ ∀ k, k < P.na → a < P.av k := fun hk => by have := hk 0 (by omega); omega
  obtain ⟨j, hj, hcase⟩ := hr
  have hlf := fun k (hk : LastIs P.na P.av a k) => last_fun hasc hk hj
  have hjn := hj.1
  have cj := cA j hjn
  have cr := cR j hjn
  have cS' := (keeps_alloc w (.cells #[.slice P.W P.nw P.cw, .slice P.A P.na P.ca, .slice P.S P.ns P.cs] 28)).2 _ _ cS
  have cj' := (keeps_alloc w (.cells #[.slice P.W P.nw P.cw, .slice P.A P.na P.ca, .slice P.S P.ns P.cs] 28)).2 _ _ cj
  have cr' := (keeps_alloc w (.cells #[.slice P.W P.nw P.cw, .slice P.A P.na P.ca, .slice P.S P.ns P.cs] 28)).2 _ _ cr
  have hi1 : (i : Int) < (P.ns : Int) := by omega
  have hj1 : (j : Int) < (P.na : Int) := by omega
  have HL := Lib.hid hl
  have HN := Lib.hid hnn
  have HF := Lib.hid hlf
  rcases hcase with ⟨he, rfl⟩ | ⟨hlt, q, hq, hqok, hd⟩
  · rw [he] at cj'
    rw [eS, eA] at *
    clear he hj hjn cj cr cS cR cA hasc hang hP h a0 a1 hl hnn hlf hi eR
    generalize P.sp i j = s at *
    generalize P.rc i = rci at *
    generalize P.ns = ns at *
    generalize P.na = na at *
    generalize P.nw = nw at *
    generalize P.cw = cw at *
    generalize P.ca = ca at *
    generalize P.cs = cs at *
    generalize P.W = W at *
    go_enter Tryz.func61, Tryz.ntmps61
    go_wp2_with fail
    refine (HL.out _ (keeps_alloc _ _)).mono ?_
    rintro e w1 ⟨k, hk, rfl, m, rfl⟩
    have hkj : k = (j : Int) := by
      rcases hk with ⟨k', rfl, hk⟩ | ⟨_, hk⟩
      · rw [HF.out _ hk]
      · exact absurd hk HN.out
    subst hkj
    clear hk
    go_wp2
    go_ret
    exact ⟨rfl, alloc_below _ _ _⟩
  · obtain ⟨hjn1, y0, z1, haz, q', hq', ql, _⟩ := angle_share hang h1 hj hlt
    rw [hq] at hq'
    obtain rfl := Option.some.inj hq'
    have cz := cA (j + 1) hjn1
    have ct := cR (j + 1) hjn1
    have cz' := (keeps_alloc w (.cells #[.slice P.W P.nw P.cw, .slice P.A P.na P.ca, .slice P.S P.ns P.cs] 28)).2 _ _ cz
    have ct' := (keeps_alloc w (.cells #[.slice P.W P.nw P.cw, .slice P.A P.na P.ca, .slice P.S P.ns P.cs] 28)).2 _ _ ct
    have hj2 : (j : Int) + 1 < (P.na : Int) := by omega
    have hy1 : P.av j ≤ 180 := by omega
    have hdm := fun w => i_damped _ _ _ _ w hd
    have hqr := fun w => run_float_arith (P := Tryz.prog) w .quo 35 .f32 _ _ _ hq
    rw [eS, eA] at *
    clear hj hjn cj cr cS cR cA hasc hang hP h a0 a1 hl hnn hlf hi eR cz ct hq hq' hd hqok
    generalize P.sp i j = s at *
    generalize P.sp i (j + 1) = t at *
    generalize P.av j = y at *
    generalize P.av (j + 1) = z at *
    generalize P.rc i = rci at *
    generalize P.ns = ns at *
    generalize P.na = na at *
    generalize P.nw = nw at *
    generalize P.cw = cw at *
    generalize P.ca = ca at *
    generalize P.cs = cs at *
    generalize P.W = W at *
    have hne : (y == a) = false := by simp; omega
    have wi : IntKind.i64.wrap ((j : Int) + 1) = (j : Int) + 1 := IntWalk.i64_in _ (by omega)
    have i3 : (0 : Int) ≤ (j : Int) + 1 := by omega
    have i1 : (0 : Int) ≤ (j : Int) := by omega
    have i5 : ((j : Int) + 1).toNat = j + 1 := by omega
    go_enter Tryz.func61, Tryz.ntmps61
    go_wp2_with fail
    refine (HL.out _ (keeps_alloc _ _)).mono ?_
    rintro e w1 ⟨k, hk, rfl, m, rfl⟩
    have hkj : k = (j : Int) := by
      rcases hk with ⟨k', rfl, hk⟩ | ⟨_, hk⟩
      · rw [HF.out _ hk]
      · exact absurd hk HN.out
    subst hkj
    clear hk
    go_wp2
    go_quiet ((go_at_call 62; exact quiet_plus (hdm _)))
    go_wp2
    go_ret
    exact ⟨rfl, below_drewN (alloc_below _ _ _) _⟩
end Go.Proofs.YtonoknbangnleaaGreat

/- speedOf, SpeedAt (impl). -/
namespace Go.Proofs.YtonoknbangnleaaGreat
open Go.RowKit Ieee
set_option linter.unusedSimpArgs false
set_option linter.unusedVariables false

/-- The box of a polar stands, and nothing old has turned. -/
def BoxIn (w : World) (P : Pol) (w' : World) : Prop :=
  w'.heap[w.heap.size]? = some (.cells #[.slice P.W P.nw P.cw, .slice P.A P.na P.ca, .slice P.S P.ns P.cs] 28 (0, 0)) ∧ Below w.heap.size w w'
theorem BoxIn.new (w : World) (P : Pol) : BoxIn w P (w.alloc (.cells #[.slice P.W P.nw P.cw, .slice P.A P.na P.ca, .slice P.S P.ns P.cs] 28)) := ⟨heap_alloc_new w _, (Below.refl _ w).alloc (Nat.le_refl _) _⟩
theorem BoxIn.step {w : World} {P : Pol} {w1 w2 : World} (h : BoxIn w P w1) (b : Below w1.heap.size w1 w2) : BoxIn w P w2 := by
  have hlt : w.heap.size < w1.heap.size := by
    rcases Nat.lt_or_ge w.heap.size w1.heap.size with h' | h'
    · exact h'
    · have := h.1; rw [Array.getElem?_eq_none h'] at this; cases this
  exact ⟨(b.block _ hlt).trans h.1, h.2.trans (b.mono h.2.size)⟩
theorem BoxIn.drawn {w : World} {P : Pol} {w1 w2 : World} (h : BoxIn w P w1) (d : Drawn w1 w2) : BoxIn w P w2 := by
  obtain ⟨n, rfl⟩ := d
  exact ⟨h.1, below_drewN h.2 n⟩
theorem BoxIn.c0 {w : World} {P : Pol} {w' : World} (h : BoxIn w P w') : w'.cell? ⟨w.heap.size, 0, none⟩ = some (.slice P.W P.nw P.cw) := cell_of_row w' _ 0 _ _ _ h.1
theorem BoxIn.c1 {w : World} {P : Pol} {w' : World} (h : BoxIn w P w') : w'.cell? ⟨w.heap.size, 1, none⟩ = some (.slice P.A P.na P.ca) := cell_of_row w' _ 1 _ _ _ h.1
theorem BoxIn.c2 {w : World} {P : Pol} {w' : World} (h : BoxIn w P w') : w'.cell? ⟨w.heap.size, 2, none⟩ = some (.slice P.S P.ns P.cs) := cell_of_row w' _ 2 _ _ _ h.1
theorem BoxIn.below {w : World} {P : Pol} {w' : World} (h : BoxIn w P w') : Below w.heap.size w w' := h.2
theorem BoxIn.keeps {w : World} {P : Pol} {w' : World} (h : BoxIn w P w') : Keeps w w' := Below.keeps h.2
set_option maxRecDepth 100000 in
set_option maxHeartbeats 4000000 in
theorem i_speedOf (P : Pol) (x : Nat) (a : Int) (w : World) (h : PolIn w P) (hP : PolOk P) (hx : okA x) (h0 : 0 ≤ a) (h1 : a ≤ 180) :
    Calls Tryz.prog 34 #[.agg #[.slice P.W P.nw P.cw, .slice P.A P.na P.ca, .slice P.S P.ns P.cs], .float .f32 x, .int .i64 a] w fun e w' => e = .returned (.float .f32 (spd P x a)) ∧ Below w.heap.size w w' := by
  have hs := (spd_ok hP hx h0 h1).1
  generalize spd P x a = r at hs
  have hnw := hP.1.1
  have HNS := Lib.hid hP.2.2.1
  have hasc := hP.1.2.2
  have hl : ∀ w', Keeps w w' → Calls Tryz.prog 60 #[.slice P.W P.nw P.cw, .float .f32 x] w' fun e w'' => LastUp P.nw (fun j => S.fval (P.ws j)) (S.fval x) w' e w'' :=
    fun w' k => i_lastF P.ws P.W P.nw P.cw x w' (h.1.keeps k) (fun j hj => (hP.1.2.1 j hj).1.2.1) hx.2.1 hasc
  have hrow : ∀ w' i, BoxIn w P w' → i < P.ns → Calls Tryz.prog 61 #[.agg #[.slice P.W P.nw P.cw, .slice P.A P.na P.ca, .slice P.S P.ns P.cs], .int .i64 i, .int .i64 a] w' fun e w'' => e = .returned (.float .f32 (rowS P i a)) ∧ Below w'.heap.size w' w'' :=
    fun w' i hb hi => i_row P i a w' (h.keeps hb.keeps) hP hi h0 h1
  have hcw : ∀ w', BoxIn w P w' → ∃ gW oW, P.W = some ⟨gW, oW, none⟩ ∧ ∀ k, k < P.nw → w'.cell? ⟨gW, oW + k, none⟩ = some (.float .f32 (P.ws k)) := fun w' hb => wnd_at (h.keeps hb.keeps) hP
  have hn0 := (hP.1.2.1 0 (by omega)).1.2.1
  have HL := Lib.hid hl
  have HR := Lib.hid hrow
  have HC := Lib.hid hcw
  have hok := fun i (hi : i < P.nw) => (hP.1.2.1 i hi).1
  have HO := Lib.hid hok
  have HA := Lib.hid hasc
  have HP := Lib.hid hP
  clear hl hrow hcw hasc hok
  rcases hs with ⟨hle, q, s, hq, hrs, hm⟩ | ⟨hlt, i, hi, hcase⟩
  · have e1 := ord_le hx.2.1 hn0
    rw [decide_eq_true hle] at e1
    have hqr := fun w => run_float_arith (P := Tryz.prog) w .quo 35 .f32 _ _ _ hq
    have hmr := fun w => run_float_arith (P := Tryz.prog) w .mul 35 .f32 _ _ _ hm
    have hs0 := rowS_is hP hrs
    clear hq hm hrs hP h hx hn0
    generalize hf : P.ws 0 = f at *
    have HF := Lib.hid hf
    clear hf hle
    go_enter Tryz.func34, Tryz.ntmps34
    go_wp2_with fail
    refine (HL.out _ (keeps_alloc _ _)).mono ?_
    rintro e w1 ⟨k, hk, rfl, d⟩
    have hB := (BoxIn.new w P).drawn d
    have hkb : -1 ≤ k ∧ k < P.nw := by
      rcases hk with ⟨k', rfl, hk⟩ | ⟨rfl, _⟩
      · have := hk.1; omega
      · omega
    obtain ⟨hk0, hk1⟩ := hkb
    clear d hk
    have c0 := hB.c0
    have c1 := hB.c1
    have c2 := hB.c2
    obtain ⟨gW, oW, eW, cW⟩ := HC.out w1 hB
    have cf : w1.cell? ⟨gW, oW, none⟩ = some (.float .f32 f) := by rw [← HF.out]; exact cW 0 (by omega)
    clear cW
    have hR : Calls Tryz.prog 61 #[.agg #[.slice P.W P.nw P.cw, .slice P.A P.na P.ca, .slice P.S P.ns P.cs], .int .i64 0, .int .i64 a] w1 _ := HR.out w1 0 hB (by rw [HNS.out]; omega)
    have HB := Lib.hid hB
    clear hB
    rw [hs0] at hR
    rw [eW] at c0 hR ⊢
    have HE := Lib.hid eW
    clear eW
    have hnw1 : (0 : Int) < (P.nw : Int) := by omega
    go_wp2_with fail
    with_reducible refine hR.mono ?_
    rintro e w2 ⟨rfl, b2⟩
    have HB2 := Lib.hid (HB.out.step b2)
    clear hR b2
    go_wp2
    go_ret
    exact ⟨rfl, HB2.out.2⟩
  · have e1 := ord_le hx.2.1 hn0
    rw [decide_eq_false (by omega)] at e1
    have hlf := fun k (hk : LastIs P.nw (fun i => S.fval (P.ws i)) (S.fval x) k) => last_fun (f := fun i => S.fval (P.ws i)) HA.out hk hi
    have hnn : ¬ ∀ k, k < P.nw → S.fval x < S.fval (P.ws k) := fun hk => by have := hk 0 (by omega); omega
    have hin := hi.1
    have HF := Lib.hid hlf
    have HN := Lib.hid hnn
    have hin1 : (i : Int) < (P.nw : Int) := by omega
    rcases hcase with ⟨hl, hrs⟩ | ⟨hl, d, e, q, s, t, hd, he, hq, hqok, hrs, hrt, hdm⟩
    · have hs0 := rowS_is hP hrs
      have hl1 : ((i : Int) == (P.nw : Int) - 1) = true := by simp; omega
      have HX := Lib.hid hl
      clear hlf hnn hrs hP h hx hn0 hlt hi hl
      generalize hf : P.ws 0 = f at *
      have HFF := Lib.hid hf
      clear hf
      go_enter Tryz.func34, Tryz.ntmps34
      go_wp2_with fail
      refine (HL.out _ (keeps_alloc _ _)).mono ?_
      rintro e w1 ⟨k, hk, rfl, d⟩
      have hB := (BoxIn.new w P).drawn d
      have hkj : k = (i : Int) := by
        rcases hk with ⟨k', rfl, hk⟩ | ⟨_, hk⟩
        · rw [HF.out _ hk]
        · exact absurd hk HN.out
      subst hkj
      clear d hk
      have c0 := hB.c0
      have c1 := hB.c1
      have c2 := hB.c2
      obtain ⟨gW, oW, eW, cW⟩ := HC.out w1 hB
      have cf : w1.cell? ⟨gW, oW, none⟩ = some (.float .f32 f) := by rw [← HFF.out]; exact cW 0 (by omega)
      clear cW
      have hR := HR.out w1 i hB (by rw [HNS.out]; omega)
      have HB := Lib.hid hB
      clear hB
      rw [hs0] at hR
      rw [eW] at c0 hR ⊢
      have HE := Lib.hid eW
      clear eW
      have hnw1 : (0 : Int) < (P.nw : Int) := by omega
      go_wp2_with fail
      with_reducible refine hR.mono ?_
      rintro e w2 ⟨rfl, b2⟩
      have HB2 := Lib.hid (HB.out.step b2)
      clear hR b2
      go_wp2
      go_ret
      exact ⟨rfl, HB2.out.2⟩
    · have hs0 := rowS_is hP hrs
      have ht0 := rowS_is hP hrt
      have hdr := fun w => run_float_arith (P := Tryz.prog) w .sub 35 .f32 _ _ _ hd
      have her := fun w => run_float_arith (P := Tryz.prog) w .sub 35 .f32 _ _ _ he
      have hqr := fun w => run_float_arith (P := Tryz.prog) w .quo 35 .f32 _ _ _ hq
      have hdam := fun w => i_damped _ _ _ _ w hdm
      have hl1 : ((i : Int) == (P.nw : Int) - 1) = false := by simp; omega
      have hl2 : (i : Int) + 1 < (P.nw : Int) := by omega
      have wi : IntKind.i64.wrap ((i : Int) + 1) = (i : Int) + 1 := IntWalk.i64_in _ (by omega)
      have i3 : (0 : Int) ≤ (i : Int) + 1 := by omega
      have i1 : (0 : Int) ≤ (i : Int) := by omega
      have i5 : ((i : Int) + 1).toNat = i + 1 := by omega
      have hne : ¬ ((i : Int) = (P.nw : Int) - 1) := by omega
      have HD := Lib.hid hdam
      clear hlf hnn hrs hrt hP h hx hn0 hlt hi hd he hq hdm hdam hqok
      generalize hf : P.ws 0 = f at *
      generalize hu : P.ws i = u at *
      generalize hv : P.ws (i + 1) = v at *
      have HFF := Lib.hid (And.intro hf (And.intro hu hv))
      clear hf hu hv
      go_enter Tryz.func34, Tryz.ntmps34
      go_wp2_with fail
      refine (HL.out _ (keeps_alloc _ _)).mono ?_
      rintro e w1 ⟨k, hk, rfl, dd⟩
      have hB := (BoxIn.new w P).drawn dd
      have hkj : k = (i : Int) := by
        rcases hk with ⟨k', rfl, hk⟩ | ⟨_, hk⟩
        · rw [HF.out _ hk]
        · exact absurd hk HN.out
      subst hkj
      clear dd hk
      have c0 := hB.c0
      have c1 := hB.c1
      have c2 := hB.c2
      obtain ⟨gW, oW, eW, cW⟩ := HC.out w1 hB
      have cf : w1.cell? ⟨gW, oW, none⟩ = some (.float .f32 f) := by rw [← HFF.out.1]; exact cW 0 (by omega)
      have cu : w1.cell? ⟨gW, oW + i, none⟩ = some (.float .f32 u) := by rw [← HFF.out.2.1]; exact cW i (by omega)
      have cv' : w1.cell? ⟨gW, oW + (i + 1), none⟩ = some (.float .f32 v) := by rw [← HFF.out.2.2]; exact cW (i + 1) (by omega)
      clear cW
      have HE := Lib.hid eW
      have HB := Lib.hid hB
      clear hB
      rw [eW] at c0 ⊢
      clear eW
      have hnw1 : (0 : Int) < (P.nw : Int) := by omega
      go_wp2
      go_quiet (fail)
      have hB2 := HB.out.drawn (Drawn.one w1 nq)
      generalize w1.drewN nq = w2 at *
      clear c0 c1 c2 cf cu cv' HB
      have k0 : ∀ w', BoxIn w P w' → w'.cell? ⟨w.heap.size, 0, none⟩ = some (.slice (some ⟨gW, oW, none⟩) P.nw P.cw) := fun w' hb => by rw [← HE.out]; exact hb.c0
      have k1 : ∀ w', BoxIn w P w' → w'.cell? ⟨w.heap.size, 1, none⟩ = some (.slice P.A P.na P.ca) := fun w' hb => hb.c1
      have k2 : ∀ w', BoxIn w P w' → w'.cell? ⟨w.heap.size, 2, none⟩ = some (.slice P.S P.ns P.cs) := fun w' hb => hb.c2
      have hRi := Lib.hid (fun w' (hb : BoxIn w P w') => (show Calls Tryz.prog 61 #[.agg #[.slice (some ⟨gW, oW, none⟩) P.nw P.cw, .slice P.A P.na P.ca, .slice P.S P.ns P.cs], .int .i64 i, .int .i64 a] w' fun e w'' => e = .returned (.float .f32 s) ∧ Below w'.heap.size w' w'' from by
        have := HR.out w' i hb (by rw [HNS.out]; omega)
        rw [HE.out, hs0] at this
        exact this))
      have hRj := Lib.hid (fun w' (hb : BoxIn w P w') => (show Calls Tryz.prog 61 #[.agg #[.slice (some ⟨gW, oW, none⟩) P.nw P.cw, .slice P.A P.na P.ca, .slice P.S P.ns P.cs], .int .i64 ((i : Int) + 1), .int .i64 a] w' fun e w'' => e = .returned (.float .f32 t) ∧ Below w'.heap.size w' w'' from by
        have := HR.out w' (i + 1) hb (by rw [HNS.out]; omega)
        rw [HE.out, ht0] at this
        exact this))
      clear hs0 ht0
      go_wp2
      go_region_held3 (fun w' => BoxIn w P w') (first | assumption | exact BoxIn.drawn (by assumption) (Drawn.one _ 1) | exact BoxIn.step (by assumption) (by assumption))
        (first
          | (go_at_call 62; ((with_reducible refine (HD.out _).mono ?_); rintro e w' ⟨rfl, rfl⟩))
          | (go_at_call 61; with_reducible refine (hRi.out _ (by assumption)).mono ?_; rintro e w' ⟨rfl, b⟩)
          | (go_at_call 61; with_reducible refine (hRj.out _ (by assumption)).mono ?_; rintro e w' ⟨rfl, b⟩))
      go_wp2
      go_ret
      exact ⟨rfl, by first | assumption | exact BoxIn.below (by assumption)⟩
end Go.Proofs.YtonoknbangnleaaGreat

/- What a boat makes to windward: the narrowed turns, products, signs. Nothing here speaks of the program. -/
namespace Go.Proofs.YtonoknbangnleaaGreat
open Go.RowKit Ieee
set_option linter.unusedSimpArgs false
set_option linter.unusedVariables false

/-- The part to windward of a turn. -/
def cosW (k : Nat) : Nat := (floatToFloatBits .f64 (trn k).1 .f32).getD 0
def cosB (t : Nat × Nat) : Bool := match floatToFloatBits .f64 t.1 .f32 with
  | some c => Nat.blt c 4294967296 && Nat.blt (c / 8388608 % 256) 128
  | none => false
theorem cosB_tab : tabW.all cosB = true := by kernel_rfl
theorem cos_ok (k : Nat) (hk : k < 360) : floatToFloatBits .f64 (trn k).1 .f32 = some (cosW k) ∧ cosW k < 4294967296 ∧ S.isNum (cosW k) ∧ (S.fval (cosW k)).natAbs ≤ 2 * S.oneV := by
  have h := (tab_at k hk).1
  have hb : cosB (trn k) = true := List.all_eq_true.1 cosB_tab _ (List.mem_of_getElem? h)
  unfold cosB at hb
  unfold cosW
  cases hc : floatToFloatBits .f64 (trn k).1 .f32 with
  | none => rw [hc] at hb; cases hb
  | some c =>
    rw [hc] at hb
    simp only [Bool.and_eq_true, Nat.blt_eq] at hb
    obtain ⟨h1, h2⟩ := hb
    have hE : S.expo c < 128 := h2
    have hE255 : S.expo c < 255 := by omega
    refine ⟨rfl, h1, S.num_of_expo h1 hE255, ?_⟩
    obtain ⟨M, P, e, hM, hcase⟩ := S.num_form c h1 (by omega)
    show (S.fval c).natAbs ≤ _
    unfold S.fval
    rw [e]
    show (signed (S.sneg c) M (-149 + (P : Int) + 149).toNat).natAbs ≤ _
    rw [(S.val_amount _ _ _).1, show (-149 + (P : Int) + 149).toNat = P by omega]
    have hP : P ≤ 126 := by omega
    have hE := S.fixE_eq
    have h24 : M ≤ 2 ^ 24 := Nat.le_of_lt hM
    have h3 : M * 2 ^ P ≤ 2 ^ 24 * 2 ^ 126 := Nat.mul_le_mul h24 (Nat.pow_le_pow_right (by omega) hP)
    refine Nat.le_trans h3 ?_
    unfold S.oneV
    rw [← Nat.pow_add, hE, Nat.mul_comm 2, ← Nat.pow_succ]
    exact Nat.le_refl _
/-- A product. -/
def mulS (x y : Nat) : Nat := (floatBits .mul .f32 x y).getD 0
theorem mulS_ok {M c x y : Nat} (hx : okB M x) (hy : S.isNum y ∧ (S.fval y).natAbs ≤ c * S.oneV) (hM : M * c ≤ 100000) : floatBits .mul .f32 x y = some (mulS x y) ∧ okB (M * c) (mulS x y) := by
  obtain ⟨r, h1, h2, _⟩ := mul_bd hx hy hM
  unfold mulS
  rw [h1]
  exact ⟨rfl, h2⟩
theorem xor_top' {r : Nat} (h : r < 2147483648) : r ^^^ 2147483648 = r + 2147483648 := by
  have hlt : r < 2 ^ 31 := h
  show r ^^^ 2 ^ 31 = r + 2 ^ 31
  rw [Nat.add_comm]
  have hor : 2 ^ 31 + r = 2 ^ 31 ||| r := by
    have := Nat.two_pow_add_eq_or_of_lt hlt 1
    simpa using this
  rw [hor]
  apply Nat.eq_of_testBit_eq
  intro i
  rw [Nat.testBit_xor, Nat.testBit_or, Nat.testBit_two_pow]
  by_cases hi : 31 = i
  · subst hi
    rw [Nat.testBit_lt_two_pow hlt]; rfl
  · simp [hi]
theorem xor_back' {r : Nat} (h : r < 2147483648) : (r + 2147483648) ^^^ 2147483648 = r := by
  rw [← xor_top' h, Nat.xor_assoc, Nat.xor_self, Nat.xor_zero]
/-- A word whose sign is turned. -/
theorem neg_word (b : Bool) {r : Nat} (h : r < 2147483648) : Op.negFloat .f32 (S.f32.word b r) = S.f32.word (!b) r := by
  have e0 : S.f32.word false r = r := by unfold Format.word; simp
  have e1 : S.f32.word true r = r + 2147483648 := by unfold Format.word; rw [S.sgn64]; simp [Nat.add_comm]
  cases b
  · rw [e0]; show r ^^^ 2147483648 = S.f32.word true r; rw [e1, xor_top' h]
  · rw [e1]; show (r + 2147483648) ^^^ 2147483648 = S.f32.word false r; rw [e0, xor_back' h]
theorem neg_read {x : Nat} (hx : x < 4294967296) {s : Bool} {m : Nat} {i : Int} (h : S.f32.read x = .number s m i) : S.f32.read (Op.negFloat .f32 x) = .number (!s) m i := by
  have hE := S.expo_of_num hx (S.isNum_of h)
  have hw := S.word_self x hx
  have he := S.expo_rung x hx
  have hr : S.rung x < 2139095040 := by omega
  have hneg : Op.negFloat .f32 x = S.f32.word (!S.sneg x) (S.rung x) := by rw [← neg_word _ (by omega), hw]
  have hy : S.f32.word (!S.sneg x) (S.rung x) < 4294967296 := by
    unfold Format.word; rw [S.sgn64]; split <;> omega
  obtain ⟨M, P, h1, h2, h3⟩ := S.num_form x hx hE
  rw [h1] at h
  injection h with a1 a2 a3
  rw [hneg]
  have hrg : S.rung (S.f32.word (!S.sneg x) (S.rung x)) = S.rung x := by
    have : ∀ b, S.rung (S.f32.word b (S.rung x)) = S.rung x := fun b => by
      unfold Format.word; rw [S.sgn64]
      cases b <;> simp [S.rung] <;> omega
    exact this _
  have hsn : S.sneg (S.f32.word (!S.sneg x) (S.rung x)) = !S.sneg x := by
    have : ∀ b, S.sneg (S.f32.word b (S.rung x)) = b := fun b => by
      unfold Format.word; rw [S.sgn64]
      cases b
      · simp only [Bool.false_eq_true, if_false]; unfold S.sneg; rw [show ∀ z, z = S.rung x → z / 2147483648 = 0 from fun z hz => by omega] <;> first | rfl | omega
      · simp only [if_true]; unfold S.sneg; rw [show (2147483648 + S.rung x) / 2147483648 = 1 by omega]; rfl
    exact this _
  obtain ⟨M', P', h1', h2', h3'⟩ := S.num_form _ hy (by rw [S.expo_rung _ hy, hrg, ← he]; exact hE)
  rw [S.expo_rung _ hy, hrg, ← he] at h3'
  obtain ⟨rfl, rfl⟩ : M' = M ∧ P' = P := by omega
  rw [h1', hsn, a1, a2, a3]
theorem cut_same (a b : Bool) (n d : Nat) : Toward.even.cut a n d = Toward.even.cut b n d := rfl
theorem near_not (b : Bool) (mag : Nat) (place : Int) : S.f32.nearest (!b) mag place = Op.negFloat .f32 (S.f32.nearest b mag place) := by
  have key : ∃ R, R < 2147483648 ∧ ∀ c, S.f32.nearest c mag place = S.f32.word c R := by
    by_cases h0 : mag = 0
    · exact ⟨0, by omega, fun c => by unfold Format.nearest; rw [if_pos h0]⟩
    · refine ⟨min ((max (place + mag.log2 - S.f32.fractionBits) S.f32.leastPlace - S.f32.leastPlace).toNat * S.f32.binade + Toward.even.cut true (mag <<< (place - max (place + mag.log2 - S.f32.fractionBits) S.f32.leastPlace).toNat) (max (place + mag.log2 - S.f32.fractionBits) S.f32.leastPlace - place).toNat) S.f32.infRung, ?_, fun c => ?_⟩
      · rw [S.inf64]; omega
      · unfold Format.nearest; rw [if_neg h0]
        rfl
  obtain ⟨R, hR, h⟩ := key
  rw [h, h, neg_word b hR]
/-- A product with the sign of the one number turned. -/
theorem mul_neg {x c r : Nat} (hx : S.isNum x) (hc : S.isNum c) (hcl : c < 4294967296) (h : floatBits .mul .f32 x c = some r) : floatBits .mul .f32 x (Op.negFloat .f32 c) = some (Op.negFloat .f32 r) := by
  obtain ⟨s, m, i, ex, _⟩ := hx
  obtain ⟨t, n, j, ec, _⟩ := hc
  have hn := neg_read hcl ec
  have h1 : S.f32.mul x c = some (S.f32.nearest (s ^^ t) (m * n) (i + j)) := by unfold Format.mul; rw [ex, ec]; rfl
  have h2 : S.f32.mul x (Op.negFloat .f32 c) = some (S.f32.nearest (s ^^ !t) (m * n) (i + j)) := by unfold Format.mul; rw [ex, hn]; rfl
  have h' : S.f32.mul x c = some r := h
  rw [h1] at h'
  obtain rfl := Option.some.inj h'
  show S.f32.mul x (Op.negFloat .f32 c) = _
  rw [h2, show (s ^^ !t) = !(s ^^ t) by cases s <;> cases t <;> rfl, near_not]
theorem neg_val {x : Nat} (hx : x < 4294967296) (h : S.isNum x) : S.isNum (Op.negFloat .f32 x) ∧ S.fval (Op.negFloat .f32 x) = -S.fval x := by
  obtain ⟨s, m, i, e, _⟩ := h
  have hn := neg_read hx e
  refine ⟨S.isNum_of hn, ?_⟩
  unfold S.fval
  rw [hn, e]
  show signed (!s) m (i + 149).toNat = -signed s m (i + 149).toNat
  exact S.signed_not _ _ _
/-- What is made to windward. -/
noncomputable def madeW (P : Pol) (w : Nat) (a : Nat) : Nat := mulS (spd P w a) (cosW a)
theorem made_ok {P : Pol} (hP : PolOk P) {w : Nat} (hw : okA w) {a : Nat} (h : a ≤ 180) : floatBits .mul .f32 (spd P w a) (cosW a) = some (madeW P w a) ∧ okB 2500 (madeW P w a) :=
  mulS_ok (M := 1250) (c := 2) (spd_ok hP hw (by omega) (by omega)).2 (cos_ok a (by omega)).2.2 (by omega)
/-- Times one. -/
theorem mul_one {x : Nat} (hx : x < 4294967296) (h : S.isNum x) : floatBits .mul .f32 x 1065353216 = some x := by
  have hE := S.expo_of_num hx h
  obtain ⟨M, P, e, hM, hcase⟩ := S.num_form x hx hE
  have hw := S.word_self x hx
  have h1 : S.f32.mul x 1065353216 = some (S.f32.nearest (S.sneg x ^^ false) (M * 8388608) (-149 + (P : Int) + -23)) := by unfold Format.mul; rw [e, oneW_num]; rfl
  show S.f32.mul x 1065353216 = some x
  rw [h1, Bool.xor_false]
  congr 1
  by_cases h0 : M = 0
  · have hr : S.rung x = 0 := by omega
    unfold Format.nearest
    rw [if_pos (by rw [h0, Nat.zero_mul]), ← hr]
    exact hw
  · unfold Format.nearest
    rw [if_neg (by omega)]
    have hl : (M * 8388608).log2 = M.log2 + 23 := by
      have hp : M * 8388608 ≠ 0 := by omega
      have hlo : 2 ^ M.log2 ≤ M := Nat.log2_self_le h0
      have hhi : M < 2 ^ (M.log2 + 1) := Nat.lt_log2_self
      have e23 : (2 : Nat) ^ 23 = 8388608 := rfl
      have h1 : M.log2 + 23 ≤ (M * 8388608).log2 := (Nat.le_log2 hp).2 (by rw [Nat.pow_add, e23]; exact Nat.mul_le_mul_right _ hlo)
      have h2 : (M * 8388608).log2 < M.log2 + 1 + 23 := (Nat.log2_lt hp).2 (by rw [Nat.pow_add, e23]; exact Nat.mul_lt_mul_of_pos_right hhi (by omega))
      omega
    have hlast : max (-149 + (P : Int) + -23 + ((M * 8388608).log2 : Nat) - (S.f32.fractionBits : Nat)) S.f32.leastPlace = -149 + (P : Int) := by
      rw [hl, S.lp64, show S.f32.fractionBits = 23 from rfl]
      have h24 : M.log2 < 24 := (Nat.log2_lt h0).2 hM
      rcases hcase with ⟨_, hP, _⟩ | ⟨_, h23, _⟩
      · omega
      · have : 23 ≤ M.log2 := (Nat.le_log2 h0).2 h23
        omega
    show S.f32.word (S.sneg x) (min ((max (-149 + (P : Int) + -23 + ((M * 8388608).log2 : Nat) - (S.f32.fractionBits : Nat)) S.f32.leastPlace - S.f32.leastPlace).toNat * S.f32.binade + Toward.even.cut (S.sneg x) ((M * 8388608) <<< (-149 + (P : Int) + -23 - max (-149 + (P : Int) + -23 + ((M * 8388608).log2 : Nat) - (S.f32.fractionBits : Nat)) S.f32.leastPlace).toNat) (max (-149 + (P : Int) + -23 + ((M * 8388608).log2 : Nat) - (S.f32.fractionBits : Nat)) S.f32.leastPlace - (-149 + (P : Int) + -23)).toNat) S.f32.infRung) = x
    rw [hlast, S.lp64, S.bin64, S.inf64, show (-149 + (P : Int) - -149).toNat = P by omega, show (-149 + (P : Int) + -23 - (-149 + (P : Int))).toNat = 0 by omega, show (-149 + (P : Int) - (-149 + (P : Int) + -23)).toNat = 23 by omega, Nat.shiftLeft_zero,
      show M * 8388608 = M * 2 ^ 23 from rfl, S.cut_exact]
    have hr : P * 8388608 + M = S.rung x := by omega
    have he := S.expo_rung x hx
    rw [hr, Nat.min_eq_left (by omega)]
    exact hw
end Go.Proofs.YtonoknbangnleaaGreat

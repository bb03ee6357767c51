/- Polars in memory; impl's checks: ascending, polarWindsOk, polarAnglesOk, polarRowOk, PolarOk. -/
import Derived.Test.YtonoknbangnleaaPoM
import Derived.Deep.RegionHeld3
import Derived.Deep.Draws
import Derived.BigQuiet
namespace Go.Proofs.Ytonoknbangnleaa
open Go.RowKit Ieee
set_option linter.unusedSimpArgs false
set_option linter.unusedVariables false

/-- What could be read can be read again. -/
def Keeps (w w' : World) : Prop := w.heap.size ≤ w'.heap.size ∧ ∀ p v, w.cell? p = some v → w'.cell? p = some v
theorem Keeps.refl (w : World) : Keeps w w := ⟨Nat.le_refl _, fun _ _ h => h⟩
theorem Keeps.trans {a b c : World} (h : Keeps a b) (k : Keeps b c) : Keeps a c := ⟨Nat.le_trans h.1 k.1, fun p v hp => k.2 p v (h.2 p v hp)⟩
theorem Below.keeps {w w' : World} (h : Below w.heap.size w w') : Keeps w w' := ⟨h.size, fun p v hp => by
  rw [h.cell (World.block_lt_of_cell? w p hp)]; exact hp⟩
theorem keeps_drewN (w : World) (n : Nat) : Keeps w (w.drewN n) := ⟨Nat.le_refl _, fun _ _ h => h⟩
theorem keeps_alloc (w : World) (o : Obj) : Keeps w (w.alloc o) := ⟨by simp, fun p v hp => (World.cell?_alloc_lt w _ _ (World.block_lt_of_cell? w p hp)).trans hp⟩
/-- A list that lies in memory: its elements. -/
def Row (w : World) (A : Option Addr) (n : Nat) (V : Nat → Value) : Prop := 0 < n → ∃ g o, A = some ⟨g, o, none⟩ ∧ ∀ j, j < n → w.cell? ⟨g, o + j, none⟩ = some (V j)
theorem Row.keeps {w w' : World} {A : Option Addr} {n : Nat} {V : Nat → Value} (h : Row w A n V) (k : Keeps w w') : Row w' A n V := fun hn => by
  obtain ⟨g, o, e, hc⟩ := h hn
  exact ⟨g, o, e, fun j hj => k.2 _ _ (hc j hj)⟩
def fv (x : Nat) : Value := .float .f32 x
def iv (x : Int) : Value := .int .i64 x
/-- A list of singles, of ints. -/
def RowF (w : World) (A : Option Addr) (n : Nat) (f : Nat → Nat) : Prop := Row w A n (fun j => fv (f j)) ∧ n ≤ 1048576 ∧ ∀ j, j < n → f j < 4294967296
def RowI (w : World) (A : Option Addr) (n : Nat) (f : Nat → Int) : Prop := Row w A n (fun j => iv (f j)) ∧ n ≤ 1048576 ∧ ∀ j, j < n → -9223372036854775808 ≤ f j ∧ f j ≤ 9223372036854775807
/-- A polar in memory. -/
def PolIn (w : World) (P : Pol) : Prop :=
  RowF w P.W P.nw P.ws ∧ RowI w P.A P.na P.av ∧ (Row w P.S P.ns (fun i => .slice (P.R i) (P.rn i) (P.rc i)) ∧ P.ns ≤ 1048576) ∧ ∀ i, i < P.ns → RowF w (P.R i) (P.rn i) (P.sp i)
theorem RowF.keeps {w w' : World} {A : Option Addr} {n : Nat} {f : Nat → Nat} (h : RowF w A n f) (k : Keeps w w') : RowF w' A n f := ⟨h.1.keeps k, h.2⟩
theorem RowI.keeps {w w' : World} {A : Option Addr} {n : Nat} {f : Nat → Int} (h : RowI w A n f) (k : Keeps w w') : RowI w' A n f := ⟨h.1.keeps k, h.2⟩
theorem PolIn.keeps {w w' : World} {P : Pol} (h : PolIn w P) (k : Keeps w w') : PolIn w' P :=
  ⟨h.1.keeps k, h.2.1.keeps k, ⟨h.2.2.1.1.keeps k, h.2.2.1.2⟩, fun i hi => (h.2.2.2 i hi).keeps k⟩
def Pol.val (P : Pol) : Value := .agg #[.slice P.W P.nw P.cw, .slice P.A P.na P.ca, .slice P.S P.ns P.cs]

/-- Nothing but draws. -/
def Drawn (w w' : World) : Prop := ∃ m, w' = w.drewN m
theorem Drawn.refl (w : World) : Drawn w w := ⟨0, rfl⟩
theorem Drawn.one (w : World) (n : Nat) : Drawn w (w.drewN n) := ⟨n, rfl⟩
theorem Drawn.trans {a b c : World} (h : Drawn a b) (k : Drawn b c) : Drawn a c := by
  obtain ⟨n, rfl⟩ := h
  obtain ⟨m, rfl⟩ := k
  exact ⟨n + m, World.drewN_drewN _ _ _⟩
theorem Drawn.keeps {a b : World} (h : Drawn a b) : Keeps a b := by
  obtain ⟨n, rfl⟩ := h
  exact keeps_drewN a n
theorem drewN_below (w : World) (n : Nat) : Below w.heap.size w (w.drewN n) := ⟨rfl, rfl, rfl, Nat.le_refl _, fun _ _ => rfl⟩
/-- The answer to a question, nothing turned. -/
def SaysB (p : Prop) (w : World) (e : Ending) (w' : World) : Prop := ∃ t : Bool, (t = true ↔ p) ∧ e = .returned (.bool t) ∧ Drawn w w'
theorem SaysB.yes {p : Prop} {w : World} {e : Ending} {w' : World} (h : p) (he : e = .returned (.bool true)) (d : Drawn w w') : SaysB p w e w' := ⟨true, ⟨fun _ => h, fun _ => rfl⟩, he, d⟩
theorem SaysB.no {p : Prop} {w : World} {e : Ending} {w' : World} (h : ¬ p) (he : e = .returned (.bool false)) (d : Drawn w w') : SaysB p w e w' := ⟨false, ⟨fun e => (by cases e), fun e => absurd e h⟩, he, d⟩
theorem SaysB.iff {p q : Prop} {w : World} {e : Ending} {w' : World} (h : SaysB p w e w') (k : p ↔ q) : SaysB q w e w' := by
  obtain ⟨t, h1, h2, h3⟩ := h
  exact ⟨t, h1.trans k, h2, h3⟩
/-- The answer to a question, nothing old turned. -/
def SaysW (p : Prop) (w : World) (e : Ending) (w' : World) : Prop := ∃ t : Bool, (t = true ↔ p) ∧ e = .returned (.bool t) ∧ Below w.heap.size w w'
theorem SaysW.yes {p : Prop} {w : World} {e : Ending} {w' : World} (h : p) (he : e = .returned (.bool true)) (d : Below w.heap.size w w') : SaysW p w e w' := ⟨true, ⟨fun _ => h, fun _ => rfl⟩, he, d⟩
theorem SaysW.no {p : Prop} {w : World} {e : Ending} {w' : World} (h : ¬ p) (he : e = .returned (.bool false)) (d : Below w.heap.size w w') : SaysW p w e w' := ⟨false, ⟨fun e => (by cases e), fun e => absurd e h⟩, he, d⟩

theorem says_no {p : Prop} (h : false = true ↔ p) : ¬ p := fun hp => by cases h.2 hp
theorem says_yes {p : Prop} (h : true = true ↔ p) : p := h.1 rfl

/-! ### Comparisons -/
theorem ord_num {x y : Nat} (hx : S.isNum x) (hy : S.isNum y) : FloatKind.f32.format.order x y = some (compare (S.fval x) (S.fval y)) := S.order_val hx hy
theorem fifty_num : S.f32.read 1112014848 = .number false 13107200 (-18) := by kernel_rfl
theorem fifty_val : S.fval 1112014848 = 50 * (S.oneV : Int) := by
  have hf := S.fixE_eq
  unfold S.fval; rw [fifty_num]; show signed false 13107200 (-18 + 149 : Int).toNat = _
  rw [show (-18 + 149 : Int).toNat = S.fixE - 18 by omega, signed_eq]
  show ((13107200 * 2 ^ (S.fixE - 18) : Nat) : Int) = 50 * ((S.oneV : Nat) : Int)
  unfold S.oneV; rw [show (13107200 : Nat) = 50 * 2 ^ 18 from rfl, Nat.mul_assoc, ← Nat.pow_add, show 18 + (S.fixE - 18) = S.fixE by omega, Int.natCast_mul]; rfl
/-- A word is a number from 0 to C. -/
theorem range_flag (C : Nat) (hC : S.isNum C) (k : Nat) (hk : k < 4294967296) : ∃ t u : Bool, ((t && u) = true ↔ S.isNum k ∧ 0 ≤ S.fval k ∧ S.fval k ≤ S.fval C) ∧
    (FloatKind.f32.format.order 0 k == some .lt || FloatKind.f32.format.order 0 k == some .eq) = t ∧
    (FloatKind.f32.format.order k 0 == some .gt || FloatKind.f32.format.order k 0 == some .eq) = t ∧
    (FloatKind.f32.format.order k C == some .lt || FloatKind.f32.format.order k C == some .eq) = u := by
  have h0 := S.isNum_of S.nought_num
  by_cases hE : S.expo k < 255
  · have hn := S.num_of_expo hk hE
    have e1 : FloatKind.f32.format.order 0 k = some (compare 0 (S.fval k)) := by have := S.order_val h0 hn; rw [S.nought_val] at this; exact this
    have e2 : FloatKind.f32.format.order k 0 = some (compare (S.fval k) 0) := by have := S.order_val hn h0; rw [S.nought_val] at this; exact this
    rw [e1, e2, ord_num hn hC]
    refine ⟨_, _, ?_, rfl, ?_, rfl⟩
    · rw [Bool.and_eq_true, S.cmp_flag, S.cmp_flag]
      exact ⟨fun h => ⟨hn, h⟩, fun h => h.2⟩
    · generalize S.fval k = v
      rcases Int.lt_trichotomy v 0 with h | h | h
      · rw [Int.compare_eq_lt.2 h, Int.compare_eq_gt.2 h]; rfl
      · subst h; rfl
      · rw [Int.compare_eq_gt.2 h, Int.compare_eq_lt.2 h]; rfl
  · have hE2 : S.expo k = 255 := by have := S.expo_le k; omega
    have hno : ¬ (S.isNum k ∧ 0 ≤ S.fval k ∧ S.fval k ≤ S.fval C) := fun h => hE (S.expo_of_num hk h.1)
    rcases S.read_full hk hE2 with h | ⟨b, h⟩
    · have e2 : FloatKind.f32.format.order k 0 = some (if S.sneg k then .lt else .gt) := S.order_inf h h0
      have e3 : FloatKind.f32.format.order k C = some (if S.sneg k then .lt else .gt) := S.order_inf h hC
      have e1 : FloatKind.f32.format.order 0 k = some (if S.sneg k then .gt else .lt) := by
        have h' : FloatKind.f32.format.read k = .infinity (S.sneg k) := h
        unfold Format.order; rw [h', show FloatKind.f32.format.read 0 = _ from S.nought_num]; cases S.sneg k <;> rfl
      rw [e1, e2, e3]
      refine ⟨_, _, ?_, rfl, ?_, rfl⟩
      · cases S.sneg k <;> simp [hno]
      · cases S.sneg k <;> rfl
    · have e2 : ∀ z, FloatKind.f32.format.order k z = none := fun z => S.order_nan h z
      have e1 : FloatKind.f32.format.order 0 k = none := by
        have h' : FloatKind.f32.format.read k = .nan (S.sneg k) b := h
        unfold Format.order; rw [h', show FloatKind.f32.format.read 0 = _ from S.nought_num]; rfl
      rw [e1, e2, e2]
      exact ⟨false, false, by simp [hno], rfl, rfl, rfl⟩
theorem air_flag (k : Nat) (hk : k < 4294967296) : ∃ t u : Bool, ((t && u) = true ↔ okA k) ∧
    (FloatKind.f32.format.order 0 k == some .lt || FloatKind.f32.format.order 0 k == some .eq) = t ∧
    (FloatKind.f32.format.order k 0 == some .gt || FloatKind.f32.format.order k 0 == some .eq) = t ∧
    (FloatKind.f32.format.order k 1120403456 == some .lt || FloatKind.f32.format.order k 1120403456 == some .eq) = u := by
  obtain ⟨t, u, h, r⟩ := range_flag 1120403456 (S.isNum_of S.hund_num) k hk
  rw [S.hund_val] at h
  exact ⟨t, u, h.trans ⟨fun h => ⟨hk, h⟩, fun h => h.2⟩, r⟩
theorem boat_flag (k : Nat) (hk : k < 4294967296) : ∃ t u : Bool, ((t && u) = true ↔ okS k) ∧
    (FloatKind.f32.format.order 0 k == some .lt || FloatKind.f32.format.order 0 k == some .eq) = t ∧
    (FloatKind.f32.format.order k 0 == some .gt || FloatKind.f32.format.order k 0 == some .eq) = t ∧
    (FloatKind.f32.format.order k 1112014848 == some .lt || FloatKind.f32.format.order k 1112014848 == some .eq) = u := by
  obtain ⟨t, u, h, r⟩ := range_flag 1112014848 (S.isNum_of fifty_num) k hk
  rw [fifty_val] at h
  exact ⟨t, u, h.trans ⟨fun h => ⟨hk, h⟩, fun h => h.2⟩, r⟩
/-- Greater than 0. -/
theorem above_zero {x : Nat} (hx : x < 4294967296) (h : (FloatKind.f32.format.order x 0 == some .gt) = true) : (S.isNum x ∧ 0 < S.fval x) ∨ S.f32.read x = .infinity false := by
  have h0 := S.isNum_of S.nought_num
  have h' : FloatKind.f32.format.order x 0 = some .gt := by simpa using h
  by_cases hE : S.expo x < 255
  · have hn := S.num_of_expo hx hE
    rw [ord_num hn h0, S.nought_val] at h'
    exact .inl ⟨hn, Int.compare_eq_gt.1 (Option.some.inj h')⟩
  · have hE2 : S.expo x = 255 := by have := S.expo_le x; omega
    rcases S.read_full hx hE2 with hr | ⟨b, hr⟩
    · right
      have e2 : FloatKind.f32.format.order x 0 = some (if S.sneg x then .lt else .gt) := S.order_inf hr h0
      rw [e2] at h'
      cases hs : S.sneg x
      · rw [hr, hs]
      · rw [hs] at h'; cases h'
    · have e2 : FloatKind.f32.format.order x 0 = none := S.order_nan hr 0
      rw [e2] at h'; cases h'
theorem inf_lt {x y : Nat} (h : S.f32.read x = .infinity false) : FloatKind.f32.format.order x y ≠ some .lt := by
  have h' : FloatKind.f32.format.read x = .infinity false := h
  unfold Format.order
  rw [h']
  cases FloatKind.f32.format.read y with
  | infinity s => cases s <;> simp [Datum.order] <;> decide
  | nan s b => simp [Datum.order]
  | number s m i => simp [Datum.order]
theorem lt_above {x y : Nat} (hx : x < 4294967296) (hy : y < 4294967296) (h0 : (FloatKind.f32.format.order x 0 == some .gt) = true) (h : FloatKind.f32.format.order x y = some .lt) :
    S.isNum x ∧ (FloatKind.f32.format.order y 0 == some .gt) = true := by
  have z0 := S.isNum_of S.nought_num
  rcases above_zero hx h0 with ⟨hn, hv⟩ | hi
  · refine ⟨hn, ?_⟩
    by_cases hE : S.expo y < 255
    · have hny := S.num_of_expo hy hE
      rw [ord_num hn hny] at h
      have h1 := Int.compare_eq_lt.1 (Option.some.inj h)
      rw [ord_num hny z0, S.nought_val, Int.compare_eq_gt.2 (Int.lt_trans hv h1)]; rfl
    · have hE2 : S.expo y = 255 := by have := S.expo_le y; omega
      rcases S.read_full hy hE2 with hr | ⟨b, hr⟩
      · have e2 : FloatKind.f32.format.order y 0 = some (if S.sneg y then .lt else .gt) := S.order_inf hr z0
        rw [e2]
        cases hs : S.sneg y
        · rfl
        · exfalso
          obtain ⟨s, m, i, e, _⟩ := hn
          have hr' : FloatKind.f32.format.read y = .infinity true := by rw [← hs]; exact hr
          have e' : FloatKind.f32.format.read x = .number s m i := e
          unfold Format.order at h; rw [hr', e'] at h; simp [Datum.order] at h
      · exfalso
        obtain ⟨s, m, i, e, _⟩ := hn
        have hr' : FloatKind.f32.format.read y = .nan (S.sneg y) b := hr
        have e' : FloatKind.f32.format.read x = .number s m i := e
        unfold Format.order at h; rw [hr', e'] at h; simp [Datum.order] at h
  · exact absurd h (inf_lt hi)
/-- Winds by their comparisons. -/
def WindsBy (n : Nat) (f : Nat → Nat) : Prop := (1 ≤ n ∧ n ≤ 12) ∧ (FloatKind.f32.format.order (f 0) 0 == some .gt) = true ∧
  (FloatKind.f32.format.order (f (n - 1)) 1120403456 == some .lt || FloatKind.f32.format.order (f (n - 1)) 1120403456 == some .eq) = true ∧ ∀ i, i + 1 < n → FloatKind.f32.format.order (f i) (f (i + 1)) = some .lt
theorem winds_by {n : Nat} {f : Nat → Nat} (hf : ∀ j, j < n → f j < 4294967296) : WindsBy n f ↔ WindsOk4 n f := by
  constructor
  · rintro ⟨hn, h0, hl, hasc⟩
    have hpos : ∀ i, i < n → (FloatKind.f32.format.order (f i) 0 == some .gt) = true := by
      intro i
      induction i with
      | zero => intro _; exact h0
      | succ i ih => intro hi; exact (lt_above (hf i (by omega)) (hf (i + 1) hi) (ih (by omega)) (hasc i hi)).2
    have hnum : ∀ i, i < n → S.isNum (f i) := by
      intro i hi
      by_cases h : i + 1 < n
      · exact (lt_above (hf i (by omega)) (hf (i + 1) h) (hpos i hi) (hasc i h)).1
      · obtain rfl : i = n - 1 := by omega
        rcases above_zero (hf _ hi) (hpos _ hi) with h | h
        · exact h.1
        · exfalso
          have := S.order_inf h (S.isNum_of S.hund_num)
          have e : FloatKind.f32.format.order (f (n - 1)) 1120403456 = some .gt := this
          rw [e] at hl; cases hl
    have hval : ∀ i, i < n → 0 < S.fval (f i) := fun i hi => by
      rcases above_zero (hf _ hi) (hpos _ hi) with h | h
      · exact h.2
      · obtain ⟨s, m, j, e, _⟩ := hnum i hi
        rw [e] at h; cases h
    have hlt : ∀ i, i + 1 < n → S.fval (f i) < S.fval (f (i + 1)) := fun i hi => by
      have := hasc i hi
      rw [ord_num (hnum i (by omega)) (hnum (i + 1) hi)] at this
      exact Int.compare_eq_lt.1 (Option.some.inj this)
    have hlast : S.fval (f (n - 1)) ≤ 100 * (S.oneV : Int) := by
      rw [ord_num (hnum _ (by omega)) (S.isNum_of S.hund_num), S.hund_val] at hl
      exact (S.cmp_flag _ _).1 hl
    refine ⟨hn, fun i hi => ⟨⟨hf i hi, hnum i hi, Int.le_of_lt (hval i hi), ?_⟩, hval i hi⟩, hlt⟩
    exact Int.le_trans (asc_le (f := fun i => S.fval (f i)) hlt (show i ≤ n - 1 by omega) (by omega)) hlast
  · rintro ⟨hn, hok, hlt⟩
    refine ⟨hn, ?_, ?_, fun i hi => ?_⟩
    · rw [ord_num (hok 0 (by omega)).1.2.1 (S.isNum_of S.nought_num), S.nought_val, Int.compare_eq_gt.2 (hok 0 (by omega)).2]; rfl
    · rw [ord_num (hok (n - 1) (by omega)).1.2.1 (S.isNum_of S.hund_num), S.hund_val]
      exact (S.cmp_flag _ _).2 (hok (n - 1) (by omega)).1.2.2.2
    · rw [ord_num (hok i (by omega)).1.2.1 (hok (i + 1) hi).1.2.1, Int.compare_eq_lt.2 (hlt i hi)]

/-! ### The walks -/
set_option maxHeartbeats 400000 in
theorem i_air (k : Nat) (w : World) (hk : k < 4294967296) :
    Calls Try.prog 71 #[.float .f32 k] w fun e w' => ∃ t, (t = true ↔ okA k) ∧ e = .returned (.bool t) ∧ w = w' := by
  obtain ⟨t, u, h, f1, f2, f3⟩ := air_flag k hk
  have H := Lib.hid h
  clear h f2
  cases t <;> cases u
  all_goals
    go_enter Try.func71, Try.ntmps71
    go_wp2
    go_ret
    exact ⟨_, H.out, rfl, rfl⟩
set_option maxHeartbeats 400000 in
theorem i_boat (k : Nat) (w : World) (hk : k < 4294967296) :
    Calls Try.prog 97 #[.float .f32 k] w fun e w' => ∃ t, (t = true ↔ okS k) ∧ e = .returned (.bool t) ∧ w = w' := by
  obtain ⟨t, u, h, f1, f2, f3⟩ := boat_flag k hk
  have H := Lib.hid h
  clear h f2
  cases t <;> cases u
  all_goals
    go_enter Try.func97, Try.ntmps97
    go_wp2
    go_ret
    exact ⟨_, H.out, rfl, rfl⟩
set_option maxRecDepth 100000 in
set_option maxHeartbeats 1000000 in
theorem i_ascF (f : Nat → Nat) (A : Option Addr) (n cap : Nat) (w : World) (h : RowF w A n f) :
    Calls Try.prog 95 #[.slice A n cap] w fun e w' => SaysB (∀ i, i + 1 < n → FloatKind.f32.format.order (f i) (f (i + 1)) = some .lt) w e w' := by
  suffices hs : ∀ p : Prop, Hid (p ↔ (∀ i, i + 1 < n → FloatKind.f32.format.order (f i) (f (i + 1)) = some .lt)) → Calls Try.prog 95 #[.slice A n cap] w fun e w' => SaysB p w e w' from hs _ (Lib.hid Iff.rfl)
  intro p HP
  obtain ⟨hr, hn, _⟩ := h
  have HR := Lib.hid hr
  clear hr
  go_enter Try.func95, Try.ntmps95
  go_wp2
  go_loopw [3] (fun i wr => ∃ k m : Nat, k + 1 ≤ max n 1 ∧ i = .int .i64 ((k : Int) + 1) ∧ wr = w.drewN m ∧ ∀ j, j < k → FloatKind.f32.format.order (f j) (f (j + 1)) = some .lt) (fun i _ => n + 1 - (intOf i).toNat)
  case atStart => exact ⟨0, 0, by omega, rfl, rfl, fun j h => by omega⟩
  case round =>
    obtain ⟨k, m, hk, rfl, rfl, hall⟩ := hrel
    have HA := Lib.hid hall
    clear hall
    by_cases hlt : k + 1 < n
    · obtain ⟨g, o, rfl, hc⟩ := HR.out (by omega)
      have c1 : w.cell? ⟨g, o + k, none⟩ = some (fv (f k)) := hc k (by omega)
      have c2 : w.cell? ⟨g, o + (k + 1), none⟩ = some (fv (f (k + 1))) := hc (k + 1) hlt
      unfold fv at c1 c2
      clear hc
      have hk1 : (k : Int) + 1 < (n : Int) := by omega
      have wi : IntKind.i64.wrap (k : Int) = (k : Int) := IntWalk.i64_in _ (by omega)
      have i1 : (0 : Int) ≤ (k : Int) := by omega
      have i2 : (k : Int) < (n : Int) := by omega
      have i3 : (0 : Int) ≤ (k : Int) + 1 := by omega
      cases hb : (FloatKind.f32.format.order (f k) (f (k + 1)) == some .lt)
      · have hno : ¬ ∀ i, i + 1 < n → FloatKind.f32.format.order (f i) (f (i + 1)) = some .lt := fun h => by
          rw [h k hlt] at hb; cases hb
        have HN := Lib.hid hno
        clear hno
        generalize f k = x at *
        generalize f (k + 1) = y at *
        go_wp2
        go_quiet (fail)
        go_wp2
        go_ret
        exact SaysB.no (fun h => absurd (HP.out.1 h) HN.out) rfl ⟨_, World.drewN_drewN _ _ _⟩
      · have hyes : ∀ j, j < k + 1 → FloatKind.f32.format.order (f j) (f (j + 1)) = some .lt := fun j hj => by
          rcases Nat.lt_or_ge j k with h | h
          · exact HA.out j h
          · obtain rfl : j = k := by omega
            simpa using hb
        have HY := Lib.hid hyes
        clear hyes
        generalize f k = x at *
        generalize f (k + 1) = y at *
        go_wp2
        go_quiet (fail)
        go_wp2
        go_roundw
        case rel => exact ⟨k + 1, _, by omega, by go_num, rfl, HY.out⟩
        case measure => simp [intOf]; omega
    · have hk1 : ¬ ((k : Int) + 1 < (n : Int)) := by omega
      go_wp2
      go_ret
      exact SaysB.yes (HP.out.2 fun i hi => HA.out i (by omega)) rfl (Drawn.one _ _)
set_option maxRecDepth 100000 in
set_option maxHeartbeats 1000000 in
theorem i_ascI (f : Nat → Int) (A : Option Addr) (n cap : Nat) (w : World) (h : RowI w A n f) :
    Calls Try.prog 96 #[.slice A n cap] w fun e w' => SaysB (∀ i, i + 1 < n → f i < f (i + 1)) w e w' := by
  suffices hs : ∀ p : Prop, Hid (p ↔ (∀ i, i + 1 < n → f i < f (i + 1))) → Calls Try.prog 96 #[.slice A n cap] w fun e w' => SaysB p w e w' from hs _ (Lib.hid Iff.rfl)
  intro p HP
  obtain ⟨hr, hn, _⟩ := h
  have HR := Lib.hid hr
  clear hr
  go_enter Try.func96, Try.ntmps96
  go_wp2
  go_loopw [3] (fun i wr => ∃ k m : Nat, k + 1 ≤ max n 1 ∧ i = .int .i64 ((k : Int) + 1) ∧ wr = w.drewN m ∧ ∀ j, j < k → f j < f (j + 1)) (fun i _ => n + 1 - (intOf i).toNat)
  case atStart => exact ⟨0, 0, by omega, rfl, rfl, fun j h => by omega⟩
  case round =>
    obtain ⟨k, m, hk, rfl, rfl, hall⟩ := hrel
    have HA := Lib.hid hall
    clear hall
    by_cases hlt : k + 1 < n
    · obtain ⟨g, o, rfl, hc⟩ := HR.out (by omega)
      have c1 : w.cell? ⟨g, o + k, none⟩ = some (iv (f k)) := hc k (by omega)
      have c2 : w.cell? ⟨g, o + (k + 1), none⟩ = some (iv (f (k + 1))) := hc (k + 1) hlt
      unfold iv at c1 c2
      clear hc
      have hk1 : (k : Int) + 1 < (n : Int) := by omega
      have wi : IntKind.i64.wrap (k : Int) = (k : Int) := IntWalk.i64_in _ (by omega)
      have i1 : (0 : Int) ≤ (k : Int) := by omega
      have i2 : (k : Int) < (n : Int) := by omega
      have i3 : (0 : Int) ≤ (k : Int) + 1 := by omega
      cases hb : decide (f k < f (k + 1))
      case false =>
        have hno : ¬ ∀ i, i + 1 < n → f i < f (i + 1) := fun h => of_decide_eq_false hb (h k hlt)
        have HN := Lib.hid hno
        clear hno
        generalize f k = x at *
        generalize f (k + 1) = y at *
        go_wp2
        go_quiet (fail)
        go_wp2
        go_ret
        exact SaysB.no (fun h => absurd (HP.out.1 h) HN.out) rfl ⟨_, World.drewN_drewN _ _ _⟩
      case true =>
        have hyes : ∀ j, j < k + 1 → f j < f (j + 1) := fun j hj => by
          rcases Nat.lt_or_ge j k with h | h
          · exact HA.out j h
          · obtain rfl : j = k := by omega
            exact of_decide_eq_true hb
        have HY := Lib.hid hyes
        clear hyes
        generalize f k = x at *
        generalize f (k + 1) = y at *
        go_wp2
        go_quiet (fail)
        go_wp2
        go_roundw
        case rel => exact ⟨k + 1, _, by omega, by go_num, rfl, HY.out⟩
        case measure => simp [intOf]; omega
    · have hk1 : ¬ ((k : Int) + 1 < (n : Int)) := by omega
      go_wp2
      go_ret
      exact SaysB.yes (HP.out.2 fun i hi => HA.out i (by omega)) rfl (Drawn.one _ _)
set_option maxRecDepth 100000 in
set_option maxHeartbeats 1000000 in
theorem i_windsOk (f : Nat → Nat) (A : Option Addr) (n cap : Nat) (w : World) (h : RowF w A n f) :
    Calls Try.prog 84 #[.slice A n cap] w fun e w' => SaysB (WindsOk4 n f) w e w' := by
  suffices hs : ∀ p : Prop, Hid (p ↔ WindsBy n f) → Calls Try.prog 84 #[.slice A n cap] w fun e w' => SaysB p w e w' from
    (hs _ (Lib.hid Iff.rfl)).mono fun e w' h' => h'.iff (winds_by h.2.2)
  intro P HP
  have hn := h.2.1
  have HR := Lib.hid h
  clear h
  by_cases hr : 1 ≤ n ∧ n ≤ 12
  · have hn1 : (1 : Int) ≤ (n : Int) := by omega
    have hn2 : (n : Int) ≤ 12 := by omega
    have hasc := i_ascF f A n cap w HR.out
    obtain ⟨hrow, _, _⟩ := HR.out
    obtain ⟨g, o, rfl, hc⟩ := hrow (by omega)
    obtain ⟨p, rfl⟩ : ∃ p, n = p + 1 := ⟨n - 1, by omega⟩
    have c0 : w.cell? ⟨g, o, none⟩ = some (fv (f 0)) := hc 0 (by omega)
    have c1 : w.cell? ⟨g, o + p, none⟩ = some (fv (f p)) := hc p (by omega)
    unfold fv at c0 c1
    have e1 : ((p + 1 : Nat) : Int) = (p : Int) + 1 := by omega
    have i1 : (0 : Int) ≤ (p : Int) := by omega
    have i2 : (p : Int) < (p : Int) + 1 := by omega
    have i3 : (0 : Int) < (p : Int) + 1 := by omega
    have wi : IntKind.i64.wrap (p : Int) = (p : Int) := IntWalk.i64_in _ (by omega)
    have hW : P ↔ (FloatKind.f32.format.order (f 0) 0 == some .gt) = true ∧ (FloatKind.f32.format.order (f p) 1120403456 == some .lt || FloatKind.f32.format.order (f p) 1120403456 == some .eq) = true ∧ ∀ i, i + 1 < p + 1 → FloatKind.f32.format.order (f i) (f (i + 1)) = some .lt :=
      HP.out.trans ⟨fun h => ⟨h.2.1, h.2.2.1, h.2.2.2⟩, fun h => ⟨hr, h.1, h.2.1, h.2.2⟩⟩
    have HW := Lib.hid hW
    have HC := Lib.hid hasc
    clear hW hc hrow hasc
    cases b0 : (FloatKind.f32.format.order (f 0) 0 == some .gt)
    · have hno : ¬ P := fun h => by have := (HW.out.1 h).1; rw [b0] at this; cases this
      have HN := Lib.hid hno
      clear hno
      go_enter Try.func84, Try.ntmps84
      go_wp2
      go_ret
      exact SaysB.no HN.out rfl (Drawn.refl _)
    · cases b1 : (FloatKind.f32.format.order (f p) 1120403456 == some .lt || FloatKind.f32.format.order (f p) 1120403456 == some .eq)
      · have hno : ¬ P := fun h => by have := (HW.out.1 h).2.1; rw [b1] at this; cases this
        have HN := Lib.hid hno
        clear hno
        go_enter Try.func84, Try.ntmps84
        go_wp2
        go_ret
        exact SaysB.no HN.out rfl (Drawn.refl _)
      · have hB := Lib.hid (And.intro b0 b1)
        go_enter Try.func84, Try.ntmps84
        go_wp2_with fail
        refine HC.out.mono ?_
        rintro e w1 ⟨t, ht, rfl, m, rfl⟩
        cases t
        · have hno : ¬ P := fun h => says_no ht (HW.out.1 h).2.2
          have HN := Lib.hid hno
          clear hno ht
          go_wp2
          go_ret
          exact SaysB.no HN.out rfl (Drawn.one _ _)
        · have hyes : P := HW.out.2 ⟨b0, b1, says_yes ht⟩
          have HY := Lib.hid hyes
          clear hyes ht
          go_wp2
          go_ret
          exact SaysB.yes HY.out rfl (Drawn.one _ _)
  · have hno : ¬ P := fun h => hr (HP.out.1 h).1
    have HN := Lib.hid hno
    clear hno
    rcases Nat.lt_or_ge n 1 with h | h
    · obtain rfl : n = 0 := by omega
      go_enter Try.func84, Try.ntmps84
      go_wp2
      go_ret
      exact SaysB.no HN.out rfl (Drawn.refl _)
    · have hn1 : (1 : Int) ≤ (n : Int) := by omega
      have hn2 : ¬ ((n : Int) ≤ 12) := by omega
      go_enter Try.func84, Try.ntmps84
      go_wp2
      go_ret
      exact SaysB.no HN.out rfl (Drawn.refl _)
set_option maxRecDepth 100000 in
set_option maxHeartbeats 1000000 in
theorem i_anglesOk (f : Nat → Int) (A : Option Addr) (n cap : Nat) (w : World) (h : RowI w A n f) :
    Calls Try.prog 85 #[.slice A n cap] w fun e w' => SaysB (AnglesOk n f) w e w' := by
  suffices hs : ∀ p : Prop, Hid (p ↔ AnglesOk n f) → Calls Try.prog 85 #[.slice A n cap] w fun e w' => SaysB p w e w' from hs _ (Lib.hid Iff.rfl)
  intro P HP
  have hn := h.2.1
  have HR := Lib.hid h
  clear h
  by_cases hr : 2 ≤ n ∧ n ≤ 24
  · have hn1 : (2 : Int) ≤ (n : Int) := by omega
    have hn2 : (n : Int) ≤ 24 := by omega
    have hasc := i_ascI f A n cap w HR.out
    obtain ⟨hrow, _, _⟩ := HR.out
    obtain ⟨g, o, rfl, hc⟩ := hrow (by omega)
    obtain ⟨p, rfl⟩ : ∃ p, n = p + 1 := ⟨n - 1, by omega⟩
    have c0 : w.cell? ⟨g, o, none⟩ = some (iv (f 0)) := hc 0 (by omega)
    have c1 : w.cell? ⟨g, o + p, none⟩ = some (iv (f p)) := hc p (by omega)
    unfold iv at c0 c1
    have e1 : ((p + 1 : Nat) : Int) = (p : Int) + 1 := by omega
    have i1 : (0 : Int) ≤ (p : Int) := by omega
    have i2 : (p : Int) < (p : Int) + 1 := by omega
    have i3 : (0 : Int) < (p : Int) + 1 := by omega
    have i4 : (2 : Int) ≤ (p : Int) + 1 := by omega
    have i5 : (p : Int) + 1 ≤ 24 := by omega
    have wi : IntKind.i64.wrap (p : Int) = (p : Int) := IntWalk.i64_in _ (by omega)
    have hW : P ↔ f 0 = 0 ∧ f p = 180 ∧ ∀ i, i + 1 < p + 1 → f i < f (i + 1) := HP.out.trans ⟨fun h => ⟨h.2.1, h.2.2.1, h.2.2.2⟩, fun h => ⟨hr, h.1, h.2.1, h.2.2⟩⟩
    have HW := Lib.hid hW
    have HC := Lib.hid hasc
    clear hW hc hrow hasc
    by_cases b0 : f 0 = 0
    · rw [b0] at c0
      by_cases b1 : f p = 180
      · rw [b1] at c1
        have HB := Lib.hid (And.intro b0 b1)
        clear b0 b1
        go_enter Try.func85, Try.ntmps85
        go_wp2_with fail
        refine HC.out.mono ?_
        rintro e w1 ⟨t, ht, rfl, m, rfl⟩
        cases t
        · have hno : ¬ P := fun h => says_no ht (HW.out.1 h).2.2
          have HN := Lib.hid hno
          clear hno ht
          go_wp2
          go_ret
          exact SaysB.no HN.out rfl (Drawn.one _ _)
        · have hyes : P := HW.out.2 ⟨HB.out.1, HB.out.2, says_yes ht⟩
          have HY := Lib.hid hyes
          clear hyes ht
          go_wp2
          go_ret
          exact SaysB.yes HY.out rfl (Drawn.one _ _)
      · have hno : ¬ P := fun h => b1 (HW.out.1 h).2.1
        have HN := Lib.hid hno
        clear hno b0
        generalize f p = y at *
        go_enter Try.func85, Try.ntmps85
        go_wp2
        go_ret
        exact SaysB.no HN.out rfl (Drawn.refl _)
    · have hno : ¬ P := fun h => b0 (HW.out.1 h).1
      have HN := Lib.hid hno
      clear hno
      generalize f 0 = y at *
      go_enter Try.func85, Try.ntmps85
      go_wp2
      go_ret
      exact SaysB.no HN.out rfl (Drawn.refl _)
  · have hno : ¬ P := fun h => hr (HP.out.1 h).1
    have HN := Lib.hid hno
    clear hno
    rcases Nat.lt_or_ge n 2 with h | h
    · have hn1 : ¬ ((2 : Int) ≤ (n : Int)) := by omega
      go_enter Try.func85, Try.ntmps85
      go_wp2
      go_ret
      exact SaysB.no HN.out rfl (Drawn.refl _)
    · have hn1 : (2 : Int) ≤ (n : Int) := by omega
      have hn2 : ¬ ((n : Int) ≤ 24) := by omega
      go_enter Try.func85, Try.ntmps85
      go_wp2
      go_ret
      exact SaysB.no HN.out rfl (Drawn.refl _)
set_option maxRecDepth 100000 in
set_option maxHeartbeats 1000000 in
theorem i_rowOk (f : Nat → Nat) (A : Option Addr) (n cap c : Nat) (w : World) (h : RowF w A n f) (hcl : c ≤ 1048576) :
    Calls Try.prog 86 #[.slice A n cap, .int .i64 c] w fun e w' => SaysB (n = c ∧ RowOk n f) w e w' := by
  suffices hs : ∀ p : Prop, Hid (p ↔ n = c ∧ RowOk n f) → Calls Try.prog 86 #[.slice A n cap, .int .i64 c] w fun e w' => SaysB p w e w' from hs _ (Lib.hid Iff.rfl)
  intro P HP
  obtain ⟨hr, hn, hf⟩ := h
  have HR := Lib.hid hr
  have HF := Lib.hid hf
  clear hr hf
  by_cases hnc : n = c
  · subst hnc
    go_enter Try.func86, Try.ntmps86
    go_wp2
    go_loop [13] (fun i => ∃ k : Nat, k ≤ n ∧ i = .int .i64 k ∧ ∀ j, j < k → okS (f j)) (fun i => n - (intOf i).toNat)
    case atStart => exact ⟨0, Nat.zero_le _, rfl, fun j h => by omega⟩
    case round =>
      obtain ⟨k, hk, rfl, hall⟩ := hrel
      have HA := Lib.hid hall
      clear hall
      by_cases hlt : k < n
      · obtain ⟨g, o, rfl, hc⟩ := HR.out (by omega)
        have c1 : w.cell? ⟨g, o + k, none⟩ = some (fv (f k)) := hc k (by omega)
        unfold fv at c1
        have fl := HF.out k hlt
        have hk1 : (k : Int) < (n : Int) := by omega
        clear hc
        have hb := fun w => i_boat (f k) w fl
        generalize hx : f k = x at *
        have HX := Lib.hid hx
        clear hx fl
        go_wp2_with fail
        refine (hb _).mono ?_
        rintro e w1 ⟨t, ht, rfl, rfl⟩
        clear hb
        cases t
        · have hno : ¬ P := fun h => says_no ht (by rw [← HX.out]; exact (HP.out.1 h).2 k hlt)
          have HN := Lib.hid hno
          clear hno ht
          go_wp2
          go_ret
          exact SaysB.no HN.out rfl (Drawn.refl _)
        · have HT := Lib.hid (says_yes ht)
          clear ht
          go_wp2
          go_round
          case rel => exact ⟨k + 1, by omega, by go_num, fun j hj => by
            rcases Nat.lt_or_ge j k with h | h
            · exact HA.out j h
            · obtain rfl : j = k := by omega
              rw [HX.out]; exact HT.out⟩
          case measure => simp [intOf]; omega
      · obtain rfl : k = n := by omega
        go_wp2
        go_ret
        exact SaysB.yes (HP.out.2 ⟨trivial, HA.out⟩) rfl (Drawn.refl _)
  · have hnc1 : ¬ ((n : Int) = (c : Int)) := by omega
    have hno : ¬ P := fun h => hnc (HP.out.1 h).1
    have HN := Lib.hid hno
    clear hno
    go_enter Try.func86, Try.ntmps86
    go_wp2
    go_ret
    exact SaysB.no HN.out rfl (Drawn.refl _)
end Go.Proofs.Ytonoknbangnleaa

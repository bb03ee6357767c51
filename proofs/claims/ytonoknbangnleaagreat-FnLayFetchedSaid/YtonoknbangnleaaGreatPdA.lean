/- The drawing of polars: what stands while a polar is drawn; numbers that the drawing makes. -/
import Derived.Test.YtonoknbangnleaaGreatPZ
import Derived.Test.YtonoknbangnleaaGreatDrW
import Derived.Deep.AppendLies
namespace Go.Proofs.YtonoknbangnleaaGreat
open Go.RowKit Ieee
set_option linter.unusedSimpArgs false
set_option linter.unusedVariables false

/-! ### Numbers -/
theorem expo_bd {c : Nat} (h1 : c < 4294967296) (hE : S.expo c < 131) : okB 16 c := by
  refine ⟨h1, S.num_of_expo h1 (by omega), ?_⟩
  obtain ⟨M, P, e, hM, hcase⟩ := S.num_form c h1 (by omega)
  unfold S.fval
  rw [e]
  show (signed (S.sneg c) M (-149 + (P : Int) + 149).toNat).natAbs ≤ _
  rw [(S.val_amount _ _ _).1, show (-149 + (P : Int) + 149).toNat = P by omega]
  have hP : P ≤ 129 := by omega
  have hE := S.fixE_eq
  have h24 : M ≤ 2 ^ 24 := Nat.le_of_lt hM
  have h3 : M * 2 ^ P ≤ 2 ^ 24 * 2 ^ 129 := Nat.mul_le_mul h24 (Nat.pow_le_pow_right (by omega) hP)
  refine Nat.le_trans h3 ?_
  unfold S.oneV
  rw [show (16 : Nat) = 2 ^ 4 from rfl, ← Nat.pow_add, ← Nat.pow_add, hE]
  exact Nat.le_refl _
def quoB (y n : Nat) : Bool := match floatBits .quo .f32 (floatOfInt .f32 n) y with
  | some c => Nat.blt c 4294967296 && Nat.blt (c / 8388608 % 256) 131
  | none => false
theorem quo16_tab : (List.range 65).all (quoB 1098907648) = true := by kernel_rfl
theorem quo8_tab : (List.range 65).all (quoB 1090519040) = true := by kernel_rfl
theorem quoB_ok {y n : Nat} (ht : (List.range 65).all (quoB y) = true) (hn : n ≤ 64) : ∃ r, floatBits .quo .f32 (floatOfInt .f32 n) y = some r ∧ okB 16 r := by
  have hb : quoB y n = true := List.all_eq_true.1 ht _ (List.mem_range.2 (by omega))
  unfold quoB at hb
  cases hc : floatBits .quo .f32 (floatOfInt .f32 n) y with
  | none => rw [hc] at hb; cases hb
  | some c =>
    rw [hc] at hb
    simp only [Bool.and_eq_true, Nat.blt_eq] at hb
    exact ⟨c, rfl, expo_bd hb.1 hb.2⟩
theorem quo16_ok {n : Int} (h0 : 0 ≤ n) (h1 : n ≤ 64) : ∃ r, floatBits .quo .f32 (floatOfInt .f32 n) 1098907648 = some r ∧ okB 16 r := by
  obtain ⟨k, rfl⟩ : ∃ k : Nat, n = k := ⟨n.toNat, by omega⟩
  exact quoB_ok quo16_tab (by omega)
theorem quo8_ok {n : Int} (h0 : 0 ≤ n) (h1 : n ≤ 64) : ∃ r, floatBits .quo .f32 (floatOfInt .f32 n) 1090519040 = some r ∧ okB 16 r := by
  obtain ⟨k, rfl⟩ : ∃ k : Nat, n = k := ⟨n.toNat, by omega⟩
  exact quoB_ok quo8_tab (by omega)
theorem ofInt_ok {n : Int} (h0 : 0 ≤ n) (h1 : n ≤ 16) : okB 16 (floatOfInt .f32 n) := by
  have h := S.ofInt_val n (by omega) (by omega)
  refine ⟨ofInt_lt n, h.1, ?_⟩
  rw [h.2, Int.natAbs_mul]
  exact Nat.mul_le_mul (by omega) (Nat.le_refl _)
theorem add_bd {M N x y : Nat} (hx : okB M x) (hy : okB N y) (hM : M + N ≤ 100000) : ∃ r, floatBits .add .f32 x y = some r ∧ okB (M + N) r := by
  have b1 := oneS_lt 100000 (by decide)
  have h1 := hx.2.2
  have h2 := hy.2.2
  have hs : (S.fval x + S.fval y).natAbs ≤ (M + N) * S.oneV := by rw [Nat.add_mul]; omega
  have hMo : (M + N) * S.oneV ≤ 100000 * S.oneV := Nat.mul_le_mul_right _ hM
  obtain ⟨r, r1, r2, r3, r4⟩ := S.add_op hx.2.1 hy.2.1 (by omega)
  exact ⟨r, r1, r3, r2, near_bd (r4.near (by omega)) (by omega) (by rw [Nat.mul_one]; exact hs)⟩
theorem zero_ok (M : Nat) : okB M 0 := by
  refine ⟨by omega, ?_, ?_⟩
  · exact S.num_of_expo (by omega) (by decide)
  · have : S.fval 0 = 0 := by kernel_rfl
    rw [this]; exact Nat.zero_le _

/-! ### Lists of the call's own -/
def IsB (M : Nat) (v : Value) : Prop := ∃ x, okB M x ∧ v = .float .f32 x
def IsN (v : Value) : Prop := ∃ x : Int, (-9223372036854775808 ≤ x ∧ x ≤ 9223372036854775807) ∧ v = .int .i64 x
theorem IsB.up {M M' : Nat} {v : Value} (h : IsB M v) (hM : M ≤ M') : IsB M' v := by
  obtain ⟨x, h1, h2⟩ := h
  exact ⟨x, okB_up h1 hM, h2⟩
/-- A list of the call's own, whose elements are such. -/
def OwnV (p : Value → Prop) (t : TypeId) (w : World) (B : Nat) (v : Value) (n : Nat) : Prop := ∃ xs : List Value, (∀ x ∈ xs, p x) ∧ w.ownsRow B t 1 v n xs
theorem OwnV.kept {p : Value → Prop} {t : TypeId} {w w' : World} {B : Nat} {v : Value} {n : Nat} {r : Option Nat} (h : OwnV p t w B v n) (hg : w.grownBy w' r) (hr : ∀ k, r = some k → v.ownBlock ≠ some k) : OwnV p t w' B v n := by
  obtain ⟨xs, h1, h2⟩ := h
  refine ⟨xs, h1, h2.kept hg ?_⟩
  cases hv : v.ownBlock with
  | none => exact .inl rfl
  | some k => exact .inr fun e => hr k e.symm hv
theorem OwnV.lt {p : Value → Prop} {t : TypeId} {w : World} {B : Nat} {v : Value} {n : Nat} (h : OwnV p t w B v n) {k : Nat} (hk : v.ownBlock = some k) : B ≤ k ∧ k < w.heap.size := by
  obtain ⟨xs, _, h2⟩ := h
  exact h2.lt k hk
theorem OwnV.up {p q : Value → Prop} {t : TypeId} {w : World} {B : Nat} {v : Value} {n : Nat} (h : OwnV p t w B v n) (hpq : ∀ x, p x → q x) : OwnV q t w B v n := by
  obtain ⟨xs, h1, h2⟩ := h
  exact ⟨xs, fun x hx => hpq x (h1 x hx), h2⟩
theorem OwnV.low {p : Value → Prop} {t : TypeId} {w : World} {B B' : Nat} {v : Value} {n : Nat} (h : OwnV p t w B v n) (hB : B' ≤ B) : OwnV p t w B' v n := by
  obtain ⟨xs, h1, hl, h2⟩ := h
  exact ⟨xs, h1, hl, h2.imp id fun ⟨g, c, cur, a1, a2, a3⟩ => ⟨g, c, cur, a1, Nat.le_trans hB a2, a3⟩⟩
/-- Its block and its cells. -/
theorem OwnV.block {p : Value → Prop} {t : TypeId} {w : World} {B : Nat} {v : Value} {n : Nat} (h : OwnV p t w B v n) {k : Nat} (hk : v.ownBlock = some k) : ∃ cs, w.heap[k]? = some (.cells cs t (0, 0)) := by
  obtain ⟨xs, _, _, ⟨rfl, _⟩ | ⟨g, c, cur, rfl, _, hg, _⟩⟩ := h
  · cases hk
  · cases hk; exact ⟨cur, hg⟩
theorem OwnV.ne {p : Value → Prop} {t t' : TypeId} {w : World} {B k : Nat} {v : Value} {n : Nat} {cs : Array Value} (h : OwnV p t w B v n) (hb : w.heap[k]? = some (.cells cs t' (0, 0))) (ht : t ≠ t') : v.ownBlock ≠ some k := fun e => by
  obtain ⟨cs', h1⟩ := h.block e
  rw [hb] at h1
  injection h1 with h1
  injection h1 with _ h1
  exact ht h1.symm
theorem OwnV.form {p : Value → Prop} {t : TypeId} {w : World} {B : Nat} {v : Value} {n : Nat} (h : OwnV p t w B v n) (hn : 0 < n) :
    ∃ g cap cs, v = .slice (some ⟨g, 0, none⟩) n cap ∧ n ≤ cap ∧ cap ≤ maxLen ∧ B ≤ g ∧ w.heap[g]? = some (.cells cs t (0, 0)) ∧ cs.size = cap ∧ ∀ j, j < n → ∃ x, cs[j]? = some x ∧ p x := by
  obtain ⟨xs, hp, hl, ⟨rfl, h0⟩ | ⟨g, cap, cur, rfl, hb, hg, hc, hm, hs, ht⟩⟩ := h
  · omega
  · rw [Nat.mul_one] at hs hl ht
    refine ⟨g, cap, cur, rfl, hc, hm, hb, hg, hs, fun j hj => ?_⟩
    have hjc : j < cur.size := by omega
    refine ⟨cur[j], by simp [hjc], hp _ ?_⟩
    rw [← ht, List.mem_iff_getElem?]
    exact ⟨j, by rw [List.getElem?_take, if_pos hj]; simp [hjc]⟩
theorem OwnV.value {p : Value → Prop} {t : TypeId} {w : World} {B : Nat} {v : Value} {n : Nat} (h : OwnV p t w B v n) : ∃ A cap, v = .slice A n cap ∧ n ≤ maxLen := by
  obtain ⟨xs, hp, hl, ⟨rfl, h0⟩ | ⟨g, cap, cur, rfl, hb, hg, hc, hm, hs, ht⟩⟩ := h
  · subst h0; exact ⟨none, 0, rfl, by simp [maxLen]⟩
  · exact ⟨_, cap, rfl, by omega⟩
theorem own_nil (p : Value → Prop) (t : TypeId) (w : World) (B : Nat) : OwnV p t w B (.slice none 0 0) 0 := ⟨[], (fun x hx => by cases hx), rfl, .inl ⟨rfl, rfl⟩⟩
theorem own_more {p : Value → Prop} {t : TypeId} {w' : World} {B : Nat} {v : Value} {n : Nat} {xs : List Value} {x : Value} (h : w'.ownsRow B t 1 v n (xs ++ [x])) (hp : ∀ y ∈ xs, p y) (hx : p x) : OwnV p t w' B v n :=
  ⟨_, fun y hy => by
    rcases List.mem_append.1 hy with h | h
    · exact hp y h
    · rw [List.mem_singleton.1 h]; exact hx, h⟩

/-- A row of a polar that is drawn: a list of numbers in a block of its own, below T, apart from that of the winds. -/
def RowOf (w : World) (B T M na : Nat) (vW x : Value) : Prop := OwnV (IsB M) 35 w B x na ∧ ∀ k, x.ownBlock = some k → k < T ∧ vW.ownBlock ≠ some k
/-- The three lists of a polar that is drawn. -/
def PVal (B T M n na m : Nat) (vW vA vS : Value) (w : World) : Prop :=
  OwnV (IsB M) 35 w B vW n ∧ OwnV IsN 3 w B vA na ∧ OwnV (RowOf w B T M na vW) 24 w B vS m ∧
  (∀ k, vW.ownBlock = some k → k < T) ∧ (∀ k, vA.ownBlock = some k → k < T) ∧ (∀ k, vS.ownBlock = some k → k < T)
theorem RowOf.kept {w w' : World} {B T M na : Nat} {vW x : Value} {r : Option Nat} (h : RowOf w B T M na vW x) (hg : w.grownBy w' r) (hr : ∀ k, r = some k → x.ownBlock ≠ some k) : RowOf w' B T M na vW x := ⟨h.1.kept hg hr, h.2⟩
theorem PVal.kept {w w' : World} {B T M n na m : Nat} {vW vA vS : Value} {r : Option Nat} (h : PVal B T M n na m vW vA vS w) (hg : w.grownBy w' r)
    (hr : ∀ k, r = some k → vW.ownBlock ≠ some k ∧ vA.ownBlock ≠ some k ∧ vS.ownBlock ≠ some k ∧ ∀ x, RowOf w B T M na vW x → x.ownBlock ≠ some k) : PVal B T M n na m vW vA vS w' :=
  ⟨h.1.kept hg fun k hk => (hr k hk).1, h.2.1.kept hg fun k hk => (hr k hk).2.1,
    (h.2.2.1.kept hg fun k hk => (hr k hk).2.2.1).up fun x hx => hx.kept hg fun k hk => (hr k hk).2.2.2 x hx, h.2.2.2⟩
theorem PVal.far {w w' : World} {B T M n na m : Nat} {vW vA vS : Value} {r : Option Nat} (h : PVal B T M n na m vW vA vS w) (hg : w.grownBy w' r) (hr : ∀ k, r = some k → k < B ∨ T ≤ k) : PVal B T M n na m vW vA vS w' := by
  refine h.kept hg fun k hk => ⟨fun e => ?_, fun e => ?_, fun e => ?_, fun x hx e => ?_⟩
  · have := h.1.lt e; have := h.2.2.2.1 k e; have := hr k hk; omega
  · have := h.2.1.lt e; have := h.2.2.2.2.1 k e; have := hr k hk; omega
  · have := h.2.2.1.lt e; have := h.2.2.2.2.2 k e; have := hr k hk; omega
  · have := hx.1.lt e; have := (hx.2 k e).1; have := hr k hk; omega
theorem PVal.box {w : World} {B T M n na m gp i : Nat} {vW vA vS : Value} {cs : Array Value} (h : PVal B T M n na m vW vA vS w) (hb : w.heap[gp]? = some (.cells cs 28 (0, 0))) (u : Value) : PVal B T M n na m vW vA vS (w.setCell ⟨gp, i, none⟩ u) := by
  refine h.kept (grown_set w gp i u) fun k hk => ?_
  cases hk
  exact ⟨h.1.ne hb (by decide), h.2.1.ne hb (by decide), h.2.2.1.ne hb (by decide), fun x hx => hx.1.ne hb (by decide)⟩
theorem PVal.up {w : World} {B T T' M M' n na m : Nat} {vW vA vS : Value} (h : PVal B T M n na m vW vA vS w) (hT : T ≤ T') (hM : M ≤ M') : PVal B T' M' n na m vW vA vS w :=
  ⟨h.1.up fun x hx => hx.up hM, h.2.1, h.2.2.1.up fun x hx => ⟨hx.1.up fun y hy => hy.up hM, fun k hk => ⟨Nat.lt_of_lt_of_le (hx.2 k hk).1 hT, (hx.2 k hk).2⟩⟩,
    fun k hk => Nat.lt_of_lt_of_le (h.2.2.2.1 k hk) hT, fun k hk => Nat.lt_of_lt_of_le (h.2.2.2.2.1 k hk) hT, fun k hk => Nat.lt_of_lt_of_le (h.2.2.2.2.2 k hk) hT⟩
/-- One wind more. -/
theorem PVal.winds {w w' : World} {B T M M' n n' na m g cap H : Nat} {vW vA vS : Value} (h : PVal B T M n na m vW vA vS w) (hT : T ≤ H) (hM : M ≤ M') (hg : w.grownBy w' vW.ownBlock) (hown : OwnV (IsB M') 35 w' B (.slice (some ⟨g, 0, none⟩) n' cap) n')
    (hat : vW.ownBlock = some g ∨ g = H) (hlt : g < w'.heap.size) (hH : H ≤ w'.heap.size) : PVal B w'.heap.size M' n' na m (.slice (some ⟨g, 0, none⟩) n' cap) vA vS w' := by
  have hTs : T ≤ w'.heap.size := Nat.le_trans hT hH
  refine ⟨hown, h.2.1.kept hg fun k hk e => ?_, (h.2.2.1.kept hg fun k hk e => ?_).up fun x hx => ⟨(hx.1.kept hg fun k hk => ?_).up fun y hy => hy.up hM, fun k hk => ⟨Nat.lt_of_lt_of_le (hx.2 k hk).1 hTs, ?_⟩⟩, ?_, ?_, ?_⟩
  · obtain ⟨cs, hc⟩ := h.1.block hk; exact h.2.1.ne hc (by decide) e
  · obtain ⟨cs, hc⟩ := h.1.block hk; exact h.2.2.1.ne hc (by decide) e
  · exact fun e => (hx.2 k e).2 hk
  · have h1 := hx.2 k hk
    intro e
    obtain rfl : g = k := by cases e; rfl
    rcases hat with ha | ha
    · exact h1.2 ha
    · omega
  · intro k e; cases e; exact hlt
  · exact fun k hk => Nat.lt_of_lt_of_le (h.2.2.2.2.1 k hk) hTs
  · exact fun k hk => Nat.lt_of_lt_of_le (h.2.2.2.2.2 k hk) hTs
/-- One angle more. -/
theorem PVal.angles {w w' : World} {B T M n na na' g cap H : Nat} {vW vA vS : Value} (h : PVal B T M n na 0 vW vA vS w) (hT : T ≤ H) (hg : w.grownBy w' vA.ownBlock) (hown : OwnV IsN 3 w' B (.slice (some ⟨g, 0, none⟩) na' cap) na')
    (hlt : g < w'.heap.size) (hH : H ≤ w'.heap.size) : PVal B w'.heap.size M n na' 0 vW (.slice (some ⟨g, 0, none⟩) na' cap) vS w' := by
  have hTs : T ≤ w'.heap.size := Nat.le_trans hT hH
  refine ⟨h.1.kept hg fun k hk e => ?_, hown, ?_, ?_, ?_, ?_⟩
  · obtain ⟨cs, hc⟩ := h.2.1.block hk; exact h.1.ne hc (by decide) e
  · have h3 := h.2.2.1.kept hg fun k hk e => by
      obtain ⟨cs, hc⟩ := h.2.1.block hk; exact h.2.2.1.ne hc (by decide) e
    obtain ⟨xs, _, hl, ho⟩ := h3
    obtain rfl : xs = [] := List.eq_nil_of_length_eq_zero (by omega)
    exact ⟨[], (fun x hx => by cases hx), hl, ho⟩
  · exact fun k hk => Nat.lt_of_lt_of_le (h.2.2.2.1 k hk) hTs
  · intro k e; cases e; exact hlt
  · exact fun k hk => Nat.lt_of_lt_of_le (h.2.2.2.2.2 k hk) hTs
/-- One row more. -/
theorem PVal.speeds {w w' : World} {B T T' M n na m m' g cap : Nat} {vW vA vS : Value} (h : PVal B T M n na m vW vA vS w) (hT : T ≤ T') (hg : w.grownBy w' vS.ownBlock) (hown : OwnV (RowOf w B T' M na vW) 24 w' B (.slice (some ⟨g, 0, none⟩) m' cap) m')
    (hlt : g < w'.heap.size) (hT' : T' ≤ w'.heap.size) : PVal B w'.heap.size M n na m' vW vA (.slice (some ⟨g, 0, none⟩) m' cap) w' := by
  have hTs : T ≤ w'.heap.size := Nat.le_trans hT hT'
  refine ⟨h.1.kept hg fun k hk e => ?_, h.2.1.kept hg fun k hk e => ?_, hown.up fun x hx => ⟨hx.1.kept hg fun k hk e => ?_, fun k hk => ⟨Nat.lt_of_lt_of_le (hx.2 k hk).1 hT', (hx.2 k hk).2⟩⟩, ?_, ?_, ?_⟩
  · obtain ⟨cs, hc⟩ := h.2.2.1.block hk; exact h.1.ne hc (by decide) e
  · obtain ⟨cs, hc⟩ := h.2.2.1.block hk; exact h.2.1.ne hc (by decide) e
  · obtain ⟨cs, hc⟩ := h.2.2.1.block hk; exact hx.1.ne hc (by decide) e
  · exact fun k hk => Nat.lt_of_lt_of_le (h.2.2.2.1 k hk) hTs
  · exact fun k hk => Nat.lt_of_lt_of_le (h.2.2.2.2.1 k hk) hTs
  · intro k e; cases e; exact hlt
/-- .. in a variable. -/
def PSt (B T gp M n na m : Nat) (w : World) : Prop :=
  ∃ vW vA vS, w.heap[gp]? = some (.cells #[vW, vA, vS] 28 (0, 0)) ∧ B ≤ gp ∧ gp < T ∧ T ≤ w.heap.size ∧ PVal B T M n na m vW vA vS w
/-- What stands while a polar is drawn: w is how the world was. -/
def DSt (w : World) (C g : Nat) (A : Option Addr) (len cap : Nat) (T gp M n na m : Nat) (w' : World) : Prop :=
  w.grownBy w' (some g) ∧ Cur w' C g A len cap ∧ g < w.heap.size ∧ w'.heap[w.heap.size]? = some (.cells #[.slice none 0 0, .slice none 0 0, .slice none 0 0] 28 (0, 0)) ∧ PSt (w.heap.size + 1) T gp M n na m w'
theorem gr_new {w w1 w2 : World} {g : Nat} {r : Option Nat} (h : w.grownBy w1 (some g)) (k : w1.grownBy w2 r) (hr : ∀ j, r = some j → j = g ∨ w.heap.size ≤ j) : w.grownBy w2 (some g) :=
  ⟨k.os.trans h.os, k.tape.trans h.tape, k.output.trans h.output, Nat.le_trans h.size k.size, fun j hj hne => (k.block j (Nat.lt_of_lt_of_le hj h.size) (fun e => by
    rcases hr j e.symm with h1 | h1
    · exact hne (by rw [h1])
    · omega)).trans (h.block j hj hne)⟩
theorem DSt.step {w w1 w2 : World} {C g : Nat} {A : Option Addr} {len cap T gp M n na m : Nat} {r : Option Nat} (h : DSt w C g A len cap T gp M n na m w1) (k : w1.grownBy w2 r) (hr : ∀ j, r = some j → T ≤ j) : DSt w C g A len cap T gp M n na m w2 := by
  obtain ⟨h1, h2, h3, h4, vW, vA, vS, p1, p2, p3, p4, p5⟩ := h
  have hC : C ≤ g := h2.1
  refine ⟨gr_new h1 k fun j e => .inr (by have := hr j e; omega), h2.grown_far k (fun e => by have := hr g e; omega) (fun j e => by have := hr j e; omega), h3, ?_, vW, vA, vS, ?_, p2, p3, Nat.le_trans p4 k.size, p5.far k fun j e => .inr (hr j e)⟩
  · exact (k.block _ (by omega) (fun e => by have := hr _ e.symm; omega)).trans h4
  · exact (k.block _ (by omega) (fun e => by have := hr _ e.symm; omega)).trans p1
theorem DSt.draw {w w1 w2 : World} {C g : Nat} {A : Option Addr} {len cap T gp M n na m : Nat} (h : DSt w C g A len cap T gp M n na m w1) (c : Cur w2 C g A len cap) (k : w1.grownBy w2 (some g)) : DSt w C g A len cap T gp M n na m w2 := by
  obtain ⟨h1, h2, h3, h4, vW, vA, vS, p1, p2, p3, p4, p5⟩ := h
  refine ⟨grown_trans h1 k, c, h3, ?_, vW, vA, vS, ?_, p2, p3, Nat.le_trans p4 k.size, p5.far k fun j e => .inl (by cases e; omega)⟩
  · exact (k.block _ (by omega) (fun e => by cases e; omega)).trans h4
  · exact (k.block _ (by omega) (fun e => by cases e; omega)).trans p1
theorem DSt.alloc {w w1 : World} {C g : Nat} {A : Option Addr} {len cap T gp M n na m : Nat} (h : DSt w C g A len cap T gp M n na m w1) (o : Obj) : DSt w C g A len cap T gp M n na m (w1.alloc o) := h.step (World.grownBy_alloc w1 o none) (fun j e => by cases e)
theorem DSt.up {w w1 : World} {C g : Nat} {A : Option Addr} {len cap T gp M n na m : Nat} (h : DSt w C g A len cap T gp M n na m w1) {T' M' : Nat} (hT : T ≤ T') (hT' : T' ≤ w1.heap.size) (hM : M ≤ M') : DSt w C g A len cap T' gp M' n na m w1 := by
  obtain ⟨h1, h2, h3, h4, vW, vA, vS, p1, p2, p3, p4, p5⟩ := h
  exact ⟨h1, h2, h3, h4, vW, vA, vS, p1, p2, Nat.lt_of_lt_of_le p3 hT, hT', p5.up hT hM⟩
/-- The store behind an append. -/
theorem DSt.store {w w1 w2 : World} {C g : Nat} {A : Option Addr} {len cap T T' gp M M' n na m n' na' m' i : Nat} {r : Option Nat} {vW vA vS uW uA uS x : Value} (h : DSt w C g A len cap T gp M n na m w1)
    (hb : w1.heap[gp]? = some (.cells #[vW, vA, vS] 28 (0, 0))) (k : w1.grownBy w2 r) (hr : ∀ j, r = some j → w.heap.size < j ∧ j ≠ gp) (hv : PVal (w.heap.size + 1) T' M' n' na' m' uW uA uS w2) (hT : T ≤ T') (hT' : T' ≤ w2.heap.size)
    (hs : (#[vW, vA, vS] : Array Value).setIfInBounds i x = #[uW, uA, uS]) : DSt w C g A len cap T' gp M' n' na' m' (w2.setCell ⟨gp, i, none⟩ x) := by
  obtain ⟨h1, h2, h3, h4, vW', vA', vS', p1, p2, p3, p4, p5⟩ := h
  have hC : C ≤ g := h2.1
  have k2 : w2.grownBy (w2.setCell ⟨gp, i, none⟩ x) (some gp) := grown_set w2 gp i x
  have b2 : w2.heap[gp]? = some (.cells #[vW, vA, vS] 28 (0, 0)) := (k.block _ (by omega) (fun e => (hr _ e.symm).2 rfl)).trans hb
  refine ⟨gr_new (gr_new h1 k fun j e => .inr (by have := hr j e; omega)) k2 fun j e => .inr (by cases e; omega),
    (h2.grown_far k (fun e => by have := hr g e; omega) (fun j e => by have := hr j e; omega)).grown_far k2 (fun e => by cases e; omega) (fun j e => by cases e; omega), h3, ?_, uW, uA, uS, ?_, p2, by omega, by rw [show (w2.setCell ⟨gp, i, none⟩ x).heap.size = w2.heap.size by simp [World.setCell]]; exact hT', hv.box b2 x⟩
  · have ks := k.size
    exact (k2.block _ (by omega) (fun e => by cases e; omega)).trans ((k.block _ (by omega) (fun e => by have := hr _ e.symm; omega)).trans h4)
  · rw [blk_set b2, hs]
end Go.Proofs.YtonoknbangnleaaGreat

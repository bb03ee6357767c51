/- Tides: lists of the call's own, what stands while a tide is drawn. -/
import Derived.Test.YtonfenekjocopaaWk
import Derived.Test.YtonfenekjocopaaDrW
import Derived.Test.YtonfenekjocopaaPlc
import Derived.Deep.AppendLies
import Derived.Deep.MidRow
import Derived.Deep.WholeRow
import Derived.Deep.CutBlock
import Derived.Deep.DeepCutAuto
namespace Go.Proofs.Ytonfenekjocopaa
open Go.RowKit Ieee
set_option linter.unusedSimpArgs false
set_option linter.unusedVariables false

/-! ### Blocks -/
theorem heap_set_self {w : World} {g k : Nat} {cs : Array Value} {t : TypeId} (h : w.heap[g]? = some (.cells cs t (0, 0))) (v : Value) : (w.setCell ⟨g, k, none⟩ v).heap[g]? = some (.cells (cs.setIfInBounds k v) t (0, 0)) := by
  simp [World.setCell, Array.getElem?_modify, h]
theorem heap_set_size (w : World) (a : Addr) (v : Value) : (w.setCell a v).heap.size = w.heap.size := by simp [World.setCell]
theorem store_at {P : Program} {w : World} {g k n : Nat} {cs : Array Value} {t : TypeId} (hb : w.heap[g]? = some (.cells cs t (0, 0))) (hs : cs.size = n) (hk : k < n) (v : Value) (hv : v.oneCell' = true) : (store ⟨g, k, none⟩ v).run P w = .ok () (w.setCell ⟨g, k, none⟩ v) := by
  have hc : w.cell? ⟨g, k, none⟩ = some cs[k] := by
    rw [cell_of_row w _ k _ _ _ hb]; exact Array.getElem?_eq_getElem (by omega)
  have hf : w.frozen? ⟨g, k, none⟩ = false := by simp [World.frozen?, hb]
  rw [run_store _ _ _ _ _ hv, hc]; simp [hf]
theorem cell_at {w : World} {g k n : Nat} {cs : Array Value} {t : TypeId} (hb : w.heap[g]? = some (.cells cs t (0, 0))) (hs : cs.size = n) (hk : k < n) : ∃ v, w.cell? ⟨g, k, none⟩ = some v ∧ w.frozen? ⟨g, k, none⟩ = false :=
  ⟨cs[k], by rw [cell_of_row w _ k _ _ _ hb]; exact Array.getElem?_eq_getElem (by omega), by simp [World.frozen?, hb]⟩
theorem block_lt {w : World} {g : Nat} {o : Obj} (h : w.heap[g]? = some o) : g < w.heap.size := by
  rcases Nat.lt_or_ge g w.heap.size with h' | h'
  · exact h'
  · rw [Array.getElem?_eq_none h'] at h; cases h
theorem box_far {w1 w7 : World} {gp : Nat} {O : Obj} {r : Option Nat} (hb : w1.heap[gp]? = some O) (hg : w1.grownBy w7 r) (hne : r ≠ some gp) : w7.heap[gp]? = some O :=
  (hg.block gp (block_lt hb) (fun e => hne e.symm)).trans hb
theorem gr_alloc {w1 w7 : World} {o : Obj} {r : Option Nat} (hg : (w1.alloc o).grownBy w7 r) : w1.grownBy w7 r := grown_trans (World.grownBy_alloc w1 o r) hg
theorem gr_new {w w1 w2 : World} {g : Nat} {r : Option Nat} (h : w.grownBy w1 (some g)) (k : w1.grownBy w2 r) (hr : ∀ j, r = some j → j = g ∨ w.heap.size ≤ j) : w.grownBy w2 (some g) :=
  ⟨k.os.trans h.os, k.tape.trans h.tape, k.output.trans h.output, Nat.le_trans h.size k.size, fun j hj hne => (k.block j (Nat.lt_of_lt_of_le hj h.size) (fun e => by
    rcases hr j e.symm with h1 | h1
    · exact hne (by rw [h1])
    · omega)).trans (h.block j hj hne)⟩

/-! ### Lists of the call's own, z cells an element -/
def OwnC (p : Nat → Value → Prop) (t : TypeId) (z : Nat) (w : World) (B : Nat) (v : Value) (n : Nat) : Prop := ∃ xs : List Value, (∀ c x, xs[c]? = some x → p (c % z) x) ∧ w.ownsRow B t z v n xs
theorem OwnC.kept {p : Nat → Value → Prop} {t : TypeId} {z : Nat} {w w' : World} {B : Nat} {v : Value} {n : Nat} {r : Option Nat} (h : OwnC p t z w B v n) (hg : w.grownBy w' r) (hr : ∀ k, r = some k → v.ownBlock ≠ some k) : OwnC p t z w' B v n := by
  obtain ⟨xs, h1, h2⟩ := h
  refine ⟨xs, h1, h2.kept hg ?_⟩
  cases hv : v.ownBlock with
  | none => exact .inl rfl
  | some k => exact .inr fun e => hr k e.symm hv
theorem OwnC.lt {p : Nat → Value → Prop} {t : TypeId} {z : Nat} {w : World} {B : Nat} {v : Value} {n : Nat} (h : OwnC p t z w B v n) {k : Nat} (hk : v.ownBlock = some k) : B ≤ k ∧ k < w.heap.size := by
  obtain ⟨xs, _, h2⟩ := h
  exact h2.lt k hk
theorem OwnC.low {p : Nat → Value → Prop} {t : TypeId} {z : Nat} {w : World} {B B' : Nat} {v : Value} {n : Nat} (h : OwnC p t z w B v n) (hB : B' ≤ B) : OwnC p t z w B' v n := by
  obtain ⟨xs, h1, hl, h2⟩ := h
  exact ⟨xs, h1, hl, h2.imp id fun ⟨g, c, cur, a1, a2, a3⟩ => ⟨g, c, cur, a1, Nat.le_trans hB a2, a3⟩⟩
theorem OwnC.block {p : Nat → Value → Prop} {t : TypeId} {z : Nat} {w : World} {B : Nat} {v : Value} {n : Nat} (h : OwnC p t z w B v n) {k : Nat} (hk : v.ownBlock = some k) : ∃ cs, w.heap[k]? = some (.cells cs t (0, 0)) := by
  obtain ⟨xs, _, _, ⟨rfl, _⟩ | ⟨g, c, cur, rfl, _, hg, _⟩⟩ := h
  · cases hk
  · cases hk; exact ⟨cur, hg⟩
theorem OwnC.ne {p : Nat → Value → Prop} {t t' : TypeId} {z : Nat} {w : World} {B k : Nat} {v : Value} {n : Nat} {cs : Array Value} (h : OwnC p t z w B v n) (hb : w.heap[k]? = some (.cells cs t' (0, 0))) (ht : t ≠ t') : v.ownBlock ≠ some k := fun e => by
  obtain ⟨cs', h1⟩ := h.block e
  rw [hb] at h1
  injection h1 with h1
  injection h1 with _ h1
  exact ht h1.symm
theorem OwnC.form {p : Nat → Value → Prop} {t : TypeId} {z : Nat} {w : World} {B : Nat} {v : Value} {n : Nat} (h : OwnC p t z w B v n) (hn : 0 < n) :
    ∃ g cap cs, v = .slice (some ⟨g, 0, none⟩) n cap ∧ n ≤ cap ∧ cap ≤ maxLen ∧ B ≤ g ∧ w.heap[g]? = some (.cells cs t (0, 0)) ∧ cs.size = cap * z ∧ ∀ c, c < n * z → ∃ x, cs[c]? = some x ∧ p (c % z) x := by
  obtain ⟨xs, hp, hl, ⟨rfl, h0⟩ | ⟨g, cap, cur, rfl, hb, hg, hc, hm, hs, ht⟩⟩ := h
  · omega
  · refine ⟨g, cap, cur, rfl, hc, hm, hb, hg, hs, fun c hj => ?_⟩
    have hnc : n * z ≤ cap * z := Nat.mul_le_mul_right z hc
    have hjc : c < cur.size := by omega
    refine ⟨cur[c], by simp [hjc], hp c _ ?_⟩
    rw [← ht, List.getElem?_take, if_pos hj]; simp [hjc]
theorem OwnC.value {p : Nat → Value → Prop} {t : TypeId} {z : Nat} {w : World} {B : Nat} {v : Value} {n : Nat} (h : OwnC p t z w B v n) : ∃ A cap, v = .slice A n cap ∧ n ≤ maxLen := by
  obtain ⟨xs, hp, hl, ⟨rfl, h0⟩ | ⟨g, cap, cur, rfl, hb, hg, hc, hm, hs, ht⟩⟩ := h
  · subst h0; exact ⟨none, 0, rfl, by simp [maxLen]⟩
  · exact ⟨_, cap, rfl, by omega⟩
theorem own_none (p : Nat → Value → Prop) (t : TypeId) (z : Nat) (w : World) (B : Nat) : OwnC p t z w B (.slice none 0 0) 0 := ⟨[], (fun c x hx => by simp at hx), by simp, .inl ⟨rfl, rfl⟩⟩
theorem own_add {p : Nat → Value → Prop} {t : TypeId} {z : Nat} {w' : World} {B : Nat} {v : Value} {n : Nat} {xs ys : List Value} (h : w'.ownsRow B t z v n (xs ++ ys)) (hp : ∀ c x, xs[c]? = some x → p (c % z) x) (hx : ∀ c x, ys[c]? = some x → p (c % z) x) (hl : xs.length % z = 0) : OwnC p t z w' B v n :=
  ⟨_, fun c x hc => by
    rw [List.getElem?_append] at hc
    split at hc
    · exact hp c x hc
    · rename_i hge
      have h1 := hx _ x hc
      have e : (c - xs.length) % z = c % z := by
        obtain ⟨k, hk⟩ := Nat.dvd_of_mod_eq_zero hl
        have hge : xs.length ≤ c := by omega
        rw [hk] at hge ⊢
        exact Nat.sub_mul_mod hge
      rwa [e] at h1, h⟩
/-- A store into a list. -/
theorem OwnC.set {p : Nat → Value → Prop} {t : TypeId} {z : Nat} {w : World} {B g c : Nat} {v x : Value} {n : Nat} (h : OwnC p t z w B v n) (hg : v.ownBlock = some g) (hx : p (c % z) x) : OwnC p t z (w.setCell ⟨g, c, none⟩ x) B v n := by
  obtain ⟨xs, hp, hl, ⟨rfl, h0⟩ | ⟨g', cap, cur, rfl, hb, hg', hc, hm, hs, ht⟩⟩ := h
  · cases hg
  · cases hg
    refine ⟨xs.set c x, fun d y hy => ?_, by rw [List.length_set]; exact hl, .inr ⟨_, cap, _, rfl, hb, heap_set_self hg' x, hc, hm, by simpa using hs, ?_⟩⟩
    · rw [List.getElem?_set] at hy
      split at hy
      · rename_i e
        subst e
        split at hy
        · cases hy; exact hx
        · cases hy
      · exact hp d y hy
    · rw [← ht, Array.toList_setIfInBounds, List.take_set]

/-! ### Stations -/
/-- Cell k of a station: a vector; then velocities. -/
def CellAt (k : Nat) (x : Value) : Prop := (k = 0 → ∃ a b : Nat, (a < 18446744073709551616 ∧ b < 18446744073709551616) ∧ x = .complex .f64 a b) ∧ (k ≠ 0 → ∃ a b : Nat, (a < 4294967296 ∧ b < 4294967296) ∧ x = .complex .f32 a b)
def IsNat (_ : Nat) (v : Value) : Prop := ∃ x : Int, (-9223372036854775808 ≤ x ∧ x ≤ 9223372036854775807) ∧ v = .int .i64 x
theorem CellAt.one {k : Nat} {x : Value} (h : CellAt k x) : x.oneCell' = true := by
  by_cases hk : k = 0
  · obtain ⟨a, b, _, rfl⟩ := h.1 hk; rfl
  · obtain ⟨a, b, _, rfl⟩ := h.2 hk; rfl
/-- The cells of a station. -/
def StV (cs : Array Value) : Prop := cs.size = 14 ∧ ∀ c x, cs[c]? = some x → CellAt c x
theorem StV.set {cs : Array Value} (h : StV cs) {c : Nat} {x : Value} (hx : CellAt c x) : StV (cs.setIfInBounds c x) := by
  refine ⟨by simpa using h.1, fun d y hy => ?_⟩
  rw [Array.getElem?_setIfInBounds] at hy
  split at hy
  · rename_i e
    subst e
    split at hy
    · cases hy; exact hx
    · cases hy
  · exact h.2 d y hy
theorem StV.one {cs : Array Value} (h : StV cs) : cs.all (·.oneCell') = true := by
  rw [Array.all_eq_true_iff_forall_mem]
  intro x hx
  obtain ⟨i, hi, rfl⟩ := Array.mem_iff_getElem.1 hx
  exact (h.2 i _ (Array.getElem?_eq_getElem hi)).one
abbrev OwnS (w : World) (B : Nat) (v : Value) (n : Nat) : Prop := OwnC CellAt 110 14 w B v n
abbrev OwnH (w : World) (B : Nat) (v : Value) (n : Nat) : Prop := OwnC IsNat 3 1 w B v n

/-! ### What stands while a tide is drawn -/
/-- A tide in a variable: the stations' block is below T. -/
def TSt (B T gp ns nh : Nat) (w : World) : Prop :=
  ∃ vS vH, w.heap[gp]? = some (.cells #[vS, vH] 41 (0, 0)) ∧ B ≤ gp ∧ gp < T ∧ T ≤ w.heap.size ∧ OwnS w B vS ns ∧ OwnH w B vH nh ∧ (∀ k, vS.ownBlock = some k → k < T) ∧ (∀ k, vH.ownBlock = some k → k < T)
def DSt (w : World) (C g : Nat) (A : Option Addr) (len cap : Nat) (T gp ns nh : Nat) (w' : World) : Prop :=
  w.grownBy w' (some g) ∧ Cur w' C g A len cap ∧ g < w.heap.size ∧ w'.heap[w.heap.size]? = some (.cells #[.slice none 0 0, .slice none 0 0] 41 (0, 0)) ∧ TSt (w.heap.size + 1) T gp ns nh w'
theorem TSt.keep {w w' : World} {B T gp ns nh : Nat} {r : Option Nat} (h : TSt B T gp ns nh w) (k : w.grownBy w' r) (hr : ∀ j, r = some j → j < B ∨ T ≤ j) : TSt B T gp ns nh w' := by
  obtain ⟨vS, vH, p1, p2, p3, p4, p5, p6, p7, p8⟩ := h
  refine ⟨vS, vH, box_far p1 k (fun e => by have := hr _ e; omega), p2, p3, Nat.le_trans p4 k.size, p5.kept k fun j e e' => ?_, p6.kept k fun j e e' => ?_, p7, p8⟩
  · have := p5.lt e'; have := p7 _ e'; have := hr _ e; omega
  · have := p6.lt e'; have := p8 _ e'; have := hr _ e; omega
theorem TSt.up {w : World} {B T T' gp ns nh : Nat} (h : TSt B T gp ns nh w) (hT : T ≤ T') (hT' : T' ≤ w.heap.size) : TSt B T' gp ns nh w := by
  obtain ⟨vS, vH, p1, p2, p3, p4, p5, p6, p7, p8⟩ := h
  exact ⟨vS, vH, p1, p2, by omega, hT', p5, p6, fun k e => by have := p7 k e; omega, fun k e => by have := p8 k e; omega⟩
theorem DSt.step {w w1 w2 : World} {C g : Nat} {A : Option Addr} {len cap T gp ns nh : Nat} {r : Option Nat} (h : DSt w C g A len cap T gp ns nh w1) (k : w1.grownBy w2 r) (hr : ∀ j, r = some j → T ≤ j) : DSt w C g A len cap T gp ns nh w2 := by
  obtain ⟨h1, h2, h3, h4, h5⟩ := h
  have hC : C ≤ g := h2.1
  have hT : w.heap.size < T := by obtain ⟨_, _, _, p2, p3, _⟩ := h5; omega
  refine ⟨gr_new h1 k fun j e => .inr (by have := hr j e; omega), h2.grown_far k (fun e => by have := hr g e; omega) (fun j e => by have := hr j e; omega), h3, box_far h4 k (fun e => by have := hr _ e; omega), h5.keep k fun j e => .inr (hr j e)⟩
theorem DSt.draw {w w1 w2 : World} {C g : Nat} {A : Option Addr} {len cap T gp ns nh : Nat} (h : DSt w C g A len cap T gp ns nh w1) (c : Cur w2 C g A len cap) (k : w1.grownBy w2 (some g)) : DSt w C g A len cap T gp ns nh w2 := by
  obtain ⟨h1, h2, h3, h4, h5⟩ := h
  exact ⟨grown_trans h1 k, c, h3, box_far h4 k (fun e => by cases e; omega), h5.keep k fun j e => .inl (by cases e; omega)⟩
theorem DSt.alloc {w w1 : World} {C g : Nat} {A : Option Addr} {len cap T gp ns nh : Nat} (h : DSt w C g A len cap T gp ns nh w1) (o : Obj) : DSt w C g A len cap T gp ns nh (w1.alloc o) := h.step (World.grownBy_alloc w1 o none) (fun j e => by cases e)
theorem DSt.drew {w w1 : World} {C g : Nat} {A : Option Addr} {len cap T gp ns nh : Nat} (h : DSt w C g A len cap T gp ns nh w1) : DSt w C g A len cap T gp ns nh w1.drew := h.step (r := none) ⟨rfl, rfl, rfl, Nat.le_refl _, fun _ _ _ => rfl⟩ (fun _ e => by cases e)
theorem DSt.up {w w1 : World} {C g : Nat} {A : Option Addr} {len cap T gp ns nh : Nat} (h : DSt w C g A len cap T gp ns nh w1) {T' : Nat} (hT : T ≤ T') (hT' : T' ≤ w1.heap.size) : DSt w C g A len cap T' gp ns nh w1 := by
  obtain ⟨h1, h2, h3, h4, h5⟩ := h
  exact ⟨h1, h2, h3, h4, h5.up hT hT'⟩
theorem DSt.cur {w w1 : World} {C g : Nat} {A : Option Addr} {len cap T gp ns nh : Nat} (h : DSt w C g A len cap T gp ns nh w1) : Cur w1 C g A len cap := h.2.1
theorem DSt.open {w w1 : World} {C g : Nat} {A : Option Addr} {len cap T gp ns nh : Nat} (h : DSt w C g A len cap T gp ns nh w1) :
    ∃ vS vH, w1.heap[gp]? = some (.cells #[vS, vH] 41 (0, 0)) ∧ w.heap.size < gp ∧ gp < T ∧ T ≤ w1.heap.size ∧ OwnS w1 (w.heap.size + 1) vS ns ∧ OwnH w1 (w.heap.size + 1) vH nh ∧ (∀ k, vS.ownBlock = some k → k < T) ∧ (∀ k, vH.ownBlock = some k → k < T) := by
  obtain ⟨h1, h2, h3, h4, vS, vH, p1, p2, p3, p4, p5⟩ := h
  exact ⟨vS, vH, p1, by omega, p3, p4, p5⟩
theorem DSt.size {w w1 : World} {C g : Nat} {A : Option Addr} {len cap T gp ns nh : Nat} (h : DSt w C g A len cap T gp ns nh w1) : T ≤ w1.heap.size := by
  obtain ⟨_, _, _, _, _, h, _⟩ := h.open
  exact h
theorem DSt.top {w w1 : World} {C g : Nat} {A : Option Addr} {len cap T gp ns nh : Nat} (h : DSt w C g A len cap T gp ns nh w1) : w.heap.size + 1 < T := by
  obtain ⟨_, _, _, h0, h, _⟩ := h.open
  omega
theorem tide_same {w : World} {gp : Nat} {a b c d : Value} (h : w.heap[gp]? = some (.cells #[a, b] 41 (0, 0))) (k : w.heap[gp]? = some (.cells #[c, d] 41 (0, 0))) : a = c ∧ b = d := by
  rw [h] at k; simp at k; exact k
/-- A list that has grown, stored. -/
theorem DSt.store {w w1 w2 : World} {C g : Nat} {A : Option Addr} {len cap T gp ns nh ns' nh' i : Nat} {r : Option Nat} {vS vH uS uH x : Value} (h : DSt w C g A len cap T gp ns nh w1)
    (hb : w1.heap[gp]? = some (.cells #[vS, vH] 41 (0, 0))) (k : w1.grownBy w2 r) (hr : ∀ j, r = some j → w.heap.size < j ∧ j ≠ gp) (h1 : OwnS w2 (w.heap.size + 1) uS ns') (h2 : OwnH w2 (w.heap.size + 1) uH nh')
    (hs : (#[vS, vH] : Array Value).setIfInBounds i x = #[uS, uH]) : DSt w C g A len cap w2.heap.size gp ns' nh' (w2.setCell ⟨gp, i, none⟩ x) := by
  have hT := h.size
  obtain ⟨g1, g2, g3, g4, vS', vH', p1, p2, p3, p4, p5⟩ := h
  have hC : C ≤ g := g2.1
  have k2 : w2.grownBy (w2.setCell ⟨gp, i, none⟩ x) (some gp) := grown_set w2 gp i x
  have b2 : w2.heap[gp]? = some (.cells #[vS, vH] 41 (0, 0)) := box_far hb k fun e => (hr _ e).2 rfl
  have hk := k.size
  refine ⟨gr_new (gr_new g1 k fun j e => .inr (by have := hr j e; omega)) k2 fun j e => .inr (by cases e; omega),
    (g2.grown_far k (fun e => by have := hr g e; omega) (fun j e => by have := hr j e; omega)).grown_far k2 (fun e => by cases e; omega) (fun j e => by cases e; omega), g3,
    box_far (box_far g4 k (fun e => by have := hr _ e; omega)) k2 (fun e => by cases e; omega), uS, uH, ?_, p2, by omega, by rw [heap_set_size]; exact Nat.le_refl _,
    h1.kept k2 fun j e => ?_, h2.kept k2 fun j e => ?_, fun k e => (h1.lt e).2, fun k e => (h2.lt e).2⟩
  · rw [heap_set_self b2, hs]
  · cases e; exact h1.ne b2 (by decide)
  · cases e; exact h2.ne b2 (by decide)
/-- One time more, stored. -/
theorem DSt.high {w w1 w7 : World} {C g : Nat} {A : Option Addr} {len cap T gp ns nh : Nat} {o : Obj} {vS vH : Value} {g7 c7 : Nat} {xs : List Value} {y : Int} (h : DSt w C g A len cap T gp ns nh w1)
    (hb : w1.heap[gp]? = some (.cells #[vS, vH] 41 (0, 0))) (hg : (w1.alloc o).grownBy w7 vH.ownBlock) (hown : w7.ownsRow (w.heap.size + 1) 3 1 (.slice (some ⟨g7, 0, none⟩) (nh + 1) c7) (nh + 1) (xs ++ [.int .i64 y]))
    (hx : ∀ c x, xs[c]? = some x → IsNat (c % 1) x) (hy : -9223372036854775808 ≤ y ∧ y ≤ 9223372036854775807) : DSt w C g A len cap w7.heap.size gp ns (nh + 1) (w7.setCell ⟨gp, 1, none⟩ (.slice (some ⟨g7, 0, none⟩) (nh + 1) c7)) := by
  obtain ⟨vS', vH', hb', p1, p2, p3, p4, p5, p6, p7⟩ := h.open
  obtain ⟨rfl, rfl⟩ := tide_same hb hb'
  have hg1 := gr_alloc hg
  refine h.store hb hg1 (fun j e => ⟨by have := (p5.lt e).1; omega, fun e' => p5.ne hb (by decide) (e' ▸ e)⟩) (p4.kept hg1 fun j e e' => ?_) (own_add hown hx (fun c x hc => ?_) (Nat.mod_one _)) rfl
  · obtain ⟨cs, hcs⟩ := p5.block e; exact p4.ne hcs (by decide) e'
  · match c, hc with
    | 0, hc => cases hc; exact ⟨y, hy, rfl⟩
    | c + 1, hc => simp at hc
/-- One station more, stored. -/
theorem DSt.station {w w1 w7 : World} {C g : Nat} {A : Option Addr} {len cap T gp ns nh : Nat} {o : Obj} {vS vH : Value} {g7 c7 : Nat} {xs : List Value} {cs : Array Value} (h : DSt w C g A len cap T gp ns nh w1)
    (hb : w1.heap[gp]? = some (.cells #[vS, vH] 41 (0, 0))) (hg : (w1.alloc o).grownBy w7 vS.ownBlock) (hown : w7.ownsRow (w.heap.size + 1) 110 14 (.slice (some ⟨g7, 0, none⟩) (ns + 1) c7) (ns + 1) (xs ++ cs.toList))
    (hl : xs.length = ns * 14) (hx : ∀ c x, xs[c]? = some x → CellAt (c % 14) x) (hcs : StV cs) : DSt w C g A len cap w7.heap.size gp (ns + 1) nh (w7.setCell ⟨gp, 0, none⟩ (.slice (some ⟨g7, 0, none⟩) (ns + 1) c7)) := by
  obtain ⟨vS', vH', hb', p1, p2, p3, p4, p5, p6, p7⟩ := h.open
  obtain ⟨rfl, rfl⟩ := tide_same hb hb'
  have hg1 := gr_alloc hg
  refine h.store hb hg1 (fun j e => ⟨by have := (p4.lt e).1; omega, fun e' => p4.ne hb (by decide) (e' ▸ e)⟩) (own_add hown hx (fun c x hc => ?_) (by rw [hl]; exact Nat.mul_mod_left ..)) (p5.kept hg1 fun j e e' => ?_) rfl
  · have hc' : cs[c]? = some x := by simpa using hc
    have hlt : c < 14 := by
      rcases Nat.lt_or_ge c cs.size with h' | h'
      · have := hcs.1; omega
      · rw [Array.getElem?_eq_none h'] at hc'; cases hc'
    rw [Nat.mod_eq_of_lt hlt]; exact hcs.2 c x hc'
  · obtain ⟨cs', hcs'⟩ := p4.block e; exact p5.ne hcs' (by decide) e'
end Go.Proofs.Ytonfenekjocopaa

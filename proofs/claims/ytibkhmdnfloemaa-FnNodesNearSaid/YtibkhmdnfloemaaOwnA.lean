/- Blocks; lists of the call's own, z cells an element. -/
import Derived.Test.YtibkhmdnfloemaaPlc
import Derived.Deep.AppendLies
import Derived.Deep.MidRow
import Derived.Deep.WholeRow
import Derived.Deep.CutBlock
import Derived.Deep.DeepCutAuto
namespace Go.Proofs.Ytibkhmdnfloemaa
open Go.RowKit
set_option linter.unusedSimpArgs false
set_option linter.unusedVariables false

/-! ### Blocks -/
theorem heap_set_self {w : World} {g k : Nat} {cs : Array Value} {t : TypeId} (h : w.heap[g]? = some (.cells cs t (0, 0))) (v : Value) : (w.setCell ⟨g, k, none⟩ v).heap[g]? = some (.cells (cs.setIfInBounds k v) t (0, 0)) := by
  simp [World.setCell, Array.getElem?_modify, h]
theorem heap_set_size (w : World) (a : Addr) (v : Value) : (w.setCell a v).heap.size = w.heap.size := by simp [World.setCell]
theorem store_at {P : Program} {w : World} {g k n : Nat} {cs : Array Value} {t : TypeId} (hb : w.heap[g]? = some (.cells cs t (0, 0))) (hs : cs.size = n) (hk : k < n) (v : Value) (hv : v.oneCell' = true) : (store ⟨g, k, none⟩ v).run P w = .ok () (w.setCell ⟨g, k, none⟩ v) := by
  have hc : w.cell? ⟨g, k, none⟩ = some cs[k] := by
    rw [cell_of_row w _ k _ _ _ hb]; exact Array.getElem?_eq_getElem (by omega)
  have hf : w.frozen? ⟨g, k, none⟩ = false := by simp [World.frozen?, hb]
  rw [run_store _ _ _ _ _ hv, hc]; simp [hf]
theorem cell_at {w : World} {g k n : Nat} {cs : Array Value} {t : TypeId} (hb : w.heap[g]? = some (.cells cs t (0, 0))) (hs : cs.size = n) (hk : k < n) : ∃ v, w.cell? ⟨g, k, none⟩ = some v ∧ w.frozen? ⟨g, k, none⟩ = false :=
  ⟨cs[k], by rw [cell_of_row w _ k _ _ _ hb]; exact Array.getElem?_eq_getElem (by omega), by simp [World.frozen?, hb]⟩
theorem block_lt {w : World} {g : Nat} {o : Obj} (h : w.heap[g]? = some o) : g < w.heap.size := by
  rcases Nat.lt_or_ge g w.heap.size with h' | h'
  · exact h'
  · rw [Array.getElem?_eq_none h'] at h; cases h
theorem box_far {w1 w7 : World} {gp : Nat} {O : Obj} {r : Option Nat} (hb : w1.heap[gp]? = some O) (hg : w1.grownBy w7 r) (hne : r ≠ some gp) : w7.heap[gp]? = some O :=
  (hg.block gp (block_lt hb) (fun e => hne e.symm)).trans hb
theorem gr_alloc {w1 w7 : World} {o : Obj} {r : Option Nat} (hg : (w1.alloc o).grownBy w7 r) : w1.grownBy w7 r := grown_trans (World.grownBy_alloc w1 o r) hg
theorem gr_new {w w1 w2 : World} {g : Nat} {r : Option Nat} (h : w.grownBy w1 (some g)) (k : w1.grownBy w2 r) (hr : ∀ j, r = some j → j = g ∨ w.heap.size ≤ j) : w.grownBy w2 (some g) :=
  ⟨k.os.trans h.os, k.tape.trans h.tape, k.output.trans h.output, Nat.le_trans h.size k.size, fun j hj hne => (k.block j (Nat.lt_of_lt_of_le hj h.size) (fun e => by
    rcases hr j e.symm with h1 | h1
    · exact hne (by rw [h1])
    · omega)).trans (h.block j hj hne)⟩

/-! ### Lists of the call's own, z cells an element -/
def OwnC (p : Nat → Value → Prop) (t : TypeId) (z : Nat) (w : World) (B : Nat) (v : Value) (n : Nat) : Prop := ∃ xs : List Value, (∀ c x, xs[c]? = some x → p (c % z) x) ∧ w.ownsRow B t z v n xs
theorem OwnC.kept {p : Nat → Value → Prop} {t : TypeId} {z : Nat} {w w' : World} {B : Nat} {v : Value} {n : Nat} {r : Option Nat} (h : OwnC p t z w B v n) (hg : w.grownBy w' r) (hr : ∀ k, r = some k → v.ownBlock ≠ some k) : OwnC p t z w' B v n := by
  obtain ⟨xs, h1, h2⟩ := h
  refine ⟨xs, h1, h2.kept hg ?_⟩
  cases hv : v.ownBlock with
  | none => exact .inl rfl
  | some k => exact .inr fun e => hr k e.symm hv
theorem OwnC.lt {p : Nat → Value → Prop} {t : TypeId} {z : Nat} {w : World} {B : Nat} {v : Value} {n : Nat} (h : OwnC p t z w B v n) {k : Nat} (hk : v.ownBlock = some k) : B ≤ k ∧ k < w.heap.size := by
  obtain ⟨xs, _, h2⟩ := h
  exact h2.lt k hk
theorem OwnC.low {p : Nat → Value → Prop} {t : TypeId} {z : Nat} {w : World} {B B' : Nat} {v : Value} {n : Nat} (h : OwnC p t z w B v n) (hB : B' ≤ B) : OwnC p t z w B' v n := by
  obtain ⟨xs, h1, hl, h2⟩ := h
  exact ⟨xs, h1, hl, h2.imp id fun ⟨g, c, cur, a1, a2, a3⟩ => ⟨g, c, cur, a1, Nat.le_trans hB a2, a3⟩⟩
theorem OwnC.block {p : Nat → Value → Prop} {t : TypeId} {z : Nat} {w : World} {B : Nat} {v : Value} {n : Nat} (h : OwnC p t z w B v n) {k : Nat} (hk : v.ownBlock = some k) : ∃ cs, w.heap[k]? = some (.cells cs t (0, 0)) := by
  obtain ⟨xs, _, _, ⟨rfl, _⟩ | ⟨g, c, cur, rfl, _, hg, _⟩⟩ := h
  · cases hk
  · cases hk; exact ⟨cur, hg⟩
theorem OwnC.ne {p : Nat → Value → Prop} {t t' : TypeId} {z : Nat} {w : World} {B k : Nat} {v : Value} {n : Nat} {cs : Array Value} (h : OwnC p t z w B v n) (hb : w.heap[k]? = some (.cells cs t' (0, 0))) (ht : t ≠ t') : v.ownBlock ≠ some k := fun e => by
  obtain ⟨cs', h1⟩ := h.block e
  rw [hb] at h1
  injection h1 with h1
  injection h1 with _ h1
  exact ht h1.symm
theorem OwnC.form {p : Nat → Value → Prop} {t : TypeId} {z : Nat} {w : World} {B : Nat} {v : Value} {n : Nat} (h : OwnC p t z w B v n) (hn : 0 < n) :
    ∃ g cap cs, v = .slice (some ⟨g, 0, none⟩) n cap ∧ n ≤ cap ∧ cap ≤ maxLen ∧ B ≤ g ∧ w.heap[g]? = some (.cells cs t (0, 0)) ∧ cs.size = cap * z ∧ ∀ c, c < n * z → ∃ x, cs[c]? = some x ∧ p (c % z) x := by
  obtain ⟨xs, hp, hl, ⟨rfl, h0⟩ | ⟨g, cap, cur, rfl, hb, hg, hc, hm, hs, ht⟩⟩ := h
  · omega
  · refine ⟨g, cap, cur, rfl, hc, hm, hb, hg, hs, fun c hj => ?_⟩
    have hnc : n * z ≤ cap * z := Nat.mul_le_mul_right z hc
    have hjc : c < cur.size := by omega
    refine ⟨cur[c], by simp [hjc], hp c _ ?_⟩
    rw [← ht, List.getElem?_take, if_pos hj]; simp [hjc]
theorem OwnC.value {p : Nat → Value → Prop} {t : TypeId} {z : Nat} {w : World} {B : Nat} {v : Value} {n : Nat} (h : OwnC p t z w B v n) : ∃ A cap, v = .slice A n cap ∧ n ≤ maxLen := by
  obtain ⟨xs, hp, hl, ⟨rfl, h0⟩ | ⟨g, cap, cur, rfl, hb, hg, hc, hm, hs, ht⟩⟩ := h
  · subst h0; exact ⟨none, 0, rfl, by simp [maxLen]⟩
  · exact ⟨_, cap, rfl, by omega⟩
theorem own_none (p : Nat → Value → Prop) (t : TypeId) (z : Nat) (w : World) (B : Nat) : OwnC p t z w B (.slice none 0 0) 0 := ⟨[], (fun c x hx => by simp at hx), by simp, .inl ⟨rfl, rfl⟩⟩
theorem own_add {p : Nat → Value → Prop} {t : TypeId} {z : Nat} {w' : World} {B : Nat} {v : Value} {n : Nat} {xs ys : List Value} (h : w'.ownsRow B t z v n (xs ++ ys)) (hp : ∀ c x, xs[c]? = some x → p (c % z) x) (hx : ∀ c x, ys[c]? = some x → p (c % z) x) (hl : xs.length % z = 0) : OwnC p t z w' B v n :=
  ⟨_, fun c x hc => by
    rw [List.getElem?_append] at hc
    split at hc
    · exact hp c x hc
    · rename_i hge
      have h1 := hx _ x hc
      have e : (c - xs.length) % z = c % z := by
        obtain ⟨k, hk⟩ := Nat.dvd_of_mod_eq_zero hl
        have hge : xs.length ≤ c := by omega
        rw [hk] at hge ⊢
        exact Nat.sub_mul_mod hge
      rwa [e] at h1, h⟩
/-- A store into a list. -/
theorem OwnC.set {p : Nat → Value → Prop} {t : TypeId} {z : Nat} {w : World} {B g c : Nat} {v x : Value} {n : Nat} (h : OwnC p t z w B v n) (hg : v.ownBlock = some g) (hx : p (c % z) x) : OwnC p t z (w.setCell ⟨g, c, none⟩ x) B v n := by
  obtain ⟨xs, hp, hl, ⟨rfl, h0⟩ | ⟨g', cap, cur, rfl, hb, hg', hc, hm, hs, ht⟩⟩ := h
  · cases hg
  · cases hg
    refine ⟨xs.set c x, fun d y hy => ?_, by rw [List.length_set]; exact hl, .inr ⟨_, cap, _, rfl, hb, heap_set_self hg' x, hc, hm, by simpa using hs, ?_⟩⟩
    · rw [List.getElem?_set] at hy
      split at hy
      · rename_i e
        subst e
        split at hy
        · cases hy; exact hx
        · cases hy
      · exact hp d y hy
    · rw [← ht, Array.toList_setIfInBounds, List.take_set]

end Go.Proofs.Ytibkhmdnfloemaa

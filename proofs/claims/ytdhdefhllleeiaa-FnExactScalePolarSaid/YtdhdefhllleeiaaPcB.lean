/- A polar multiplied: what stands while it is built. -/
import Derived.Test.YtdhdefhllleeiaaPcA
import Derived.Test.YtdhdefhllleeiaaPdG
namespace Go.Proofs.Ytdhdefhllleeiaa
open Go.RowKit Ieee
set_option linter.unusedSimpArgs false
set_option linter.unusedVariables false

/-- A polar can be multiplied: all its numbers then are speeds. -/
def ScaleOk (P : Pol) (k : Nat) : Prop := PolOk P ∧ ∀ i, i < P.ns → ∀ j, j < P.na → floatBits .mul .f32 (P.sp i j) k = some (mulS (P.sp i j) k) ∧ okS (mulS (P.sp i j) k)
/-- What is multiplied, in blocks of its own. -/
def scQ (P : Pol) (k gW cW gA cA gS cS : Nat) (b c : Nat → Nat) : Pol := ⟨some ⟨gW, 0, none⟩, P.nw, cW, P.ws, some ⟨gA, 0, none⟩, P.na, cA, P.av, some ⟨gS, 0, none⟩, P.ns, cS, fun i => some ⟨b i, 0, none⟩, P.rn, c, fun i j => mulS (P.sp i j) k⟩
theorem mul_is {x k r : Nat} (h : MulIs x k r) (hr : S.isNum r) : floatBits .mul .f32 x k = some r ∧ mulS x k = r := by
  rcases h.2 with h | ⟨_, h⟩
  · exact ⟨h, by unfold mulS; rw [h]; rfl⟩
  · exact absurd hr h
theorem mul_is' {x k r m : Nat} (h : MulIs x k r) (hm : floatBits .mul .f32 x k = some m) : r = m := by
  rcases h.2 with h | ⟨h, _⟩
  · rw [hm] at h; injection h with h; exact h.symm
  · rw [hm] at h; cases h
/-- A polar that is multiplied, m rows of it made. -/
def ScV (B T : Nat) (P : Pol) (k gW gA : Nat) (vS : Value) (m : Nat) (b c : Nat → Nat) (s : Nat → Nat → Nat) (w : World) : Prop :=
  OwnB w gW P.nw 31 (fun j => fv (P.ws j)) ∧ OwnB w gA P.na 3 (fun j => iv (P.av j)) ∧ w.ownsRow B 24 1 vS m ((List.range m).map fun i => .slice (some ⟨b i, 0, none⟩) P.na (c i)) ∧
  (∀ i, i < m → OwnB w (b i) P.na 31 (fun j => fv (s i j)) ∧ (∀ j, j < P.na → MulIs (P.sp i j) k (s i j)) ∧ gW < b i ∧ b i < T) ∧
  (∀ i i', i < i' → i' < m → b i < b i') ∧ (B ≤ gW ∧ B ≤ gA ∧ gW < T ∧ gA < T) ∧ (∀ j, vS.ownBlock = some j → j < T)
theorem OwnB.ne {w : World} {g n k : Nat} {t t' : TypeId} {V : Nat → Value} {cs : Array Value} (h : OwnB w g n t V) (hb : w.heap[k]? = some (.cells cs t' (0, 0))) (ht : t ≠ t') : g ≠ k := fun e => by
  obtain ⟨cs', h1, _⟩ := h
  rw [e, hb] at h1
  injection h1 with h1; injection h1 with _ h1
  exact ht h1.symm
theorem owns_block {w : World} {B n k : Nat} {t : TypeId} {v : Value} {xs : List Value} (h : w.ownsRow B t 1 v n xs) (hk : v.ownBlock = some k) : ∃ cs, w.heap[k]? = some (.cells cs t (0, 0)) := by
  obtain ⟨_, ⟨rfl, _⟩ | ⟨g, c, cur, rfl, _, hg, _⟩⟩ := h
  · cases hk
  · cases hk; exact ⟨cur, hg⟩
theorem owns_ne {w : World} {B n k : Nat} {t t' : TypeId} {v : Value} {xs : List Value} {cs : Array Value} (h : w.ownsRow B t 1 v n xs) (hb : w.heap[k]? = some (.cells cs t' (0, 0))) (ht : t ≠ t') : v.ownBlock ≠ some k := fun e => by
  obtain ⟨cs', h1⟩ := owns_block h e
  rw [hb] at h1
  injection h1 with h1; injection h1 with _ h1
  exact ht h1.symm
theorem owns_same {w w' : World} {B n : Nat} {t : TypeId} {v : Value} {xs : List Value} (h : w.ownsRow B t 1 v n xs) (e : ∀ j, v.ownBlock = some j → w'.heap[j]? = w.heap[j]?) : w'.ownsRow B t 1 v n xs := by
  obtain ⟨hl, ⟨rfl, h0⟩ | ⟨g, c, cur, rfl, hb, hg, h2⟩⟩ := h
  · exact ⟨hl, .inl ⟨rfl, h0⟩⟩
  · exact ⟨hl, .inr ⟨g, c, cur, rfl, hb, (e g rfl).trans hg, h2⟩⟩
/-- All blocks below T stand, but block x, which is none of its own. -/
theorem ScV.same {B T k gW gA m : Nat} {P : Pol} {vS : Value} {b c : Nat → Nat} {s : Nat → Nat → Nat} {w w' : World} (h : ScV B T P k gW gA vS m b c s w) (x : Nat) (hs : ∀ j, j < T → j ≠ x → w'.heap[j]? = w.heap[j]?)
    (h1 : gW ≠ x) (h2 : gA ≠ x) (h3 : vS.ownBlock ≠ some x) (h4 : ∀ i, i < m → b i ≠ x) : ScV B T P k gW gA vS m b c s w' := by
  obtain ⟨a1, a2, a3, a4, a5, a6, a7⟩ := h
  exact ⟨a1.block (hs _ (by omega) h1), a2.block (hs _ (by omega) h2), owns_same a3 (fun j hj => hs j (a7 j hj) (fun e => h3 (e ▸ hj))), fun i hi => ⟨(a4 i hi).1.block (hs _ (a4 i hi).2.2.2 (h4 i hi)), (a4 i hi).2⟩, a5, a6, a7⟩
theorem ScV.step {B T k gW gA m : Nat} {P : Pol} {vS : Value} {b c : Nat → Nat} {s : Nat → Nat → Nat} {w w' : World} (h : ScV B T P k gW gA vS m b c s w) (hs : ∀ j, j < T → w'.heap[j]? = w.heap[j]?) : ScV B T P k gW gA vS m b c s w' := by
  obtain ⟨a1, a2, a3, a4, a5, a6, a7⟩ := h
  exact ⟨a1.block (hs _ (by omega)), a2.block (hs _ (by omega)), owns_same a3 (fun j hj => hs j (a7 j hj)), fun i hi => ⟨(a4 i hi).1.block (hs _ (a4 i hi).2.2.2), (a4 i hi).2⟩, a5, a6, a7⟩
theorem ScV.box {B T k gW gA m gp i : Nat} {P : Pol} {vS x : Value} {b c : Nat → Nat} {s : Nat → Nat → Nat} {w : World} {cs : Array Value} (h : ScV B T P k gW gA vS m b c s w) (hb : w.heap[gp]? = some (.cells cs 28 (0, 0))) : ScV B T P k gW gA vS m b c s (w.setCell ⟨gp, i, none⟩ x) :=
  h.same gp (fun j _ hj => Below.heap_setCell _ _ _ _ hj) (h.1.ne hb (by decide)) (h.2.1.ne hb (by decide)) (owns_ne h.2.2.1 hb (by decide)) (fun i hi => (h.2.2.2.1 i hi).1.ne hb (by decide))
/-- One row more. -/
theorem ScV.more {B T T' k gW gA m g7 c7 g' c' : Nat} {P : Pol} {vS : Value} {b c : Nat → Nat} {s : Nat → Nat → Nat} {s' : Nat → Nat} {w w7 : World} (h : ScV B T P k gW gA vS m b c s w) (hr : OwnB w g' P.na 31 (fun j => fv (s' j))) (hm : ∀ j, j < P.na → MulIs (P.sp m j) k (s' j)) (hT : T ≤ g') (hg' : g' < T')
    (hg : w.grownBy w7 vS.ownBlock) (hown : w7.ownsRow B 24 1 (.slice (some ⟨g7, 0, none⟩) (m + 1) c7) (m + 1) (((List.range m).map fun i => .slice (some ⟨b i, 0, none⟩) P.na (c i)) ++ [.slice (some ⟨g', 0, none⟩) P.na c'])) (hTs : T' ≤ w7.heap.size) (hlt : g7 < w7.heap.size) :
    ∃ (b1 c1 : Nat → Nat) (s1 : Nat → Nat → Nat), ScV B w7.heap.size P k gW gA (.slice (some ⟨g7, 0, none⟩) (m + 1) c7) (m + 1) b1 c1 s1 w7 := by
  obtain ⟨a1, a2, a3, a4, a5, a6, a7⟩ := h
  have keep : ∀ {g n : Nat} {t : TypeId} {V : Nat → Value}, OwnB w g n t V → t ≠ 24 → OwnB w7 g n t V := fun {g n t V} h ht => h.block (hg.block g h.lt fun e => by
    obtain ⟨cs, h1⟩ := owns_block a3 e.symm
    exact h.ne h1 ht rfl)
  refine ⟨fun i => if i = m then g' else b i, fun i => if i = m then c' else c i, fun i => if i = m then s' else s i, keep a1 (by decide), keep a2 (by decide), ?_, fun i hi => ?_, fun i i' hii hi' => ?_, ⟨a6.1, a6.2.1, by omega, by omega⟩, fun j e => by cases e; exact hlt⟩
  · have e : ((List.range (m + 1)).map fun i => (.slice (some ⟨if i = m then g' else b i, 0, none⟩) P.na (if i = m then c' else c i) : Value)) = ((List.range m).map fun i => .slice (some ⟨b i, 0, none⟩) P.na (c i)) ++ [.slice (some ⟨g', 0, none⟩) P.na c'] := by
      rw [List.range_succ, List.map_append]
      congr 1
      · apply List.map_congr_left
        intro i hi
        have := List.mem_range.1 hi
        simp [show i ≠ m by omega]
      · simp
    rw [e]; exact hown
  · by_cases him : i = m
    · subst him
      simp only [if_true]
      exact ⟨keep hr (by decide), hm, by omega, by omega⟩
    · simp only [him, if_false]
      have h4 := a4 i (by omega)
      exact ⟨keep h4.1 (by decide), h4.2.1, h4.2.2.1, by omega⟩
  · by_cases him : i' = m
    · subst him
      have h4 := a4 i (by omega)
      simp only [if_true, show i ≠ i' by omega, if_false]
      omega
    · simp only [him, show i ≠ m by omega, if_false]
      exact a5 i i' hii (by omega)
/-- What stands while ScalePolar works: the polar in its parameter's block, the result's block. -/
def BaseS (w : World) (P : Pol) (wr : World) : Prop :=
  Below w.heap.size w wr ∧ wr.heap[w.heap.size]? = some (.cells #[.slice P.W P.nw P.cw, .slice P.A P.na P.ca, .slice P.S P.ns P.cs] 28 (0, 0)) ∧ wr.heap[w.heap.size + 1]? = some (.cells #[.slice none 0 0, .slice none 0 0, .slice none 0 0] 28 (0, 0)) ∧ PolIn wr P ∧ w.heap.size + 2 ≤ wr.heap.size
theorem BaseS.new {w : World} {P : Pol} (h : PolIn w P) : BaseS w P ((w.alloc (.cells #[.slice P.W P.nw P.cw, .slice P.A P.na P.ca, .slice P.S P.ns P.cs] 28)).alloc (.cells #[.slice none 0 0, .slice none 0 0, .slice none 0 0] 28)) := by
  have s1 : (w.alloc (.cells #[.slice P.W P.nw P.cw, .slice P.A P.na P.ca, .slice P.S P.ns P.cs] 28)).heap.size = w.heap.size + 1 := by simp
  refine ⟨((Below.refl _ w).alloc (Nat.le_refl _) _).alloc (by omega) _, ?_, ?_, (h.keeps (keeps_alloc _ _)).keeps (keeps_alloc _ _), by simp⟩
  · rw [Below.heap_alloc _ _ _ (by omega)]; exact heap_alloc_new _ _
  · rw [← s1]; exact heap_alloc_new _ _
theorem BaseS.step {w w1 w2 : World} {P : Pol} (h : BaseS w P w1) (b : Below w1.heap.size w1 w2) : BaseS w P w2 := by
  obtain ⟨h1, h2, h3, h4, h5⟩ := h
  exact ⟨h1.trans (b.mono h1.size), (b.block _ (by omega)).trans h2, (b.block _ (by omega)).trans h3, h4.keeps (Below.keeps b), Nat.le_trans h5 b.size⟩
theorem BaseS.d0 {w w' : World} {P : Pol} (h : BaseS w P w') : w'.cell? ⟨w.heap.size, 0, none⟩ = some (.slice P.W P.nw P.cw) := cell_of_row w' _ 0 _ _ _ h.2.1
theorem BaseS.d1 {w w' : World} {P : Pol} (h : BaseS w P w') : w'.cell? ⟨w.heap.size, 1, none⟩ = some (.slice P.A P.na P.ca) := cell_of_row w' _ 1 _ _ _ h.2.1
theorem BaseS.d2 {w w' : World} {P : Pol} (h : BaseS w P w') : w'.cell? ⟨w.heap.size, 2, none⟩ = some (.slice P.S P.ns P.cs) := cell_of_row w' _ 2 _ _ _ h.2.1
/-- .. and the one that is made, in its variable. -/
def ScSt (w : World) (P : Pol) (k gp m : Nat) (wr : World) : Prop :=
  BaseS w P wr ∧ ∃ gW cW gA cA vS T b c s, wr.heap[gp]? = some (.cells #[.slice (some ⟨gW, 0, none⟩) P.nw cW, .slice (some ⟨gA, 0, none⟩) P.na cA, vS] 28 (0, 0)) ∧ w.heap.size + 1 < gp ∧ gp < T ∧ T ≤ wr.heap.size ∧ ScV (w.heap.size + 2) T P k gW gA vS m b c s wr
theorem ScSt.step {w w1 w2 : World} {P : Pol} {k gp m : Nat} (h : ScSt w P k gp m w1) (b : Below w1.heap.size w1 w2) : ScSt w P k gp m w2 := by
  obtain ⟨h0, gW, cW, gA, cA, vS, T, b', c, s, h1, h2, h3, h4, h5⟩ := h
  exact ⟨h0.step b, gW, cW, gA, cA, vS, T, b', c, s, (b.block gp (by omega)).trans h1, h2, h3, Nat.le_trans h4 b.size, h5.step fun j hj => b.block j (by omega)⟩
theorem ScSt.new {w w1 : World} {P : Pol} {k gW cW gA cA : Nat} (h : BaseS w P w1) (hW : OwnB w1 gW P.nw 31 (fun j => fv (P.ws j))) (hA : OwnB w1 gA P.na 3 (fun j => iv (P.av j))) (h1 : w.heap.size + 2 ≤ gW) (h2 : w.heap.size + 2 ≤ gA) :
    ScSt w P k w1.heap.size 0 (w1.alloc (.cells #[.slice (some ⟨gW, 0, none⟩) P.nw cW, .slice (some ⟨gA, 0, none⟩) P.na cA, .slice none 0 0] 28)) := by
  have b := (Below.refl _ w1).alloc (Nat.le_refl _) (.cells #[.slice (some ⟨gW, 0, none⟩) P.nw cW, .slice (some ⟨gA, 0, none⟩) P.na cA, .slice none 0 0] 28)
  have hs := h.2.2.2.2
  have hl1 := hW.lt
  have hl2 := hA.lt
  exact ⟨h.step b, gW, cW, gA, cA, .slice none 0 0, w1.heap.size + 1, fun _ => 0, fun _ => 0, fun _ _ => 0, heap_alloc_new _ _, by omega, by omega, by simp, hW.below b, hA.below b, World.ownsRow_nil _ _ _ _, fun i hi => absurd hi (Nat.not_lt_zero _), fun i i' _ hi => absurd hi (Nat.not_lt_zero _), ⟨h1, h2, by omega, by omega⟩, fun j e => by cases e⟩
end Go.Proofs.Ytdhdefhllleeiaa

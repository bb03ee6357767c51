/- The drawing of polars: l04Any. -/
import Derived.Test.YtonoknbangnleaaGreatPdB
import Derived.Deep.Slices
namespace Go.Proofs.YtonoknbangnleaaGreat
open Go.RowKit Ieee
set_option linter.unusedSimpArgs false
set_option linter.unusedVariables false

/-- A list in memory from B on, whose elements are such. -/
def TList (p : Value → Prop) (t : TypeId) (B : Nat) (w : World) (v : Value) (n : Nat) : Prop :=
  ∃ A cap, v = .slice A n cap ∧ (n = 0 ∨ ∃ g o cs, A = some ⟨g, o, none⟩ ∧ B ≤ g ∧ w.heap[g]? = some (.cells cs t (0, 0)) ∧ ∀ j, j < n → ∃ x, cs[o + j]? = some x ∧ p x)
theorem OwnV.tlist {p : Value → Prop} {t : TypeId} {w : World} {B : Nat} {v : Value} {n : Nat} (h : OwnV p t w B v n) : TList p t B w v n := by
  rcases Nat.eq_zero_or_pos n with rfl | hn
  · obtain ⟨A, cap, rfl, _⟩ := h.value
    exact ⟨A, cap, rfl, .inl rfl⟩
  · obtain ⟨g, cap, cs, rfl, _, _, hb, hg, _, hj⟩ := h.form hn
    exact ⟨_, cap, rfl, .inr ⟨g, 0, cs, rfl, hb, hg, fun j h => by rw [Nat.zero_add]; exact hj j h⟩⟩
theorem TList.up {p q : Value → Prop} {t : TypeId} {w : World} {B : Nat} {v : Value} {n : Nat} (h : TList p t B w v n) (hpq : ∀ x, p x → q x) : TList q t B w v n := by
  obtain ⟨A, cap, h1, h2⟩ := h
  exact ⟨A, cap, h1, h2.imp id fun ⟨g, o, cs, a, b, c, d⟩ => ⟨g, o, cs, a, b, c, fun j hj => by obtain ⟨x, e, f⟩ := d j hj; exact ⟨x, e, hpq x f⟩⟩⟩
theorem TList.low {p : Value → Prop} {t : TypeId} {w : World} {B B' : Nat} {v : Value} {n : Nat} (h : TList p t B w v n) (hB : B' ≤ B) : TList p t B' w v n := by
  obtain ⟨A, cap, h1, h2⟩ := h
  exact ⟨A, cap, h1, h2.imp id fun ⟨g, o, cs, a, b, c, d⟩ => ⟨g, o, cs, a, Nat.le_trans hB b, c, d⟩⟩
theorem TList.nil (p : Value → Prop) (t : TypeId) (B : Nat) (w : World) : TList p t B w (.slice none 0 0) 0 := ⟨none, 0, rfl, .inl rfl⟩
/-- Above B all stands. -/
def HiSame (B : Nat) (w w' : World) : Prop := ∀ k, B ≤ k → k < w.heap.size → w'.heap[k]? = w.heap[k]?
theorem block_lt {w : World} {g : Nat} {o : Obj} (h : w.heap[g]? = some o) : g < w.heap.size := by
  rcases Nat.lt_or_ge g w.heap.size with h' | h'
  · exact h'
  · rw [Array.getElem?_eq_none h'] at h; cases h
theorem TList.same {p : Value → Prop} {t : TypeId} {w w' : World} {B : Nat} {v : Value} {n : Nat} (h : TList p t B w v n) (k : HiSame B w w') : TList p t B w' v n := by
  obtain ⟨A, cap, h1, h2⟩ := h
  exact ⟨A, cap, h1, h2.imp id fun ⟨g, o, cs, a, b, c, d⟩ => ⟨g, o, cs, a, b, (k g b (block_lt c)).trans c, d⟩⟩
theorem grown_hi {B : Nat} {w w' : World} {r : Option Nat} (h : w.grownBy w' r) (hr : ∀ k, r = some k → k < B) : HiSame B w w' := fun k hk hlt => h.block k hlt fun e => by have := hr k e.symm; omega
/-- A store into a list's memory. -/
theorem TList.set {p : Value → Prop} {t t' : TypeId} {w : World} {B : Nat} {v : Value} {n b k : Nat} {cs : Array Value} {x : Value} (h : TList p t B w v n) (hb : w.heap[b]? = some (.cells cs t' (0, 0))) (hx : t' = t → p x) : TList p t B (w.setCell ⟨b, k, none⟩ x) v n := by
  obtain ⟨A, cap, h1, h2⟩ := h
  refine ⟨A, cap, h1, h2.imp id fun ⟨g, o, cs', e1, e2, e3, e4⟩ => ?_⟩
  by_cases hg : g = b
  · subst hg
    rw [hb] at e3
    injection e3 with e3
    injection e3 with e5 e6 e7
    subst e5 e6
    refine ⟨g, o, _, e1, e2, heap_set_self hb x, fun j hj => ?_⟩
    obtain ⟨y, y1, y2⟩ := e4 j hj
    by_cases hkj : k = o + j
    · subst hkj
      have hlt : o + j < cs.size := by
        rcases Nat.lt_or_ge (o + j) cs.size with h' | h'
        · exact h'
        · rw [Array.getElem?_eq_none h'] at y1; cases y1
      exact ⟨x, by rw [Array.getElem?_setIfInBounds_self_of_lt hlt], hx rfl⟩
    · exact ⟨y, by rw [Array.getElem?_setIfInBounds_ne hkj]; exact y1, y2⟩
  · exact ⟨g, o, cs', e1, e2, (Below.heap_setCell _ _ _ _ hg).trans e3, e4⟩
/-- A number of 32 bits. -/
def IsF (v : Value) : Prop := ∃ x : Nat, x < 4294967296 ∧ v = .float .f32 x
/-- A row of whatever length. -/
def IsRowF (B : Nat) (w : World) (v : Value) : Prop := ∃ l, l ≤ 1048576 ∧ TList IsF 35 B w v l
/-- A polar in memory from B on. -/
def PolT (B : Nat) (w : World) (vW vA vS : Value) (n na m : Nat) : Prop :=
  (n ≤ 1048576 ∧ na ≤ 1048576 ∧ m ≤ 1048576) ∧ TList IsF 35 B w vW n ∧ TList IsN 3 B w vA na ∧ TList (IsRowF B w) 24 B w vS m
theorem PVal.polT {B T M n na m : Nat} {vW vA vS : Value} {w : World} (h : PVal B T M n na m vW vA vS w) (h1 : n ≤ 1048576) (h2 : na ≤ 1048576) (h3 : m ≤ 1048576) : PolT B w vW vA vS n na m := by
  have hF : ∀ x, IsB M x → IsF x := fun x ⟨y, a, b⟩ => ⟨y, a.1, b⟩
  exact ⟨⟨h1, h2, h3⟩, (h.1.up hF).tlist, h.2.1.tlist, (h.2.2.1.up fun x hx => ⟨na, h2, (hx.1.up hF).tlist⟩).tlist⟩
theorem PolT.same {B : Nat} {w w' : World} {vW vA vS : Value} {n na m : Nat} (h : PolT B w vW vA vS n na m) (k : HiSame B w w') : PolT B w' vW vA vS n na m :=
  ⟨h.1, h.2.1.same k, h.2.2.1.same k, (h.2.2.2.same k).up fun x ⟨l, hl, hx⟩ => ⟨l, hl, hx.same k⟩⟩
theorem PolT.low {B B' : Nat} {w : World} {vW vA vS : Value} {n na m : Nat} (h : PolT B w vW vA vS n na m) (hB : B' ≤ B) : PolT B' w vW vA vS n na m :=
  ⟨h.1, h.2.1.low hB, h.2.2.1.low hB, (h.2.2.2.low hB).up fun x ⟨l, hl, hx⟩ => ⟨l, hl, hx.low hB⟩⟩
theorem PolT.setF {B : Nat} {w : World} {vW vA vS : Value} {n na m b k : Nat} {cs : Array Value} {x : Nat} (h : PolT B w vW vA vS n na m) (hb : w.heap[b]? = some (.cells cs 35 (0, 0))) (hx : x < 4294967296) : PolT B (w.setCell ⟨b, k, none⟩ (.float .f32 x)) vW vA vS n na m :=
  ⟨h.1, h.2.1.set hb fun _ => ⟨x, hx, rfl⟩, h.2.2.1.set hb (fun e => absurd e (by decide)), (h.2.2.2.set hb (fun e => absurd e (by decide))).up fun y ⟨l, hl, hy⟩ => ⟨l, hl, hy.set hb fun _ => ⟨x, hx, rfl⟩⟩⟩
theorem PolT.setI {B : Nat} {w : World} {vW vA vS : Value} {n na m b k : Nat} {cs : Array Value} {x : Int} (h : PolT B w vW vA vS n na m) (hb : w.heap[b]? = some (.cells cs 3 (0, 0))) (hx : -9223372036854775808 ≤ x ∧ x ≤ 9223372036854775807) : PolT B (w.setCell ⟨b, k, none⟩ (.int .i64 x)) vW vA vS n na m :=
  ⟨h.1, h.2.1.set hb (fun e => absurd e (by decide)), h.2.2.1.set hb fun _ => ⟨x, hx, rfl⟩, (h.2.2.2.set hb (fun e => absurd e (by decide))).up fun y ⟨l, hl, hy⟩ => ⟨l, hl, hy.set hb (fun e => absurd e (by decide))⟩⟩
theorem PolT.setR {B : Nat} {w : World} {vW vA vS : Value} {n na m b k : Nat} {cs : Array Value} {x : Value} (h : PolT B w vW vA vS n na m) (hb : w.heap[b]? = some (.cells cs 24 (0, 0))) (hx : IsRowF B w x) : PolT B (w.setCell ⟨b, k, none⟩ x) vW vA vS n na m :=
  ⟨h.1, h.2.1.set hb (fun e => absurd e (by decide)), h.2.2.1.set hb (fun e => absurd e (by decide)), (h.2.2.2.set hb fun _ => hx).up fun y ⟨l, hl, hy⟩ => ⟨l, hl, hy.set hb (fun e => absurd e (by decide))⟩⟩
theorem tl_row {p : Value → Prop} {t : TypeId} {B : Nat} {w : World} {A : Option Addr} {n cap : Nat} {V : Nat → Value} (h : TList p t B w (.slice A n cap) n) (hV : ∀ g o, A = some ⟨g, o, none⟩ → ∀ j, j < n → ∀ x, w.cell? ⟨g, o + j, none⟩ = some x → V j = x) : Row w A n V := fun hn => by
  obtain ⟨A', cap', e, h0 | ⟨g, o, cs, e1, e2, e3, e4⟩⟩ := h
  · omega
  · cases e
    refine ⟨g, o, e1, fun j hj => ?_⟩
    obtain ⟨x, x1, x2⟩ := e4 j hj
    have hc : w.cell? ⟨g, o + j, none⟩ = some x := (cell_of_row w g (o + j) cs t (0, 0) e3).trans x1
    rw [hc, hV g o e1 j hj x hc]
theorem tl_at {p : Value → Prop} {t : TypeId} {B : Nat} {w : World} {A : Option Addr} {n cap j : Nat} (h : TList p t B w (.slice A n cap) n) (hj : j < n) : ∃ g o x, A = some ⟨g, o, none⟩ ∧ B ≤ g ∧ w.cell? ⟨g, o + j, none⟩ = some x ∧ p x := by
  obtain ⟨A', cap', e, h0 | ⟨g, o, cs, e1, e2, e3, e4⟩⟩ := h
  · omega
  · cases e
    obtain ⟨x, x1, x2⟩ := e4 j hj
    exact ⟨g, o, x, e1, e2, (cell_of_row w g (o + j) cs t (0, 0) e3).trans x1, x2⟩
theorem tl_fun {α : Type} [Inhabited α] {p : Value → Prop} {t : TypeId} {B : Nat} {w : World} {A : Option Addr} {n cap : Nat} (h : TList p t B w (.slice A n cap) n) (q : α → Prop) (V : α → Value) (hp : ∀ x, p x → ∃ a, q a ∧ x = V a) : ∃ f : Nat → α, Row w A n (fun j => V (f j)) ∧ ∀ j, j < n → q (f j) := by
  obtain ⟨f, hf⟩ := Go.Deep.choose_lt (α := α) (n := n) (p := fun j a => q a ∧ ∃ g o, A = some ⟨g, o, none⟩ ∧ w.cell? ⟨g, o + j, none⟩ = some (V a)) (fun j hj => by
    obtain ⟨g, o, x, h1, _, h2, h3⟩ := tl_at h hj
    obtain ⟨a, ha, rfl⟩ := hp x h3
    exact ⟨a, ha, g, o, h1, h2⟩)
  refine ⟨f, tl_row h fun g o e j hj x hx => ?_, fun j hj => (hf j hj).1⟩
  obtain ⟨_, g', o', e', hc⟩ := hf j hj
  rw [e] at e'
  cases e'
  rw [hx] at hc
  injection hc with hc
  exact hc.symm
/-- A polar in memory is a polar. -/
theorem PolT.pol {B : Nat} {w : World} {vW vA vS : Value} {n na m : Nat} (h : PolT B w vW vA vS n na m) : ∃ P : Pol, P.nw = n ∧ P.na = na ∧ P.ns = m ∧ vW = .slice P.W P.nw P.cw ∧ vA = .slice P.A P.na P.ca ∧ vS = .slice P.S P.ns P.cs ∧ PolIn w P := by
  obtain ⟨⟨h1, h2, h3⟩, hW, hA, hS⟩ := h
  have hW' := hW; have hA' := hA; have hS' := hS
  obtain ⟨W, cw, rfl, _⟩ := hW'
  obtain ⟨A, ca, rfl, _⟩ := hA'
  obtain ⟨S, cs, rfl, _⟩ := hS'
  obtain ⟨ws, w1, w2⟩ := tl_fun hW (fun x : Nat => x < 4294967296) (fun x => .float .f32 x) (fun x ⟨y, a, b⟩ => ⟨y, a, b⟩)
  obtain ⟨av, a1, a2⟩ := tl_fun hA (fun x : Int => -9223372036854775808 ≤ x ∧ x ≤ 9223372036854775807) (fun x => .int .i64 x) (fun x ⟨y, a, b⟩ => ⟨y, a, b⟩)
  obtain ⟨f, f1, f2⟩ := tl_fun hS (fun x : Option Addr × Nat × Nat × (Nat → Nat) => RowF w x.1 x.2.1 x.2.2.2) (fun x => .slice x.1 x.2.1 x.2.2.1) (fun x ⟨l, hl, hx⟩ => by
    have hx' := hx
    obtain ⟨A, c, rfl, _⟩ := hx'
    obtain ⟨g, g1, g2⟩ := tl_fun hx (fun x : Nat => x < 4294967296) (fun x => .float .f32 x) (fun x ⟨y, a, b⟩ => ⟨y, a, b⟩)
    exact ⟨(A, l, c, g), ⟨g1, hl, g2⟩, rfl⟩)
  exact ⟨⟨W, n, cw, ws, A, na, ca, av, S, m, cs, fun i => (f i).1, fun i => (f i).2.1, fun i => (f i).2.2.1, fun i => (f i).2.2.2⟩, rfl, rfl, rfl, rfl, rfl, rfl, ⟨w1, h1, w2⟩, ⟨a1, h2, a2⟩, ⟨f1, h3⟩, f2⟩
end Go.Proofs.YtonoknbangnleaaGreat

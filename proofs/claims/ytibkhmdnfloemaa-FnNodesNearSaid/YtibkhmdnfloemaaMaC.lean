/- Lists of lists of winds of a call's own; what stands while a field is drawn. -/
import Derived.Test.YtibkhmdnfloemaaMaW
namespace Go.Proofs.Ytibkhmdnfloemaa
open Go.RowKit Ieee
set_option linter.unusedVariables false
set_option linter.unusedSimpArgs false

def IsCx (c : Nat) (x : Value) : Prop := ∃ a b : Nat, x = .complex .f32 a b ∧ a < 4294967296 ∧ b < 4294967296
theorem own_none_ne12 (v : Value) : v.ownBlock = none ∨ v.ownBlock ≠ none := by
  cases v.ownBlock with
  | none => exact .inl rfl
  | some k => exact .inr (fun e => by cases e)
/-- A list of winds, in a block below b. -/
def InnerOk (w : World) (B b lo : Nat) (x : Value) : Prop := ∃ (A : Option Addr) (m cp : Nat), x = .slice A m cp ∧ (lo ≤ m ∧ m ≤ 1000) ∧ m ≤ cp ∧ (0 < m → ∃ g o cs, A = some ⟨g, o, none⟩ ∧ B ≤ g ∧ g < b ∧ w.heap[g]? = some (.cells cs 32 (0, 0)) ∧ ∀ i, i < m → ∃ u v : Nat, cs[o + i]? = some (.complex .f32 u v) ∧ u < 4294967296 ∧ v < 4294967296)
theorem InnerOk.kept {w w' : World} {B b lo : Nat} {x : Value} (h : InnerOk w B b lo x) (k : ∀ g cs, g < b → w.heap[g]? = some (.cells cs 32 (0, 0)) → w'.heap[g]? = w.heap[g]?) : InnerOk w' B b lo x := by
  obtain ⟨A, m, cp, e, hm, hc, h⟩ := h
  refine ⟨A, m, cp, e, hm, hc, fun h0 => ?_⟩
  obtain ⟨g, o, cs, e, h1, h2, h3, h4⟩ := h h0
  exact ⟨g, o, cs, e, h1, h2, (k g cs h2 h3).trans h3, h4⟩
theorem InnerOk.up {w : World} {B b b' lo : Nat} {x : Value} (h : InnerOk w B b lo x) (hb : b ≤ b') : InnerOk w B b' lo x := by
  obtain ⟨A, m, cp, e, hm, hc, h⟩ := h
  refine ⟨A, m, cp, e, hm, hc, fun h0 => ?_⟩
  obtain ⟨g, o, cs, e, h1, h2, h3⟩ := h h0
  exact ⟨g, o, cs, e, h1, by omega, h3⟩
theorem InnerOk.of {w : World} {B b lo : Nat} {x : Value} {m : Nat} (h : OwnC IsCx 32 1 w b x m) (hB : B ≤ b) (hm : lo ≤ m ∧ m ≤ 1000) : InnerOk w B w.heap.size lo x := by
  rcases Nat.eq_zero_or_pos m with rfl | h0
  · obtain ⟨A, cp, rfl, _⟩ := h.value
    exact ⟨A, 0, cp, rfl, hm, by omega, fun h => by omega⟩
  · have hl := fun k e => (h.lt (k := k) e)
    obtain ⟨g, cap, cs, rfl, h1, h2, h3, h4, h5, h6⟩ := h.form h0
    refine ⟨_, m, cap, rfl, hm, h1, fun _ => ⟨g, 0, cs, rfl, by have := (hl g rfl).1; omega, (hl g rfl).2, h4, fun i hi => ?_⟩⟩
    obtain ⟨x, hx, u, v, rfl, p⟩ := h6 i (by omega)
    exact ⟨u, v, by rw [Nat.zero_add]; exact hx, p⟩
/-- A list of such lists. -/
def OwnHs (w : World) (B b lo : Nat) (v : Value) (n : Nat) : Prop := ∃ xs : List Value, w.ownsRow B 37 1 v n xs ∧ ∀ x ∈ xs, InnerOk w B b lo x
theorem OwnHs.c {w : World} {B b lo : Nat} {v : Value} {n : Nat} (h : OwnHs w B b lo v n) : OwnC (fun _ _ => True) 37 1 w B v n := by
  obtain ⟨xs, h1, _⟩ := h
  exact ⟨xs, fun _ _ _ => trivial, h1⟩
theorem OwnHs.kept {w w' : World} {B b lo : Nat} {v : Value} {n : Nat} {r : Option Nat} (h : OwnHs w B b lo v n) (hb : b ≤ w.heap.size) (gr : w.grownBy w' r) (hr : ∀ k, r = some k → v.ownBlock ≠ some k ∧ (k < b → ∀ cs, w.heap[k]? ≠ some (.cells cs 32 (0, 0)))) : OwnHs w' B b lo v n := by
  obtain ⟨xs, h1, h2⟩ := h
  refine ⟨xs, h1.kept gr ?_, fun x hx => (h2 x hx).kept fun g cs hg hc => gr.block g (by omega) (fun e => (hr g e.symm).2 hg cs hc)⟩
  rcases r with _ | k
  · exact own_none_ne12 _
  · exact .inr (hr k rfl).1
/-- What stands while a field is drawn: the box q holds its numbers and vB, its hours are vH. -/
def FlV (w : World) (B g : Nat) (A : Option Addr) (len cap q : Nat) (wd hi me : Int) (vB vH : Value) (nh b lo : Nat) (wx : World) : Prop :=
  w.grownBy wx (some g) ∧ Cur wx B g A len cap ∧ g < w.heap.size ∧ wx.heap[w.heap.size]? = some (.cells #[.int .i64 0, .int .i64 0, .int .i64 0, .slice none 0 0] 26 (0, 0)) ∧ w.heap.size < q ∧ wx.heap[q]? = some (.cells #[.int .i64 wd, .int .i64 hi, .int .i64 me, vB] 26 (0, 0)) ∧ (In64 wd ∧ In64 hi ∧ In64 me) ∧ OwnHs wx w.heap.size b lo vH nh ∧ b ≤ wx.heap.size
theorem cur_blk12 {w : World} {B g len cap : Nat} {A : Option Addr} (h : Cur w B g A len cap) : ∃ cs, w.heap[g]? = some (.cells cs 58 (0, 0)) := ⟨_, h.2.2.choose_spec.choose_spec.2.2.2.2⟩
theorem ne_cx {w : World} {k : Nat} {cs : Array Value} {t : TypeId} (h : w.heap[k]? = some (.cells cs t (0, 0))) (ht : t ≠ 32) (cs' : Array Value) : w.heap[k]? ≠ some (.cells cs' 32 (0, 0)) := fun e => by
  rw [h] at e; cases e; exact ht rfl
theorem FlV.draw {w w1 w2 : World} {B g len cap q nh b lo : Nat} {A : Option Addr} {wd hi me : Int} {vB vH : Value} (h : FlV w B g A len cap q wd hi me vB vH nh b lo w1) (c : Cur w2 B g A len cap) (k : w1.grownBy w2 (some g)) : FlV w B g A len cap q wd hi me vB vH nh b lo w2 := by
  obtain ⟨h1, h2, h3, h4, h5, h6, h7, h8, h9⟩ := h
  obtain ⟨cs, hb⟩ := cur_blk12 h2
  exact ⟨grown_trans h1 k, c, h3, box_far h4 k (fun e => by cases e; omega), h5, box_far h6 k (fun e => by cases e; omega), h7, h8.kept h9 k (fun j e => by cases e; exact ⟨h8.c.ne hb (by decide), fun _ => ne_cx hb (by decide)⟩), Nat.le_trans h9 k.size⟩
theorem FlV.alloc {w w1 : World} {B g len cap q nh b lo : Nat} {A : Option Addr} {wd hi me : Int} {vB vH : Value} (h : FlV w B g A len cap q wd hi me vB vH nh b lo w1) (o : Obj) : FlV w B g A len cap q wd hi me vB vH nh b lo (w1.alloc o) :=
  h.draw (h.2.1.alloc o) (World.grownBy_alloc w1 o _)
theorem FlV.up {w w1 : World} {B g len cap q nh b b' lo : Nat} {A : Option Addr} {wd hi me : Int} {vB vH : Value} (h : FlV w B g A len cap q wd hi me vB vH nh b lo w1) (hb : b ≤ b') (hb2 : b' ≤ w1.heap.size) : FlV w B g A len cap q wd hi me vB vH nh b' lo w1 := by
  obtain ⟨h1, h2, h3, h4, h5, h6, h7, ⟨xs, h8, h8'⟩, h9⟩ := h
  exact ⟨h1, h2, h3, h4, h5, h6, h7, ⟨xs, h8, fun x hx => (h8' x hx).up hb⟩, hb2⟩
/-- A wind more in the hour that is made. -/
theorem FlV.hour {w w1 w2 : World} {B g len cap q nh b m lo : Nat} {A : Option Addr} {wd hi me : Int} {vB vH hv : Value} (h : FlV w B g A len cap q wd hi me vB vH nh b lo w1) (hb0 : w.heap.size ≤ b) (hh : OwnC IsCx 32 1 w1 b hv m) (k : w1.grownBy w2 hv.ownBlock) : FlV w B g A len cap q wd hi me vB vH nh b lo w2 := by
  obtain ⟨h1, h2, h3, h4, h5, h6, h7, h8, h9⟩ := h
  obtain ⟨cs, hb⟩ := cur_blk12 h2
  refine ⟨gr_new h1 k fun j e => .inr (by have := (hh.lt e).1; omega), h2.grown_far k (hh.ne hb (by decide)) (fun j e => by have := (hh.lt e).1; have := h2.1; omega), h3, box_far h4 k (hh.ne h4 (by decide)), h5, box_far h6 k (hh.ne h6 (by decide)), h7, h8.kept h9 k (fun j e => ⟨fun e2 => ?_, fun hj => absurd hj (by have := (hh.lt e).1; omega)⟩), Nat.le_trans h9 k.size⟩
  obtain ⟨cs2, hb2⟩ := h8.c.block e2
  exact hh.ne hb2 (by decide) e
/-- An hour more. -/
theorem FlV.app {w w1 w2 : World} {B g len cap q nh b m lo : Nat} {A : Option Addr} {wd hi me : Int} {vB vH vH' hv : Value} {xs : List Value} (h : FlV w B g A len cap q wd hi me vB vH nh b lo w1) (hb0 : w.heap.size ≤ b) (hxs : ∀ x ∈ xs, InnerOk w1 w.heap.size b lo x) (hh : OwnC IsCx 32 1 w1 b hv m) (hm : lo ≤ m ∧ m ≤ 1000) (k : w1.grownBy w2 vH.ownBlock) (ho : w2.ownsRow w.heap.size 37 1 vH' (nh + 1) (xs ++ [hv])) :
    FlV w B g A len cap q wd hi me vB vH' (nh + 1) w1.heap.size lo w2 := by
  obtain ⟨h1, h2, h3, h4, h5, h6, h7, h8, h9⟩ := h
  obtain ⟨cs, hb⟩ := cur_blk12 h2
  have hin := InnerOk.of hh (B := w.heap.size) hb0 hm
  have key : ∀ x, InnerOk w1 w.heap.size w1.heap.size lo x → InnerOk w2 w.heap.size w1.heap.size lo x := fun x hx => hx.kept fun j cs' hj hc => k.block j hj (fun e => h8.c.ne hc (by decide) e.symm)
  refine ⟨gr_new h1 k fun j e => .inr (h8.c.lt e).1, h2.grown_far k (h8.c.ne hb (by decide)) (fun j e => by have := (h8.c.lt e).1; have := h2.1; omega), h3, box_far h4 k (h8.c.ne h4 (by decide)), h5, box_far h6 k (h8.c.ne h6 (by decide)), h7, ⟨_, ho, fun x hx => ?_⟩, k.size⟩
  rcases List.mem_append.1 hx with h | h
  · exact key x ((hxs x h).up h9)
  · rw [List.mem_singleton.1 h]; exact key hv hin
/-- A store into the box. -/
theorem FlV.set {w w1 : World} {B g len cap q nh b c lo : Nat} {A : Option Addr} {wd hi me wd' hi' me' : Int} {vB vB' vH x : Value} (h : FlV w B g A len cap q wd hi me vB vH nh b lo w1) (e : (#[.int .i64 wd, .int .i64 hi, .int .i64 me, vB] : Array Value).setIfInBounds c x = #[.int .i64 wd', .int .i64 hi', .int .i64 me', vB']) (hw : In64 wd' ∧ In64 hi' ∧ In64 me') : FlV w B g A len cap q wd' hi' me' vB' vH nh b lo (w1.setCell ⟨q, c, none⟩ x) := by
  obtain ⟨h1, h2, h3, h4, h5, h6, h7, h8, h9⟩ := h
  have k := grown_set w1 q c x
  have hB := h2.1
  refine ⟨gr_new h1 k fun j e => .inr (by cases e; omega), h2.grown_far k (fun e => by cases e; omega) (fun j e => by cases e; omega), h3, box_far h4 k (fun e => by cases e; omega), h5, ?_, hw, h8.kept h9 k (fun j e2 => by cases e2; exact ⟨h8.c.ne h6 (by decide), fun _ => ne_cx h6 (by decide)⟩), Nat.le_trans h9 k.size⟩
  rw [← e]; exact heap_set_self h6 x
end Go.Proofs.Ytibkhmdnfloemaa

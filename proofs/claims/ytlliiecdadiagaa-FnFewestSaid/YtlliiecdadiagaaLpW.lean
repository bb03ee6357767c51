/- Lists of sails of a call's own; what stands while they are drawn. -/
import Derived.Test.YtlliiecdadiagaaLpU
namespace Go.Proofs.Ytlliiecdadiagaa
open Go.RowKit Ieee
set_option linter.unusedVariables false
set_option linter.unusedSimpArgs false

def IsSa (c : Nat) (x : Value) : Prop := (c = 0 → ∃ b : ByteArray, x = .string b ∧ b.size ≤ 1000) ∧ (c = 1 ∨ c = 2 → ∃ b, x = .float .f32 b ∧ b < 4294967296) ∧ (c = 3 ∨ c = 4 → ∃ n, x = .int .i64 n ∧ (-9223372036854775808 ≤ n ∧ n ≤ 9223372036854775807))
/-- A sail that is drawn. -/
def SlWd (s : Sl) : Prop := s.nm.size ≤ 1000 ∧ s.lo < 4294967296 ∧ s.hi < 4294967296 ∧ (-9223372036854775808 ≤ s.fr ∧ s.fr ≤ 9223372036854775807) ∧ (-9223372036854775808 ≤ s.to ∧ s.to ≤ 9223372036854775807)
theorem SlWd.wf {s : Sl} (h : SlWd s) : SlWf s := ⟨by have := h.1; omega, h.2⟩
theorem sa_cells (s : Sl) (h : SlWd s) : ∀ (k : Nat) (x : Value), [Value.string s.nm, .float .f32 s.lo, .float .f32 s.hi, .int .i64 s.fr, .int .i64 s.to][k]? = some x → IsSa (k % 5) x := fun k x hx => by
  obtain ⟨h0, h1, h2, h3, h4⟩ := h
  match k with
  | 0 => cases hx; exact ⟨fun _ => ⟨_, rfl, h0⟩, fun e => by omega, fun e => by omega⟩
  | 1 => cases hx; exact ⟨fun e => by omega, fun _ => ⟨_, rfl, h1⟩, fun e => by omega⟩
  | 2 => cases hx; exact ⟨fun e => by omega, fun _ => ⟨_, rfl, h2⟩, fun e => by omega⟩
  | 3 => cases hx; exact ⟨fun e => by omega, fun e => by omega, fun _ => ⟨_, rfl, h3⟩⟩
  | 4 => cases hx; exact ⟨fun e => by omega, fun e => by omega, fun _ => ⟨_, rfl, h4⟩⟩
  | k + 5 => simp at hx
theorem add_some : ∀ x y : Int, 0 ≤ x → x < 16 → 0 ≤ y → y < 14 → ∃ r, floatBits .add .f32 (floatOfInt .f32 x) (floatOfInt .f32 (2 + y)) = some r ∧ r < 4294967296 := by
  have hB : ((List.range 16).all fun x => (List.range 14).all fun y => (floatBits .add .f32 (floatOfInt .f32 (x : Int)) (floatOfInt .f32 (2 + (y : Int)))).isSome) = true := by kernel_rfl
  intro x y x0 x1 y0 y1
  obtain ⟨x, rfl⟩ : ∃ k : Nat, x = k := ⟨x.toNat, by omega⟩
  obtain ⟨y, rfl⟩ : ∃ k : Nat, y = k := ⟨y.toNat, by omega⟩
  have h := List.all_eq_true.1 (List.all_eq_true.1 hB x (List.mem_range.2 (by omega))) y (List.mem_range.2 (by omega))
  obtain ⟨r, hr⟩ := Option.isSome_iff_exists.1 h
  exact ⟨r, hr, FloatKind.f32.format.add_lt hr⟩
def namesB : List ByteArray := [⟨#[109, 97, 105, 110]⟩, ⟨#[106, 105, 98]⟩, ⟨#[103, 101, 110, 111, 97]⟩, ⟨#[115, 116, 111, 114, 109]⟩, ⟨#[99, 111, 100, 101]⟩, ⟨#[107, 105, 116, 101]⟩]
theorem names_small : ∀ k : Nat, k < 6 → (namesB.getD k ⟨#[]⟩).size ≤ 1000 := by decide
def OwnSa (w : World) (B : Nat) (v : Value) (n : Nat) : Prop := OwnC IsSa 40 5 w B v n
/-- A list of the call's own, read. -/
theorem OwnSa.list {w : World} {B : Nat} {v : Value} {n : Nat} (h : OwnSa w B v n) : ∃ (A : Option Addr) (cap g : Nat) (f : Nat → Sl), v = .slice A n cap ∧ (0 < n → A = some ⟨g, 0, none⟩) ∧ SlsIn w g 0 n f ∧ (∀ j, j < n → SlWd (f j)) ∧ (0 < n → v.ownBlock = some g) := by
  rcases Nat.eq_zero_or_pos n with rfl | hn
  · obtain ⟨A, cap, rfl, _⟩ := h.value
    exact ⟨A, cap, 0, fun _ => ⟨⟨#[]⟩, 0, 0, 0, 0⟩, rfl, fun h => by omega, fun j hj => by omega, fun j hj => by omega, fun h => by omega⟩
  · obtain ⟨g, cap, cs, rfl, h1, h2, h3, h4, h5, h6⟩ := h.form hn
    have each : ∀ j, j < n → ∃ s : Sl, (cs[j * 5]? = some (.string s.nm) ∧ cs[j * 5 + 1]? = some (.float .f32 s.lo) ∧ cs[j * 5 + 2]? = some (.float .f32 s.hi) ∧ cs[j * 5 + 3]? = some (.int .i64 s.fr) ∧ cs[j * 5 + 4]? = some (.int .i64 s.to)) ∧ SlWd s := fun j hj => by
      obtain ⟨x0, e0, p0⟩ := h6 (j * 5) (by omega)
      obtain ⟨x1, e1, p1⟩ := h6 (j * 5 + 1) (by omega)
      obtain ⟨x2, e2, p2⟩ := h6 (j * 5 + 2) (by omega)
      obtain ⟨x3, e3, p3⟩ := h6 (j * 5 + 3) (by omega)
      obtain ⟨x4, e4, p4⟩ := h6 (j * 5 + 4) (by omega)
      obtain ⟨a0, rfl, b0⟩ := p0.1 (by omega)
      obtain ⟨a1, rfl, b1⟩ := p1.2.1 (by omega)
      obtain ⟨a2, rfl, b2⟩ := p2.2.1 (by omega)
      obtain ⟨a3, rfl, b3⟩ := p3.2.2 (by omega)
      obtain ⟨a4, rfl, b4⟩ := p4.2.2 (by omega)
      exact ⟨⟨a0, a1, a2, a3, a4⟩, ⟨e0, e1, e2, e3, e4⟩, b0, b1, b2, b3, b4⟩
    obtain ⟨f, hf⟩ := Go.Deep.choose_lt (α := Sl) each
    exact ⟨_, cap, g, f, rfl, fun _ => rfl, fun j hj => by
      rw [Nat.zero_add]
      exact ⟨(cell_of_row w g _ _ _ _ h4).trans (hf j hj).1.1, (cell_of_row w g _ _ _ _ h4).trans (hf j hj).1.2.1, (cell_of_row w g _ _ _ _ h4).trans (hf j hj).1.2.2.1, (cell_of_row w g _ _ _ _ h4).trans (hf j hj).1.2.2.2.1, (cell_of_row w g _ _ _ _ h4).trans (hf j hj).1.2.2.2.2⟩, fun j hj => (hf j hj).2, fun _ => rfl⟩
/-- What stands while sails are drawn. -/
def SaV (w : World) (B g : Nat) (A : Option Addr) (len cap : Nat) (v : Value) (n : Nat) (wx : World) : Prop :=
  w.grownBy wx (some g) ∧ Cur wx B g A len cap ∧ g < w.heap.size ∧ wx.heap[w.heap.size]? = some (.cells (namesB.map Value.string).toArray 9 (0, 0)) ∧ OwnSa wx w.heap.size v n
theorem SaV.draw {w w1 w2 : World} {B g : Nat} {A : Option Addr} {len cap : Nat} {v : Value} {n : Nat} (h : SaV w B g A len cap v n w1) (c : Cur w2 B g A len cap) (k : w1.grownBy w2 (some g)) : SaV w B g A len cap v n w2 := by
  obtain ⟨h1, h2, h3, h4, h5⟩ := h
  exact ⟨grown_trans h1 k, c, h3, box_far h4 k (fun e => by cases e; omega), h5.kept k (fun j e q => by cases e; have := (h5.lt q).1; omega)⟩
theorem SaV.alloc {w w1 : World} {B g : Nat} {A : Option Addr} {len cap : Nat} {v : Value} {n : Nat} (h : SaV w B g A len cap v n w1) (o : Obj) : SaV w B g A len cap v n (w1.alloc o) := h.draw (h.2.1.alloc o) (World.grownBy_alloc w1 o _)
theorem SaV.drew {w w1 : World} {B g : Nat} {A : Option Addr} {len cap : Nat} {v : Value} {n : Nat} (h : SaV w B g A len cap v n w1) : SaV w B g A len cap v n w1.drew :=
  h.draw (h.2.1.grown_far (grown_drewN w1 1 none) (by simp) (fun _ e => by cases e)) ⟨rfl, rfl, rfl, Nat.le_refl _, fun _ _ _ => rfl⟩
/-- A sail more. -/
theorem SaV.add {w w1 w7 : World} {B g : Nat} {A : Option Addr} {len cap : Nat} {v v' : Value} {n n' : Nat} (h : SaV w B g A len cap v n w1) (k : w1.grownBy w7 v.ownBlock) (ho : OwnSa w7 w.heap.size v' n') : SaV w B g A len cap v' n' w7 := by
  obtain ⟨h1, h2, h3, h4, h5⟩ := h
  have hB := h2.1
  have q1 := h5.ne h4 (by decide)
  exact ⟨gr_new h1 k fun j q => .inr (h5.lt q).1, h2.grown_far k (fun q => by have := (h5.lt q).1; omega) (fun j q => by have := (h5.lt q).1; omega), h3, box_far h4 k q1, ho⟩
/-- A store into the list. -/
theorem SaV.elem {w w1 : World} {B g : Nat} {A : Option Addr} {len cap : Nat} {v : Value} {n : Nat} {gM c : Nat} {x : Value} (h : SaV w B g A len cap v n w1) (e : v.ownBlock = some gM) (hx : IsSa (c % 5) x) : SaV w B g A len cap v n (w1.setCell ⟨gM, c, none⟩ x) := by
  obtain ⟨h1, h2, h3, h4, h5⟩ := h
  have k := grown_set w1 gM c x
  have hB := h2.1
  have hl := h5.lt e
  have q1 := h5.ne h4 (by decide)
  exact ⟨gr_new h1 k fun j q => .inr (by cases q; omega), h2.grown_far k (fun q => by cases q; omega) (fun j q => by cases q; omega), h3, box_far h4 k (fun q => q1 (e.trans q)), h5.set e hx⟩
theorem SaV.spot {w w1 : World} {B g : Nat} {A : Option Addr} {len cap : Nat} {v : Value} {n : Nat} {gM c : Nat} (h : SaV w B g A len cap v n w1) (e : v.ownBlock = some gM) (hc : c < n * 5) : ∃ cs, w1.heap[gM]? = some (.cells cs 40 (0, 0)) ∧ c < cs.size := by
  obtain ⟨g', cap', cs, rfl, a1, a2, a3, a4, a5, a6⟩ := h.2.2.2.2.form (by omega)
  cases e
  have : n * 5 ≤ cap' * 5 := Nat.mul_le_mul_right 5 a1
  exact ⟨cs, a4, by omega⟩
theorem SaV.name {w w1 : World} {B g : Nat} {A : Option Addr} {len cap : Nat} {v : Value} {n : Nat} (h : SaV w B g A len cap v n w1) {k : Nat} (hk : k < 6) : w1.cell? ⟨w.heap.size, k, none⟩ = some (.string (namesB.getD k ⟨#[]⟩)) := by
  rw [cell_of_row w1 _ k _ _ _ h.2.2.2.1]
  simp [List.getD, List.getElem?_eq_getElem (show k < namesB.length from hk)]
/-- .. and a sail in a box. -/
def SbV (w : World) (B g : Nat) (A : Option Addr) (len cap gx : Nat) (s : Sl) (v : Value) (n : Nat) (wx : World) : Prop :=
  SaV w B g A len cap v n wx ∧ w.heap.size < gx ∧ wx.heap[gx]? = some (.cells #[.string s.nm, .float .f32 s.lo, .float .f32 s.hi, .int .i64 s.fr, .int .i64 s.to] 40 (0, 0)) ∧ SlWd s ∧ v.ownBlock ≠ some gx
theorem SbV.draw {w w1 w2 : World} {B g : Nat} {A : Option Addr} {len cap gx : Nat} {s : Sl} {v : Value} {n : Nat} (h : SbV w B g A len cap gx s v n w1) (c : Cur w2 B g A len cap) (k : w1.grownBy w2 (some g)) : SbV w B g A len cap gx s v n w2 :=
  ⟨h.1.draw c k, h.2.1, box_far h.2.2.1 k (fun e => by cases e; have := h.1.2.2.1; have := h.2.1; omega), h.2.2.2⟩
theorem SbV.drew {w w1 : World} {B g : Nat} {A : Option Addr} {len cap gx : Nat} {s : Sl} {v : Value} {n : Nat} (h : SbV w B g A len cap gx s v n w1) : SbV w B g A len cap gx s v n w1.drew :=
  h.draw (h.1.2.1.grown_far (grown_drewN w1 1 none) (by simp) (fun _ e => by cases e)) ⟨rfl, rfl, rfl, Nat.le_refl _, fun _ _ _ => rfl⟩
theorem SbV.alloc {w w1 : World} {B g : Nat} {A : Option Addr} {len cap gx : Nat} {s : Sl} {v : Value} {n : Nat} (h : SbV w B g A len cap gx s v n w1) (o : Obj) : SbV w B g A len cap gx s v n (w1.alloc o) := h.draw (h.1.2.1.alloc o) (World.grownBy_alloc w1 o _)
theorem SbV.new {w w1 : World} {B g : Nat} {A : Option Addr} {len cap : Nat} {v : Value} {n : Nat} {s : Sl} (h : SaV w B g A len cap v n w1) (hs : SlWd s) : SbV w B g A len cap w1.heap.size s v n (w1.alloc (.cells #[.string s.nm, .float .f32 s.lo, .float .f32 s.hi, .int .i64 s.fr, .int .i64 s.to] 40)) :=
  ⟨h.alloc _, block_lt h.2.2.2.1, heap_alloc_new w1 _, hs, fun e => by have := (h.2.2.2.2.lt e).2; omega⟩
theorem SbV.put {w w1 : World} {B g : Nat} {A : Option Addr} {len cap gx c : Nat} {s s' : Sl} {x : Value} {v : Value} {n : Nat} (h : SbV w B g A len cap gx s v n w1) (e : (#[.string s.nm, .float .f32 s.lo, .float .f32 s.hi, .int .i64 s.fr, .int .i64 s.to] : Array Value).setIfInBounds c x = #[.string s'.nm, .float .f32 s'.lo, .float .f32 s'.hi, .int .i64 s'.fr, .int .i64 s'.to]) (hs : SlWd s') : SbV w B g A len cap gx s' v n (w1.setCell ⟨gx, c, none⟩ x) := by
  obtain ⟨⟨h1, h2, h3, h4, h5⟩, h6, h7, h8, h9⟩ := h
  have k := grown_set w1 gx c x
  have hB := h2.1
  refine ⟨⟨gr_new h1 k fun j q => .inr (by cases q; omega), h2.grown_far k (fun q => by cases q; omega) (fun j q => by cases q; omega), h3, box_far h4 k (fun q => by cases q; omega), h5.kept k (fun j q => by cases q; exact h9)⟩, h6, ?_, hs, h9⟩
  rw [← e]; exact heap_set_self h7 x
theorem SbV.five {w w1 : World} {B g : Nat} {A : Option Addr} {len cap gx : Nat} {s s' : Sl} {v : Value} {n : Nat} (h : SbV w B g A len cap gx s v n w1) (hs : SlWd s') :
    SbV w B g A len cap gx s' v n (((((w1.setCell ⟨gx, 0, none⟩ (.string s'.nm)).setCell ⟨gx, 1, none⟩ (.float .f32 s'.lo)).setCell ⟨gx, 2, none⟩ (.float .f32 s'.hi)).setCell ⟨gx, 3, none⟩ (.int .i64 s'.fr)).setCell ⟨gx, 4, none⟩ (.int .i64 s'.to)) :=
  have h8 := h.2.2.2.1
  ((((h.put (c := 0) (x := .string s'.nm) (s' := ⟨s'.nm, s.lo, s.hi, s.fr, s.to⟩) rfl ⟨hs.1, h8.2.1, h8.2.2.1, h8.2.2.2.1, h8.2.2.2.2⟩).put (c := 1) (x := .float .f32 s'.lo) (s' := ⟨s'.nm, s'.lo, s.hi, s.fr, s.to⟩) rfl ⟨hs.1, hs.2.1, h8.2.2.1, h8.2.2.2.1, h8.2.2.2.2⟩).put (c := 2) (x := .float .f32 s'.hi) (s' := ⟨s'.nm, s'.lo, s'.hi, s.fr, s.to⟩) rfl ⟨hs.1, hs.2.1, hs.2.2.1, h8.2.2.2.1, h8.2.2.2.2⟩).put (c := 3) (x := .int .i64 s'.fr) (s' := ⟨s'.nm, s'.lo, s'.hi, s'.fr, s.to⟩) rfl ⟨hs.1, hs.2.1, hs.2.2.1, hs.2.2.2.1, h8.2.2.2.2⟩).put (c := 4) (x := .int .i64 s'.to) (s' := s') rfl hs
/-- Five stores into a box, as facts. -/
theorem st5r {P : Program} {w : World} {g : Nat} {x0 x1 x2 x3 x4 : Value} {t : TypeId} (h : w.heap[g]? = some (.cells #[x0, x1, x2, x3, x4] t (0, 0))) (a : ByteArray) (b c : Nat) (d e : Int) :
    (store ⟨g, 0, none⟩ (.string a)).run P w = .ok () (w.setCell ⟨g, 0, none⟩ (.string a)) ∧
    (store ⟨g, 1, none⟩ (.float .f32 b)).run P (w.setCell ⟨g, 0, none⟩ (.string a)) = .ok () ((w.setCell ⟨g, 0, none⟩ (.string a)).setCell ⟨g, 1, none⟩ (.float .f32 b)) ∧
    (store ⟨g, 2, none⟩ (.float .f32 c)).run P ((w.setCell ⟨g, 0, none⟩ (.string a)).setCell ⟨g, 1, none⟩ (.float .f32 b)) = .ok () (((w.setCell ⟨g, 0, none⟩ (.string a)).setCell ⟨g, 1, none⟩ (.float .f32 b)).setCell ⟨g, 2, none⟩ (.float .f32 c)) ∧
    (((w.setCell ⟨g, 0, none⟩ (.string a)).setCell ⟨g, 1, none⟩ (.float .f32 b)).setCell ⟨g, 2, none⟩ (.float .f32 c)).cell? ⟨g, 3, none⟩ = some x3 ∧
    (((w.setCell ⟨g, 0, none⟩ (.string a)).setCell ⟨g, 1, none⟩ (.float .f32 b)).setCell ⟨g, 2, none⟩ (.float .f32 c)).frozen? ⟨g, 3, none⟩ = false ∧
    ((((w.setCell ⟨g, 0, none⟩ (.string a)).setCell ⟨g, 1, none⟩ (.float .f32 b)).setCell ⟨g, 2, none⟩ (.float .f32 c)).setCell ⟨g, 3, none⟩ (.int .i64 d)).cell? ⟨g, 4, none⟩ = some x4 ∧
    ((((w.setCell ⟨g, 0, none⟩ (.string a)).setCell ⟨g, 1, none⟩ (.float .f32 b)).setCell ⟨g, 2, none⟩ (.float .f32 c)).setCell ⟨g, 3, none⟩ (.int .i64 d)).frozen? ⟨g, 4, none⟩ = false := by
  have h0 := heap_set_self (k := 0) h (.string a)
  have h1 := heap_set_self (k := 1) h0 (.float .f32 b)
  have h2 := heap_set_self (k := 2) h1 (.float .f32 c)
  have h3 := heap_set_self (k := 3) h2 (.int .i64 d)
  exact ⟨store_at h (n := 5) rfl (by omega) _ rfl, store_at h0 (n := 5) rfl (by omega) _ rfl, store_at h1 (n := 5) rfl (by omega) _ rfl, cell_of_row _ g 3 _ _ _ h2, by simp [World.frozen?, h2], cell_of_row _ g 4 _ _ _ h3, by simp [World.frozen?, h3]⟩
theorem Try.info11Sv : (Try.prog.info? 40).map (fun i => (i.zero, i.size, i.bytes)) = some (some (.agg #[.string ⟨#[]⟩, .float .f32 0, .float .f32 0, .int .i64 0, .int .i64 0]), 5, 40) := by kernel_rfl
set_option maxHeartbeats 1000000 in
/-- A pick out of a slice of strings in a block of its own. -/
theorem d_pick11 (w : World) (B g len cap b n m : Nat) (A : Option Addr) (t : TypeId) (xs : List ByteArray) (hc : Cur w B g A len cap) (hn : n = xs.length) (h0 : 0 < n) (h1 : n < 1000) (hbg : b ≠ g)
    (hx : ∀ x ∈ xs, x.size ≤ 1000) (hb : w.heap[b]? = some (.cells (xs.map Value.string).toArray t (0, 0))) :
    Calls Try.prog 74 #[.pointer (some ⟨g, 0, none⟩), .slice (some ⟨b, 0, none⟩) n m] w fun e w' => ∃ s : ByteArray, s.size ≤ 1000 ∧ e = .returned (.string s) ∧ Cur w' B g A len cap ∧ w.grownBy w' (some g) := by
  have HB := Lib.hid hb
  clear hb
  go_enter Try.func74, Try.ntmps74
  go_wp2_with fail
  refine (d_below _ _ B g len cap A hc (by omega)).mono ?_
  rintro e w1 ⟨x, x0, x1, x2, rfl, cur1, gr1⟩
  obtain ⟨k, rfl⟩ : ∃ k : Nat, x = k := ⟨x.toNat, by omega⟩
  have hk : k < n := by have := x1 (by omega); omega
  have hcell : w1.cell? ⟨b, k, none⟩ = some (.string (xs.getD k ⟨#[]⟩)) := by
    rw [cell_of_row w1 b k _ _ _ ((gr1.block b (block_lt HB.out) (by simpa using hbg)).trans HB.out)]
    simp [List.getD, List.getElem?_eq_getElem (show k < xs.length by omega)]
  have hmem : xs.getD k ⟨#[]⟩ ∈ xs := by
    rw [List.getD, List.getElem?_eq_getElem (show k < xs.length by omega)]; exact List.getElem_mem _
  have r0 := hx _ hmem
  generalize xs.getD k ⟨#[]⟩ = v at *
  clear x1 x2 hx hmem HB
  have k0 : (0 : Int) ≤ (k : Int) := by omega
  have k1 : (k : Int) < (n : Int) := by omega
  go_wp2
  go_ret
  exact ⟨v, r0, rfl, cur1, gr1⟩
end Go.Proofs.Ytlliiecdadiagaa

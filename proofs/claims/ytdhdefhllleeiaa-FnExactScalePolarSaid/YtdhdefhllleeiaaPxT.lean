/- The laws' own copies: toFloat32S, toIntS, toFloat32SS, toPolar. -/
import Derived.Test.YtdhdefhllleeiaaPxS
import Derived.Test.YtdhdefhllleeiaaPoU
import Derived.Test.YtdhdefhllleeiaaPxE
import Derived.Deep.OwnRows
namespace Go.Proofs.Ytdhdefhllleeiaa
open Go.RowKit Ieee
set_option linter.unusedSimpArgs false
set_option linter.unusedVariables false

theorem Try.infoF : (Try.prog.info? 31).map (fun i => (i.zero, i.size, i.bytes)) = some (some (.float .f32 0), 1, 4) := by kernel_rfl
theorem Try.infoI : (Try.prog.info? 3).map (fun i => (i.zero, i.size, i.bytes)) = some (some (.int .i64 0), 1, 8) := by kernel_rfl
theorem Try.infoFS : (Try.prog.info? 24).map (fun i => (i.zero, i.size, i.bytes)) = some (some (.slice none 0 0), 1, 24) := by kernel_rfl
theorem Try.infoP : (Try.prog.info? 28).map (·.size) = some 3 := by kernel_rfl
/-- A row of the call's own: a block that holds it, and nothing else. -/
def OwnRow (w : World) (g n : Nat) (t : TypeId) (V : Nat → Value) : Prop := ∃ cs, w.heap[g]? = some (.cells cs t (0, 0)) ∧ cs.size = n ∧ ∀ j, j < n → cs[j]? = some (V j)
theorem OwnRow.row {w : World} {g n : Nat} {t : TypeId} {V : Nat → Value} (h : OwnRow w g n t V) : Row w (some ⟨g, 0, none⟩) n V := fun _ => by
  obtain ⟨cs, hb, hs, hc⟩ := h
  refine ⟨g, 0, rfl, fun j hj => ?_⟩
  rw [cell_of_row w g (0 + j) _ _ _ hb, Nat.zero_add]; exact hc j hj
theorem OwnRow.lt {w : World} {g n : Nat} {t : TypeId} {V : Nat → Value} (h : OwnRow w g n t V) : g < w.heap.size := by
  obtain ⟨cs, hb, _⟩ := h
  rcases Nat.lt_or_ge g w.heap.size with h' | h'
  · exact h'
  · rw [Array.getElem?_eq_none h'] at hb; cases hb
theorem OwnRow.block {w w' : World} {g n : Nat} {t : TypeId} {V : Nat → Value} (h : OwnRow w g n t V) (e : w'.heap[g]? = w.heap[g]?) : OwnRow w' g n t V := by
  obtain ⟨cs, hb, hs, hc⟩ := h
  exact ⟨cs, e.trans hb, hs, hc⟩
theorem OwnRow.below {w w' : World} {g n : Nat} {t : TypeId} {V : Nat → Value} (h : OwnRow w g n t V) (b : Below w.heap.size w w') : OwnRow w' g n t V := h.block (b.block g h.lt)
theorem heap_set_self {w : World} {g k : Nat} {cs : Array Value} {t : TypeId} (h : w.heap[g]? = some (.cells cs t (0, 0))) (v : Value) : (w.setCell ⟨g, k, none⟩ v).heap[g]? = some (.cells (cs.setIfInBounds k v) t (0, 0)) := by
  simp [World.setCell, Array.getElem?_modify, h]
theorem heap_set_size (w : World) (a : Addr) (v : Value) : (w.setCell a v).heap.size = w.heap.size := by simp [World.setCell]
theorem set_get {cs : Array Value} {k n : Nat} {V : Nat → Value} (hs : cs.size = n) (h : ∀ j, j < k → cs[j]? = some (V j)) (hk : k < n) : (cs.setIfInBounds k (V k)).size = n ∧ ∀ j, j < k + 1 → (cs.setIfInBounds k (V k))[j]? = some (V j) := by
  refine ⟨by simpa using hs, fun j hj => ?_⟩
  rw [Array.getElem?_setIfInBounds]
  by_cases e : k = j
  · subst e; simp [hs, hk]
  · rw [if_neg e]; exact h j (by omega)
theorem made_size (z : Value) (n : Nat) : (madeCells #[z] n).size = n := by simp [madeCells]
theorem store_at {P : Program} {w : World} {g k n : Nat} {cs : Array Value} {t : TypeId} (hb : w.heap[g]? = some (.cells cs t (0, 0))) (hs : cs.size = n) (hk : k < n) (v : Value) (hv : v.oneCell' = true) : (store ⟨g, k, none⟩ v).run P w = .ok () (w.setCell ⟨g, k, none⟩ v) := by
  have hc : w.cell? ⟨g, k, none⟩ = some cs[k] := by
    rw [cell_of_row w _ k _ _ _ hb]; exact Array.getElem?_eq_getElem (by omega)
  have hf : w.frozen? ⟨g, k, none⟩ = false := by simp [World.frozen?, hb]
  rw [run_store _ _ _ _ _ hv, hc]; simp [hf]

theorem cell_at {w : World} {g k n : Nat} {cs : Array Value} {t : TypeId} (hb : w.heap[g]? = some (.cells cs t (0, 0))) (hs : cs.size = n) (hk : k < n) : ∃ v, w.cell? ⟨g, k, none⟩ = some v ∧ w.frozen? ⟨g, k, none⟩ = false :=
  ⟨cs[k], by rw [cell_of_row w _ k _ _ _ hb]; exact Array.getElem?_eq_getElem (by omega), by simp [World.frozen?, hb]⟩
set_option maxRecDepth 100000 in
set_option maxHeartbeats 1000000 in
theorem l_toF (f : Nat → Nat) (A : Option Addr) (n cap : Nat) (w : World) (h : RowF w A n f) :
    Calls Try.prog 63 #[.slice A n cap] w fun e w' => e = .returned (.slice (some ⟨w.heap.size, 0, none⟩) n n) ∧ OwnRow w' w.heap.size n 31 (fun j => fv (f j)) ∧ w'.heap.size = w.heap.size + 1 ∧ Below w.heap.size w w' := by
  have hn := h.2.1
  have HR := Lib.hid h.1
  clear h
  have hmk := run_make_row' (P := Try.prog) 24 31 (.float .f32 0) 4 Try.underlying24 Try.infoF rfl .i64 .i64 n (by omega) (by omega)
  go_enter Try.func63, Try.ntmps63
  go_wp2
  clear hmk
  go_loopw [4] (fun i wr => ∃ (k : Nat) (cs : Array Value), k ≤ n ∧ i = .int .i64 k ∧ wr.heap[w.heap.size]? = some (.cells cs 31 (0, 0)) ∧ cs.size = n ∧ (∀ j, j < k → cs[j]? = some (fv (f j))) ∧ wr.heap.size = w.heap.size + 1 ∧ Below w.heap.size w wr) (fun i _ => n - (intOf i).toNat)
  case atStart => exact ⟨0, _, Nat.zero_le _, rfl, heap_alloc_new w _, made_size _ _, fun j h => by omega, by simp, (Below.refl _ w).alloc (Nat.le_refl _) _⟩
  case round =>
    obtain ⟨k, cs, hk, rfl, hb, hcs, hall, hsz, hbel⟩ := hrel
    by_cases hlt : k < n
    · obtain ⟨g, o, rfl, hc⟩ := HR.out (by omega)
      have c0 := hc k hlt
      have ck := (hbel.cell (p := ⟨g, o + k, none⟩) (World.block_lt_of_cell? w _ c0)).trans c0
      have hst := store_at (P := Try.prog) hb hcs hlt (fv (f k)) rfl
      obtain ⟨s1, s2⟩ := set_get (V := fun j => fv (f j)) hcs hall hlt
      have HN := Lib.hid (And.intro (heap_set_self (k := k) hb (fv (f k))) (And.intro s1 (And.intro s2 (And.intro ((heap_set_size wr ⟨w.heap.size, k, none⟩ (fv (f k))).trans hsz) (hbel.setCell (p := ⟨w.heap.size, k, none⟩) (Nat.le_refl _) (fv (f k)))))))
      have hk1 : (k : Int) < (n : Int) := by omega
      unfold fv at ck hst
      dsimp only at ck
      clear hc c0 hb hcs hall hsz hbel s1 s2
      go_wp2
      go_roundw
      case rel => exact ⟨k + 1, _, by omega, by go_num, HN.out⟩
      case measure => simp [intOf]; omega
    · obtain rfl : k = n := by omega
      have hk1 : ¬ ((k : Int) < (k : Int)) := by omega
      have HN := Lib.hid (show OwnRow wr w.heap.size k 31 (fun j => fv (f j)) from ⟨cs, hb, hcs, hall⟩)
      clear hb hcs hall
      go_wp2
      go_ret
      exact ⟨rfl, HN.out, hsz, hbel⟩
set_option maxRecDepth 100000 in
set_option maxHeartbeats 1000000 in
theorem l_toI (f : Nat → Int) (A : Option Addr) (n cap : Nat) (w : World) (h : RowI w A n f) :
    Calls Try.prog 64 #[.slice A n cap] w fun e w' => e = .returned (.slice (some ⟨w.heap.size, 0, none⟩) n n) ∧ OwnRow w' w.heap.size n 3 (fun j => iv (f j)) ∧ w'.heap.size = w.heap.size + 1 ∧ Below w.heap.size w w' := by
  have hn := h.2.1
  have HR := Lib.hid h.1
  clear h
  have hmk := run_make_row' (P := Try.prog) 25 3 (.int .i64 0) 8 Try.underlying25 Try.infoI rfl .i64 .i64 n (by omega) (by omega)
  go_enter Try.func64, Try.ntmps64
  go_wp2
  clear hmk
  go_loopw [4] (fun i wr => ∃ (k : Nat) (cs : Array Value), k ≤ n ∧ i = .int .i64 k ∧ wr.heap[w.heap.size]? = some (.cells cs 3 (0, 0)) ∧ cs.size = n ∧ (∀ j, j < k → cs[j]? = some (iv (f j))) ∧ wr.heap.size = w.heap.size + 1 ∧ Below w.heap.size w wr) (fun i _ => n - (intOf i).toNat)
  case atStart => exact ⟨0, _, Nat.zero_le _, rfl, heap_alloc_new w _, made_size _ _, fun j h => by omega, by simp, (Below.refl _ w).alloc (Nat.le_refl _) _⟩
  case round =>
    obtain ⟨k, cs, hk, rfl, hb, hcs, hall, hsz, hbel⟩ := hrel
    by_cases hlt : k < n
    · obtain ⟨g, o, rfl, hc⟩ := HR.out (by omega)
      have c0 := hc k hlt
      have ck := (hbel.cell (p := ⟨g, o + k, none⟩) (World.block_lt_of_cell? w _ c0)).trans c0
      obtain ⟨old, hco, hfo⟩ := cell_at hb hcs hlt
      obtain ⟨s1, s2⟩ := set_get (V := fun j => iv (f j)) hcs hall hlt
      have HN := Lib.hid (And.intro (heap_set_self (k := k) hb (iv (f k))) (And.intro s1 (And.intro s2 (And.intro ((heap_set_size wr ⟨w.heap.size, k, none⟩ (iv (f k))).trans hsz) (hbel.setCell (p := ⟨w.heap.size, k, none⟩) (Nat.le_refl _) (iv (f k)))))))
      have hk1 : (k : Int) < (n : Int) := by omega
      unfold iv at ck
      dsimp only at ck
      clear hc c0 hb hcs hall hsz hbel s1 s2
      go_wp2
      go_roundw
      case rel => exact ⟨k + 1, _, by omega, by go_num, HN.out⟩
      case measure => simp [intOf]; omega
    · obtain rfl : k = n := by omega
      have hk1 : ¬ ((k : Int) < (k : Int)) := by omega
      have HN := Lib.hid (show OwnRow wr w.heap.size k 3 (fun j => iv (f j)) from ⟨cs, hb, hcs, hall⟩)
      clear hb hcs hall
      go_wp2
      go_ret
      exact ⟨rfl, HN.out, hsz, hbel⟩
set_option maxRecDepth 100000 in
set_option maxHeartbeats 1000000 in
theorem l_toFF (n : Nat) (A : Option Addr) (cap : Nat) (R : Nat → Option Addr) (rn rc : Nat → Nat) (sp : Nat → Nat → Nat) (w : World) (hn : n ≤ 1048576)
    (hr : Row w A n (fun i => .slice (R i) (rn i) (rc i))) (hrr : ∀ i, i < n → RowF w (R i) (rn i) (sp i)) :
    Calls Try.prog 65 #[.slice A n cap] w fun e w' => e = .returned (.slice (some ⟨w.heap.size, 0, none⟩) n n) ∧ OwnRow w' w.heap.size n 24 (fun i => .slice (some ⟨w.heap.size + 1 + i, 0, none⟩) (rn i) (rn i)) ∧
      (∀ i, i < n → OwnRow w' (w.heap.size + 1 + i) (rn i) 31 (fun j => fv (sp i j))) ∧ w'.heap.size = w.heap.size + 1 + n ∧ Below w.heap.size w w' := by
  have HR := Lib.hid (And.intro hr hrr)
  clear hr hrr
  have hmk := run_make_row' (P := Try.prog) 26 24 (.slice none 0 0) 24 Try.underlying26 Try.infoFS rfl .i64 .i64 n (by omega) (by omega)
  go_enter Try.func65, Try.ntmps65
  go_wp2
  clear hmk
  go_loopw [4] (fun i wr => ∃ (k : Nat) (cs : Array Value), k ≤ n ∧ i = .int .i64 k ∧ wr.heap[w.heap.size]? = some (.cells cs 24 (0, 0)) ∧ cs.size = n ∧ (∀ j, j < k → cs[j]? = some (.slice (some ⟨w.heap.size + 1 + j, 0, none⟩) (rn j) (rn j))) ∧
      (∀ i, i < k → OwnRow wr (w.heap.size + 1 + i) (rn i) 31 (fun j => fv (sp i j))) ∧ wr.heap.size = w.heap.size + 1 + k ∧ Below w.heap.size w wr) (fun i _ => n - (intOf i).toNat)
  case atStart => exact ⟨0, _, Nat.zero_le _, rfl, heap_alloc_new w _, made_size _ _, fun j h => by omega, fun j h => by omega, by simp, (Below.refl _ w).alloc (Nat.le_refl _) _⟩
  case round =>
    obtain ⟨k, cs, hk, rfl, hb, hcs, hall, hrows, hsz, hbel⟩ := hrel
    by_cases hlt : k < n
    · obtain ⟨g, o, rfl, hc⟩ := HR.out.1 (by omega)
      have c0 := hc k hlt
      have ck := (hbel.cell (p := ⟨g, o + k, none⟩) (World.block_lt_of_cell? w _ c0)).trans c0
      have hcall := l_toF (sp k) (R k) (rn k) (rc k) wr ((HR.out.2 k hlt).keeps (Below.keeps hbel))
      have hk1 : (k : Int) < (n : Int) := by omega
      have HH := Lib.hid (And.intro hb (And.intro hcs (And.intro hall (And.intro hrows (And.intro hsz hbel)))))
      dsimp only at ck
      clear hc c0 hb hcs hall hrows hsz hbel
      go_wp2_with fail
      with_reducible refine hcall.mono ?_
      rintro e w3 ⟨rfl, ho, hs3, b3⟩
      obtain ⟨hb, hcs, hall, hrows, hsz, hbel⟩ := HH.out
      rw [hsz] at ho hs3
      have hb3 : w3.heap[w.heap.size]? = some (.cells cs 24 (0, 0)) := (b3.block _ (by omega)).trans hb
      have hst := store_at (P := Try.prog) hb3 hcs hlt (.slice (some ⟨w.heap.size + 1 + k, 0, none⟩) (rn k) (rn k)) rfl
      obtain ⟨old, hco, hfo⟩ := cell_at hb3 hcs hlt
      obtain ⟨s1, s2⟩ := set_get (V := fun j => .slice (some ⟨w.heap.size + 1 + j, 0, none⟩) (rn j) (rn j)) hcs hall hlt
      have hr2 : ∀ i, i < k + 1 → OwnRow (w3.setCell ⟨w.heap.size, k, none⟩ (.slice (some ⟨w.heap.size + 1 + k, 0, none⟩) (rn k) (rn k))) (w.heap.size + 1 + i) (rn i) 31 (fun j => fv (sp i j)) := fun i hi => by
        have h3 : OwnRow w3 (w.heap.size + 1 + i) (rn i) 31 (fun j => fv (sp i j)) := by
          rcases Nat.lt_or_ge i k with h | h
          · exact (hrows i h).below b3
          · rw [show i = k by omega]; exact ho
        exact h3.block (Below.heap_setCell _ _ _ _ (by simp; omega))
      have HN := Lib.hid (And.intro (heap_set_self (k := k) hb3 (.slice (some ⟨w.heap.size + 1 + k, 0, none⟩) (rn k) (rn k))) (And.intro s1 (And.intro s2 (And.intro hr2 (And.intro ((heap_set_size w3 ⟨w.heap.size, k, none⟩ (.slice (some ⟨w.heap.size + 1 + k, 0, none⟩) (rn k) (rn k))).trans hs3)
        ((hbel.trans (b3.mono hbel.size)).setCell (p := ⟨w.heap.size, k, none⟩) (Nat.le_refl _) (.slice (some ⟨w.heap.size + 1 + k, 0, none⟩) (rn k) (rn k))))))))
      rw [hsz]
      clear hcall ho hs3 b3 hb hcs hall hrows hsz hbel hb3 s1 s2 hr2
      go_wp2
      go_roundw
      case rel => exact ⟨k + 1, _, by omega, by go_num, HN.out⟩
      case measure => simp [intOf]; omega
    · obtain rfl : k = n := by omega
      have hk1 : ¬ ((k : Int) < (k : Int)) := by omega
      have HN := Lib.hid (And.intro (show OwnRow wr w.heap.size k 24 (fun i => .slice (some ⟨w.heap.size + 1 + i, 0, none⟩) (rn i) (rn i)) from ⟨cs, hb, hcs, hall⟩) (And.intro hrows (And.intro hsz hbel)))
      clear hb hcs hall hrows hsz hbel
      go_wp2
      go_ret
      exact ⟨rfl, HN.out⟩
/-- A copy of a polar, from block b on. -/
def copyAt (b : Nat) (Q : Pol) : Pol := ⟨some ⟨b, 0, none⟩, Q.nw, Q.nw, Q.ws, some ⟨b + 1, 0, none⟩, Q.na, Q.na, Q.av, some ⟨b + 2, 0, none⟩, Q.ns, Q.ns, fun i => some ⟨b + 3 + i, 0, none⟩, Q.rn, Q.rn, Q.sp⟩
/-- .. in memory of its own. -/
def Made (w : World) (b : Nat) (Q : Pol) : Prop :=
  OwnRow w b Q.nw 31 (fun j => fv (Q.ws j)) ∧ OwnRow w (b + 1) Q.na 3 (fun j => iv (Q.av j)) ∧ OwnRow w (b + 2) Q.ns 24 (fun i => .slice (some ⟨b + 3 + i, 0, none⟩) (Q.rn i) (Q.rn i)) ∧
    ∀ i, i < Q.ns → OwnRow w (b + 3 + i) (Q.rn i) 31 (fun j => fv (Q.sp i j))
theorem Made.polIn {w w0 : World} {b : Nat} {Q : Pol} (h : Made w b Q) (hQ : PolIn w0 Q) : PolIn w (copyAt b Q) :=
  ⟨⟨h.1.row, hQ.1.2⟩, ⟨h.2.1.row, hQ.2.1.2⟩, ⟨h.2.2.1.row, hQ.2.2.1.2⟩, fun i hi => ⟨(h.2.2.2 i hi).row, (hQ.2.2.2 i hi).2⟩⟩
theorem Made.below {w w' : World} {b : Nat} {Q : Pol} (h : Made w b Q) (k : Below w.heap.size w w') : Made w' b Q :=
  ⟨h.1.below k, h.2.1.below k, h.2.2.1.below k, fun i hi => (h.2.2.2 i hi).below k⟩
theorem copy_ok (b : Nat) (Q : Pol) : PolOk (copyAt b Q) ↔ PolOk Q := Iff.rfl
theorem copy_spd (b : Nat) (Q : Pol) (x : Nat) (a : Int) : spd (copyAt b Q) x a = spd Q x a := rfl
theorem copy_ask (b : Nat) (Q : Pol) (x : Nat) (a : Int) : AskOk (copyAt b Q) x a ↔ AskOk Q x a := Iff.rfl
theorem copy_made (b : Nat) (Q : Pol) (x : Nat) (a : Nat) : madeW (copyAt b Q) x a = madeW Q x a := rfl
theorem copy_same (b c : Nat) (Q : Pol) : Same4 (copyAt b Q) (copyAt c Q) := ⟨rfl, rfl, rfl, rfl, rfl, rfl, rfl⟩
/-- How far the copy has come. -/
def ToSt (w w' : World) (Q : Pol) (v0 v1 v2 : Value) : Prop :=
  LawBox w Q w' ∧ w'.heap[w.heap.size + 1]? = some (.cells #[.slice none 0 0, .slice none 0 0, .slice none 0 0] 28 (0, 0)) ∧ w'.heap[w.heap.size + 2]? = some (.cells #[v0, v1, v2] 28 (0, 0))
theorem ToSt.step {w w1 w2 : World} {Q : Pol} {v0 v1 v2 : Value} (h : ToSt w w1 Q v0 v1 v2) (b : Below w1.heap.size w1 w2) : ToSt w w2 Q v0 v1 v2 := by
  have hlt : w.heap.size + 2 < w1.heap.size := by
    rcases Nat.lt_or_ge (w.heap.size + 2) w1.heap.size with h' | h'
    · exact h'
    · have := h.2.2; rw [Array.getElem?_eq_none h'] at this; cases this
  exact ⟨h.1.step b, (b.block _ (by omega)).trans h.2.1, (b.block _ hlt).trans h.2.2⟩
theorem ToSt.set {w w1 : World} {Q : Pol} {v0 v1 v2 : Value} (h : ToSt w w1 Q v0 v1 v2) (k : Nat) (u : Value) {u0 u1 u2 : Value} (e : (#[v0, v1, v2] : Array Value).setIfInBounds k u = #[u0, u1, u2]) : ToSt w (w1.setCell ⟨w.heap.size + 2, k, none⟩ u) Q u0 u1 u2 :=
  ⟨⟨(Below.heap_setCell _ _ _ _ (by simp)).trans h.1.1, h.1.2.setCell (by simp) _⟩, (Below.heap_setCell _ _ _ _ (by simp)).trans h.2.1, by rw [heap_set_self h.2.2, e]⟩
theorem ToSt.new (w : World) (Q : Pol) : ToSt w (((w.alloc (.cells #[.slice Q.W Q.nw Q.cw, .slice Q.A Q.na Q.ca, .slice Q.S Q.ns Q.cs] 43)).alloc (.cells #[.slice none 0 0, .slice none 0 0, .slice none 0 0] 28)).alloc (.cells #[.slice none 0 0, .slice none 0 0, .slice none 0 0] 28)) Q (.slice none 0 0) (.slice none 0 0) (.slice none 0 0) := by
  have s1 : (w.alloc (.cells #[.slice Q.W Q.nw Q.cw, .slice Q.A Q.na Q.ca, .slice Q.S Q.ns Q.cs] 43)).heap.size = w.heap.size + 1 := by simp
  have s2 : ((w.alloc (.cells #[.slice Q.W Q.nw Q.cw, .slice Q.A Q.na Q.ca, .slice Q.S Q.ns Q.cs] 43)).alloc (.cells #[.slice none 0 0, .slice none 0 0, .slice none 0 0] 28)).heap.size = w.heap.size + 2 := by simp
  refine ⟨((LawBox.new w Q).step ((Below.refl _ _).alloc (Nat.le_refl _) _)).step ((Below.refl _ _).alloc (Nat.le_refl _) _), ?_, ?_⟩
  · rw [Below.heap_alloc _ _ _ (by omega), ← s1]; exact heap_alloc_new _ _
  · rw [← s2]; exact heap_alloc_new _ _
set_option maxRecDepth 100000 in
set_option maxHeartbeats 1000000 in
theorem l_toP (Q : Pol) (w : World) (h : PolIn w Q) :
    Calls Try.prog 27 #[.agg #[.slice Q.W Q.nw Q.cw, .slice Q.A Q.na Q.ca, .slice Q.S Q.ns Q.cs]] w fun e w' => ∃ b, w.heap.size ≤ b ∧ e = .returned (.agg #[.slice (some ⟨b, 0, none⟩) Q.nw Q.nw, .slice (some ⟨b + 1, 0, none⟩) Q.na Q.na, .slice (some ⟨b + 2, 0, none⟩) Q.ns Q.ns]) ∧ Made w' b Q ∧ Below w.heap.size w w' := by
  have HI1 := Lib.hid h.1
  have HI2 := Lib.hid h.2.1
  have HI3 := Lib.hid h.2.2.1
  have HI4 := Lib.hid h.2.2.2
  clear h
  have HT := Lib.hid (ToSt.new w Q)
  have hs3 : (((w.alloc (.cells #[.slice Q.W Q.nw Q.cw, .slice Q.A Q.na Q.ca, .slice Q.S Q.ns Q.cs] 43)).alloc (.cells #[.slice none 0 0, .slice none 0 0, .slice none 0 0] 28)).alloc (.cells #[.slice none 0 0, .slice none 0 0, .slice none 0 0] 28)).heap.size = w.heap.size + 3 := by simp
  have HS3 := Lib.hid hs3
  clear hs3
  go_enter Try.func27, Try.ntmps27
  go_wp2_with fail
  rw [show w.heap.size + 1 + 1 = w.heap.size + 2 from rfl]
  have k3 := HT.out.1.keeps
  with_reducible refine (l_toF Q.ws Q.W Q.nw Q.cw _ (HI1.out.keeps k3)).mono ?_
  rintro e w4 ⟨rfl, own4, sz4, b4⟩
  rw [HS3.out] at own4 sz4
  rw [HS3.out]
  have t4 := HT.out.step b4
  obtain ⟨o0, hc0, hf0⟩ := cell_at t4.2.2 (k := 0) rfl (by simp)
  have T5 := Lib.hid (t4.set 0 (.slice (some ⟨w.heap.size + 3, 0, none⟩) Q.nw Q.nw) (u0 := .slice (some ⟨w.heap.size + 3, 0, none⟩) Q.nw Q.nw) (u1 := .slice none 0 0) (u2 := .slice none 0 0) rfl)
  have O5 := Lib.hid (own4.block (w' := w4.setCell ⟨w.heap.size + 2, 0, none⟩ (.slice (some ⟨w.heap.size + 3, 0, none⟩) Q.nw Q.nw)) (Below.heap_setCell _ _ _ _ (by simp)))
  have S5 := Lib.hid ((heap_set_size w4 ⟨w.heap.size + 2, 0, none⟩ (.slice (some ⟨w.heap.size + 3, 0, none⟩) Q.nw Q.nw)).trans sz4)
  have c1 := T5.out.1.c1
  clear b4 t4 own4 sz4 HS3 HT k3
  go_wp2_with fail
  generalize hw5 : w4.setCell ⟨w.heap.size + 2, 0, none⟩ (.slice (some ⟨w.heap.size + 3, 0, none⟩) Q.nw Q.nw) = w5 at *
  clear hc0 hf0 c1 hw5
  have k5 := T5.out.1.keeps
  with_reducible refine (l_toI Q.av Q.A Q.na Q.ca _ (HI2.out.keeps k5)).mono ?_
  rintro e w6 ⟨rfl, own6, sz6, b6⟩
  rw [S5.out] at own6 sz6
  rw [S5.out]
  have t6 := T5.out.step b6
  have o6 := O5.out.below b6
  obtain ⟨o1, hc1, hf1⟩ := cell_at t6.2.2 (k := 1) rfl (by simp)
  have T7 := Lib.hid (t6.set 1 (.slice (some ⟨w.heap.size + 3 + 1, 0, none⟩) Q.na Q.na) (u0 := .slice (some ⟨w.heap.size + 3, 0, none⟩) Q.nw Q.nw) (u1 := .slice (some ⟨w.heap.size + 3 + 1, 0, none⟩) Q.na Q.na) (u2 := .slice none 0 0) rfl)
  have O7 := Lib.hid (And.intro (o6.block (w' := w6.setCell ⟨w.heap.size + 2, 1, none⟩ (.slice (some ⟨w.heap.size + 3 + 1, 0, none⟩) Q.na Q.na)) (Below.heap_setCell _ _ _ _ (by simp))) (own6.block (w' := w6.setCell ⟨w.heap.size + 2, 1, none⟩ (.slice (some ⟨w.heap.size + 3 + 1, 0, none⟩) Q.na Q.na)) (Below.heap_setCell _ _ _ _ (by simp))))
  have S7 := Lib.hid ((heap_set_size w6 ⟨w.heap.size + 2, 1, none⟩ (.slice (some ⟨w.heap.size + 3 + 1, 0, none⟩) Q.na Q.na)).trans sz6)
  have c2 := T7.out.1.c2
  clear b6 t6 o6 own6 sz6 T5 O5 S5 k5
  go_wp2_with fail
  generalize hw7 : w6.setCell ⟨w.heap.size + 2, 1, none⟩ (.slice (some ⟨w.heap.size + 3 + 1, 0, none⟩) Q.na Q.na) = w7 at *
  clear hc1 hf1 c2 hw7
  have k7 := T7.out.1.keeps
  with_reducible refine (l_toFF Q.ns Q.S Q.cs Q.R Q.rn Q.rc Q.sp _ HI3.out.2 (HI3.out.1.keeps k7) (fun i hi => (HI4.out i hi).keeps k7)).mono ?_
  rintro e w8 ⟨rfl, own8, rows8, _, b8⟩
  rw [S7.out] at own8 rows8
  rw [S7.out]
  have t8 := T7.out.step b8
  have o8 := O7.out.1.below b8
  have p8 := O7.out.2.below b8
  obtain ⟨o2, hc2, hf2⟩ := cell_at t8.2.2 (k := 2) rfl (by simp)
  have T9 := Lib.hid (t8.set 2 (.slice (some ⟨w.heap.size + 3 + 1 + 1, 0, none⟩) Q.ns Q.ns) (u0 := .slice (some ⟨w.heap.size + 3, 0, none⟩) Q.nw Q.nw) (u1 := .slice (some ⟨w.heap.size + 3 + 1, 0, none⟩) Q.na Q.na) (u2 := .slice (some ⟨w.heap.size + 3 + 1 + 1, 0, none⟩) Q.ns Q.ns) rfl)
  have hfar : ∀ j, j ≠ w.heap.size + 2 → (w8.setCell ⟨w.heap.size + 2, 2, none⟩ (.slice (some ⟨w.heap.size + 3 + 1 + 1, 0, none⟩) Q.ns Q.ns)).heap[j]? = w8.heap[j]? := fun j hj => Below.heap_setCell _ _ _ _ hj
  have O9 := Lib.hid (show Made (w8.setCell ⟨w.heap.size + 2, 2, none⟩ (.slice (some ⟨w.heap.size + 3 + 1 + 1, 0, none⟩) Q.ns Q.ns)) (w.heap.size + 3) Q from
    ⟨o8.block (hfar _ (by omega)), p8.block (hfar _ (by omega)), own8.block (hfar _ (by omega)), fun i hi => (rows8 i hi).block (hfar _ (by omega))⟩)
  have d0 := cell_of_row _ _ 0 _ _ _ T9.out.2.2
  have d1 := cell_of_row _ _ 1 _ _ _ T9.out.2.2
  have d2 := cell_of_row _ _ 2 _ _ _ T9.out.2.2
  have q0 := T9.out.2.1
  obtain ⟨_, x0, y0⟩ := cell_at q0 (k := 0) rfl (by simp)
  have q1 := heap_set_self (k := 0) q0 (.slice (some ⟨w.heap.size + 3, 0, none⟩) Q.nw Q.nw)
  obtain ⟨_, x1, y1⟩ := cell_at q1 (k := 1) rfl (by simp)
  have q2 := heap_set_self (k := 1) q1 (.slice (some ⟨w.heap.size + 3 + 1, 0, none⟩) Q.na Q.na)
  obtain ⟨_, x2, y2⟩ := cell_at q2 (k := 2) rfl (by simp)
  have q3 := heap_set_self (k := 2) q2 (.slice (some ⟨w.heap.size + 3 + 1 + 1, 0, none⟩) Q.ns Q.ns)
  have hfar2 : ∀ (w0 : World) (k : Nat) (v : Value), Made w0 (w.heap.size + 3) Q → Made (w0.setCell ⟨w.heap.size + 1, k, none⟩ v) (w.heap.size + 3) Q := fun w0 k v h => by
    have hj : ∀ j, j ≠ w.heap.size + 1 → (w0.setCell ⟨w.heap.size + 1, k, none⟩ v).heap[j]? = w0.heap[j]? := fun j hj => Below.heap_setCell _ _ _ _ hj
    exact ⟨h.1.block (hj _ (by omega)), h.2.1.block (hj _ (by omega)), h.2.2.1.block (hj _ (by omega)), fun i hi => (h.2.2.2 i hi).block (hj _ (by omega))⟩
  have HF := Lib.hid (And.intro q3 (And.intro (hfar2 _ 2 (.slice (some ⟨w.heap.size + 3 + 1 + 1, 0, none⟩) Q.ns Q.ns) (hfar2 _ 1 (.slice (some ⟨w.heap.size + 3 + 1, 0, none⟩) Q.na Q.na) (hfar2 _ 0 (.slice (some ⟨w.heap.size + 3, 0, none⟩) Q.nw Q.nw) O9.out)))
    (((T9.out.1.2.setCell (p := ⟨w.heap.size + 1, 0, none⟩) (by simp) (.slice (some ⟨w.heap.size + 3, 0, none⟩) Q.nw Q.nw)).setCell (p := ⟨w.heap.size + 1, 1, none⟩) (by simp) (.slice (some ⟨w.heap.size + 3 + 1, 0, none⟩) Q.na Q.na)).setCell (p := ⟨w.heap.size + 1, 2, none⟩) (by simp) (.slice (some ⟨w.heap.size + 3 + 1 + 1, 0, none⟩) Q.ns Q.ns))))
  clear b8 t8 o8 p8 own8 rows8 T7 O7 S7 k7 hfar q0 q1 q2 q3 hfar2 O9 T9
  go_wp2_with fail
  obtain ⟨q3, mk, bel⟩ := HF.out
  refine bodyPost_ret (v := .agg #[.slice (some ⟨w.heap.size + 3, 0, none⟩) Q.nw Q.nw, .slice (some ⟨w.heap.size + 3 + 1, 0, none⟩) Q.na Q.na, .slice (some ⟨w.heap.size + 3 + 1 + 1, 0, none⟩) Q.ns Q.ns])
    (results_cell_row (p := 2) (ty := 28) (by rfl) _ _ (w.heap.size + 1) _ #[.slice (some ⟨w.heap.size + 3, 0, none⟩) Q.nw Q.nw, .slice (some ⟨w.heap.size + 3 + 1, 0, none⟩) Q.na Q.na, .slice (some ⟨w.heap.size + 3 + 1 + 1, 0, none⟩) Q.ns Q.ns] (0, 0) _ (by rfl) q3 Try.underlying28 rfl Try.infoP) rfl ⟨w.heap.size + 3, by omega, rfl, mk, bel⟩
end Go.Proofs.Ytdhdefhllleeiaa

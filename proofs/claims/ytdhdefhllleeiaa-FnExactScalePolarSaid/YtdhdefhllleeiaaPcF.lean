/- The exact laws' marks: markPolar, heldPolar, over a polar whose lists lie in blocks of their own. -/
import Derived.Test.YtdhdefhllleeiaaPcC
import Derived.Test.YtdhdefhllleeiaaPxE
import Derived.Test.YtdhdefhllleeiaaPoK
namespace Go.Proofs.Ytdhdefhllleeiaa
open Go.RowKit Ieee
set_option linter.unusedSimpArgs false
set_option linter.unusedVariables false

/-- Blocks from lo to hi may have been written, and memory made. -/
def Touch (lo hi : Nat) (w w' : World) : Prop := w'.os = w.os ∧ w'.tape = w.tape ∧ w'.output = w.output ∧ w.heap.size ≤ w'.heap.size ∧ ∀ j, j < w.heap.size → ¬ (lo ≤ j ∧ j < hi) → w'.heap[j]? = w.heap[j]?
theorem Touch.refl (lo hi : Nat) (w : World) : Touch lo hi w w := ⟨rfl, rfl, rfl, Nat.le_refl _, fun _ _ _ => rfl⟩
theorem Touch.trans {lo hi : Nat} {a b c : World} (h : Touch lo hi a b) (k : Touch lo hi b c) : Touch lo hi a c :=
  ⟨k.1.trans h.1, k.2.1.trans h.2.1, k.2.2.1.trans h.2.2.1, Nat.le_trans h.2.2.2.1 k.2.2.2.1, fun j hj hn => (k.2.2.2.2 j (Nat.lt_of_lt_of_le hj h.2.2.2.1) hn).trans (h.2.2.2.2 j hj hn)⟩
theorem Touch.alloc (lo hi : Nat) (w : World) (o : Obj) : Touch lo hi w (w.alloc o) := ⟨rfl, rfl, rfl, by simp, fun j hj _ => Below.heap_alloc w o j hj⟩
theorem Touch.below {lo hi B : Nat} {w0 w w' : World} (h : Touch lo hi w w') (b : Below B w0 w) (hB : B ≤ lo) (hs : B ≤ w0.heap.size) : Below B w0 w' :=
  b.trans ⟨h.1, h.2.1, h.2.2.1, h.2.2.2.1, fun j hj => h.2.2.2.2 j (Nat.lt_of_lt_of_le (Nat.lt_of_lt_of_le hj hs) b.size) (fun e => by omega)⟩
theorem Touch.set {lo hi g k : Nat} {v : Value} {w : World} (h1 : lo ≤ g) (h2 : g < hi) : Touch lo hi w (w.setCell ⟨g, k, none⟩ v) := ⟨rfl, rfl, rfl, by simp [World.setCell], fun j _ hn => Below.heap_setCell _ _ _ _ (fun e => hn ⟨by have : j = g := e; omega, by have : j = g := e; omega⟩)⟩
theorem OwnB.touch {lo hi g n : Nat} {t : TypeId} {V : Nat → Value} {w w' : World} (h : OwnB w g n t V) (k : Touch lo hi w w') (hg : ¬ (lo ≤ g ∧ g < hi)) : OwnB w' g n t V := h.block (k.2.2.2.2 g h.lt hg)
def sumTo (n : Nat → Nat) : Nat → Nat
  | 0 => 0
  | i + 1 => sumTo n i + n i
theorem sumTo_le {n : Nat → Nat} {M k : Nat} (h : ∀ i, i < k → n i ≤ M) : sumTo n k ≤ k * M := by
  induction k with
  | zero => simp [sumTo]
  | succ k ih =>
    have h1 := ih fun i hi => h i (by omega)
    have h2 := h k (by omega)
    show sumTo n k + n k ≤ (k + 1) * M
    rw [Nat.succ_mul]; omega
theorem ofInt_self {n : Int} (h0 : 0 ≤ n) (h1 : n < 16777216) : FloatKind.f32.format.order (floatOfInt .f32 n) (floatOfInt .f32 n) = some .eq := ord_self (S.ofInt_val n (by omega) h1).1
/-- A polar whose lists lie in blocks of their own, from lo to hi. -/
def LaidC (lo hi : Nat) (w : World) (G : Pol) (gW gA gS : Nat) (b : Nat → Nat) : Prop :=
  (0 < G.nw → G.W = some ⟨gW, 0, none⟩ ∧ lo ≤ gW ∧ gW < hi ∧ OwnB w gW G.nw 31 (fun j => fv (G.ws j))) ∧
  (0 < G.na → G.A = some ⟨gA, 0, none⟩ ∧ lo ≤ gA ∧ gA < hi ∧ OwnB w gA G.na 3 (fun j => iv (G.av j))) ∧
  (0 < G.ns → G.S = some ⟨gS, 0, none⟩ ∧ lo ≤ gS ∧ gS < hi ∧ OwnB w gS G.ns 24 (fun i => .slice (G.R i) (G.rn i) (G.rc i))) ∧
  (∀ i, i < G.ns → 0 < G.rn i → G.R i = some ⟨b i, 0, none⟩ ∧ lo ≤ b i ∧ b i < hi ∧ OwnB w (b i) (G.rn i) 31 (fun j => fv (G.sp i j))) ∧
  (∀ i, i < G.ns → 0 < G.rn i → 0 < G.nw → b i ≠ gW) ∧ (∀ i i', i < i' → i' < G.ns → 0 < G.rn i → 0 < G.rn i' → b i ≠ b i')
/-- Its words and lengths. -/
def Fine (G : Pol) : Prop := (G.nw ≤ 1048576 ∧ G.na ≤ 1048576 ∧ G.ns ≤ 1048576 ∧ ∀ i, i < G.ns → G.rn i ≤ 1048576) ∧ (∀ j, j < G.nw → G.ws j < 4294967296) ∧ (∀ j, j < G.na → -9223372036854775808 ≤ G.av j ∧ G.av j ≤ 9223372036854775807) ∧ ∀ i, i < G.ns → ∀ j, j < G.rn i → G.sp i j < 4294967296
theorem LaidC.polIn {lo hi gW gA gS : Nat} {w : World} {G : Pol} {b : Nat → Nat} (h : LaidC lo hi w G gW gA gS b) (f : Fine G) : PolIn w G := by
  obtain ⟨a1, a2, a3, a4, _⟩ := h
  obtain ⟨⟨f1, f2, f3, f4⟩, f5, f6, f7⟩ := f
  refine ⟨⟨fun hn => ?_, f1, f5⟩, ⟨fun hn => ?_, f2, f6⟩, ⟨fun hn => ?_, f3⟩, fun i hi => ⟨fun hn => ?_, f4 i hi, f7 i hi⟩⟩
  · rw [(a1 hn).1]; exact (a1 hn).2.2.2.row hn
  · rw [(a2 hn).1]; exact (a2 hn).2.2.2.row hn
  · rw [(a3 hn).1]; exact (a3 hn).2.2.2.row hn
  · rw [(a4 i hi hn).1]; exact (a4 i hi hn).2.2.2.row hn
theorem LaidC.same {lo hi gW gA gS : Nat} {w w' : World} {G : Pol} {b : Nat → Nat} (h : LaidC lo hi w G gW gA gS b) (k : ∀ j, lo ≤ j → j < hi → j < w.heap.size → w'.heap[j]? = w.heap[j]?) : LaidC lo hi w' G gW gA gS b := by
  obtain ⟨a1, a2, a3, a4, a5, a6⟩ := h
  exact ⟨fun hn => ⟨(a1 hn).1, (a1 hn).2.1, (a1 hn).2.2.1, (a1 hn).2.2.2.block (k _ (a1 hn).2.1 (a1 hn).2.2.1 (a1 hn).2.2.2.lt)⟩, fun hn => ⟨(a2 hn).1, (a2 hn).2.1, (a2 hn).2.2.1, (a2 hn).2.2.2.block (k _ (a2 hn).2.1 (a2 hn).2.2.1 (a2 hn).2.2.2.lt)⟩,
    fun hn => ⟨(a3 hn).1, (a3 hn).2.1, (a3 hn).2.2.1, (a3 hn).2.2.2.block (k _ (a3 hn).2.1 (a3 hn).2.2.1 (a3 hn).2.2.2.lt)⟩, fun i hi hn => ⟨(a4 i hi hn).1, (a4 i hi hn).2.1, (a4 i hi hn).2.2.1, (a4 i hi hn).2.2.2.block (k _ (a4 i hi hn).2.1 (a4 i hi hn).2.2.1 (a4 i hi hn).2.2.2.lt)⟩, a5, a6⟩
/-- The same polar, marked. -/
def markG (G : Pol) (k : Int) : Pol := ⟨G.W, G.nw, G.cw, fun j => floatOfInt .f32 (k + j), G.A, G.na, G.ca, fun j => k + G.nw + j, G.S, G.ns, G.cs, G.R, G.rn, G.rc, fun i j => floatOfInt .f32 (k + G.nw + G.na + sumTo G.rn i + j)⟩
def tot (G : Pol) : Int := G.nw + G.na + sumTo G.rn G.ns
set_option maxRecDepth 100000 in
set_option maxHeartbeats 1000000 in
theorem m_F (A : Option Addr) (n cap g lo hi : Nat) (k : Int) (w : World) (V : Nat → Value) (hA : 0 < n → A = some ⟨g, 0, none⟩ ∧ lo ≤ g ∧ g < hi ∧ OwnB w g n 31 V) (hn : n ≤ 1048576) (h0 : 0 ≤ k) (h1 : k ≤ 4398046511104) :
    Calls Try.prog 74 #[.slice A n cap, .int .i64 k] w fun e w' => e = .returned (.int .i64 (k + n)) ∧ (0 < n → OwnB w' g n 31 (fun j => fv (floatOfInt .f32 (k + j)))) ∧ (∀ j, j < w.heap.size → (0 < n → j ≠ g) → w'.heap[j]? = w.heap[j]?) ∧ Touch lo hi w w' := by
  have HA := Lib.hid hA
  clear hA
  go_enter Try.func74, Try.ntmps74
  go_wp2_with fail
  go_loopw [1, 5] (fun kk ii wr => ∃ j : Nat, j ≤ n ∧ ii = .int .i64 j ∧ kk = .int .i64 (k + j) ∧ (0 < n → ∃ cs, wr.heap[g]? = some (.cells cs 31 (0, 0)) ∧ n ≤ cs.size ∧ ∀ i, i < j → cs[i]? = some (fv (floatOfInt .f32 (k + i)))) ∧ (∀ j, j < w.heap.size → (0 < n → j ≠ g) → wr.heap[j]? = w.heap[j]?) ∧ Touch lo hi w wr) (fun _ ii _ => n - (intOf ii).toNat)
  case atStart => exact ⟨0, Nat.zero_le _, rfl, by simp, fun h => by
    obtain ⟨_, _, _, cs, c1, c2, _⟩ := HA.out h
    exact ⟨cs, c1, c2, fun i hi => by omega⟩, fun _ _ _ => rfl, Touch.refl _ _ _⟩
  case round =>
    obtain ⟨j, hj, rfl, rfl, hc, hs, ht⟩ := hrel
    by_cases hlt : j < n
    · have hlt1 : (j : Int) < (n : Int) := by omega
      obtain ⟨cs, c1, c2, c3⟩ := hc (by omega)
      obtain ⟨rfl, l1, l2, _⟩ := HA.out (by omega)
      have st := store_at (P := Try.prog) c1 rfl (show j < cs.size by omega) (.float .f32 (floatOfInt .f32 (k + j))) rfl
      have HN := Lib.hid (And.intro (heap_set_self (k := j) c1 (.float .f32 (floatOfInt .f32 (k + j)))) (And.intro (show ∀ i, i < j + 1 → (cs.setIfInBounds j (.float .f32 (floatOfInt .f32 (k + j))))[i]? = some (fv (floatOfInt .f32 (k + i))) from fun i hi => by
        by_cases hij : i = j
        · subst hij; rw [Array.getElem?_setIfInBounds_self_of_lt (by omega)]; rfl
        · rw [Array.getElem?_setIfInBounds_ne (fun e => hij e.symm)]; exact c3 i (by omega)) (And.intro (ht.trans (Touch.set (k := j) (v := .float .f32 (floatOfInt .f32 (k + j))) l1 l2)) (show ∀ i, i < w.heap.size → (0 < n → i ≠ g) → (wr.setCell ⟨g, j, none⟩ (.float .f32 (floatOfInt .f32 (k + j)))).heap[i]? = w.heap[i]? from fun i hi hne => (Below.heap_setCell _ _ _ _ (hne (by omega))).trans (hs i hi hne)))))
      have HC2 := Lib.hid c2
      clear hc hs ht c1 c3 c2
      go_wp2
      go_roundw
      case rel => exact ⟨j + 1, by omega, by go_num, by go_num, fun _ => ⟨_, HN.out.1, by simpa using HC2.out, HN.out.2.1⟩, HN.out.2.2.2, HN.out.2.2.1⟩
      case measure => simp [intOf]; omega
    · obtain rfl : j = n := by omega
      have hlt1 : ¬ (j : Int) < (j : Int) := by omega
      have HN := Lib.hid (And.intro (show 0 < j → OwnB wr g j 31 (fun i => fv (floatOfInt .f32 (k + i))) from fun h => by
        obtain ⟨cs, c1, c2, c3⟩ := hc h
        exact ⟨cs, c1, c2, c3⟩) (And.intro hs ht))
      clear hc hs ht
      go_wp2
      go_ret
      exact ⟨rfl, HN.out⟩
end Go.Proofs.Ytdhdefhllleeiaa

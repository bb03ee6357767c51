/- Names, lists of sails in memory (spec): l11Name. -/
import Derived.Test.YtlliiecdadiagaaLpA
import Derived.Test.YtlliiecdadiagaaLiB
import Derived.Test.YtlliiecdadiagaaHld
namespace Go.Proofs.Ytlliiecdadiagaa
open Go.RowKit
set_option linter.unusedVariables false
set_option linter.unusedSimpArgs false

theorem s_inS (n a b : Int) (t : Bool) (w : World) (ht : t = decide (a ≤ n ∧ n ≤ b)) :
    Calls Try.prog 62 #[.int .i64 n, .int .i64 a, .int .i64 b] w fun e w' => e = .returned (.bool t) ∧ w' = w := by
  by_cases h1 : a ≤ n
  · by_cases h2 : n ≤ b
    · rw [ht, decide_eq_true (And.intro h1 h2)]
      go_enter Try.func62, Try.ntmps62
      go_wp2
      go_ret
      exact ⟨rfl, rfl⟩
    · rw [ht, decide_eq_false (fun h => h2 h.2)]
      go_enter Try.func62, Try.ntmps62
      go_wp2
      go_ret
      exact ⟨rfl, rfl⟩
  · rw [ht, decide_eq_false (fun h => h1 h.1)]
    go_enter Try.func62, Try.ntmps62
    go_wp2
    go_ret
    exact ⟨rfl, rfl⟩
set_option maxRecDepth 100000 in
set_option maxHeartbeats 1000000 in
theorem s_name (s : ByteArray) (w : World) (hs : s.size ≤ 9223372036854775807) :
    Calls Try.prog 61 #[.string s] w fun e w' => e = .returned (.bool (nmB s)) ∧ w' = w := by
  have HI := Lib.hid (fun w => s_inS (s.size : Int) 1 16 (decide (1 ≤ (s.size : Int) ∧ (s.size : Int) ≤ 16)) w rfl)
  go_enter Try.func61, Try.ntmps61
  go_wp2
  go_loopw [3] (fun i wr => ∃ k : Nat, k ≤ s.size ∧ i = .int .i64 k ∧ (∀ j, j < k → 97 ≤ byteAt s j ∧ byteAt s j ≤ 122) ∧ wr = w) (fun i _ => s.size - (intOf i).toNat)
  case atStart => exact ⟨0, Nat.zero_le _, rfl, (fun j h => by omega), rfl⟩
  case round =>
    obtain ⟨k, hk, rfl, hall, rfl⟩ := hrel
    have HA := Lib.hid hall
    clear hall
    by_cases hlt : k < s.size
    · obtain ⟨b0, b1⟩ := byteAt_bd s k
      have q1 := byteAt_eq s k hlt
      by_cases g1 : byteAt s k < 97
      · have HN := Lib.hid (nmB_no (s := s) (fun h => by have := (h.1 k hlt).1; omega))
        go_wp2
        go_ret
        exact ⟨by rw [HN.out]; rfl, rfl⟩
      · by_cases g2 : 122 < byteAt s k
        · have HN := Lib.hid (nmB_no (s := s) (fun h => by have := (h.1 k hlt).2; omega))
          go_wp2
          go_ret
          exact ⟨by rw [HN.out]; rfl, rfl⟩
        · have HB := Lib.hid (show 97 ≤ byteAt s k ∧ byteAt s k ≤ 122 by omega)
          go_wp2
          go_roundw
          case rel => exact ⟨k + 1, by omega, by go_num, (fun j hj => by
            rcases Nat.lt_or_ge j k with h' | h'
            · exact HA.out j h'
            · rw [show j = k by omega]; exact HB.out), trivial⟩
          case measure => simp [intOf]; omega
    · obtain rfl : k = s.size := by omega
      have hlt1 : ¬ (s.size : Int) < (s.size : Int) := by omega
      by_cases h1 : 1 ≤ (s.size : Int) ∧ (s.size : Int) ≤ 16
      · rw [decide_eq_true h1] at HI
        by_cases h2 : s.data.toList = [110, 111, 110, 101]
        · have HN := Lib.hid (nmB_no (s := s) (fun h => h.2.2 h2))
          have q3 : (s.toList == [110, 111, 110, 101]) = true := by rw [ByteArray.toList_eq, h2]; rfl
          clear h1 h2
          go_wp2_with fail
          refine (HI.out _).mono ?_
          rintro e w1 ⟨rfl, rfl⟩
          go_wp2
          go_ret
          exact ⟨by rw [HN.out]; rfl, rfl⟩
        · have HN := Lib.hid (nmB_iff.2 (show NmOk s from ⟨HA.out, by omega, h2⟩))
          have q3 : (s.toList == [110, 111, 110, 101]) = false := by rw [ByteArray.toList_eq]; simpa using h2
          clear h1 h2
          go_wp2_with fail
          refine (HI.out _).mono ?_
          rintro e w1 ⟨rfl, rfl⟩
          go_wp2
          go_ret
          exact ⟨by rw [HN.out]; rfl, rfl⟩
      · rw [decide_eq_false h1] at HI
        have HN := Lib.hid (nmB_no (s := s) (fun h => h1 (by have := h.2.1; omega)))
        clear h1
        go_wp2_with fail
        refine (HI.out _).mono ?_
        rintro e w1 ⟨rfl, rfl⟩
        go_wp2
        go_ret
        exact ⟨by rw [HN.out]; rfl, rfl⟩
/-- Sails that lie in a block, from a cell on. -/
def SlsIn (w : World) (g o n : Nat) (f : Nat → Sl) : Prop := ∀ j, j < n → w.cell? ⟨g, o + j * 5, none⟩ = some (.string (f j).nm) ∧ w.cell? ⟨g, o + j * 5 + 1, none⟩ = some (.float .f32 (f j).lo) ∧ w.cell? ⟨g, o + j * 5 + 2, none⟩ = some (.float .f32 (f j).hi) ∧ w.cell? ⟨g, o + j * 5 + 3, none⟩ = some (.int .i64 (f j).fr) ∧ w.cell? ⟨g, o + j * 5 + 4, none⟩ = some (.int .i64 (f j).to)
theorem SlsIn.same {w w' : World} {g o n : Nat} {f : Nat → Sl} (h : SlsIn w g o n f) (hs : w'.heap[g]? = w.heap[g]?) : SlsIn w' g o n f := fun j hj => by
  obtain ⟨a, b, c, d, e⟩ := h j hj
  have k : ∀ k, w'.cell? ⟨g, k, none⟩ = w.cell? ⟨g, k, none⟩ := fun k => by simp only [World.cell?, hs]
  exact ⟨(k _).trans a, (k _).trans b, (k _).trans c, (k _).trans d, (k _).trans e⟩
theorem SlsIn.lt {w : World} {g o n : Nat} {f : Nat → Sl} (h : SlsIn w g o n f) (hn : 0 < n) : g < w.heap.size := by
  obtain ⟨a, _⟩ := h 0 hn
  rcases Nat.lt_or_ge g w.heap.size with h' | h'
  · exact h'
  · simp [World.cell?, Array.getElem?_eq_none h'] at a
theorem SlsIn.below {w w' : World} {B g o n : Nat} {f : Nat → Sl} (h : SlsIn w g o n f) (hb : Below B w w') (hB : w.heap.size ≤ B) : SlsIn w' g o n f := fun j hj => by
  have hg := h.lt (by omega)
  exact h.same (hb.block g (by omega)) j hj
theorem SlsIn.at {w : World} {g o n : Nat} {f : Nat → Sl} (h : SlsIn w g o n f) {k : Nat} (hk : k < n) {s : Sl} (e : f k = s) : w.cell? ⟨g, o + k * 5, none⟩ = some (.string s.nm) ∧ w.cell? ⟨g, o + k * 5 + 1, none⟩ = some (.float .f32 s.lo) ∧ w.cell? ⟨g, o + k * 5 + 2, none⟩ = some (.float .f32 s.hi) ∧ w.cell? ⟨g, o + k * 5 + 3, none⟩ = some (.int .i64 s.fr) ∧ w.cell? ⟨g, o + k * 5 + 4, none⟩ = some (.int .i64 s.to) := by
  have := h k hk
  rw [e] at this
  exact this
theorem cells5 {w : World} {g : Nat} {t : TypeId} {a b c d e : Value} (h : w.heap[g]? = some (.cells #[a, b, c, d, e] t (0, 0))) : w.cell? ⟨g, 0, none⟩ = some a ∧ w.cell? ⟨g, 1, none⟩ = some b ∧ w.cell? ⟨g, 2, none⟩ = some c ∧ w.cell? ⟨g, 3, none⟩ = some d ∧ w.cell? ⟨g, 4, none⟩ = some e :=
  ⟨cell_of_row w _ 0 _ _ _ h, cell_of_row w _ 1 _ _ _ h, cell_of_row w _ 2 _ _ _ h, cell_of_row w _ 3 _ _ _ h, cell_of_row w _ 4 _ _ _ h⟩
/-- Moments that lie in a block, from a cell on. -/
def MmsIn (w : World) (g o n : Nat) (f : Nat → Mm) : Prop := ∀ j, j < n → w.cell? ⟨g, o + j * 2, none⟩ = some (.float .f32 (f j).1) ∧ w.cell? ⟨g, o + j * 2 + 1, none⟩ = some (.int .i64 (f j).2)
theorem MmsIn.same {w w' : World} {g o n : Nat} {f : Nat → Mm} (h : MmsIn w g o n f) (hs : w'.heap[g]? = w.heap[g]?) : MmsIn w' g o n f := fun j hj => by
  obtain ⟨a, b⟩ := h j hj
  have k : ∀ k, w'.cell? ⟨g, k, none⟩ = w.cell? ⟨g, k, none⟩ := fun k => by simp only [World.cell?, hs]
  exact ⟨(k _).trans a, (k _).trans b⟩
theorem MmsIn.lt {w : World} {g o n : Nat} {f : Nat → Mm} (h : MmsIn w g o n f) (hn : 0 < n) : g < w.heap.size := by
  obtain ⟨a, _⟩ := h 0 hn
  rcases Nat.lt_or_ge g w.heap.size with h' | h'
  · exact h'
  · simp [World.cell?, Array.getElem?_eq_none h'] at a
theorem MmsIn.below {w w' : World} {B g o n : Nat} {f : Nat → Mm} (h : MmsIn w g o n f) (hb : Below B w w') (hB : w.heap.size ≤ B) : MmsIn w' g o n f := fun j hj => by
  have hg := h.lt (by omega)
  exact h.same (hb.block g (by omega)) j hj
theorem MmsIn.at {w : World} {g o n : Nat} {f : Nat → Mm} (h : MmsIn w g o n f) {k : Nat} (hk : k < n) {x : Nat} {y : Int} (e : f k = (x, y)) : w.cell? ⟨g, o + k * 2, none⟩ = some (.float .f32 x) ∧ w.cell? ⟨g, o + k * 2 + 1, none⟩ = some (.int .i64 y) := by
  have := h k hk
  rw [e] at this
  exact this
end Go.Proofs.Ytlliiecdadiagaa

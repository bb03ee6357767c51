/- The laws' own copies of tracks: szSightS, toSightS, eqSightS. -/
import Derived.Test.YthahakefmpajfaaLjK
namespace Go.Proofs.Ythahakefmpajfaa
open Go.RowKit
set_option linter.unusedVariables false
set_option linter.unusedSimpArgs false

/-- A row of sights in cells, filled up to an index. -/
def SigRow (cs : Array Value) (n k : Nat) (f : Nat → Sg) : Prop := cs.size = n * 3 ∧ ∀ j, j < k → cs[j * 3]? = some (.int .i64 (f j).1.1) ∧ cs[j * 3 + 1]? = some (.int .i64 (f j).1.2) ∧ cs[j * 3 + 2]? = some (.int .i64 (f j).2)
theorem SigRow.set {cs : Array Value} {n k : Nat} {f : Nat → Sg} (h : SigRow cs n k f) (hk : k < n) :
    SigRow (((cs.setIfInBounds (k * 3) (.int .i64 (f k).1.1)).setIfInBounds (k * 3 + 1) (.int .i64 (f k).1.2)).setIfInBounds (k * 3 + 2) (.int .i64 (f k).2)) n (k + 1) f := by
  obtain ⟨hs, ha⟩ := h
  refine ⟨by simpa using hs, fun j hj => ?_⟩
  simp only [Array.getElem?_setIfInBounds, Array.size_setIfInBounds]
  by_cases e : j = k
  · subst e
    refine ⟨?_, ?_, ?_⟩
    · rw [if_neg (by omega), if_neg (by omega), if_pos rfl, if_pos (by omega)]
    · rw [if_neg (by omega), if_pos rfl, if_pos (by omega)]
    · rw [if_pos rfl, if_pos (by omega)]
  · obtain ⟨h1, h2, h3⟩ := ha j (by omega)
    refine ⟨?_, ?_, ?_⟩
    · rw [if_neg (by omega), if_neg (by omega), if_neg (by omega)]; exact h1
    · rw [if_neg (by omega), if_neg (by omega), if_neg (by omega)]; exact h2
    · rw [if_neg (by omega), if_neg (by omega), if_neg (by omega)]; exact h3
theorem SigRow.sigs {w : World} {g n : Nat} {cs : Array Value} {t : TypeId} {f : Nat → Sg} (h : SigRow cs n n f) (hb : w.heap[g]? = some (.cells cs t (0, 0))) : SigsIn w g 0 n f := fun j hj => by
  obtain ⟨h1, h2, h3⟩ := h.2 j hj
  have row : ∀ k, w.cell? ⟨g, k, none⟩ = cs[k]? := fun k => cell_of_row w g k _ _ _ hb
  rw [Nat.zero_add]
  exact ⟨(row _).trans h1, (row _).trans h2, (row _).trans h3⟩
/-- What szSightS tells. -/
def SzE (n : Nat) (e : Ending) : Prop := ∃ r : Int, (r = -1 ∨ (0 ≤ r ∧ n ≤ 1048576)) ∧ e = .returned (.int .i64 r)
theorem l_szS (A : Option Addr) (n cap : Nat) (w : World) (hn : n ≤ 9223372036854775807) :
    Calls Try.prog 28 #[.slice A n cap, .int .i64 1048576] w fun e w' => SzE n e ∧ w' = w := by
  by_cases h : n ≤ 1048576
  · have h1 : ¬ (1048576 - (n : Int)) < 0 := by omega
    go_enter Try.func28, Try.ntmps28
    go_wp2
    go_ret
    exact ⟨⟨_, .inr ⟨by omega, h⟩, rfl⟩, rfl⟩
  · have h1 : (1048576 - (n : Int)) < 0 := by omega
    go_enter Try.func28, Try.ntmps28
    go_wp2
    go_ret
    exact ⟨⟨_, .inl rfl, rfl⟩, rfl⟩
theorem Try.infoSg5 : (Try.prog.info? 86).map (fun i => (i.zero, i.size, i.bytes)) = some (some (.agg #[.int .i64 0, .int .i64 0, .int .i64 0]), 3, 24) := by kernel_rfl
/-- What a copy of a track is: a new block. -/
def SigOwn (w' : World) (b n : Nat) (f : Nat → Sg) : Prop := ∃ cs, w'.heap[b]? = some (.cells cs 86 (0, 0)) ∧ SigRow cs n n f
theorem SigOwn.sigs {w' : World} {b n : Nat} {f : Nat → Sg} (h : SigOwn w' b n f) : SigsIn w' b 0 n f := by
  obtain ⟨cs, hb, hr⟩ := h
  exact hr.sigs hb
theorem SigOwn.below {w w' : World} {b n : Nat} {f : Nat → Sg} (h : SigOwn w b n f) (k : Below w.heap.size w w') : SigOwn w' b n f := by
  obtain ⟨cs, hb, hr⟩ := h
  exact ⟨cs, (k.block _ (heap_lt hb)).trans hb, hr⟩
set_option maxRecDepth 100000 in
set_option maxHeartbeats 2000000 in
theorem l_toS (f : Nat → Sg) (A : Option Addr) (g o n cap : Nat) (w : World) (hn : n ≤ 1048576) (hA : 0 < n → A = some ⟨g, o, none⟩) (hw : SigsIn w g o n f) :
    Calls Try.prog 30 #[.slice A n cap] w fun e w' => e = .returned (.slice (some ⟨w.heap.size, 0, none⟩) n n) ∧ SigOwn w' w.heap.size n f ∧ Below w.heap.size w w' := by
  have HW := Lib.hid hw
  clear hw
  obtain ⟨i, hi, hz⟩ := Option.map_eq_some_iff.1 Try.infoSg5
  simp only [Prod.mk.injEq] at hz
  obtain ⟨hz, hs, hb⟩ := hz
  have hmk := fun w : World => run_make (P := Try.prog) (w := w) 37 86 i _ Try.underlying37 hi hz .i64 .i64 (n : Int) (n : Int) (by omega) (Int.le_refl _) (by rw [hb]; omega) (by omega)
  simp only [Int.toNat_natCast, hs] at hmk
  have hm0 : (madeCells (Value.agg #[.int .i64 0, .int .i64 0, .int .i64 0]).cells (n * 3)).size = n * 3 := by simp [madeCells]
  generalize madeCells (Value.agg #[.int .i64 0, .int .i64 0, .int .i64 0]).cells (n * 3) = C at *
  clear hi hz hs hb
  have HM := Lib.hid hm0
  clear hm0
  go_enter Try.func30, Try.ntmps30
  go_wp2
  clear hmk
  go_loopw [4] (fun i wr => ∃ (k : Nat) (cs : Array Value), k ≤ n ∧ i = .int .i64 k ∧ wr.heap[w.heap.size]? = some (.cells cs 86 (0, 0)) ∧ SigRow cs n k f ∧ Below w.heap.size w wr) (fun i _ => n - (intOf i).toNat)
  case atStart => exact ⟨0, _, Nat.zero_le _, rfl, heap_alloc_new w _, ⟨HM.out, fun j h => by omega⟩, (Below.refl _ w).alloc (Nat.le_refl _) _⟩
  case round =>
    obtain ⟨k, cs, hk, rfl, hb, hrow, hbel⟩ := hrel
    by_cases hlt : k < n
    · obtain rfl := hA (by omega)
      obtain ⟨⟨⟨x, y⟩, z⟩, hkk⟩ : ∃ s, f k = s := ⟨_, rfl⟩
      have hsr := HW.out.below hbel (Nat.le_refl _)
      have d0 : wr.cell? ⟨g, o + k * 3, none⟩ = some (.int .i64 x) := by have := (hsr k hlt).1; rw [hkk] at this; exact this
      have d1 : wr.cell? ⟨g, o + k * 3 + 1, none⟩ = some (.int .i64 y) := by have := (hsr k hlt).2.1; rw [hkk] at this; exact this
      have d2 : wr.cell? ⟨g, o + k * 3 + 2, none⟩ = some (.int .i64 z) := by have := (hsr k hlt).2.2; rw [hkk] at this; exact this
      have hnew := hrow.set hlt
      rw [hkk] at hnew
      dsimp only at hnew
      have z1 : (k : Int) < (n : Int) := by omega
      have z0 : (0 : Int) ≤ (k : Int) := by omega
      have HH := Lib.hid (And.intro hb (And.intro hrow.1 (And.intro hnew hbel)))
      have HS := Lib.hid (fun w => l_sight ((x, y), z) w)
      clear hb hrow hbel hsr hnew hkk
      go_wp2_with fail
      refine (HS.out _).mono ?_
      rintro e w3 ⟨rfl, b3⟩
      obtain ⟨hb, hcs, hnew, hbel⟩ := HH.out
      have hb3 := (b3.block _ (heap_lt hb)).trans hb
      have p0 := heap_set_self (k := k * 3) hb3 (.int .i64 x)
      have p1 := heap_set_self (k := k * 3 + 1) p0 (.int .i64 y)
      have p2 := heap_set_self (k := k * 3 + 2) p1 (.int .i64 z)
      obtain ⟨_, e0, f0⟩ := cell_at hb3 (k := k * 3) hcs (show k * 3 < n * 3 by omega)
      obtain ⟨_, e1, f1⟩ := cell_at p0 (k := k * 3 + 1) (n := n * 3) (by simpa using hcs) (by omega)
      obtain ⟨_, e2, f2⟩ := cell_at p1 (k := k * 3 + 2) (n := n * 3) (by simpa using hcs) (by omega)
      have bl := set_bel (k := k * 3 + 2) (set_bel (k := k * 3 + 1) (set_bel (k := k * 3) (hbel.trans (b3.mono hbel.size)) (Nat.le_refl _) (.int .i64 x)) (Nat.le_refl _) (.int .i64 y)) (Nat.le_refl _) (.int .i64 z)
      have HN := Lib.hid (And.intro p2 (And.intro hnew bl))
      clear HH b3 hb hb3 hcs hnew hbel p0 p1 p2 bl
      go_wp2
      go_roundw
      case rel => exact ⟨k + 1, _, by omega, by go_num, HN.out⟩
      case measure => simp [intOf]; omega
    · obtain rfl : k = n := by omega
      have hk1 : ¬ ((k : Int) < (k : Int)) := by omega
      have HN := Lib.hid (And.intro (show SigOwn wr w.heap.size k f from ⟨cs, hb, hrow⟩) hbel)
      clear hb hrow hbel
      go_wp2
      go_ret
      exact ⟨rfl, HN.out⟩
end Go.Proofs.Ythahakefmpajfaa

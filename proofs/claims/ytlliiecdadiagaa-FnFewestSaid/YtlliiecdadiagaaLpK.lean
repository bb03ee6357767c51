/- The laws' own copies of lists of sails and moments; sizes, comparisons. -/
import Derived.Test.YtlliiecdadiagaaLpJ
import Derived.Test.YtlliiecdadiagaaLpF
namespace Go.Proofs.Ytlliiecdadiagaa
open Go.RowKit
set_option linter.unusedVariables false
set_option linter.unusedSimpArgs false

theorem set_bel11 {w w1 : World} {B : Nat} (h : Below B w w1) {q k : Nat} (hq : B ≤ q) (v : Value) : Below B w (w1.setCell ⟨q, k, none⟩ v) := h.setCell (p := ⟨q, k, none⟩) hq v
/-- A row in cells, filled up to an index. -/
def RowS (cs : Array Value) (n k : Nat) (f : Nat → Sl) : Prop := cs.size = n * 5 ∧ ∀ j, j < k → cs[j * 5]? = some (.string (f j).nm) ∧ cs[j * 5 + 1]? = some (.float .f32 (f j).lo) ∧ cs[j * 5 + 2]? = some (.float .f32 (f j).hi) ∧ cs[j * 5 + 3]? = some (.int .i64 (f j).fr) ∧ cs[j * 5 + 4]? = some (.int .i64 (f j).to)
theorem RowS.set {cs : Array Value} {n k : Nat} {f : Nat → Sl} (h : RowS cs n k f) (hk : k < n) :
    RowS (((((cs.setIfInBounds (k * 5) (.string (f k).nm)).setIfInBounds (k * 5 + 1) (.float .f32 (f k).lo)).setIfInBounds (k * 5 + 2) (.float .f32 (f k).hi)).setIfInBounds (k * 5 + 3) (.int .i64 (f k).fr)).setIfInBounds (k * 5 + 4) (.int .i64 (f k).to)) n (k + 1) f := by
  obtain ⟨hs, ha⟩ := h
  refine ⟨by simpa using hs, fun j hj => ?_⟩
  simp only [Array.getElem?_setIfInBounds, Array.size_setIfInBounds]
  by_cases e : j = k
  · subst e
    refine ⟨?_, ?_, ?_, ?_, ?_⟩
    · rw [if_neg (by omega), if_neg (by omega), if_neg (by omega), if_neg (by omega), if_pos rfl, if_pos (by omega)]
    · rw [if_neg (by omega), if_neg (by omega), if_neg (by omega), if_pos rfl, if_pos (by omega)]
    · rw [if_neg (by omega), if_neg (by omega), if_pos rfl, if_pos (by omega)]
    · rw [if_neg (by omega), if_pos rfl, if_pos (by omega)]
    · rw [if_pos rfl, if_pos (by omega)]
  · obtain ⟨h0, h1, h2, h3, h4⟩ := ha j (by omega)
    refine ⟨?_, ?_, ?_, ?_, ?_⟩
    · rw [if_neg (by omega), if_neg (by omega), if_neg (by omega), if_neg (by omega), if_neg (by omega)]; exact h0
    · rw [if_neg (by omega), if_neg (by omega), if_neg (by omega), if_neg (by omega), if_neg (by omega)]; exact h1
    · rw [if_neg (by omega), if_neg (by omega), if_neg (by omega), if_neg (by omega), if_neg (by omega)]; exact h2
    · rw [if_neg (by omega), if_neg (by omega), if_neg (by omega), if_neg (by omega), if_neg (by omega)]; exact h3
    · rw [if_neg (by omega), if_neg (by omega), if_neg (by omega), if_neg (by omega), if_neg (by omega)]; exact h4
/-- What a copy is: a new block. -/
def OwnSl (w' : World) (b n : Nat) (f : Nat → Sl) : Prop := ∃ cs, w'.heap[b]? = some (.cells cs 40 (0, 0)) ∧ RowS cs n n f
theorem OwnSl.ins {w' : World} {b n : Nat} {f : Nat → Sl} (h : OwnSl w' b n f) : SlsIn w' b 0 n f := fun j hj => by
  obtain ⟨cs, hb, hr⟩ := h
  obtain ⟨h0, h1, h2, h3, h4⟩ := hr.2 j hj
  have row : ∀ k, w'.cell? ⟨b, k, none⟩ = cs[k]? := fun k => cell_of_row w' b k _ _ _ hb
  rw [Nat.zero_add]
  exact ⟨(row _).trans h0, (row _).trans h1, (row _).trans h2, (row _).trans h3, (row _).trans h4⟩
theorem OwnSl.below {w w' : World} {b n : Nat} {f : Nat → Sl} (h : OwnSl w b n f) (k : Below w.heap.size w w') : OwnSl w' b n f := by
  obtain ⟨cs, hb, hr⟩ := h
  exact ⟨cs, (k.block _ (heap_lt hb)).trans hb, hr⟩
theorem Try.info11S : (Try.prog.info? 40).map (fun i => (i.zero, i.size, i.bytes)) = some (some (.agg #[.string ⟨#[]⟩, .float .f32 0, .float .f32 0, .int .i64 0, .int .i64 0]), 5, 40) := by kernel_rfl
set_option maxRecDepth 100000 in
set_option maxHeartbeats 2000000 in
theorem l_toS11 (f : Nat → Sl) (A : Option Addr) (g o n cap : Nat) (w : World) (hn : n ≤ 1048576) (hA : 0 < n → A = some ⟨g, o, none⟩) (hw : SlsIn w g o n f) :
    Calls Try.prog 30 #[.slice A n cap] w fun e w' => e = .returned (.slice (some ⟨w.heap.size, 0, none⟩) n n) ∧ OwnSl w' w.heap.size n f ∧ Below w.heap.size w w' := by
  have HW := Lib.hid hw
  clear hw
  obtain ⟨i, hi, hz⟩ := Option.map_eq_some_iff.1 Try.info11S
  simp only [Prod.mk.injEq] at hz
  obtain ⟨hz, hs, hb⟩ := hz
  have hmk := fun w : World => run_make (P := Try.prog) (w := w) 24 40 i _ Try.underlying24 hi hz .i64 .i64 (n : Int) (n : Int) (by omega) (Int.le_refl _) (by rw [hb]; omega) (by omega)
  simp only [Int.toNat_natCast, hs] at hmk
  have hm0 : (madeCells (Value.cells (.agg #[.string ⟨#[]⟩, .float .f32 0, .float .f32 0, .int .i64 0, .int .i64 0])) (n * 5)).size = n * 5 := by simp [madeCells]
  generalize madeCells (Value.cells (.agg #[.string ⟨#[]⟩, .float .f32 0, .float .f32 0, .int .i64 0, .int .i64 0])) (n * 5) = C at *
  clear hi hz hs hb
  have HM := Lib.hid hm0
  clear hm0
  go_enter Try.func30, Try.ntmps30
  go_wp2
  clear hmk
  go_loopw [4] (fun i wr => ∃ (k : Nat) (cs : Array Value), k ≤ n ∧ i = .int .i64 k ∧ wr.heap[w.heap.size]? = some (.cells cs 40 (0, 0)) ∧ RowS cs n k f ∧ Below w.heap.size w wr) (fun i _ => n - (intOf i).toNat)
  case atStart => exact ⟨0, _, Nat.zero_le _, rfl, heap_alloc_new w _, ⟨HM.out, fun j h => by omega⟩, (Below.refl _ w).alloc (Nat.le_refl _) _⟩
  case round =>
    obtain ⟨k, cs, hk, rfl, hb, hrow, hbel⟩ := hrel
    by_cases hlt : k < n
    · obtain rfl := hA (by omega)
      obtain ⟨x, hkk⟩ : ∃ x, f k = x := ⟨_, rfl⟩
      have hsr := HW.out.below hbel (Nat.le_refl _)
      obtain ⟨d0, d1, d2, d3, d4⟩ := hsr.at hlt hkk
      have hnew := hrow.set hlt
      rw [hkk] at hnew
      have z1 : (k : Int) < (n : Int) := by omega
      have z0 : (0 : Int) ≤ (k : Int) := by omega
      have HH := Lib.hid (And.intro hb (And.intro hrow.1 (And.intro hnew hbel)))
      have HS := Lib.hid (fun w => l_sail x w)
      clear hb hrow hbel hsr hnew hkk
      go_wp2_with fail
      refine (HS.out _).mono ?_
      rintro e w3 ⟨rfl, b3⟩
      obtain ⟨hb, hcs, hnew, hbel⟩ := HH.out
      have hb3 := (b3.block _ (heap_lt hb)).trans hb
      have p0 := heap_set_self (k := k * 5) hb3 (.string x.nm)
      have s0 := store_at (P := Try.prog) hb3 (k := k * 5) (n := n * 5) (hcs) (by omega) (.string x.nm) rfl
      obtain ⟨_, e0, f0⟩ := cell_at hb3 (k := k * 5) (n := n * 5) (hcs) (by omega)
      have p1 := heap_set_self (k := k * 5 + 1) p0 (.float .f32 x.lo)
      have s1 := store_at (P := Try.prog) p0 (k := k * 5 + 1) (n := n * 5) (by simpa using hcs) (by omega) (.float .f32 x.lo) rfl
      obtain ⟨_, e1, f1⟩ := cell_at p0 (k := k * 5 + 1) (n := n * 5) (by simpa using hcs) (by omega)
      have p2 := heap_set_self (k := k * 5 + 2) p1 (.float .f32 x.hi)
      have s2 := store_at (P := Try.prog) p1 (k := k * 5 + 2) (n := n * 5) (by simpa using hcs) (by omega) (.float .f32 x.hi) rfl
      obtain ⟨_, e2, f2⟩ := cell_at p1 (k := k * 5 + 2) (n := n * 5) (by simpa using hcs) (by omega)
      have p3 := heap_set_self (k := k * 5 + 3) p2 (.int .i64 x.fr)
      have s3 := store_at (P := Try.prog) p2 (k := k * 5 + 3) (n := n * 5) (by simpa using hcs) (by omega) (.int .i64 x.fr) rfl
      obtain ⟨_, e3, f3⟩ := cell_at p2 (k := k * 5 + 3) (n := n * 5) (by simpa using hcs) (by omega)
      have p4 := heap_set_self (k := k * 5 + 4) p3 (.int .i64 x.to)
      have s4 := store_at (P := Try.prog) p3 (k := k * 5 + 4) (n := n * 5) (by simpa using hcs) (by omega) (.int .i64 x.to) rfl
      obtain ⟨_, e4, f4⟩ := cell_at p3 (k := k * 5 + 4) (n := n * 5) (by simpa using hcs) (by omega)
      have bl := (set_bel11 (k := k * 5 + 4) (set_bel11 (k := k * 5 + 3) (set_bel11 (k := k * 5 + 2) (set_bel11 (k := k * 5 + 1) (set_bel11 (k := k * 5) (hbel.trans (b3.mono hbel.size)) (Nat.le_refl _) (.string x.nm)) (Nat.le_refl _) (.float .f32 x.lo)) (Nat.le_refl _) (.float .f32 x.hi)) (Nat.le_refl _) (.int .i64 x.fr)) (Nat.le_refl _) (.int .i64 x.to))
      have HN := Lib.hid (And.intro p4 (And.intro hnew bl))
      clear HH b3 hb hb3 hcs hnew hbel p0 p1 p2 p3 p4 bl
      go_wp2
      go_roundw
      case rel => exact ⟨k + 1, _, by omega, by go_num, HN.out⟩
      case measure => simp [intOf]; omega
    · obtain rfl : k = n := by omega
      have hk1 : ¬ ((k : Int) < (k : Int)) := by omega
      have HN := Lib.hid (And.intro (show OwnSl wr w.heap.size k f from ⟨cs, hb, hrow⟩) hbel)
      clear hb hrow hbel
      go_wp2
      go_ret
      exact ⟨rfl, HN.out⟩
/-- Two lists that are alike. -/
def TwoS (w : World) (g o g' o' n : Nat) (f : Nat → Sl) (wr : World) : Prop := SlsIn wr g o n f ∧ SlsIn wr g' o' n f ∧ Below w.heap.size w wr
theorem TwoS.step {w w1 w2 : World} {g o g' o' n : Nat} {f : Nat → Sl} (h : TwoS w g o g' o' n f w1) (b : Below w1.heap.size w1 w2) : TwoS w g o g' o' n f w2 := ⟨h.1.below b (Nat.le_refl _), h.2.1.below b (Nat.le_refl _), h.2.2.trans (b.mono h.2.2.size)⟩
theorem TwoS.drew {w w1 : World} {g o g' o' n : Nat} {f : Nat → Sl} (h : TwoS w g o g' o' n f w1) : TwoS w g o g' o' n f w1.drew := ⟨h.1, h.2.1, h.2.2.drew⟩
set_option maxRecDepth 100000 in
set_option maxHeartbeats 2000000 in
theorem l_eqS11 (f : Nat → Sl) (A A' : Option Addr) (g o g' o' n cap cap' : Nat) (w : World) (hn : n ≤ 1048576) (hA : 0 < n → A = some ⟨g, o, none⟩) (hA' : 0 < n → A' = some ⟨g', o', none⟩) (hw : SlsIn w g o n f) (hw' : SlsIn w g' o' n f) (hf : ∀ j, j < n → SlWf (f j)) :
    Calls Try.prog 31 #[.slice A n cap, .slice A' n cap'] w fun e w' => e = .returned (.bool true) ∧ Below w.heap.size w w' := by
  have HW := Lib.hid (show TwoS w g o g' o' n f w from ⟨hw, hw', Below.refl _ _⟩)
  have HF := Lib.hid hf
  clear hw hw' hf
  have nn : ((n : Int) == (n : Int)) = true := by simp
  go_enter Try.func31, Try.ntmps31
  go_wp2
  go_loopw [5] (fun i wr => ∃ k : Nat, k ≤ n ∧ i = .int .i64 k ∧ TwoS w g o g' o' n f wr) (fun i _ => n - (intOf i).toNat)
  case atStart => exact ⟨0, Nat.zero_le _, rfl, HW.out⟩
  case round =>
    obtain ⟨k, hk, rfl, hst⟩ := hrel
    by_cases hlt : k < n
    · obtain rfl := hA (by omega)
      obtain rfl := hA' (by omega)
      obtain ⟨x, hkk⟩ : ∃ x, f k = x := ⟨_, rfl⟩
      have HK := Lib.hid hkk
      have wfx := HF.out k hlt
      rw [hkk] at wfx
      clear hkk
      have d0 := fun x : Held (fun wx => TwoS w g o g' o' n f wx) => (x.h.1.at hlt HK.out).1
      have c0 := fun x : Held (fun wx => TwoS w g o g' o' n f wx) => (x.h.2.1.at hlt HK.out).1
      have d1 := fun x : Held (fun wx => TwoS w g o g' o' n f wx) => (x.h.1.at hlt HK.out).2.1
      have c1 := fun x : Held (fun wx => TwoS w g o g' o' n f wx) => (x.h.2.1.at hlt HK.out).2.1
      have d2 := fun x : Held (fun wx => TwoS w g o g' o' n f wx) => (x.h.1.at hlt HK.out).2.2.1
      have c2 := fun x : Held (fun wx => TwoS w g o g' o' n f wx) => (x.h.2.1.at hlt HK.out).2.2.1
      have d3 := fun x : Held (fun wx => TwoS w g o g' o' n f wx) => (x.h.1.at hlt HK.out).2.2.2.1
      have c3 := fun x : Held (fun wx => TwoS w g o g' o' n f wx) => (x.h.2.1.at hlt HK.out).2.2.2.1
      have d4 := fun x : Held (fun wx => TwoS w g o g' o' n f wx) => (x.h.1.at hlt HK.out).2.2.2.2
      have c4 := fun x : Held (fun wx => TwoS w g o g' o' n f wx) => (x.h.2.1.at hlt HK.out).2.2.2.2
      have z1 : (k : Int) < (n : Int) := by omega
      have z0 : (0 : Int) ≤ (k : Int) := by omega
      have HS := Lib.hid (fun w => l_eqSl x w wfx)
      clear wfx
      go_wp2
      haveI hne : Nonempty (Held fun wx => TwoS w g o g' o' n f wx) := ⟨⟨_, hst⟩⟩
      refine wp_region_class (fun wx => TwoS w g o g' o' n f wx) (by kernel_rfl) (by kernel_rfl) (TwoS.drew hst) ?_
      repeat (go_big_quiet_step (first
        | (go_at_call 70; with_reducible exact held_call TwoS.step (HS.out _))))
      refine wpQuiet_nil ?_
      intro wy hw'
      obtain ⟨⟨wq, hst6⟩, rfl⟩ := hw'
      (try dsimp only)
      all_goals
        go_wp2_with fail
        go_roundw
        case rel => exact ⟨k + 1, by omega, by go_num, hst6⟩
        case measure => simp [intOf]; omega
    · obtain rfl : k = n := by omega
      have hk1 : ¬ ((k : Int) < (k : Int)) := by omega
      go_wp2
      go_ret
      exact ⟨rfl, hst.2.2⟩
/-- A row in cells, filled up to an index. -/
def RowM (cs : Array Value) (n k : Nat) (f : Nat → Mm) : Prop := cs.size = n * 2 ∧ ∀ j, j < k → cs[j * 2]? = some (.float .f32 (f j).1) ∧ cs[j * 2 + 1]? = some (.int .i64 (f j).2)
theorem RowM.set {cs : Array Value} {n k : Nat} {f : Nat → Mm} (h : RowM cs n k f) (hk : k < n) :
    RowM ((cs.setIfInBounds (k * 2) (.float .f32 (f k).1)).setIfInBounds (k * 2 + 1) (.int .i64 (f k).2)) n (k + 1) f := by
  obtain ⟨hs, ha⟩ := h
  refine ⟨by simpa using hs, fun j hj => ?_⟩
  simp only [Array.getElem?_setIfInBounds, Array.size_setIfInBounds]
  by_cases e : j = k
  · subst e
    refine ⟨?_, ?_⟩
    · rw [if_neg (by omega), if_pos rfl, if_pos (by omega)]
    · rw [if_pos rfl, if_pos (by omega)]
  · obtain ⟨h0, h1⟩ := ha j (by omega)
    refine ⟨?_, ?_⟩
    · rw [if_neg (by omega), if_neg (by omega)]; exact h0
    · rw [if_neg (by omega), if_neg (by omega)]; exact h1
/-- What a copy is: a new block. -/
def OwnMl (w' : World) (b n : Nat) (f : Nat → Mm) : Prop := ∃ cs, w'.heap[b]? = some (.cells cs 42 (0, 0)) ∧ RowM cs n n f
theorem OwnMl.ins {w' : World} {b n : Nat} {f : Nat → Mm} (h : OwnMl w' b n f) : MmsIn w' b 0 n f := fun j hj => by
  obtain ⟨cs, hb, hr⟩ := h
  obtain ⟨h0, h1⟩ := hr.2 j hj
  have row : ∀ k, w'.cell? ⟨b, k, none⟩ = cs[k]? := fun k => cell_of_row w' b k _ _ _ hb
  rw [Nat.zero_add]
  exact ⟨(row _).trans h0, (row _).trans h1⟩
theorem OwnMl.below {w w' : World} {b n : Nat} {f : Nat → Mm} (h : OwnMl w b n f) (k : Below w.heap.size w w') : OwnMl w' b n f := by
  obtain ⟨cs, hb, hr⟩ := h
  exact ⟨cs, (k.block _ (heap_lt hb)).trans hb, hr⟩
theorem Try.info11M : (Try.prog.info? 42).map (fun i => (i.zero, i.size, i.bytes)) = some (some (.agg #[.float .f32 0, .int .i64 0]), 2, 16) := by kernel_rfl
set_option maxRecDepth 100000 in
set_option maxHeartbeats 2000000 in
theorem l_toM11 (f : Nat → Mm) (A : Option Addr) (g o n cap : Nat) (w : World) (hn : n ≤ 1048576) (hA : 0 < n → A = some ⟨g, o, none⟩) (hw : MmsIn w g o n f) :
    Calls Try.prog 42 #[.slice A n cap] w fun e w' => e = .returned (.slice (some ⟨w.heap.size, 0, none⟩) n n) ∧ OwnMl w' w.heap.size n f ∧ Below w.heap.size w w' := by
  have HW := Lib.hid hw
  clear hw
  obtain ⟨i, hi, hz⟩ := Option.map_eq_some_iff.1 Try.info11M
  simp only [Prod.mk.injEq] at hz
  obtain ⟨hz, hs, hb⟩ := hz
  have hmk := fun w : World => run_make (P := Try.prog) (w := w) 25 42 i _ Try.underlying25 hi hz .i64 .i64 (n : Int) (n : Int) (by omega) (Int.le_refl _) (by rw [hb]; omega) (by omega)
  simp only [Int.toNat_natCast, hs] at hmk
  have hm0 : (madeCells (Value.cells (.agg #[.float .f32 0, .int .i64 0])) (n * 2)).size = n * 2 := by simp [madeCells]
  generalize madeCells (Value.cells (.agg #[.float .f32 0, .int .i64 0])) (n * 2) = C at *
  clear hi hz hs hb
  have HM := Lib.hid hm0
  clear hm0
  go_enter Try.func42, Try.ntmps42
  go_wp2
  clear hmk
  go_loopw [4] (fun i wr => ∃ (k : Nat) (cs : Array Value), k ≤ n ∧ i = .int .i64 k ∧ wr.heap[w.heap.size]? = some (.cells cs 42 (0, 0)) ∧ RowM cs n k f ∧ Below w.heap.size w wr) (fun i _ => n - (intOf i).toNat)
  case atStart => exact ⟨0, _, Nat.zero_le _, rfl, heap_alloc_new w _, ⟨HM.out, fun j h => by omega⟩, (Below.refl _ w).alloc (Nat.le_refl _) _⟩
  case round =>
    obtain ⟨k, cs, hk, rfl, hb, hrow, hbel⟩ := hrel
    by_cases hlt : k < n
    · obtain rfl := hA (by omega)
      obtain ⟨x, hkk⟩ : ∃ x, f k = x := ⟨_, rfl⟩
      have hsr := HW.out.below hbel (Nat.le_refl _)
      obtain ⟨d0, d1⟩ := hsr.at hlt hkk
      have hnew := hrow.set hlt
      rw [hkk] at hnew
      have z1 : (k : Int) < (n : Int) := by omega
      have z0 : (0 : Int) ≤ (k : Int) := by omega
      have HH := Lib.hid (And.intro hb (And.intro hrow.1 (And.intro hnew hbel)))
      have HS := Lib.hid (fun w => l_mom x w)
      clear hb hrow hbel hsr hnew hkk
      go_wp2_with fail
      refine (HS.out _).mono ?_
      rintro e w3 ⟨rfl, b3⟩
      obtain ⟨hb, hcs, hnew, hbel⟩ := HH.out
      have hb3 := (b3.block _ (heap_lt hb)).trans hb
      have p0 := heap_set_self (k := k * 2) hb3 (.float .f32 x.1)
      have s0 := store_at (P := Try.prog) hb3 (k := k * 2) (n := n * 2) (hcs) (by omega) (.float .f32 x.1) rfl
      obtain ⟨_, e0, f0⟩ := cell_at hb3 (k := k * 2) (n := n * 2) (hcs) (by omega)
      have p1 := heap_set_self (k := k * 2 + 1) p0 (.int .i64 x.2)
      have s1 := store_at (P := Try.prog) p0 (k := k * 2 + 1) (n := n * 2) (by simpa using hcs) (by omega) (.int .i64 x.2) rfl
      obtain ⟨_, e1, f1⟩ := cell_at p0 (k := k * 2 + 1) (n := n * 2) (by simpa using hcs) (by omega)
      have bl := (set_bel11 (k := k * 2 + 1) (set_bel11 (k := k * 2) (hbel.trans (b3.mono hbel.size)) (Nat.le_refl _) (.float .f32 x.1)) (Nat.le_refl _) (.int .i64 x.2))
      have HN := Lib.hid (And.intro p1 (And.intro hnew bl))
      clear HH b3 hb hb3 hcs hnew hbel p0 p1 bl
      go_wp2
      go_roundw
      case rel => exact ⟨k + 1, _, by omega, by go_num, HN.out⟩
      case measure => simp [intOf]; omega
    · obtain rfl : k = n := by omega
      have hk1 : ¬ ((k : Int) < (k : Int)) := by omega
      have HN := Lib.hid (And.intro (show OwnMl wr w.heap.size k f from ⟨cs, hb, hrow⟩) hbel)
      clear hb hrow hbel
      go_wp2
      go_ret
      exact ⟨rfl, HN.out⟩
/-- Two lists that are alike. -/
def TwoM (w : World) (g o g' o' n : Nat) (f : Nat → Mm) (wr : World) : Prop := MmsIn wr g o n f ∧ MmsIn wr g' o' n f ∧ Below w.heap.size w wr
theorem TwoM.step {w w1 w2 : World} {g o g' o' n : Nat} {f : Nat → Mm} (h : TwoM w g o g' o' n f w1) (b : Below w1.heap.size w1 w2) : TwoM w g o g' o' n f w2 := ⟨h.1.below b (Nat.le_refl _), h.2.1.below b (Nat.le_refl _), h.2.2.trans (b.mono h.2.2.size)⟩
theorem TwoM.drew {w w1 : World} {g o g' o' n : Nat} {f : Nat → Mm} (h : TwoM w g o g' o' n f w1) : TwoM w g o g' o' n f w1.drew := ⟨h.1, h.2.1, h.2.2.drew⟩
set_option maxRecDepth 100000 in
set_option maxHeartbeats 2000000 in
theorem l_eqM11 (f : Nat → Mm) (A A' : Option Addr) (g o g' o' n cap cap' : Nat) (w : World) (hn : n ≤ 1048576) (hA : 0 < n → A = some ⟨g, o, none⟩) (hA' : 0 < n → A' = some ⟨g', o', none⟩) (hw : MmsIn w g o n f) (hw' : MmsIn w g' o' n f) (hf : ∀ j, j < n → MmWf (f j)) :
    Calls Try.prog 44 #[.slice A n cap, .slice A' n cap'] w fun e w' => e = .returned (.bool true) ∧ Below w.heap.size w w' := by
  have HW := Lib.hid (show TwoM w g o g' o' n f w from ⟨hw, hw', Below.refl _ _⟩)
  have HF := Lib.hid hf
  clear hw hw' hf
  have nn : ((n : Int) == (n : Int)) = true := by simp
  go_enter Try.func44, Try.ntmps44
  go_wp2
  go_loopw [5] (fun i wr => ∃ k : Nat, k ≤ n ∧ i = .int .i64 k ∧ TwoM w g o g' o' n f wr) (fun i _ => n - (intOf i).toNat)
  case atStart => exact ⟨0, Nat.zero_le _, rfl, HW.out⟩
  case round =>
    obtain ⟨k, hk, rfl, hst⟩ := hrel
    by_cases hlt : k < n
    · obtain rfl := hA (by omega)
      obtain rfl := hA' (by omega)
      obtain ⟨x, hkk⟩ : ∃ x, f k = x := ⟨_, rfl⟩
      have HK := Lib.hid hkk
      have wfx := HF.out k hlt
      rw [hkk] at wfx
      clear hkk
      have d0 := fun x : Held (fun wx => TwoM w g o g' o' n f wx) => (x.h.1.at hlt HK.out).1
      have c0 := fun x : Held (fun wx => TwoM w g o g' o' n f wx) => (x.h.2.1.at hlt HK.out).1
      have d1 := fun x : Held (fun wx => TwoM w g o g' o' n f wx) => (x.h.1.at hlt HK.out).2
      have c1 := fun x : Held (fun wx => TwoM w g o g' o' n f wx) => (x.h.2.1.at hlt HK.out).2
      have z1 : (k : Int) < (n : Int) := by omega
      have z0 : (0 : Int) ≤ (k : Int) := by omega
      have HS := Lib.hid (fun w => l_eqMm x w wfx)
      clear wfx
      go_wp2
      haveI hne : Nonempty (Held fun wx => TwoM w g o g' o' n f wx) := ⟨⟨_, hst⟩⟩
      refine wp_region_class (fun wx => TwoM w g o g' o' n f wx) (by kernel_rfl) (by kernel_rfl) (TwoM.drew hst) ?_
      repeat (go_big_quiet_step (first
        | (go_at_call 71; with_reducible exact held_call TwoM.step (HS.out _))))
      refine wpQuiet_nil ?_
      intro wy hw'
      obtain ⟨⟨wq, hst6⟩, rfl⟩ := hw'
      (try dsimp only)
      all_goals
        go_wp2_with fail
        go_roundw
        case rel => exact ⟨k + 1, by omega, by go_num, hst6⟩
        case measure => simp [intOf]; omega
    · obtain rfl : k = n := by omega
      have hk1 : ¬ ((k : Int) < (k : Int)) := by omega
      go_wp2
      go_ret
      exact ⟨rfl, hst.2.2⟩
/-- What a size leaves. -/
def SzM (l : Int) (n : Nat) (e : Ending) : Prop := ∃ r : Int, (r = -1 ∨ (0 ≤ r ∧ r = l - n)) ∧ e = .returned (.int .i64 r)
theorem l_szMm (A : Option Addr) (n cap : Nat) (l : Int) (w : World) (h0 : 0 ≤ l) (h9 : l ≤ 1048576) (hn : n ≤ 9223372036854775807) :
    Calls Try.prog 40 #[.slice A n cap, .int .i64 l] w fun e w' => SzM l n e ∧ w' = w := by
  by_cases h : (n : Int) ≤ l
  · have h1 : ¬ (l - (n : Int)) < 0 := by omega
    go_enter Try.func40, Try.ntmps40
    go_wp2
    go_ret
    exact ⟨⟨_, .inr ⟨by omega, rfl⟩, rfl⟩, rfl⟩
  · have h1 : (l - (n : Int)) < 0 := by omega
    go_enter Try.func40, Try.ntmps40
    go_wp2
    go_ret
    exact ⟨⟨_, .inl rfl, rfl⟩, rfl⟩
/-- What the sizes of sails leave. -/
def SzS (l : Int) (n : Nat) (e : Ending) : Prop := ∃ r : Int, (r = -1 ∨ (0 ≤ r ∧ r ≤ l - n)) ∧ e = .returned (.int .i64 r)
theorem l_szOne (s : Sl) (l : Int) (w : World) (hw : SlWf s) (h0 : 0 ≤ l) (h9 : l ≤ 1048576) :
    Calls Try.prog 32 #[.agg #[.string s.nm, .float .f32 s.lo, .float .f32 s.hi, .int .i64 s.fr, .int .i64 s.to], .int .i64 l] w fun e w' => SzM l s.nm.size e ∧ Below w.heap.size w w' := by
  obtain ⟨w1, _⟩ := hw
  have hs := Lib.hid (Bx1.new w #[.string s.nm, .float .f32 s.lo, .float .f32 s.hi, .int .i64 s.fr, .int .i64 s.to] 51)
  obtain ⟨c0, c1, c2, c3, c4⟩ := cells5 hs.out.1
  by_cases h : (s.nm.size : Int) ≤ l
  · have h1 : ¬ (l - (s.nm.size : Int)) < 0 := by omega
    go_enter Try.func32, Try.ntmps32
    go_wp2
    go_ret
    exact ⟨⟨_, .inr ⟨by omega, rfl⟩, rfl⟩, hs.out.2⟩
  · have h1 : (l - (s.nm.size : Int)) < 0 := by omega
    go_enter Try.func32, Try.ntmps32
    go_wp2
    go_ret
    exact ⟨⟨_, .inl rfl, rfl⟩, hs.out.2⟩
set_option maxRecDepth 100000 in
set_option maxHeartbeats 1000000 in
theorem l_szS11 (f : Nat → Sl) (l : Int) (A : Option Addr) (g o n cap : Nat) (w : World) (hn : n ≤ 9223372036854775807) (hA : 0 < n → A = some ⟨g, o, none⟩) (hw : SlsIn w g o n f) (hf : ∀ j, j < n → SlWf (f j)) (h0 : 0 ≤ l) (h9 : l ≤ 1048576) :
    Calls Try.prog 29 #[.slice A n cap, .int .i64 l] w fun e w' => SzS l n e ∧ Below w.heap.size w w' := by
  have HS := Lib.hid (show SoS w g o n f w from ⟨hw, Below.refl _ _⟩)
  have HF := Lib.hid hf
  clear hw hf
  by_cases h : (n : Int) ≤ l
  · have h1 : ¬ (l - (n : Int)) < 0 := by omega
    go_enter Try.func29, Try.ntmps29
    go_wp2
    go_loopw [1, 5] (fun z i wr => ∃ (k : Nat) (x : Int), k ≤ n ∧ i = .int .i64 k ∧ z = .int .i64 x ∧ (0 ≤ x ∧ x ≤ l - n) ∧ SoS w g o n f wr) (fun _ i _ => n - (intOf i).toNat)
    case atStart => exact ⟨0, _, Nat.zero_le _, rfl, rfl, by omega, HS.out⟩
    case round =>
      obtain ⟨k, x, hk, rfl, rfl, hx, hst⟩ := hrel
      clear h1
      by_cases hlt : k < n
      · obtain rfl := hA (by omega)
        have z1 : (k : Int) < (n : Int) := by omega
        have z0 : (0 : Int) ≤ (k : Int) := by omega
        obtain ⟨s, hs1⟩ : ∃ s, f k = s := ⟨_, rfl⟩
        obtain ⟨d0, d1, d2, d3, d4⟩ := hst.1.at hlt hs1
        have wfx := HF.out k hlt
        rw [hs1] at wfx
        have HC := Lib.hid (fun w => l_szOne s x w wfx (by omega) (by omega))
        have HST := Lib.hid hst
        clear hs1 wfx hst HS
        go_wp2_with fail
        refine (HC.out _).mono ?_
        rintro e w1 ⟨⟨r, hr, rfl⟩, b⟩
        have HST2 := Lib.hid (HST.out.step b)
        clear HST b d0 d1 d2 d3 d4
        rcases hr with rfl | ⟨r0, hr1⟩
        · go_wp2
          go_ret
          exact ⟨⟨_, .inl rfl, rfl⟩, HST2.out.2⟩
        · have r2 : ¬ r < 0 := by omega
          have HR := Lib.hid (show 0 ≤ r ∧ r ≤ l - n by omega)
          clear hr1
          go_wp2_with fail
          go_roundw
          case rel => exact ⟨k + 1, r, by omega, by go_num, rfl, HR.out, HST2.out⟩
          case measure => simp [intOf]; omega
      · obtain rfl : k = n := by omega
        have hk1 : ¬ ((k : Int) < (k : Int)) := by omega
        have HX := Lib.hid hx
        clear hx
        go_wp2
        go_ret
        exact ⟨⟨_, .inr HX.out, rfl⟩, hst.2⟩
  · have h1 : (l - (n : Int)) < 0 := by omega
    go_enter Try.func29, Try.ntmps29
    go_wp2
    go_ret
    exact ⟨⟨_, .inl rfl, rfl⟩, HS.out.2⟩
end Go.Proofs.Ytlliiecdadiagaa

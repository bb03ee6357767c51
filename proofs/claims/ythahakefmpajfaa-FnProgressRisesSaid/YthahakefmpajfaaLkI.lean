/- The laws' own copies of marks and courses; a course that comes into a law, opened. -/
import Derived.Test.YthahakefmpajfaaLkC
import Derived.Test.YthahakefmpajfaaLjL
import Derived.Lib.SmallJoins
import Derived.Deep.Slices
namespace Go.Proofs.Ythahakefmpajfaa
open Go.RowKit Go.ChangeShapes Go.WideShapes
set_option linter.unusedVariables false
set_option linter.unusedSimpArgs false

/-- A row of marks in cells, filled up to an index. -/
def MkRow (cs : Array Value) (n k : Nat) (f : Nat → Mk) : Prop := cs.size = n * 3 ∧ ∀ j, j < k → cs[j * 3]? = some (.int .i64 (f j).1.1) ∧ cs[j * 3 + 1]? = some (.int .i64 (f j).1.2) ∧ cs[j * 3 + 2]? = some (.bool (f j).2)
theorem MkRow.set {cs : Array Value} {n k : Nat} {f : Nat → Mk} (h : MkRow cs n k f) (hk : k < n) :
    MkRow (((cs.setIfInBounds (k * 3) (.int .i64 (f k).1.1)).setIfInBounds (k * 3 + 1) (.int .i64 (f k).1.2)).setIfInBounds (k * 3 + 2) (.bool (f k).2)) n (k + 1) f := by
  obtain ⟨hs, ha⟩ := h
  refine ⟨by simpa using hs, fun j hj => ?_⟩
  simp only [Array.getElem?_setIfInBounds, Array.size_setIfInBounds]
  by_cases e : j = k
  · subst e
    refine ⟨?_, ?_, ?_⟩
    · rw [if_neg (by omega), if_neg (by omega), if_pos rfl, if_pos (by omega)]
    · rw [if_neg (by omega), if_pos rfl, if_pos (by omega)]
    · rw [if_pos rfl, if_pos (by omega)]
  · obtain ⟨h1, h2, h3⟩ := ha j (by omega)
    refine ⟨?_, ?_, ?_⟩
    · rw [if_neg (by omega), if_neg (by omega), if_neg (by omega)]; exact h1
    · rw [if_neg (by omega), if_neg (by omega), if_neg (by omega)]; exact h2
    · rw [if_neg (by omega), if_neg (by omega), if_neg (by omega)]; exact h3
theorem MkRow.mks {w : World} {g n : Nat} {cs : Array Value} {t : TypeId} {f : Nat → Mk} (h : MkRow cs n n f) (hb : w.heap[g]? = some (.cells cs t (0, 0))) : MksIn w g 0 n f := fun j hj => by
  obtain ⟨h1, h2, h3⟩ := h.2 j hj
  have row : ∀ k, w.cell? ⟨g, k, none⟩ = cs[k]? := fun k => cell_of_row w g k _ _ _ hb
  rw [Nat.zero_add]
  exact ⟨(row _).trans h1, (row _).trans h2, (row _).trans h3⟩
/-- What a copy of marks is: a new block. -/
def MkOwn (w' : World) (b n : Nat) (f : Nat → Mk) : Prop := ∃ cs, w'.heap[b]? = some (.cells cs 88 (0, 0)) ∧ MkRow cs n n f
theorem MkOwn.mks {w' : World} {b n : Nat} {f : Nat → Mk} (h : MkOwn w' b n f) : MksIn w' b 0 n f := by
  obtain ⟨cs, hb, hr⟩ := h
  exact hr.mks hb
theorem MkOwn.below {w w' : World} {b n : Nat} {f : Nat → Mk} (h : MkOwn w b n f) (k : Below w.heap.size w w') : MkOwn w' b n f := by
  obtain ⟨cs, hb, hr⟩ := h
  exact ⟨cs, (k.block _ (heap_lt hb)).trans hb, hr⟩
theorem Try.infoMk : (Try.prog.info? 88).map (·.size) = some 3 := by kernel_rfl
set_option maxRecDepth 100000 in
set_option maxHeartbeats 2000000 in
theorem l_mark (s : Mk) (w : World) :
    Calls Try.prog 84 #[.agg #[.int .i64 s.1.1, .int .i64 s.1.2, .bool s.2]] w fun e w' => e = .returned (.agg #[.int .i64 s.1.1, .int .i64 s.1.2, .bool s.2]) ∧ Below w.heap.size w w' := by
  obtain ⟨⟨x1, x2⟩, x3⟩ := s
  dsimp only
  have hs := Lib.hid (Bx3.new w #[.int .i64 x1, .int .i64 x2, .bool x3] 119 #[.int .i64 0, .int .i64 0, .bool false] 88 #[.int .i64 0, .int .i64 0, .bool false] 88)
  obtain ⟨c0, c1, c2⟩ := cells3 hs.out.1
  go_enter Try.func84, Try.ntmps84
  go_wp2_with fail
  refine (l_place (x1, x2) _).mono ?_
  rintro e w1 ⟨rfl, b1⟩
  have hs1 := Lib.hid (Bx3.step hs.out b1)
  clear hs b1 c0 c1 c2
  have hp0 := heap_set_self (k := 0) hs1.out.2.2.1 (.int .i64 x1)
  have hp1 := heap_set_self (k := 1) hp0 (.int .i64 x2)
  have hp2 := heap_set_self (k := 2) hp1 (.bool x3)
  obtain ⟨v0, e0, f0⟩ := cell_at hs1.out.2.2.1 (k := 0) rfl (show 0 < 3 by omega)
  obtain ⟨v1, e1, f1⟩ := cell_at hp0 (k := 1) rfl (show 1 < 3 by omega)
  obtain ⟨v2, e2, f2⟩ := cell_at hp1 (k := 2) rfl (show 2 < 3 by omega)
  have r0 := set_oth (k := 1) (set_oth (k := 0) hs1.out.1 (show w.heap.size ≠ w.heap.size + 2 by omega) (.int .i64 x1)) (show w.heap.size ≠ w.heap.size + 2 by omega) (.int .i64 x2)
  have r1 := set_oth (k := 2) (set_oth (k := 1) (set_oth (k := 0) hs1.out.2.1 (show w.heap.size + 1 ≠ w.heap.size + 2 by omega) (.int .i64 x1)) (show w.heap.size + 1 ≠ w.heap.size + 2 by omega) (.int .i64 x2)) (show w.heap.size + 1 ≠ w.heap.size + 2 by omega) (.bool x3)
  have bl := set_bel (k := 2) (set_bel (k := 1) (set_bel (k := 0) hs1.out.2.2.2 (show w.heap.size ≤ w.heap.size + 2 by omega) (.int .i64 x1)) (show w.heap.size ≤ w.heap.size + 2 by omega) (.int .i64 x2)) (show w.heap.size ≤ w.heap.size + 2 by omega) (.bool x3)
  obtain ⟨c0, c1, c2⟩ := cells3 r0
  have hp3 : (((w1.setCell ⟨w.heap.size + 2, 0, none⟩ (.int .i64 x1)).setCell ⟨w.heap.size + 2, 1, none⟩ (.int .i64 x2)).setCell ⟨w.heap.size + 2, 2, none⟩ (.bool x3)).heap[w.heap.size + 2]? = some (.cells #[.int .i64 x1, .int .i64 x2, .bool x3] 88 (0, 0)) := hp2
  obtain ⟨d0, d1, d2⟩ := cells3 hp3
  have S3 := Lib.hid (st3 r1 (.int .i64 x1) (.int .i64 x2) (.bool x3))
  obtain ⟨⟨_, g0, h0⟩, ⟨_, g1, h1⟩, _, g2, h2⟩ := S3.out.1
  have HB := Lib.hid (below_cur bl (Nat.le_refl _) S3.out.2.2 (show w.heap.size ≤ w.heap.size + 1 by omega))
  clear hp0 hp1 hp2 hp3 r0 r1 bl hs1
  go_wp2
  exact bodyPost_ret (v := .agg #[.int .i64 x1, .int .i64 x2, .bool x3]) (results_cell_row (p := 2) (ty := 88) (by rfl) _ _ (w.heap.size + 1) _ #[.int .i64 x1, .int .i64 x2, .bool x3] (0, 0) _ (by rfl) S3.out.2.1 Try.underlying88 rfl Try.infoMk) rfl
    ⟨rfl, HB.out⟩
theorem Try.infoMk5 : (Try.prog.info? 88).map (fun i => (i.zero, i.size, i.bytes)) = some (some (.agg #[.int .i64 0, .int .i64 0, .bool false]), 3, 24) := by kernel_rfl
set_option maxRecDepth 100000 in
set_option maxHeartbeats 2000000 in
theorem l_toM (f : Nat → Mk) (A : Option Addr) (g o n cap : Nat) (w : World) (hn : n ≤ 1048576) (hA : 0 < n → A = some ⟨g, o, none⟩) (hw : MksIn w g o n f) :
    Calls Try.prog 62 #[.slice A n cap] w fun e w' => e = .returned (.slice (some ⟨w.heap.size, 0, none⟩) n n) ∧ MkOwn w' w.heap.size n f ∧ Below w.heap.size w w' := by
  have HW := Lib.hid hw
  clear hw
  obtain ⟨i, hi, hz⟩ := Option.map_eq_some_iff.1 Try.infoMk5
  simp only [Prod.mk.injEq] at hz
  obtain ⟨hz, hs, hb⟩ := hz
  have hmk := fun w : World => run_make (P := Try.prog) (w := w) 34 88 i _ Try.underlying34 hi hz .i64 .i64 (n : Int) (n : Int) (by omega) (Int.le_refl _) (by rw [hb]; omega) (by omega)
  simp only [Int.toNat_natCast, hs] at hmk
  have hm0 : (madeCells (Value.agg #[.int .i64 0, .int .i64 0, .bool false]).cells (n * 3)).size = n * 3 := by simp [madeCells]
  generalize madeCells (Value.agg #[.int .i64 0, .int .i64 0, .bool false]).cells (n * 3) = C at *
  clear hi hz hs hb
  have HM := Lib.hid hm0
  clear hm0
  go_enter Try.func62, Try.ntmps62
  go_wp2
  clear hmk
  go_loopw [4] (fun i wr => ∃ (k : Nat) (cs : Array Value), k ≤ n ∧ i = .int .i64 k ∧ wr.heap[w.heap.size]? = some (.cells cs 88 (0, 0)) ∧ MkRow cs n k f ∧ Below w.heap.size w wr) (fun i _ => n - (intOf i).toNat)
  case atStart => exact ⟨0, _, Nat.zero_le _, rfl, heap_alloc_new w _, ⟨HM.out, fun j h => by omega⟩, (Below.refl _ w).alloc (Nat.le_refl _) _⟩
  case round =>
    obtain ⟨k, cs, hk, rfl, hb, hrow, hbel⟩ := hrel
    by_cases hlt : k < n
    · obtain rfl := hA (by omega)
      obtain ⟨⟨⟨x, y⟩, z⟩, hkk⟩ : ∃ s, f k = s := ⟨_, rfl⟩
      have hsr := HW.out.below hbel (Nat.le_refl _)
      have d0 : wr.cell? ⟨g, o + k * 3, none⟩ = some (.int .i64 x) := by have := (hsr k hlt).1; rw [hkk] at this; exact this
      have d1 : wr.cell? ⟨g, o + k * 3 + 1, none⟩ = some (.int .i64 y) := by have := (hsr k hlt).2.1; rw [hkk] at this; exact this
      have d2 : wr.cell? ⟨g, o + k * 3 + 2, none⟩ = some (.bool z) := by have := (hsr k hlt).2.2; rw [hkk] at this; exact this
      have hnew := hrow.set hlt
      rw [hkk] at hnew
      dsimp only at hnew
      have z1 : (k : Int) < (n : Int) := by omega
      have z0 : (0 : Int) ≤ (k : Int) := by omega
      have HH := Lib.hid (And.intro hb (And.intro hrow.1 (And.intro hnew hbel)))
      have HS := Lib.hid (fun w => l_mark ((x, y), z) w)
      clear hb hrow hbel hsr hnew hkk
      go_wp2_with fail
      refine (HS.out _).mono ?_
      rintro e w3 ⟨rfl, b3⟩
      obtain ⟨hb, hcs, hnew, hbel⟩ := HH.out
      have hb3 := (b3.block _ (heap_lt hb)).trans hb
      have p0 := heap_set_self (k := k * 3) hb3 (.int .i64 x)
      have p1 := heap_set_self (k := k * 3 + 1) p0 (.int .i64 y)
      have p2 := heap_set_self (k := k * 3 + 2) p1 (.bool z)
      obtain ⟨_, e0, f0⟩ := cell_at hb3 (k := k * 3) hcs (show k * 3 < n * 3 by omega)
      obtain ⟨_, e1, f1⟩ := cell_at p0 (k := k * 3 + 1) (n := n * 3) (by simpa using hcs) (by omega)
      obtain ⟨_, e2, f2⟩ := cell_at p1 (k := k * 3 + 2) (n := n * 3) (by simpa using hcs) (by omega)
      have bl := set_bel (k := k * 3 + 2) (set_bel (k := k * 3 + 1) (set_bel (k := k * 3) (hbel.trans (b3.mono hbel.size)) (Nat.le_refl _) (.int .i64 x)) (Nat.le_refl _) (.int .i64 y)) (Nat.le_refl _) (.bool z)
      have HN := Lib.hid (And.intro p2 (And.intro hnew bl))
      clear HH b3 hb hb3 hcs hnew hbel p0 p1 p2 bl
      go_wp2
      go_roundw
      case rel => exact ⟨k + 1, _, by omega, by go_num, HN.out⟩
      case measure => simp [intOf]; omega
    · obtain rfl : k = n := by omega
      have hk1 : ¬ ((k : Int) < (k : Int)) := by omega
      have HN := Lib.hid (And.intro (show MkOwn wr w.heap.size k f from ⟨cs, hb, hrow⟩) hbel)
      clear hb hrow hbel
      go_wp2
      go_ret
      exact ⟨rfl, HN.out⟩
theorem Try.infoCo : (Try.prog.info? 36).map (·.size) = some 9 := by kernel_rfl
set_option maxRecDepth 100000 in
set_option maxHeartbeats 4000000 in
theorem l_course (c : Crs) (A : Option Addr) (g o cap : Nat) (w : World) (hn : c.n ≤ 1048576) (hA : 0 < c.n → A = some ⟨g, o, none⟩) (hw : MksIn w g o c.n c.mf) :
    Calls Try.prog 24 #[.agg #[.int .i64 c.st.1.1, .int .i64 c.st.1.2, .int .i64 c.st.2.1, .int .i64 c.st.2.2, .slice A c.n cap, .int .i64 c.fi.1.1, .int .i64 c.fi.1.2, .int .i64 c.fi.2.1, .int .i64 c.fi.2.2]] w
      fun e w' => ∃ b, w.heap.size ≤ b ∧ e = .returned (.agg #[.int .i64 c.st.1.1, .int .i64 c.st.1.2, .int .i64 c.st.2.1, .int .i64 c.st.2.2, .slice (some ⟨b, 0, none⟩) c.n c.n, .int .i64 c.fi.1.1, .int .i64 c.fi.1.2, .int .i64 c.fi.2.1, .int .i64 c.fi.2.2]) ∧ MkOwn w' b c.n c.mf ∧ Below w.heap.size w w' := by
  obtain ⟨⟨⟨x1, x2⟩, x3, x4⟩, n, f, ⟨t1, t2⟩, t3, t4⟩ := c
  dsimp only at *
  have hw0 := Lib.hid hw
  have hs := Lib.hid (Bx3.new w #[.int .i64 x1, .int .i64 x2, .int .i64 x3, .int .i64 x4, .slice A n cap, .int .i64 t1, .int .i64 t2, .int .i64 t3, .int .i64 t4] 50 #[.int .i64 0, .int .i64 0, .int .i64 0, .int .i64 0, .slice none 0 0, .int .i64 0, .int .i64 0, .int .i64 0, .int .i64 0] 36 #[.int .i64 0, .int .i64 0, .int .i64 0, .int .i64 0, .slice none 0 0, .int .i64 0, .int .i64 0, .int .i64 0, .int .i64 0] 36)
  have hm := Lib.hid (hw.below hs.out.2.2.2 (Nat.le_refl _))
  clear hw
  obtain ⟨e0, e1, e2, e3, e4, e5, e6, e7, e8⟩ := cells9 hs.out.1
  go_enter Try.func24, Try.ntmps24
  go_wp2_with fail
  refine (l_line ((x1, x2), x3, x4) _).mono ?_
  rintro e w1 ⟨rfl, b1⟩
  have hs1 := Lib.hid (Bx3.step hs.out b1)
  have hm1 := Lib.hid (hm.out.below b1 (Nat.le_refl _))
  clear hs b1 hm e0 e1 e2 e3 e4 e5 e6 e7 e8
  obtain ⟨_, ax0, ay0⟩ := cell_at hs1.out.2.2.1 (k := 0) (n := 9) rfl (show 0 < 9 by omega)
  have ap0 : (w1.setCell ⟨w.heap.size + 2, 0, none⟩ (.int .i64 x1)).heap[w.heap.size + 2]? = some (.cells #[.int .i64 x1, .int .i64 0, .int .i64 0, .int .i64 0, .slice none 0 0, .int .i64 0, .int .i64 0, .int .i64 0, .int .i64 0] 36 (0, 0)) := heap_set_self (k := 0) hs1.out.2.2.1 (.int .i64 x1)
  obtain ⟨_, ax1, ay1⟩ := cell_at ap0 (k := 1) (n := 9) rfl (show 1 < 9 by omega)
  have ap1 : ((w1.setCell ⟨w.heap.size + 2, 0, none⟩ (.int .i64 x1)).setCell ⟨w.heap.size + 2, 1, none⟩ (.int .i64 x2)).heap[w.heap.size + 2]? = some (.cells #[.int .i64 x1, .int .i64 x2, .int .i64 0, .int .i64 0, .slice none 0 0, .int .i64 0, .int .i64 0, .int .i64 0, .int .i64 0] 36 (0, 0)) := heap_set_self (k := 1) ap0 (.int .i64 x2)
  obtain ⟨_, ax2, ay2⟩ := cell_at ap1 (k := 2) (n := 9) rfl (show 2 < 9 by omega)
  have ap2 : (((w1.setCell ⟨w.heap.size + 2, 0, none⟩ (.int .i64 x1)).setCell ⟨w.heap.size + 2, 1, none⟩ (.int .i64 x2)).setCell ⟨w.heap.size + 2, 2, none⟩ (.int .i64 x3)).heap[w.heap.size + 2]? = some (.cells #[.int .i64 x1, .int .i64 x2, .int .i64 x3, .int .i64 0, .slice none 0 0, .int .i64 0, .int .i64 0, .int .i64 0, .int .i64 0] 36 (0, 0)) := heap_set_self (k := 2) ap1 (.int .i64 x3)
  obtain ⟨_, ax3, ay3⟩ := cell_at ap2 (k := 3) (n := 9) rfl (show 3 < 9 by omega)
  have ap3 : ((((w1.setCell ⟨w.heap.size + 2, 0, none⟩ (.int .i64 x1)).setCell ⟨w.heap.size + 2, 1, none⟩ (.int .i64 x2)).setCell ⟨w.heap.size + 2, 2, none⟩ (.int .i64 x3)).setCell ⟨w.heap.size + 2, 3, none⟩ (.int .i64 x4)).heap[w.heap.size + 2]? = some (.cells #[.int .i64 x1, .int .i64 x2, .int .i64 x3, .int .i64 x4, .slice none 0 0, .int .i64 0, .int .i64 0, .int .i64 0, .int .i64 0] 36 (0, 0)) := heap_set_self (k := 3) ap2 (.int .i64 x4)
  have r0 := (set_oth (k := 3) (set_oth (k := 2) (set_oth (k := 1) (set_oth (k := 0) hs1.out.1 (show w.heap.size ≠ w.heap.size + 2 by omega) (.int .i64 x1)) (show w.heap.size ≠ w.heap.size + 2 by omega) (.int .i64 x2)) (show w.heap.size ≠ w.heap.size + 2 by omega) (.int .i64 x3)) (show w.heap.size ≠ w.heap.size + 2 by omega) (.int .i64 x4))
  have r1 := (set_oth (k := 3) (set_oth (k := 2) (set_oth (k := 1) (set_oth (k := 0) hs1.out.2.1 (show w.heap.size + 1 ≠ w.heap.size + 2 by omega) (.int .i64 x1)) (show w.heap.size + 1 ≠ w.heap.size + 2 by omega) (.int .i64 x2)) (show w.heap.size + 1 ≠ w.heap.size + 2 by omega) (.int .i64 x3)) (show w.heap.size + 1 ≠ w.heap.size + 2 by omega) (.int .i64 x4))
  have bl := (set_bel (k := 3) (set_bel (k := 2) (set_bel (k := 1) (set_bel (k := 0) hs1.out.2.2.2 (show w.heap.size ≤ w.heap.size + 2 by omega) (.int .i64 x1)) (show w.heap.size ≤ w.heap.size + 2 by omega) (.int .i64 x2)) (show w.heap.size ≤ w.heap.size + 2 by omega) (.int .i64 x3)) (show w.heap.size ≤ w.heap.size + 2 by omega) (.int .i64 x4))
  have hm2 := Lib.hid (hw0.out.below bl (Nat.le_refl _))
  obtain ⟨e0, e1, e2, e3, e4, e5, e6, e7, e8⟩ := cells9 r0
  have HN := Lib.hid (And.intro r0 (And.intro r1 (And.intro ap3 bl)))
  clear hs1 hm1 r0 r1 bl ap0 ap1 ap2 ap3
  go_wp2_with fail
  refine (l_toM f A g o n cap _ hn hA hm2.out).mono ?_
  rintro e w2 ⟨rfl, own, b2⟩
  have q0 := (b2.block w.heap.size (heap_lt HN.out.1)).trans HN.out.1
  have q1 := (b2.block (w.heap.size + 1) (heap_lt HN.out.2.1)).trans HN.out.2.1
  have q2 := (b2.block (w.heap.size + 2) (heap_lt HN.out.2.2.1)).trans HN.out.2.2.1
  have bm := HN.out.2.2.2.trans (b2.mono HN.out.2.2.2.size)
  have hbs : w.heap.size + 2 < ((((w1.setCell ⟨w.heap.size + 2, 0, none⟩ (.int .i64 x1)).setCell ⟨w.heap.size + 2, 1, none⟩ (.int .i64 x2)).setCell ⟨w.heap.size + 2, 2, none⟩ (.int .i64 x3)).setCell ⟨w.heap.size + 2, 3, none⟩ (.int .i64 x4)).heap.size := heap_lt HN.out.2.2.1
  have hsz2 := b2.size
  generalize hb : ((((w1.setCell ⟨w.heap.size + 2, 0, none⟩ (.int .i64 x1)).setCell ⟨w.heap.size + 2, 1, none⟩ (.int .i64 x2)).setCell ⟨w.heap.size + 2, 2, none⟩ (.int .i64 x3)).setCell ⟨w.heap.size + 2, 3, none⟩ (.int .i64 x4)).heap.size = b at *
  clear b2 HN hm2 hb e0 e1 e2 e3 e4 e5 e6 e7 e8 ax0 ay0 ax1 ay1 ax2 ay2 ax3 ay3
  obtain ⟨_, bx4, by4⟩ := cell_at q2 (k := 4) (n := 9) rfl (show 4 < 9 by omega)
  have bp4 : (w2.setCell ⟨w.heap.size + 2, 4, none⟩ (.slice (some ⟨b, 0, none⟩) n n)).heap[w.heap.size + 2]? = some (.cells #[.int .i64 x1, .int .i64 x2, .int .i64 x3, .int .i64 x4, .slice (some ⟨b, 0, none⟩) n n, .int .i64 0, .int .i64 0, .int .i64 0, .int .i64 0] 36 (0, 0)) := heap_set_self (k := 4) q2 (.slice (some ⟨b, 0, none⟩) n n)
  have r0 := (set_oth (k := 4) q0 (show w.heap.size ≠ w.heap.size + 2 by omega) (.slice (some ⟨b, 0, none⟩) n n))
  have r1 := (set_oth (k := 4) q1 (show w.heap.size + 1 ≠ w.heap.size + 2 by omega) (.slice (some ⟨b, 0, none⟩) n n))
  have bl := (set_bel (k := 4) bm (show w.heap.size ≤ w.heap.size + 2 by omega) (.slice (some ⟨b, 0, none⟩) n n))
  have own1 : MkOwn (w2.setCell ⟨w.heap.size + 2, 4, none⟩ (.slice (some ⟨b, 0, none⟩) n n)) b n f := by
    obtain ⟨cs, h1, h2⟩ := own
    exact ⟨cs, set_oth h1 (by omega) _, h2⟩
  obtain ⟨e0, e1, e2, e3, e4, e5, e6, e7, e8⟩ := cells9 r0
  have HN := Lib.hid (And.intro r0 (And.intro r1 (And.intro bp4 (And.intro bl own1))))
  clear r0 r1 bl own own1 q0 q1 q2 bm bp4
  go_wp2_with fail
  refine (l_line ((t1, t2), t3, t4) _).mono ?_
  rintro e w3 ⟨rfl, b2⟩
  have q0 := (b2.block w.heap.size (heap_lt HN.out.1)).trans HN.out.1
  have q1 := (b2.block (w.heap.size + 1) (heap_lt HN.out.2.1)).trans HN.out.2.1
  have q2 := (b2.block (w.heap.size + 2) (heap_lt HN.out.2.2.1)).trans HN.out.2.2.1
  have bm := HN.out.2.2.2.1.trans (b2.mono HN.out.2.2.2.1.size)
  have own := HN.out.2.2.2.2.below b2
  clear b2 HN hsz2 e0 e1 e2 e3 e4 e5 e6 e7 e8 bx4 by4
  obtain ⟨_, cx5, cy5⟩ := cell_at q2 (k := 5) (n := 9) rfl (show 5 < 9 by omega)
  have cp5 : (w3.setCell ⟨w.heap.size + 2, 5, none⟩ (.int .i64 t1)).heap[w.heap.size + 2]? = some (.cells #[.int .i64 x1, .int .i64 x2, .int .i64 x3, .int .i64 x4, .slice (some ⟨b, 0, none⟩) n n, .int .i64 t1, .int .i64 0, .int .i64 0, .int .i64 0] 36 (0, 0)) := heap_set_self (k := 5) q2 (.int .i64 t1)
  obtain ⟨_, cx6, cy6⟩ := cell_at cp5 (k := 6) (n := 9) rfl (show 6 < 9 by omega)
  have cp6 : ((w3.setCell ⟨w.heap.size + 2, 5, none⟩ (.int .i64 t1)).setCell ⟨w.heap.size + 2, 6, none⟩ (.int .i64 t2)).heap[w.heap.size + 2]? = some (.cells #[.int .i64 x1, .int .i64 x2, .int .i64 x3, .int .i64 x4, .slice (some ⟨b, 0, none⟩) n n, .int .i64 t1, .int .i64 t2, .int .i64 0, .int .i64 0] 36 (0, 0)) := heap_set_self (k := 6) cp5 (.int .i64 t2)
  obtain ⟨_, cx7, cy7⟩ := cell_at cp6 (k := 7) (n := 9) rfl (show 7 < 9 by omega)
  have cp7 : (((w3.setCell ⟨w.heap.size + 2, 5, none⟩ (.int .i64 t1)).setCell ⟨w.heap.size + 2, 6, none⟩ (.int .i64 t2)).setCell ⟨w.heap.size + 2, 7, none⟩ (.int .i64 t3)).heap[w.heap.size + 2]? = some (.cells #[.int .i64 x1, .int .i64 x2, .int .i64 x3, .int .i64 x4, .slice (some ⟨b, 0, none⟩) n n, .int .i64 t1, .int .i64 t2, .int .i64 t3, .int .i64 0] 36 (0, 0)) := heap_set_self (k := 7) cp6 (.int .i64 t3)
  obtain ⟨_, cx8, cy8⟩ := cell_at cp7 (k := 8) (n := 9) rfl (show 8 < 9 by omega)
  have cp8 : ((((w3.setCell ⟨w.heap.size + 2, 5, none⟩ (.int .i64 t1)).setCell ⟨w.heap.size + 2, 6, none⟩ (.int .i64 t2)).setCell ⟨w.heap.size + 2, 7, none⟩ (.int .i64 t3)).setCell ⟨w.heap.size + 2, 8, none⟩ (.int .i64 t4)).heap[w.heap.size + 2]? = some (.cells #[.int .i64 x1, .int .i64 x2, .int .i64 x3, .int .i64 x4, .slice (some ⟨b, 0, none⟩) n n, .int .i64 t1, .int .i64 t2, .int .i64 t3, .int .i64 t4] 36 (0, 0)) := heap_set_self (k := 8) cp7 (.int .i64 t4)
  have r1 := (set_oth (k := 8) (set_oth (k := 7) (set_oth (k := 6) (set_oth (k := 5) q1 (show w.heap.size + 1 ≠ w.heap.size + 2 by omega) (.int .i64 t1)) (show w.heap.size + 1 ≠ w.heap.size + 2 by omega) (.int .i64 t2)) (show w.heap.size + 1 ≠ w.heap.size + 2 by omega) (.int .i64 t3)) (show w.heap.size + 1 ≠ w.heap.size + 2 by omega) (.int .i64 t4))
  have bl := (set_bel (k := 8) (set_bel (k := 7) (set_bel (k := 6) (set_bel (k := 5) bm (show w.heap.size ≤ w.heap.size + 2 by omega) (.int .i64 t1)) (show w.heap.size ≤ w.heap.size + 2 by omega) (.int .i64 t2)) (show w.heap.size ≤ w.heap.size + 2 by omega) (.int .i64 t3)) (show w.heap.size ≤ w.heap.size + 2 by omega) (.int .i64 t4))
  have own1 : MkOwn ((((w3.setCell ⟨w.heap.size + 2, 5, none⟩ (.int .i64 t1)).setCell ⟨w.heap.size + 2, 6, none⟩ (.int .i64 t2)).setCell ⟨w.heap.size + 2, 7, none⟩ (.int .i64 t3)).setCell ⟨w.heap.size + 2, 8, none⟩ (.int .i64 t4)) b n f := by
    obtain ⟨cs, h1, h2⟩ := own
    exact ⟨cs, set_oth (set_oth (set_oth (set_oth h1 (by omega) _) (by omega) _) (by omega) _) (by omega) _, h2⟩
  obtain ⟨e0, e1, e2, e3, e4, e5, e6, e7, e8⟩ := cells9 cp8
  have HWW := Lib.hid (And.intro own1 bl)
  clear own own1 bl q0 q1 q2 bm cp5 cp6 cp7 cp8
  obtain ⟨_, dx0, dy0⟩ := cell_at r1 (k := 0) (n := 9) rfl (show 0 < 9 by omega)
  have dp0 : (((((w3.setCell ⟨w.heap.size + 2, 5, none⟩ (.int .i64 t1)).setCell ⟨w.heap.size + 2, 6, none⟩ (.int .i64 t2)).setCell ⟨w.heap.size + 2, 7, none⟩ (.int .i64 t3)).setCell ⟨w.heap.size + 2, 8, none⟩ (.int .i64 t4)).setCell ⟨w.heap.size + 1, 0, none⟩ (.int .i64 x1)).heap[w.heap.size + 1]? = some (.cells #[.int .i64 x1, .int .i64 0, .int .i64 0, .int .i64 0, .slice none 0 0, .int .i64 0, .int .i64 0, .int .i64 0, .int .i64 0] 36 (0, 0)) := heap_set_self (k := 0) r1 (.int .i64 x1)
  obtain ⟨_, dx1, dy1⟩ := cell_at dp0 (k := 1) (n := 9) rfl (show 1 < 9 by omega)
  have dp1 : ((((((w3.setCell ⟨w.heap.size + 2, 5, none⟩ (.int .i64 t1)).setCell ⟨w.heap.size + 2, 6, none⟩ (.int .i64 t2)).setCell ⟨w.heap.size + 2, 7, none⟩ (.int .i64 t3)).setCell ⟨w.heap.size + 2, 8, none⟩ (.int .i64 t4)).setCell ⟨w.heap.size + 1, 0, none⟩ (.int .i64 x1)).setCell ⟨w.heap.size + 1, 1, none⟩ (.int .i64 x2)).heap[w.heap.size + 1]? = some (.cells #[.int .i64 x1, .int .i64 x2, .int .i64 0, .int .i64 0, .slice none 0 0, .int .i64 0, .int .i64 0, .int .i64 0, .int .i64 0] 36 (0, 0)) := heap_set_self (k := 1) dp0 (.int .i64 x2)
  obtain ⟨_, dx2, dy2⟩ := cell_at dp1 (k := 2) (n := 9) rfl (show 2 < 9 by omega)
  have dp2 : (((((((w3.setCell ⟨w.heap.size + 2, 5, none⟩ (.int .i64 t1)).setCell ⟨w.heap.size + 2, 6, none⟩ (.int .i64 t2)).setCell ⟨w.heap.size + 2, 7, none⟩ (.int .i64 t3)).setCell ⟨w.heap.size + 2, 8, none⟩ (.int .i64 t4)).setCell ⟨w.heap.size + 1, 0, none⟩ (.int .i64 x1)).setCell ⟨w.heap.size + 1, 1, none⟩ (.int .i64 x2)).setCell ⟨w.heap.size + 1, 2, none⟩ (.int .i64 x3)).heap[w.heap.size + 1]? = some (.cells #[.int .i64 x1, .int .i64 x2, .int .i64 x3, .int .i64 0, .slice none 0 0, .int .i64 0, .int .i64 0, .int .i64 0, .int .i64 0] 36 (0, 0)) := heap_set_self (k := 2) dp1 (.int .i64 x3)
  obtain ⟨_, dx3, dy3⟩ := cell_at dp2 (k := 3) (n := 9) rfl (show 3 < 9 by omega)
  have dp3 : ((((((((w3.setCell ⟨w.heap.size + 2, 5, none⟩ (.int .i64 t1)).setCell ⟨w.heap.size + 2, 6, none⟩ (.int .i64 t2)).setCell ⟨w.heap.size + 2, 7, none⟩ (.int .i64 t3)).setCell ⟨w.heap.size + 2, 8, none⟩ (.int .i64 t4)).setCell ⟨w.heap.size + 1, 0, none⟩ (.int .i64 x1)).setCell ⟨w.heap.size + 1, 1, none⟩ (.int .i64 x2)).setCell ⟨w.heap.size + 1, 2, none⟩ (.int .i64 x3)).setCell ⟨w.heap.size + 1, 3, none⟩ (.int .i64 x4)).heap[w.heap.size + 1]? = some (.cells #[.int .i64 x1, .int .i64 x2, .int .i64 x3, .int .i64 x4, .slice none 0 0, .int .i64 0, .int .i64 0, .int .i64 0, .int .i64 0] 36 (0, 0)) := heap_set_self (k := 3) dp2 (.int .i64 x4)
  obtain ⟨_, dx4, dy4⟩ := cell_at dp3 (k := 4) (n := 9) rfl (show 4 < 9 by omega)
  have dp4 : (((((((((w3.setCell ⟨w.heap.size + 2, 5, none⟩ (.int .i64 t1)).setCell ⟨w.heap.size + 2, 6, none⟩ (.int .i64 t2)).setCell ⟨w.heap.size + 2, 7, none⟩ (.int .i64 t3)).setCell ⟨w.heap.size + 2, 8, none⟩ (.int .i64 t4)).setCell ⟨w.heap.size + 1, 0, none⟩ (.int .i64 x1)).setCell ⟨w.heap.size + 1, 1, none⟩ (.int .i64 x2)).setCell ⟨w.heap.size + 1, 2, none⟩ (.int .i64 x3)).setCell ⟨w.heap.size + 1, 3, none⟩ (.int .i64 x4)).setCell ⟨w.heap.size + 1, 4, none⟩ (.slice (some ⟨b, 0, none⟩) n n)).heap[w.heap.size + 1]? = some (.cells #[.int .i64 x1, .int .i64 x2, .int .i64 x3, .int .i64 x4, .slice (some ⟨b, 0, none⟩) n n, .int .i64 0, .int .i64 0, .int .i64 0, .int .i64 0] 36 (0, 0)) := heap_set_self (k := 4) dp3 (.slice (some ⟨b, 0, none⟩) n n)
  obtain ⟨_, dx5, dy5⟩ := cell_at dp4 (k := 5) (n := 9) rfl (show 5 < 9 by omega)
  have dp5 : ((((((((((w3.setCell ⟨w.heap.size + 2, 5, none⟩ (.int .i64 t1)).setCell ⟨w.heap.size + 2, 6, none⟩ (.int .i64 t2)).setCell ⟨w.heap.size + 2, 7, none⟩ (.int .i64 t3)).setCell ⟨w.heap.size + 2, 8, none⟩ (.int .i64 t4)).setCell ⟨w.heap.size + 1, 0, none⟩ (.int .i64 x1)).setCell ⟨w.heap.size + 1, 1, none⟩ (.int .i64 x2)).setCell ⟨w.heap.size + 1, 2, none⟩ (.int .i64 x3)).setCell ⟨w.heap.size + 1, 3, none⟩ (.int .i64 x4)).setCell ⟨w.heap.size + 1, 4, none⟩ (.slice (some ⟨b, 0, none⟩) n n)).setCell ⟨w.heap.size + 1, 5, none⟩ (.int .i64 t1)).heap[w.heap.size + 1]? = some (.cells #[.int .i64 x1, .int .i64 x2, .int .i64 x3, .int .i64 x4, .slice (some ⟨b, 0, none⟩) n n, .int .i64 t1, .int .i64 0, .int .i64 0, .int .i64 0] 36 (0, 0)) := heap_set_self (k := 5) dp4 (.int .i64 t1)
  obtain ⟨_, dx6, dy6⟩ := cell_at dp5 (k := 6) (n := 9) rfl (show 6 < 9 by omega)
  have dp6 : (((((((((((w3.setCell ⟨w.heap.size + 2, 5, none⟩ (.int .i64 t1)).setCell ⟨w.heap.size + 2, 6, none⟩ (.int .i64 t2)).setCell ⟨w.heap.size + 2, 7, none⟩ (.int .i64 t3)).setCell ⟨w.heap.size + 2, 8, none⟩ (.int .i64 t4)).setCell ⟨w.heap.size + 1, 0, none⟩ (.int .i64 x1)).setCell ⟨w.heap.size + 1, 1, none⟩ (.int .i64 x2)).setCell ⟨w.heap.size + 1, 2, none⟩ (.int .i64 x3)).setCell ⟨w.heap.size + 1, 3, none⟩ (.int .i64 x4)).setCell ⟨w.heap.size + 1, 4, none⟩ (.slice (some ⟨b, 0, none⟩) n n)).setCell ⟨w.heap.size + 1, 5, none⟩ (.int .i64 t1)).setCell ⟨w.heap.size + 1, 6, none⟩ (.int .i64 t2)).heap[w.heap.size + 1]? = some (.cells #[.int .i64 x1, .int .i64 x2, .int .i64 x3, .int .i64 x4, .slice (some ⟨b, 0, none⟩) n n, .int .i64 t1, .int .i64 t2, .int .i64 0, .int .i64 0] 36 (0, 0)) := heap_set_self (k := 6) dp5 (.int .i64 t2)
  obtain ⟨_, dx7, dy7⟩ := cell_at dp6 (k := 7) (n := 9) rfl (show 7 < 9 by omega)
  have dp7 : ((((((((((((w3.setCell ⟨w.heap.size + 2, 5, none⟩ (.int .i64 t1)).setCell ⟨w.heap.size + 2, 6, none⟩ (.int .i64 t2)).setCell ⟨w.heap.size + 2, 7, none⟩ (.int .i64 t3)).setCell ⟨w.heap.size + 2, 8, none⟩ (.int .i64 t4)).setCell ⟨w.heap.size + 1, 0, none⟩ (.int .i64 x1)).setCell ⟨w.heap.size + 1, 1, none⟩ (.int .i64 x2)).setCell ⟨w.heap.size + 1, 2, none⟩ (.int .i64 x3)).setCell ⟨w.heap.size + 1, 3, none⟩ (.int .i64 x4)).setCell ⟨w.heap.size + 1, 4, none⟩ (.slice (some ⟨b, 0, none⟩) n n)).setCell ⟨w.heap.size + 1, 5, none⟩ (.int .i64 t1)).setCell ⟨w.heap.size + 1, 6, none⟩ (.int .i64 t2)).setCell ⟨w.heap.size + 1, 7, none⟩ (.int .i64 t3)).heap[w.heap.size + 1]? = some (.cells #[.int .i64 x1, .int .i64 x2, .int .i64 x3, .int .i64 x4, .slice (some ⟨b, 0, none⟩) n n, .int .i64 t1, .int .i64 t2, .int .i64 t3, .int .i64 0] 36 (0, 0)) := heap_set_self (k := 7) dp6 (.int .i64 t3)
  obtain ⟨_, dx8, dy8⟩ := cell_at dp7 (k := 8) (n := 9) rfl (show 8 < 9 by omega)
  have dp8 : (((((((((((((w3.setCell ⟨w.heap.size + 2, 5, none⟩ (.int .i64 t1)).setCell ⟨w.heap.size + 2, 6, none⟩ (.int .i64 t2)).setCell ⟨w.heap.size + 2, 7, none⟩ (.int .i64 t3)).setCell ⟨w.heap.size + 2, 8, none⟩ (.int .i64 t4)).setCell ⟨w.heap.size + 1, 0, none⟩ (.int .i64 x1)).setCell ⟨w.heap.size + 1, 1, none⟩ (.int .i64 x2)).setCell ⟨w.heap.size + 1, 2, none⟩ (.int .i64 x3)).setCell ⟨w.heap.size + 1, 3, none⟩ (.int .i64 x4)).setCell ⟨w.heap.size + 1, 4, none⟩ (.slice (some ⟨b, 0, none⟩) n n)).setCell ⟨w.heap.size + 1, 5, none⟩ (.int .i64 t1)).setCell ⟨w.heap.size + 1, 6, none⟩ (.int .i64 t2)).setCell ⟨w.heap.size + 1, 7, none⟩ (.int .i64 t3)).setCell ⟨w.heap.size + 1, 8, none⟩ (.int .i64 t4)).heap[w.heap.size + 1]? = some (.cells #[.int .i64 x1, .int .i64 x2, .int .i64 x3, .int .i64 x4, .slice (some ⟨b, 0, none⟩) n n, .int .i64 t1, .int .i64 t2, .int .i64 t3, .int .i64 t4] 36 (0, 0)) := heap_set_self (k := 8) dp7 (.int .i64 t4)
  have HF := Lib.hid (And.intro dp8 (And.intro ((set_bel (k := 8) (set_bel (k := 7) (set_bel (k := 6) (set_bel (k := 5) (set_bel (k := 4) (set_bel (k := 3) (set_bel (k := 2) (set_bel (k := 1) (set_bel (k := 0) HWW.out.2 (show w.heap.size ≤ w.heap.size + 1 by omega) (.int .i64 x1)) (show w.heap.size ≤ w.heap.size + 1 by omega) (.int .i64 x2)) (show w.heap.size ≤ w.heap.size + 1 by omega) (.int .i64 x3)) (show w.heap.size ≤ w.heap.size + 1 by omega) (.int .i64 x4)) (show w.heap.size ≤ w.heap.size + 1 by omega) (.slice (some ⟨b, 0, none⟩) n n)) (show w.heap.size ≤ w.heap.size + 1 by omega) (.int .i64 t1)) (show w.heap.size ≤ w.heap.size + 1 by omega) (.int .i64 t2)) (show w.heap.size ≤ w.heap.size + 1 by omega) (.int .i64 t3)) (show w.heap.size ≤ w.heap.size + 1 by omega) (.int .i64 t4))) (show MkOwn (((((((((((((w3.setCell ⟨w.heap.size + 2, 5, none⟩ (.int .i64 t1)).setCell ⟨w.heap.size + 2, 6, none⟩ (.int .i64 t2)).setCell ⟨w.heap.size + 2, 7, none⟩ (.int .i64 t3)).setCell ⟨w.heap.size + 2, 8, none⟩ (.int .i64 t4)).setCell ⟨w.heap.size + 1, 0, none⟩ (.int .i64 x1)).setCell ⟨w.heap.size + 1, 1, none⟩ (.int .i64 x2)).setCell ⟨w.heap.size + 1, 2, none⟩ (.int .i64 x3)).setCell ⟨w.heap.size + 1, 3, none⟩ (.int .i64 x4)).setCell ⟨w.heap.size + 1, 4, none⟩ (.slice (some ⟨b, 0, none⟩) n n)).setCell ⟨w.heap.size + 1, 5, none⟩ (.int .i64 t1)).setCell ⟨w.heap.size + 1, 6, none⟩ (.int .i64 t2)).setCell ⟨w.heap.size + 1, 7, none⟩ (.int .i64 t3)).setCell ⟨w.heap.size + 1, 8, none⟩ (.int .i64 t4)) b n f by
    obtain ⟨cs, h1, h2⟩ := HWW.out.1
    exact ⟨cs, set_oth (set_oth (set_oth (set_oth (set_oth (set_oth (set_oth (set_oth (set_oth h1 (by omega) _) (by omega) _) (by omega) _) (by omega) _) (by omega) _) (by omega) _) (by omega) _) (by omega) _) (by omega) _, h2⟩)))
  clear r1 HWW dp0 dp1 dp2 dp3 dp4 dp5 dp6 dp7 dp8
  go_wp2
  exact bodyPost_ret (v := .agg #[.int .i64 x1, .int .i64 x2, .int .i64 x3, .int .i64 x4, .slice (some ⟨b, 0, none⟩) n n, .int .i64 t1, .int .i64 t2, .int .i64 t3, .int .i64 t4]) (results_cell_row (p := 2) (ty := 36) (by rfl) _ _ (w.heap.size + 1) _ #[.int .i64 x1, .int .i64 x2, .int .i64 x3, .int .i64 x4, .slice (some ⟨b, 0, none⟩) n n, .int .i64 t1, .int .i64 t2, .int .i64 t3, .int .i64 t4] (0, 0) _ (by rfl) HF.out.1 Try.underlying36 rfl Try.infoCo) rfl
    ⟨b, by omega, rfl, HF.out.2.2, HF.out.2.1⟩
end Go.Proofs.Ythahakefmpajfaa

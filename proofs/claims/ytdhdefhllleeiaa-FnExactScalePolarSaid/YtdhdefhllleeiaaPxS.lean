/- The laws' own measure of a polar's size: szFloat32S, szIntS, szFloat32SS, szPolar. -/
import Derived.Test.YtdhdefhllleeiaaPoJ
namespace Go.Proofs.Ytdhdefhllleeiaa
open Go.RowKit Ieee
set_option linter.unusedSimpArgs false
set_option linter.unusedVariables false

/-- A polar that came in, of whatever size. -/
def RawF (w : World) (A : Option Addr) (n : Nat) (f : Nat → Nat) : Prop := Row w A n (fun j => fv (f j)) ∧ n ≤ 9223372036854775807 ∧ ∀ j, j < n → f j < 4294967296
def RawI (w : World) (A : Option Addr) (n : Nat) (f : Nat → Int) : Prop := Row w A n (fun j => iv (f j)) ∧ n ≤ 9223372036854775807 ∧ ∀ j, j < n → -9223372036854775808 ≤ f j ∧ f j ≤ 9223372036854775807
def RawIn (w : World) (P : Pol) : Prop :=
  RawF w P.W P.nw P.ws ∧ RawI w P.A P.na P.av ∧ (Row w P.S P.ns (fun i => .slice (P.R i) (P.rn i) (P.rc i)) ∧ P.ns ≤ 9223372036854775807) ∧ ∀ i, i < P.ns → RawF w (P.R i) (P.rn i) (P.sp i)
theorem RawF.keeps {w w' : World} {A : Option Addr} {n : Nat} {f : Nat → Nat} (h : RawF w A n f) (k : Keeps w w') : RawF w' A n f := ⟨h.1.keeps k, h.2⟩
theorem RawI.keeps {w w' : World} {A : Option Addr} {n : Nat} {f : Nat → Int} (h : RawI w A n f) (k : Keeps w w') : RawI w' A n f := ⟨h.1.keeps k, h.2⟩
theorem RawIn.keeps {w w' : World} {P : Pol} (h : RawIn w P) (k : Keeps w w') : RawIn w' P :=
  ⟨h.1.keeps k, h.2.1.keeps k, ⟨h.2.2.1.1.keeps k, h.2.2.1.2⟩, fun i hi => (h.2.2.2 i hi).keeps k⟩
def Small (P : Pol) : Prop := P.nw ≤ 1048576 ∧ P.na ≤ 1048576 ∧ P.ns ≤ 1048576 ∧ ∀ i, i < P.ns → P.rn i ≤ 1048576
theorem RawIn.small {w : World} {P : Pol} (h : RawIn w P) (s : Small P) : PolIn w P :=
  ⟨⟨h.1.1, s.1, h.1.2.2⟩, ⟨h.2.1.1, s.2.1, h.2.1.2.2⟩, ⟨h.2.2.1.1, s.2.2.1⟩, fun i hi => ⟨(h.2.2.2 i hi).1, s.2.2.2 i hi, (h.2.2.2 i hi).2.2⟩⟩

set_option maxHeartbeats 400000 in
theorem l_szF (A : Option Addr) (n cap : Nat) (l : Int) (w : World) (hn : n ≤ 9223372036854775807) (h0 : 0 ≤ l) (h1 : l ≤ 1048576) :
    Calls Try.prog 60 #[.slice A n cap, .int .i64 l] w fun e w' => ∃ r : Int, ((r = -1 ∧ l < n) ∨ (r = l - n ∧ (n : Int) ≤ l)) ∧ e = .returned (.int .i64 r) ∧ w = w' := by
  by_cases h : l - (n : Int) < 0
  · go_enter Try.func60, Try.ntmps60
    go_wp2
    go_ret
    exact ⟨-1, .inl ⟨rfl, by omega⟩, rfl, rfl⟩
  · go_enter Try.func60, Try.ntmps60
    go_wp2
    go_ret
    exact ⟨l - n, .inr ⟨rfl, by omega⟩, rfl, rfl⟩
set_option maxHeartbeats 400000 in
theorem l_szI (A : Option Addr) (n cap : Nat) (l : Int) (w : World) (hn : n ≤ 9223372036854775807) (h0 : 0 ≤ l) (h1 : l ≤ 1048576) :
    Calls Try.prog 61 #[.slice A n cap, .int .i64 l] w fun e w' => ∃ r : Int, ((r = -1 ∧ l < n) ∨ (r = l - n ∧ (n : Int) ≤ l)) ∧ e = .returned (.int .i64 r) ∧ w = w' := by
  by_cases h : l - (n : Int) < 0
  · go_enter Try.func61, Try.ntmps61
    go_wp2
    go_ret
    exact ⟨-1, .inl ⟨rfl, by omega⟩, rfl, rfl⟩
  · go_enter Try.func61, Try.ntmps61
    go_wp2
    go_ret
    exact ⟨l - n, .inr ⟨rfl, by omega⟩, rfl, rfl⟩
/-- What is left of a measure: less than nothing, or all of it is small. -/
def Left (p : Prop) (w : World) (e : Ending) (w' : World) : Prop := ∃ r : Int, (r = -1 ∨ (0 ≤ r ∧ r ≤ 1048576 ∧ p)) ∧ e = .returned (.int .i64 r) ∧ Below w.heap.size w w'
theorem Left.no {p : Prop} {w : World} {e : Ending} {w' : World} (he : e = .returned (.int .i64 (-1))) (b : Below w.heap.size w w') : Left p w e w' := ⟨-1, .inl rfl, he, b⟩
theorem Left.yes {p : Prop} {w : World} {e : Ending} {w' : World} (r : Int) (h0 : 0 ≤ r) (h1 : r ≤ 1048576) (hp : p) (he : e = .returned (.int .i64 r)) (b : Below w.heap.size w w') : Left p w e w' := ⟨r, .inr ⟨h0, h1, hp⟩, he, b⟩
set_option maxRecDepth 100000 in
set_option maxHeartbeats 1000000 in
theorem l_szFF (n : Nat) (A : Option Addr) (cap : Nat) (R : Nat → Option Addr) (rn rc : Nat → Nat) (sp : Nat → Nat → Nat) (l : Int) (w : World) (hn : n ≤ 9223372036854775807) (h0 : 0 ≤ l) (h1 : l ≤ 1048576)
    (hr : Row w A n (fun i => .slice (R i) (rn i) (rc i))) (hrr : ∀ i, i < n → RawF w (R i) (rn i) (sp i)) :
    Calls Try.prog 62 #[.slice A n cap, .int .i64 l] w fun e w' => Left (n ≤ 1048576 ∧ ∀ i, i < n → rn i ≤ 1048576) w e w' := by
  suffices hs : ∀ p : Prop, Hid (p ↔ n ≤ 1048576 ∧ ∀ i, i < n → rn i ≤ 1048576) → Calls Try.prog 62 #[.slice A n cap, .int .i64 l] w fun e w' => Left p w e w' from hs _ (Lib.hid Iff.rfl)
  intro p HP
  have HR := Lib.hid (And.intro hr hrr)
  clear hr hrr
  by_cases h : l - (n : Int) < 0
  · go_enter Try.func62, Try.ntmps62
    go_wp2
    go_ret
    exact Left.no rfl (Below.refl _ _)
  · go_enter Try.func62, Try.ntmps62
    go_wp2
    go_loop [1, 5] (fun m i => ∃ (k : Nat) (r : Int), k ≤ n ∧ i = .int .i64 k ∧ m = .int .i64 r ∧ 0 ≤ r ∧ r ≤ 1048576 ∧ ∀ j, j < k → rn j ≤ 1048576) (fun _ i => n - (intOf i).toNat)
    case atStart => exact ⟨0, l - n, Nat.zero_le _, rfl, rfl, by omega, by omega, fun j h => by omega⟩
    case round =>
      obtain ⟨k, r, hk, rfl, rfl, r0, r1, hall⟩ := hrel
      have HA := Lib.hid hall
      clear hall
      by_cases hlt : k < n
      · obtain ⟨g, o, rfl, hc⟩ := HR.out.1 (by omega)
        have ck := hc k hlt
        have hrk := (HR.out.2 k hlt).2.1
        have hsz := fun w => l_szF (R k) (rn k) (rc k) r w hrk r0 r1
        have hk1 : (k : Int) < (n : Int) := by omega
        dsimp only at ck
        clear hc
        generalize hm : rn k = m at *
        have HM := Lib.hid hm
        clear hm
        go_wp2_with fail
        with_reducible refine (hsz _).mono ?_
        rintro e w1 ⟨r', ⟨rfl, hr'⟩ | ⟨hre, hr'⟩, rfl, rfl⟩
        · clear hsz
          go_wp2
          go_ret
          exact Left.no rfl (Below.refl _ _)
        · clear hsz
          have r2 : ¬ r' < 0 := by omega
          have r3 : 0 ≤ r' := by omega
          have r4 : r' ≤ 1048576 := by omega
          have hm1 : m ≤ 1048576 := by omega
          have HN := Lib.hid (show ∀ j, j < k + 1 → rn j ≤ 1048576 from fun j hj => by
            rcases Nat.lt_or_ge j k with h | h
            · exact HA.out j h
            · obtain rfl : j = k := by omega
              rw [HM.out]; exact hm1)
          clear hre hr'
          go_wp2
          go_round
          case rel => exact ⟨k + 1, r', by omega, by go_num, rfl, r3, r4, HN.out⟩
          case measure => simp [intOf]; omega
      · obtain rfl : k = n := by omega
        have hk1 : ¬ ((k : Int) < (k : Int)) := by omega
        have HY := Lib.hid (HP.out.2 ⟨by omega, HA.out⟩)
        go_wp2
        go_ret
        exact Left.yes r r0 r1 HY.out rfl (Below.refl _ _)
/-- The box of a laws' polar stands, and nothing old has turned. -/
def LawBox (w : World) (P : Pol) (w' : World) : Prop :=
  w'.heap[w.heap.size]? = some (.cells #[.slice P.W P.nw P.cw, .slice P.A P.na P.ca, .slice P.S P.ns P.cs] 43 (0, 0)) ∧ Below w.heap.size w w'
theorem LawBox.new (w : World) (P : Pol) : LawBox w P (w.alloc (.cells #[.slice P.W P.nw P.cw, .slice P.A P.na P.ca, .slice P.S P.ns P.cs] 43)) := ⟨heap_alloc_new w _, (Below.refl _ w).alloc (Nat.le_refl _) _⟩
theorem LawBox.lt {w : World} {P : Pol} {w1 : World} (h : LawBox w P w1) : w.heap.size < w1.heap.size := by
  rcases Nat.lt_or_ge w.heap.size w1.heap.size with h' | h'
  · exact h'
  · have := h.1; rw [Array.getElem?_eq_none h'] at this; cases this
theorem LawBox.step {w : World} {P : Pol} {w1 w2 : World} (h : LawBox w P w1) (b : Below w1.heap.size w1 w2) : LawBox w P w2 := ⟨(b.block _ h.lt).trans h.1, h.2.trans (b.mono h.2.size)⟩
theorem LawBox.drawn {w : World} {P : Pol} {w1 w2 : World} (h : LawBox w P w1) (d : Drawn w1 w2) : LawBox w P w2 := by
  obtain ⟨n, rfl⟩ := d
  exact ⟨h.1, below_drewN h.2 n⟩
theorem LawBox.c0 {w : World} {P : Pol} {w' : World} (h : LawBox w P w') : w'.cell? ⟨w.heap.size, 0, none⟩ = some (.slice P.W P.nw P.cw) := cell_of_row w' _ 0 _ _ _ h.1
theorem LawBox.c1 {w : World} {P : Pol} {w' : World} (h : LawBox w P w') : w'.cell? ⟨w.heap.size, 1, none⟩ = some (.slice P.A P.na P.ca) := cell_of_row w' _ 1 _ _ _ h.1
theorem LawBox.c2 {w : World} {P : Pol} {w' : World} (h : LawBox w P w') : w'.cell? ⟨w.heap.size, 2, none⟩ = some (.slice P.S P.ns P.cs) := cell_of_row w' _ 2 _ _ _ h.1
theorem LawBox.keeps {w : World} {P : Pol} {w' : World} (h : LawBox w P w') : Keeps w w' := Below.keeps h.2
theorem LawBox.below {w : World} {P : Pol} {w' : World} (h : LawBox w P w') : Below w.heap.size w w' := h.2
set_option maxRecDepth 100000 in
set_option maxHeartbeats 1000000 in
theorem l_szP (P : Pol) (w : World) (h : RawIn w P) :
    Calls Try.prog 26 #[.agg #[.slice P.W P.nw P.cw, .slice P.A P.na P.ca, .slice P.S P.ns P.cs], .int .i64 1048576] w fun e w' => Left (Small P) w e w' := by
  suffices hs : ∀ p : Prop, Hid (p ↔ Small P) → Calls Try.prog 26 #[.agg #[.slice P.W P.nw P.cw, .slice P.A P.na P.ca, .slice P.S P.ns P.cs], .int .i64 1048576] w fun e w' => Left p w e w' from hs _ (Lib.hid Iff.rfl)
  intro p HP
  have HI := Lib.hid h
  clear h
  have HB := Lib.hid (LawBox.new w P)
  go_enter Try.func26, Try.ntmps26
  go_wp2_with fail
  refine (l_szF P.W P.nw P.cw 1048576 _ HI.out.1.2.1 (by omega) (by omega)).mono ?_
  rintro e w1 ⟨r1, ⟨rfl, hr1⟩ | ⟨hre1, hr1⟩, rfl, rfl⟩
  · go_wp2
    go_ret
    exact Left.no rfl HB.out.2
  · have a1 : ¬ r1 < 0 := by omega
    have a2 : 0 ≤ r1 := by omega
    have a3 : r1 ≤ 1048576 := by omega
    have H1 := Lib.hid (show P.nw ≤ 1048576 by omega)
    clear hre1 hr1
    go_wp2_with fail
    refine (l_szI P.A P.na P.ca r1 _ HI.out.2.1.2.1 a2 a3).mono ?_
    rintro e w1 ⟨r2, ⟨rfl, hr2⟩ | ⟨hre2, hr2⟩, rfl, rfl⟩
    · go_wp2
      go_ret
      exact Left.no rfl HB.out.2
    · have b1 : ¬ r2 < 0 := by omega
      have b2 : 0 ≤ r2 := by omega
      have b3 : r2 ≤ 1048576 := by omega
      have H2 := Lib.hid (show P.na ≤ 1048576 by omega)
      clear hre2 hr2
      go_wp2_with fail
      refine (l_szFF P.ns P.S P.cs P.R P.rn P.rc P.sp r2 _ HI.out.2.2.1.2 b2 b3 (HI.out.2.2.1.1.keeps HB.out.keeps) (fun i hi => (HI.out.2.2.2 i hi).keeps HB.out.keeps)).mono ?_
      rintro e w1 ⟨r3, rfl | ⟨c0, c1, hp⟩, rfl, b⟩
      · have HB2 := Lib.hid (HB.out.step b)
        clear b
        go_wp2
        go_ret
        exact Left.no rfl HB2.out.2
      · have HB2 := Lib.hid (HB.out.step b)
        have HY := Lib.hid (HP.out.2 ⟨H1.out, H2.out, hp.1, hp.2⟩)
        have c2 : ¬ r3 < 0 := by omega
        clear b hp
        go_wp2
        go_ret
        exact Left.yes r3 c0 c1 HY.out rfl HB2.out.2
end Go.Proofs.Ytdhdefhllleeiaa

/- Alike: eqPlace, eqSight, eqSightS at what is alike; places, lines, sights and tracks that come into a law, opened. -/
import Derived.Test.YthahakefmpajfaaLjL
import Derived.Lib.SmallJoins
import Derived.Deep.Slices
namespace Go.Proofs.Ythahakefmpajfaa
open Go.RowKit Go.ChangeShapes Go.WideShapes
set_option linter.unusedVariables false
set_option linter.unusedSimpArgs false

set_option maxRecDepth 100000 in
theorem l_eqPl (p : Int × Int) (w : World) :
    Calls Try.prog 85 #[.agg #[.int .i64 p.1, .int .i64 p.2], .agg #[.int .i64 p.1, .int .i64 p.2]] w fun e w' => e = .returned (.bool true) ∧ Below w.heap.size w w' := by
  obtain ⟨x, y⟩ := p
  dsimp only
  have e1 : (x == x) = true := by simp
  have e2 : (y == y) = true := by simp
  have hs := Lib.hid (Bx2.new w #[.int .i64 x, .int .i64 y] 25 #[.int .i64 x, .int .i64 y] 25)
  go_enter Try.func85, Try.ntmps85
  go_wp2
  go_ret
  exact ⟨rfl, hs.out.2.2⟩
set_option maxRecDepth 100000 in
theorem l_eqSg (s : Sg) (w : World) :
    Calls Try.prog 67 #[.agg #[.int .i64 s.1.1, .int .i64 s.1.2, .int .i64 s.2], .agg #[.int .i64 s.1.1, .int .i64 s.1.2, .int .i64 s.2]] w fun e w' => e = .returned (.bool true) ∧ Below w.heap.size w w' := by
  obtain ⟨⟨x, y⟩, z⟩ := s
  dsimp only
  have e1 : (z == z) = true := by simp
  have hs := Lib.hid (Bx2.new w #[.int .i64 x, .int .i64 y, .int .i64 z] 86 #[.int .i64 x, .int .i64 y, .int .i64 z] 86)
  obtain ⟨c0, c1, c2⟩ := cells3 hs.out.1
  obtain ⟨d0, d1, d2⟩ := cells3 hs.out.2.1
  go_enter Try.func67, Try.ntmps67
  go_wp2_with fail
  refine (l_eqPl (x, y) _).mono ?_
  rintro e w1 ⟨rfl, b1⟩
  have hs1 := Lib.hid (Bx2.step hs.out b1)
  clear hs b1 c0 c1 c2 d0 d1 d2
  obtain ⟨c0, c1, c2⟩ := cells3 hs1.out.1
  obtain ⟨d0, d1, d2⟩ := cells3 hs1.out.2.1
  go_wp2
  go_ret
  exact ⟨rfl, hs1.out.2.2⟩
/-- Two tracks that are alike. -/
def TwoT (w : World) (g o g' o' n : Nat) (f : Nat → Sg) (wr : World) : Prop := SigsIn wr g o n f ∧ SigsIn wr g' o' n f ∧ Below w.heap.size w wr
theorem TwoT.step {w w1 w2 : World} {g o g' o' n : Nat} {f : Nat → Sg} (h : TwoT w g o g' o' n f w1) (b : Below w1.heap.size w1 w2) : TwoT w g o g' o' n f w2 := ⟨h.1.below b (Nat.le_refl _), h.2.1.below b (Nat.le_refl _), h.2.2.trans (b.mono h.2.2.size)⟩
theorem TwoT.drew {w w1 : World} {g o g' o' n : Nat} {f : Nat → Sg} (h : TwoT w g o g' o' n f w1) : TwoT w g o g' o' n f w1.drew := ⟨h.1, h.2.1, h.2.2.drew⟩
set_option maxRecDepth 100000 in
set_option maxHeartbeats 2000000 in
theorem l_eqS (f : Nat → Sg) (A A' : Option Addr) (g o g' o' n cap cap' : Nat) (w : World) (hn : n ≤ 1048576) (hA : 0 < n → A = some ⟨g, o, none⟩) (hA' : 0 < n → A' = some ⟨g', o', none⟩) (hw : SigsIn w g o n f) (hw' : SigsIn w g' o' n f) :
    Calls Try.prog 31 #[.slice A n cap, .slice A' n cap'] w fun e w' => e = .returned (.bool true) ∧ Below w.heap.size w w' := by
  have HW := Lib.hid (show TwoT w g o g' o' n f w from ⟨hw, hw', Below.refl _ _⟩)
  clear hw hw'
  have nn : ((n : Int) == (n : Int)) = true := by simp
  go_enter Try.func31, Try.ntmps31
  go_wp2
  go_loopw [5] (fun i wr => ∃ k : Nat, k ≤ n ∧ i = .int .i64 k ∧ TwoT w g o g' o' n f wr) (fun i _ => n - (intOf i).toNat)
  case atStart => exact ⟨0, Nat.zero_le _, rfl, HW.out⟩
  case round =>
    obtain ⟨k, hk, rfl, hst⟩ := hrel
    by_cases hlt : k < n
    · obtain rfl := hA (by omega)
      obtain rfl := hA' (by omega)
      obtain ⟨⟨⟨x, y⟩, z⟩, hkk⟩ : ∃ s, f k = s := ⟨_, rfl⟩
      have HK := Lib.hid hkk
      clear hkk
      have d0 : ∀ s : Held (fun wx => TwoT w g o g' o' n f wx), s.w.cell? ⟨g, o + k * 3, none⟩ = some (.int .i64 x) := fun s => by have := (s.h.1 k hlt).1; rw [HK.out] at this; exact this
      have d1 : ∀ s : Held (fun wx => TwoT w g o g' o' n f wx), s.w.cell? ⟨g, o + k * 3 + 1, none⟩ = some (.int .i64 y) := fun s => by have := (s.h.1 k hlt).2.1; rw [HK.out] at this; exact this
      have d2 : ∀ s : Held (fun wx => TwoT w g o g' o' n f wx), s.w.cell? ⟨g, o + k * 3 + 2, none⟩ = some (.int .i64 z) := fun s => by have := (s.h.1 k hlt).2.2; rw [HK.out] at this; exact this
      have d3 : ∀ s : Held (fun wx => TwoT w g o g' o' n f wx), s.w.cell? ⟨g', o' + k * 3, none⟩ = some (.int .i64 x) := fun s => by have := (s.h.2.1 k hlt).1; rw [HK.out] at this; exact this
      have d4 : ∀ s : Held (fun wx => TwoT w g o g' o' n f wx), s.w.cell? ⟨g', o' + k * 3 + 1, none⟩ = some (.int .i64 y) := fun s => by have := (s.h.2.1 k hlt).2.1; rw [HK.out] at this; exact this
      have d5 : ∀ s : Held (fun wx => TwoT w g o g' o' n f wx), s.w.cell? ⟨g', o' + k * 3 + 2, none⟩ = some (.int .i64 z) := fun s => by have := (s.h.2.1 k hlt).2.2; rw [HK.out] at this; exact this
      have z1 : (k : Int) < (n : Int) := by omega
      have z0 : (0 : Int) ≤ (k : Int) := by omega
      have HS := Lib.hid (fun w => l_eqSg ((x, y), z) w)
      go_wp2
      haveI hne : Nonempty (Held fun wx => TwoT w g o g' o' n f wx) := ⟨⟨_, hst⟩⟩
      refine wp_region_class (fun wx => TwoT w g o g' o' n f wx) (by kernel_rfl) (by kernel_rfl) (TwoT.drew hst) ?_
      repeat (go_big_quiet_step (first
        | (go_at_call 67; exact held_call TwoT.step (HS.out _))))
      refine wpQuiet_nil ?_
      intro _ hw'
      obtain ⟨⟨wq, hst6⟩, rfl⟩ := hw'
      (try dsimp only)
      all_goals
        go_wp2_with fail
        go_roundw
        case rel => exact ⟨k + 1, by omega, by go_num, hst6⟩
        case measure => simp [intOf]; omega
    · obtain rfl : k = n := by omega
      have hk1 : ¬ ((k : Int) < (k : Int)) := by omega
      go_wp2
      go_ret
      exact ⟨rfl, hst.2.2⟩
section
variable {H : Type} {enc : TypeId × Value → H} {w : World} {base b0 : Nat} {spare : Nat → Bool} {held : Bool} {r : Reach}
theorem list2 {α : Type} {l : List α} (h : l.length = 2) : ∃ a b, l = [a, b] := by match l, h with | [a, b], _ => exact ⟨a, b, rfl⟩
theorem list3 {α : Type} {l : List α} (h : l.length = 3) : ∃ a b c, l = [a, b, c] := by match l, h with | [a, b, c], _ => exact ⟨a, b, c, rfl⟩
theorem list4 {α : Type} {l : List α} (h : l.length = 4) : ∃ a b c d, l = [a, b, c, d] := by match l, h with | [a, b, c, d], _ => exact ⟨a, b, c, d, rfl⟩
theorem Try.cPl : Try.prog.cellsOf 45 = 2 := by kernel_rfl
theorem Try.cI : Try.prog.cellsOf 3 = 1 := by kernel_rfl
set_option maxRecDepth 100000 in
theorem trod_pl {fuel : Nat} {cs : List Value} {x : DataW H × List MemPlace} (h : DataW.trod enc Try.prog w base spare held fuel 45 cs = some x) : ∃ p : Int × Int, cs = [.int .i64 p.1, .int .i64 p.2] := by
  obtain ⟨y0, y1, n, _, hl, h0, h1⟩ := trod_struct2 Try.underlying45 h
  obtain ⟨a, b, rfl⟩ := list2 (hl.trans Try.cPl)
  rw [Try.cI] at h0 h1
  obtain ⟨m, e0, _, _⟩ := DataW.trod_int Try.underlying3 h0
  obtain ⟨n, e1, _, _⟩ := DataW.trod_int Try.underlying3 h1
  simp at e0 e1
  subst e0 e1
  exact ⟨(m, n), rfl⟩
set_option maxRecDepth 100000 in
/-- A place, opened. -/
theorem open_place {v : Value} {d : DataW H} {p : List MemPlace} (hv : Value.okWide Try.prog w r b0 45 v) (h : DataW.Trod enc Try.prog w base spare held 45 v d p) :
    ∃ x : Int × Int, v = .agg #[.int .i64 x.1, .int .i64 x.2] := by
  obtain ⟨⟨cs⟩, rfl, _⟩ := okWide_struct Try.underlying45 hv
  obtain ⟨fuel, hf⟩ := h
  obtain ⟨p, e⟩ := trod_pl (cs := cs) (by simpa [Value.cells] using hf)
  subst e
  exact ⟨p, rfl⟩
theorem Try.cLn : Try.prog.cellsOf 47 = 4 := by kernel_rfl
set_option maxRecDepth 100000 in
/-- A line, opened. -/
theorem open_line {v : Value} {d : DataW H} {p : List MemPlace} (hv : Value.okWide Try.prog w r b0 47 v) (h : DataW.Trod enc Try.prog w base spare held 47 v d p) :
    ∃ x : Ln, v = .agg #[.int .i64 x.1.1, .int .i64 x.1.2, .int .i64 x.2.1, .int .i64 x.2.2] := by
  obtain ⟨⟨cs⟩, rfl, _⟩ := okWide_struct Try.underlying47 hv
  obtain ⟨fuel, hf⟩ := h
  have hf' : DataW.trod enc Try.prog w base spare held fuel 47 cs = some (d, p) := by simpa [Value.cells] using hf
  obtain ⟨y0, y1, n, _, hl, h0, h1⟩ := trod_struct2 Try.underlying47 hf'
  obtain ⟨a, b, c, e, rfl⟩ := list4 (hl.trans Try.cLn)
  rw [Try.cPl] at h0 h1
  obtain ⟨p, e0⟩ := trod_pl h0
  obtain ⟨q, e1⟩ := trod_pl h1
  simp at e0 e1
  obtain ⟨rfl, rfl⟩ := e0
  obtain ⟨rfl, rfl⟩ := e1
  exact ⟨(p, q), rfl⟩
theorem Try.cSg : Try.prog.cellsOf 99 = 3 := by kernel_rfl
set_option maxRecDepth 100000 in
theorem trod_sg {fuel : Nat} {cs : List Value} {x : DataW H × List MemPlace} (h : DataW.trod enc Try.prog w base spare held fuel 99 cs = some x) : ∃ s : Sg, cs = [.int .i64 s.1.1, .int .i64 s.1.2, .int .i64 s.2] := by
  obtain ⟨y0, y1, n, _, hl, h0, h1⟩ := trod_struct2 Try.underlying99 h
  obtain ⟨a, b, c, rfl⟩ := list3 (hl.trans Try.cSg)
  rw [Try.cPl] at h0
  rw [Try.cI] at h1
  obtain ⟨p, e0⟩ := trod_pl h0
  obtain ⟨n, e1, _, _⟩ := DataW.trod_int Try.underlying3 h1
  simp at e0 e1
  obtain ⟨rfl, rfl⟩ := e0
  subst e1
  exact ⟨(p, n), rfl⟩
set_option maxRecDepth 100000 in
/-- A sight, opened. -/
theorem open_sight {v : Value} {d : DataW H} {p : List MemPlace} (hv : Value.okWide Try.prog w r b0 99 v) (h : DataW.Trod enc Try.prog w base spare held 99 v d p) :
    ∃ x : Sg, v = .agg #[.int .i64 x.1.1, .int .i64 x.1.2, .int .i64 x.2] := by
  obtain ⟨⟨cs⟩, rfl, _⟩ := okWide_struct Try.underlying99 hv
  obtain ⟨fuel, hf⟩ := h
  obtain ⟨p, e⟩ := trod_sg (cs := cs) (by simpa [Value.cells] using hf)
  subst e
  exact ⟨p, rfl⟩
/-- A track, as it comes into a law. -/
def TrkIn (w : World) (A : Option Addr) (n : Nat) (f : Nat → Sg) : Prop := n ≤ 9223372036854775807 ∧ ∃ g o, (0 < n → A = some ⟨g, o, none⟩) ∧ SigsIn w g o n f
set_option maxRecDepth 100000 in
/-- A track, opened. -/
theorem open_sights {v : Value} {d : DataW H} {p : List MemPlace} (hv : Value.okWide Try.prog w r b0 58 v) (h : DataW.Trod enc Try.prog w base spare held 58 v d p) :
    ∃ x : Option Addr × Nat × Nat × (Nat → Sg), v = .slice x.1 x.2.1 x.2.2.1 ∧ TrkIn w x.1 x.2.1 x.2.2.2 := by
  obtain ⟨A, len, cap, rfl⟩ := okWide_slice Try.underlying58 hv
  obtain ⟨fuel, hf⟩ := h
  have hf' : DataW.trod enc Try.prog w base spare held fuel 58 [.slice A len cap] = some (d, p) := by simpa [Value.cells] using hf
  rcases Go.Deep.open_slice Try.underlying58 hf' with ⟨hcs, _⟩ | ⟨a, l, c, m, n, D, Pl, hcs, _, hl, hmx, hm, _, hx⟩
  · simp at hcs
    obtain ⟨rfl, rfl, rfl⟩ := hcs
    exact ⟨(none, 0, 0, fun _ => ((0, 0), 0)), rfl, Nat.zero_le _, 0, 0, fun h => absurd h (Nat.lt_irrefl _), fun j hj => absurd hj (Nat.not_lt_zero _)⟩
  · simp at hcs
    obtain ⟨rfl, rfl, rfl⟩ := hcs
    have hlm : len ≤ m := by subst hm; split <;> omega
    have each : ∀ i, i < len → ∃ s : Sg, w.cell? (a.add (i * 3)) = some (.int .i64 s.1.1) ∧ w.cell? (a.add (i * 3 + 1)) = some (.int .i64 s.1.2) ∧ w.cell? (a.add (i * 3 + 2)) = some (.int .i64 s.2) := fun i hi => by
      obtain ⟨cs', h1, h2⟩ := hx i (by omega)
      rw [Try.cSg] at h1
      obtain ⟨_, hlen, hcell⟩ := World.cells?_some h1
      obtain ⟨s, rfl⟩ := trod_sg h2
      have e0 := hcell 0 (by omega)
      have e1 := hcell 1 (by omega)
      have e2 := hcell 2 (by omega)
      rw [Go.Deep.add_add] at e0 e1 e2
      exact ⟨s, by simpa using e0, by simpa using e1, by simpa using e2⟩
    obtain ⟨b, off, spot⟩ := a
    by_cases h0 : 0 < len
    · obtain ⟨s, hc0, _⟩ := each 0 h0
      have hs : spot = none := by simpa [Addr.add] using World.cell?_spot hc0
      subst hs
      have hadd : ∀ j, (⟨b, off, none⟩ : Addr).add j = ⟨b, off + j, none⟩ := fun j => by unfold Addr.add; split <;> simp_all
      obtain ⟨f, hf⟩ := Go.Deep.choose_lt (α := Sg) each
      refine ⟨(some ⟨b, off, none⟩, len, cap, f), rfl, (by have : maxLen = 9223372036854775807 := rfl; show len ≤ _; omega), b, off, fun _ => rfl, fun j hj => ?_⟩
      obtain ⟨h1, h2, h3⟩ := hf j hj
      rw [hadd] at h1 h2 h3
      exact ⟨h1, h2, h3⟩
    · exact ⟨(some ⟨b, off, spot⟩, len, cap, fun _ => ((0, 0), 0)), rfl, (by show len ≤ _; omega), 0, 0, fun h => absurd h h0, fun j hj => absurd (show j < len from hj) (by omega)⟩
end
end Go.Proofs.Ythahakefmpajfaa

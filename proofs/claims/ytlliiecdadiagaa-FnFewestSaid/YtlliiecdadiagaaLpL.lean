/- Sails and moments that come into a law, opened. -/
import Derived.Test.YtlliiecdadiagaaLpK
import Derived.Lib.SmallJoins
import Derived.Deep.Slices
import Derived.DataShut
namespace Go.Proofs.Ytlliiecdadiagaa
open Go.RowKit Go.ChangeShapes Go.WideShapes
set_option linter.unusedVariables false
set_option linter.unusedSimpArgs false

instance : Inhabited Sl := ⟨⟨⟨#[]⟩, 0, 0, 0, 0⟩⟩
section
variable {P : Program} {H : Type} {enc : TypeId × Value → H} {w : World} {base b0 : Nat} {spare : Nat → Bool} {held : Bool} {r : Reach}
theorem trod_f11 {k : FloatKind} {fuel : Nat} {t : TypeId} {cs : List Value} {x : DataW H × List MemPlace} (ht : P.underlying t = some (.float k)) (h : DataW.trod enc P w base spare held fuel t cs = some x) : ∃ b, cs = [.float k b] ∧ (Lit.float k b).wf = true := by
  cases fuel with
  | zero => simp [DataW.trod] at h
  | succ n =>
    unfold DataW.trod at h
    rw [ht] at h
    split at h <;> simp_all
theorem list2s {α : Type} {l : List α} (h : l.length = 2) : ∃ a b, l = [a, b] := by match l, h with | [a, b], _ => exact ⟨a, b, rfl⟩
theorem list5s {α : Type} {l : List α} (h : l.length = 5) : ∃ a b c d e, l = [a, b, c, d, e] := by match l, h with | [a, b, c, d, e], _ => exact ⟨a, b, c, d, e, rfl⟩
theorem trod_struct5 {t : TypeId} {f0 f1 f2 f3 f4 : Field} {fuel : Nat} {cs : List Value} {x : DataW H × List MemPlace} (ht : P.underlying t = some (.struct #[f0, f1, f2, f3, f4])) (h : DataW.trod enc P w base spare held fuel t cs = some x) :
    ∃ y0 y1 y2 y3 y4 n, cs.length = P.cellsOf t ∧ DataW.trod enc P w base spare held n f0.type ((cs.drop f0.offset).take (P.cellsOf f0.type)) = some y0 ∧
      DataW.trod enc P w base spare held n f1.type ((cs.drop f1.offset).take (P.cellsOf f1.type)) = some y1 ∧ DataW.trod enc P w base spare held n f2.type ((cs.drop f2.offset).take (P.cellsOf f2.type)) = some y2 ∧
      DataW.trod enc P w base spare held n f3.type ((cs.drop f3.offset).take (P.cellsOf f3.type)) = some y3 ∧ DataW.trod enc P w base spare held n f4.type ((cs.drop f4.offset).take (P.cellsOf f4.type)) = some y4 := by
  obtain ⟨xs, n, _, rfl, hl, hlen, hf⟩ := DataW.trod_struct ht h
  match xs, hlen with
  | [y0, y1, y2, y3, y4], _ => exact ⟨y0, y1, y2, y3, y4, n, hl, by simpa using hf 0 f0 rfl, by simpa using hf 1 f1 rfl, by simpa using hf 2 f2 rfl, by simpa using hf 3 f3 rfl, by simpa using hf 4 f4 rfl⟩
theorem wf_in {n : Int} (h : (Lit.int .i64 n).wf = true) : -9223372036854775808 ≤ n ∧ n ≤ 9223372036854775807 := by
  have := (Lit.wf_int_iff .i64 n).1 h
  rw [IntKind.min_i64, IntKind.max_i64] at this
  exact this
theorem Try.cStr : Try.prog.cellsOf 9 = 1 := by kernel_rfl
theorem Try.cF32 : Try.prog.cellsOf 38 = 1 := by kernel_rfl
theorem Try.cInt : Try.prog.cellsOf 3 = 1 := by kernel_rfl
theorem Try.cSail : Try.prog.cellsOf 51 = 5 := by kernel_rfl
theorem Try.cMom : Try.prog.cellsOf 52 = 2 := by kernel_rfl
set_option maxRecDepth 100000 in
theorem trod_sl {fuel : Nat} {cs : List Value} {x : DataW H × List MemPlace} (h : DataW.trod enc Try.prog w base spare held fuel 51 cs = some x) : ∃ s : Sl, cs = [.string s.nm, .float .f32 s.lo, .float .f32 s.hi, .int .i64 s.fr, .int .i64 s.to] ∧ SlWf s := by
  obtain ⟨y0, y1, y2, y3, y4, n, hl, h0, h1, h2, h3, h4⟩ := trod_struct5 Try.underlying51 h
  obtain ⟨a, b, c, d, e, rfl⟩ := list5s (hl.trans Try.cSail)
  rw [Try.cStr] at h0
  rw [Try.cF32] at h1 h2
  rw [Try.cInt] at h3 h4
  obtain ⟨nm, e0, _, k0⟩ := DataW.trod_string Try.underlying9 h0
  obtain ⟨lo, e1, k1⟩ := trod_f11 Try.underlying38 h1
  obtain ⟨hi, e2, k2⟩ := trod_f11 Try.underlying38 h2
  obtain ⟨fr, e3, _, k3⟩ := DataW.trod_int Try.underlying3 h3
  obtain ⟨tt, e4, _, k4⟩ := DataW.trod_int Try.underlying3 h4
  simp at e0 e1 e2 e3 e4
  subst e0 e1 e2 e3 e4
  exact ⟨⟨nm, lo, hi, fr, tt⟩, rfl, k0, by simpa [Lit.wf] using k1, by simpa [Lit.wf] using k2, wf_in k3, wf_in k4⟩
set_option maxRecDepth 100000 in
theorem trod_mm {fuel : Nat} {cs : List Value} {x : DataW H × List MemPlace} (h : DataW.trod enc Try.prog w base spare held fuel 52 cs = some x) : ∃ m : Mm, cs = [.float .f32 m.1, .int .i64 m.2] ∧ MmWf m := by
  obtain ⟨y0, y1, n, _, hl, h0, h1⟩ := trod_struct2 Try.underlying52 h
  obtain ⟨a, b, rfl⟩ := list2s (hl.trans Try.cMom)
  rw [Try.cF32] at h0
  rw [Try.cInt] at h1
  obtain ⟨sp, e0, k0⟩ := trod_f11 Try.underlying38 h0
  obtain ⟨an, e1, _, k1⟩ := DataW.trod_int Try.underlying3 h1
  simp at e0 e1
  subst e0 e1
  exact ⟨(sp, an), rfl, by simpa [Lit.wf] using k0, wf_in k1⟩
set_option maxRecDepth 100000 in
/-- A sail, opened. -/
theorem open_sail {v : Value} {d : DataW H} {p : List MemPlace} (hv : Value.okWide Try.prog w r b0 51 v) (h : DataW.Trod enc Try.prog w base spare held 51 v d p) :
    ∃ s : Sl, v = .agg #[.string s.nm, .float .f32 s.lo, .float .f32 s.hi, .int .i64 s.fr, .int .i64 s.to] ∧ SlWf s := by
  obtain ⟨⟨cs⟩, rfl, _⟩ := okWide_struct Try.underlying51 hv
  obtain ⟨fuel, hf⟩ := h
  obtain ⟨s, e, k⟩ := trod_sl (cs := cs) (by simpa [Value.cells] using hf)
  subst e
  exact ⟨s, rfl, k⟩
set_option maxRecDepth 100000 in
/-- A moment, opened. -/
theorem open_moment {v : Value} {d : DataW H} {p : List MemPlace} (hv : Value.okWide Try.prog w r b0 52 v) (h : DataW.Trod enc Try.prog w base spare held 52 v d p) :
    ∃ m : Mm, v = .agg #[.float .f32 m.1, .int .i64 m.2] ∧ MmWf m := by
  obtain ⟨⟨cs⟩, rfl, _⟩ := okWide_struct Try.underlying52 hv
  obtain ⟨fuel, hf⟩ := h
  obtain ⟨m, e, k⟩ := trod_mm (cs := cs) (by simpa [Value.cells] using hf)
  subst e
  exact ⟨m, rfl, k⟩
/-- A list, as it comes into a law. -/
def SlsArg (w : World) (A : Option Addr) (n : Nat) (f : Nat → Sl) : Prop := n ≤ 9223372036854775807 ∧ (∃ g o, (0 < n → A = some ⟨g, o, none⟩) ∧ SlsIn w g o n f) ∧ ∀ j, j < n → SlWf (f j)
set_option maxRecDepth 100000 in
theorem open_sails {v : Value} {d : DataW H} {p : List MemPlace} (hv : Value.okWide Try.prog w r b0 46 v) (h : DataW.Trod enc Try.prog w base spare held 46 v d p) :
    ∃ x : Option Addr × Nat × Nat × (Nat → Sl), v = .slice x.1 x.2.1 x.2.2.1 ∧ SlsArg w x.1 x.2.1 x.2.2.2 := by
  obtain ⟨A, len, cap, rfl⟩ := okWide_slice Try.underlying46 hv
  obtain ⟨fuel, hf⟩ := h
  have hf' : DataW.trod enc Try.prog w base spare held fuel 46 [.slice A len cap] = some (d, p) := by simpa [Value.cells] using hf
  rcases Go.Deep.open_slice Try.underlying46 hf' with ⟨hcs, _⟩ | ⟨a, l, c, m, n, D, Pl, hcs, _, hl, hmx, hm, _, hx⟩
  · simp at hcs
    obtain ⟨rfl, rfl, rfl⟩ := hcs
    exact ⟨(none, 0, 0, fun _ => ⟨⟨#[]⟩, 0, 0, 0, 0⟩), rfl, Nat.zero_le _, ⟨0, 0, fun h => absurd h (Nat.lt_irrefl _), fun j hj => absurd hj (Nat.not_lt_zero _)⟩, fun j hj => absurd hj (Nat.not_lt_zero _)⟩
  · simp at hcs
    obtain ⟨rfl, rfl, rfl⟩ := hcs
    have hlm : len ≤ m := by subst hm; split <;> omega
    have each : ∀ i, i < len → ∃ s : Sl, (w.cell? (a.add (i * 5)) = some (.string s.nm) ∧ w.cell? (a.add (i * 5 + 1)) = some (.float .f32 s.lo) ∧ w.cell? (a.add (i * 5 + 2)) = some (.float .f32 s.hi) ∧ w.cell? (a.add (i * 5 + 3)) = some (.int .i64 s.fr) ∧ w.cell? (a.add (i * 5 + 4)) = some (.int .i64 s.to)) ∧ SlWf s := fun i hi => by
      obtain ⟨cs', h1, h2⟩ := hx i (by omega)
      rw [Try.cSail] at h1
      obtain ⟨_, hlen, hcell⟩ := World.cells?_some h1
      obtain ⟨s, rfl, k⟩ := trod_sl h2
      have e0 := hcell 0 (by omega)
      have e1 := hcell 1 (by omega)
      have e2 := hcell 2 (by omega)
      have e3 := hcell 3 (by omega)
      have e4 := hcell 4 (by omega)
      rw [Go.Deep.add_add] at e0 e1 e2 e3 e4
      exact ⟨s, ⟨by simpa using e0, by simpa using e1, by simpa using e2, by simpa using e3, by simpa using e4⟩, k⟩
    obtain ⟨b, off, spot⟩ := a
    by_cases h0 : 0 < len
    · obtain ⟨s, ⟨hc0, _⟩, _⟩ := each 0 h0
      have hs : spot = none := by simpa [Addr.add] using World.cell?_spot hc0
      subst hs
      have hadd : ∀ j, (⟨b, off, none⟩ : Addr).add j = ⟨b, off + j, none⟩ := fun j => by unfold Addr.add; split <;> simp_all
      obtain ⟨f, hf⟩ := Go.Deep.choose_lt (α := Sl) each
      refine ⟨(some ⟨b, off, none⟩, len, cap, f), rfl, (by have : maxLen = 9223372036854775807 := rfl; show len ≤ _; omega), ⟨b, off, fun _ => rfl, fun j hj => ?_⟩, fun j hj => (hf j hj).2⟩
      obtain ⟨⟨q0, q1, q2, q3, q4⟩, _⟩ := hf j hj
      rw [hadd] at q0 q1 q2 q3 q4
      exact ⟨q0, q1, q2, q3, q4⟩
    · exact ⟨(some ⟨b, off, spot⟩, len, cap, fun _ => ⟨⟨#[]⟩, 0, 0, 0, 0⟩), rfl, (by show len ≤ _; omega), ⟨0, 0, fun h => absurd h h0, fun j hj => absurd (show j < len from hj) (by omega)⟩, fun j hj => absurd (show j < len from hj) (by omega)⟩
/-- A list, as it comes into a law. -/
def MmsArg (w : World) (A : Option Addr) (n : Nat) (f : Nat → Mm) : Prop := n ≤ 9223372036854775807 ∧ (∃ g o, (0 < n → A = some ⟨g, o, none⟩) ∧ MmsIn w g o n f) ∧ ∀ j, j < n → MmWf (f j)
set_option maxRecDepth 100000 in
theorem open_moments {v : Value} {d : DataW H} {p : List MemPlace} (hv : Value.okWide Try.prog w r b0 60 v) (h : DataW.Trod enc Try.prog w base spare held 60 v d p) :
    ∃ x : Option Addr × Nat × Nat × (Nat → Mm), v = .slice x.1 x.2.1 x.2.2.1 ∧ MmsArg w x.1 x.2.1 x.2.2.2 := by
  obtain ⟨A, len, cap, rfl⟩ := okWide_slice Try.underlying60 hv
  obtain ⟨fuel, hf⟩ := h
  have hf' : DataW.trod enc Try.prog w base spare held fuel 60 [.slice A len cap] = some (d, p) := by simpa [Value.cells] using hf
  rcases Go.Deep.open_slice Try.underlying60 hf' with ⟨hcs, _⟩ | ⟨a, l, c, m, n, D, Pl, hcs, _, hl, hmx, hm, _, hx⟩
  · simp at hcs
    obtain ⟨rfl, rfl, rfl⟩ := hcs
    exact ⟨(none, 0, 0, fun _ => (0, 0)), rfl, Nat.zero_le _, ⟨0, 0, fun h => absurd h (Nat.lt_irrefl _), fun j hj => absurd hj (Nat.not_lt_zero _)⟩, fun j hj => absurd hj (Nat.not_lt_zero _)⟩
  · simp at hcs
    obtain ⟨rfl, rfl, rfl⟩ := hcs
    have hlm : len ≤ m := by subst hm; split <;> omega
    have each : ∀ i, i < len → ∃ s : Mm, (w.cell? (a.add (i * 2)) = some (.float .f32 s.1) ∧ w.cell? (a.add (i * 2 + 1)) = some (.int .i64 s.2)) ∧ MmWf s := fun i hi => by
      obtain ⟨cs', h1, h2⟩ := hx i (by omega)
      rw [Try.cMom] at h1
      obtain ⟨_, hlen, hcell⟩ := World.cells?_some h1
      obtain ⟨s, rfl, k⟩ := trod_mm h2
      have e0 := hcell 0 (by omega)
      have e1 := hcell 1 (by omega)
      rw [Go.Deep.add_add] at e0 e1
      exact ⟨s, ⟨by simpa using e0, by simpa using e1⟩, k⟩
    obtain ⟨b, off, spot⟩ := a
    by_cases h0 : 0 < len
    · obtain ⟨s, ⟨hc0, _⟩, _⟩ := each 0 h0
      have hs : spot = none := by simpa [Addr.add] using World.cell?_spot hc0
      subst hs
      have hadd : ∀ j, (⟨b, off, none⟩ : Addr).add j = ⟨b, off + j, none⟩ := fun j => by unfold Addr.add; split <;> simp_all
      obtain ⟨f, hf⟩ := Go.Deep.choose_lt (α := Mm) each
      refine ⟨(some ⟨b, off, none⟩, len, cap, f), rfl, (by have : maxLen = 9223372036854775807 := rfl; show len ≤ _; omega), ⟨b, off, fun _ => rfl, fun j hj => ?_⟩, fun j hj => (hf j hj).2⟩
      obtain ⟨⟨q0, q1⟩, _⟩ := hf j hj
      rw [hadd] at q0 q1
      exact ⟨q0, q1⟩
    · exact ⟨(some ⟨b, off, spot⟩, len, cap, fun _ => (0, 0)), rfl, (by show len ≤ _; omega), ⟨0, 0, fun h => absurd h h0, fun j hj => absurd (show j < len from hj) (by omega)⟩, fun j hj => absurd (show j < len from hj) (by omega)⟩
end
end Go.Proofs.Ytlliiecdadiagaa

/- A polar that comes into a law: opened into its three lists and their rows. -/
import Derived.Test.YtdhdefhllleeiaaPxS
import Derived.Lib.SmallJoins
import Derived.Deep.Slices
namespace Go.Proofs.Ytdhdefhllleeiaa
open Go.RowKit Go.ChangeShapes Go.WideShapes
set_option linter.unusedSimpArgs false
set_option linter.unusedVariables false

section
variable {H : Type} {enc : TypeId × Value → H} {P : Program} {w : World} {base : Nat} {spare : Nat → Bool} {held : Bool}
theorem trod_f {k : FloatKind} {fuel : Nat} {t : TypeId} {cs : List Value} {x : DataW H × List MemPlace} (ht : P.underlying t = some (.float k)) (h : DataW.trod enc P w base spare held fuel t cs = some x) : ∃ b, cs = [.float k b] ∧ (Lit.float k b).wf = true := by
  cases fuel with
  | zero => simp [DataW.trod] at h
  | succ n =>
    unfold DataW.trod at h
    rw [ht] at h
    split at h <;> simp_all
theorem row_of {a : Addr} {n : Nat} {V : Nat → Value} (h : ∀ i, i < n → w.cell? (a.add i) = some (V i)) : Row w (some a) n V := fun hn => by
  obtain ⟨b, off, spot⟩ := a
  have hc0 := h 0 hn
  have hs : spot = none := by simpa [Addr.add] using World.cell?_spot hc0
  subst hs
  have hadd : ∀ j, (⟨b, off, none⟩ : Addr).add j = ⟨b, off + j, none⟩ := fun j => by unfold Addr.add; split <;> simp_all
  exact ⟨b, off, rfl, fun j hj => by rw [← hadd]; exact h j hj⟩
theorem row_nil {A : Option Addr} {V : Nat → Value} : Row w A 0 V := fun h => absurd h (Nat.lt_irrefl _)
theorem f32_wf {b : Nat} (h : (Lit.float .f32 b).wf = true) : b < 4294967296 := by
  simp [Lit.wf] at h
  exact h
theorem i64_wf {n : Int} (h : (Lit.int .i64 n).wf = true) : -9223372036854775808 ≤ n ∧ n ≤ 9223372036854775807 := by
  simp [Lit.wf, IntKind.min, IntKind.max, IntKind.signed, IntKind.bits] at h
  omega
theorem max_le {len cap m : Nat} {b : Bool} (hl : len ≤ cap) (hm : m = if b then cap else len) : len ≤ m := by
  subst hm; split <;> omega
/-- A slice of floats, opened. -/
theorem open_rowF {t e : TypeId} {fuel : Nat} {cs : List Value} {x : DataW H × List MemPlace} (ht : P.underlying t = some (.slice e)) (he : P.underlying e = some (.float .f32)) (hc : P.cellsOf e = 1)
    (h : DataW.trod enc P w base spare held fuel t cs = some x) : ∃ (A : Option Addr) (len cap : Nat) (f : Nat → Nat), cs = [.slice A len cap] ∧ RawF w A len f := by
  rcases Go.Deep.open_slice1 ht hc h with ⟨rfl, _⟩ | ⟨a, len, cap, m, n, V, D, Pl, rfl, _, hl, hmx, hm, _, hx⟩
  · exact ⟨none, 0, 0, fun _ => 0, rfl, row_nil, by omega, fun j hj => absurd hj (Nat.not_lt_zero _)⟩
  · have hlm := max_le hl hm
    obtain ⟨f, hf⟩ := Go.Deep.choose_lt (α := Nat) (p := fun i b => V i = .float .f32 b ∧ b < 4294967296) (n := len) (fun i hi => by
      obtain ⟨_, h2⟩ := hx i (by omega)
      obtain ⟨b, hb, hw⟩ := trod_f he h2
      exact ⟨b, by simpa using hb, f32_wf hw⟩)
    refine ⟨some a, len, cap, f, rfl, row_of fun i hi => ?_, ?_, fun j hj => (hf j hj).2⟩
    · rw [(hx i (by omega)).1, (hf i hi).1]; rfl
    · have : maxLen = 9223372036854775807 := rfl
      omega
/-- A slice of ints, opened. -/
theorem open_rowI {t e : TypeId} {fuel : Nat} {cs : List Value} {x : DataW H × List MemPlace} (ht : P.underlying t = some (.slice e)) (he : P.underlying e = some (.int .i64)) (hc : P.cellsOf e = 1)
    (h : DataW.trod enc P w base spare held fuel t cs = some x) : ∃ (A : Option Addr) (len cap : Nat) (f : Nat → Int), cs = [.slice A len cap] ∧ RawI w A len f := by
  rcases Go.Deep.open_slice1 ht hc h with ⟨rfl, _⟩ | ⟨a, len, cap, m, n, V, D, Pl, rfl, _, hl, hmx, hm, _, hx⟩
  · exact ⟨none, 0, 0, fun _ => 0, rfl, row_nil, by omega, fun j hj => absurd hj (Nat.not_lt_zero _)⟩
  · have hlm := max_le hl hm
    obtain ⟨f, hf⟩ := Go.Deep.choose_lt (α := Int) (p := fun i b => V i = .int .i64 b ∧ (-9223372036854775808 ≤ b ∧ b ≤ 9223372036854775807)) (n := len) (fun i hi => by
      obtain ⟨_, h2⟩ := hx i (by omega)
      obtain ⟨b, hb, _, hw⟩ := DataW.trod_int he h2
      exact ⟨b, by simpa using hb, i64_wf hw⟩)
    refine ⟨some a, len, cap, f, rfl, row_of fun i hi => ?_, ?_, fun j hj => (hf j hj).2⟩
    · rw [(hx i (by omega)).1, (hf i hi).1]; rfl
    · have : maxLen = 9223372036854775807 := rfl
      omega
/-- A slice of slices of floats, opened. -/
theorem open_rowFF {t s e : TypeId} {fuel : Nat} {cs : List Value} {x : DataW H × List MemPlace} (ht : P.underlying t = some (.slice s)) (hs : P.underlying s = some (.slice e)) (he : P.underlying e = some (.float .f32)) (hcs : P.cellsOf s = 1) (hc : P.cellsOf e = 1)
    (h : DataW.trod enc P w base spare held fuel t cs = some x) :
    ∃ (A : Option Addr) (len cap : Nat) (R : Nat → Option Addr) (rn rc : Nat → Nat) (sp : Nat → Nat → Nat), cs = [.slice A len cap] ∧ Row w A len (fun i => .slice (R i) (rn i) (rc i)) ∧ len ≤ 9223372036854775807 ∧ ∀ i, i < len → RawF w (R i) (rn i) (sp i) := by
  rcases Go.Deep.open_slice1 ht hcs h with ⟨rfl, _⟩ | ⟨a, len, cap, m, n, V, D, Pl, rfl, _, hl, hmx, hm, _, hx⟩
  · exact ⟨none, 0, 0, fun _ => none, fun _ => 0, fun _ => 0, fun _ _ => 0, rfl, row_nil, by omega, fun j hj => absurd hj (Nat.not_lt_zero _)⟩
  · have hlm := max_le hl hm
    obtain ⟨f, hf⟩ := Go.Deep.choose_lt (α := Option Addr × Nat × Nat × (Nat → Nat)) (p := fun i b => V i = .slice b.1 b.2.1 b.2.2.1 ∧ RawF w b.1 b.2.1 b.2.2.2) (n := len) (fun i hi => by
      obtain ⟨_, h2⟩ := hx i (by omega)
      obtain ⟨A, l, c, f, hb, hw⟩ := open_rowF hs he hc h2
      exact ⟨(A, l, c, f), by simpa using hb, hw⟩)
    refine ⟨some a, len, cap, fun i => (f i).1, fun i => (f i).2.1, fun i => (f i).2.2.1, fun i => (f i).2.2.2, rfl, row_of fun i hi => ?_, ?_, fun j hj => (hf j hj).2⟩
    · rw [(hx i (by omega)).1, (hf i hi).1]
    · have : maxLen = 9223372036854775807 := rfl
      omega
end
/-- A polar, opened. -/
theorem open_polar {H : Type} {enc : TypeId × Value → H} {w : World} {base b0 : Nat} {spare : Nat → Bool} {held : Bool} {r : Reach} {v : Value} {d : DataW H} {p : List MemPlace}
    (hv : Value.okWide Try.prog w r b0 43 v) (h : DataW.Trod enc Try.prog w base spare held 43 v d p) :
    ∃ Q : Pol, v = .agg #[.slice Q.W Q.nw Q.cw, .slice Q.A Q.na Q.ca, .slice Q.S Q.ns Q.cs] ∧ RawIn w Q := by
  obtain ⟨v0, v1, v2, y0, y1, y2, n, rfl, _, _, h0, h1, h2⟩ := Go.Joins.open_agg3 Try.underlying43 (by kernel_rfl) (by kernel_rfl) hv h
  obtain ⟨W, nw, cw, ws, e0, r0⟩ := open_rowF Try.underlying24 Try.underlying31 (by kernel_rfl) h0
  obtain ⟨A, na, ca, av, e1, r1⟩ := open_rowI Try.underlying25 Try.underlying3 (by kernel_rfl) h1
  obtain ⟨S, ns, cs, R, rn, rc, sp, e2, r2, r3, r4⟩ := open_rowFF Try.underlying26 Try.underlying24 Try.underlying31 (by kernel_rfl) (by kernel_rfl) h2
  simp only [List.cons.injEq, and_true] at e0 e1 e2
  subst e0 e1 e2
  exact ⟨⟨W, nw, cw, ws, A, na, ca, av, S, ns, cs, R, rn, rc, sp⟩, rfl, r0, r1, ⟨r2, r3⟩, r4⟩
end Go.Proofs.Ytdhdefhllleeiaa

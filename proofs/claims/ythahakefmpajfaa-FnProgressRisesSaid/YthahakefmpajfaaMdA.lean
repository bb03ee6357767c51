/- The middle of two places, in numbers; middle (laws); boxes in a list. -/
import Derived.Test.YthahakefmpajfaaLiA
import Derived.Test.YthahakefmpajfaaLiJ
import Derived.RegionTactic
import Derived.BigRegion
namespace Go.Proofs.Ythahakefmpajfaa
open Go.RowKit
set_option linter.unusedVariables false
set_option linter.unusedSimpArgs false

/-- The middle of two places, and the place as far behind it. -/
def midP (a b : Int × Int) : Int × Int := (a.1 + (b.1 - a.1).tdiv 2, a.2 + (b.2 - a.2).tdiv 2)
def endP (a b : Int × Int) : Int × Int := (a.1 + 2 * (b.1 - a.1).tdiv 2, a.2 + 2 * (b.2 - a.2).tdiv 2)
theorem half_bd (d : Int) : (0 ≤ d → 0 ≤ 2 * d.tdiv 2 ∧ 2 * d.tdiv 2 ≤ d) ∧ (d ≤ 0 → d ≤ 2 * d.tdiv 2 ∧ 2 * d.tdiv 2 ≤ 0) := by
  constructor
  · intro h
    rw [Int.tdiv_eq_ediv_of_nonneg h]
    omega
  · intro h
    have e : d.tdiv 2 = -((-d) / 2) := by
      rw [← Int.tdiv_eq_ediv_of_nonneg (a := -d) (by omega), Int.neg_tdiv, Int.neg_neg]
    rw [e]
    omega
theorem mid_ok {a b : Int × Int} (ha : plB a = true) (hb : plB b = true) : plB (midP a b) = true ∧ plB (endP a b) = true := by
  have h1 := plB_iff.1 ha
  have h2 := plB_iff.1 hb
  rw [plB_iff, plB_iff]
  unfold midP endP
  dsimp only
  have d1 := half_bd (b.1 - a.1)
  have d2 := half_bd (b.2 - a.2)
  generalize (b.1 - a.1).tdiv 2 = x at *
  generalize (b.2 - a.2).tdiv 2 = y at *
  omega
/-- The same as words. -/
def mwP (a b : Int × Int) : Int × Int := (wrap64 (a.1 + wrap64 ((wrap64 (b.1 - a.1)).tdiv 2)), wrap64 (a.2 + wrap64 ((wrap64 (b.2 - a.2)).tdiv 2)))
def ewP (a b : Int × Int) : Int × Int := (wrap64 (a.1 + wrap64 (2 * wrap64 ((wrap64 (b.1 - a.1)).tdiv 2))), wrap64 (a.2 + wrap64 (2 * wrap64 ((wrap64 (b.2 - a.2)).tdiv 2))))
theorem wrap_in {x : Int} (h0 : -9223372036854775808 ≤ x) (h1 : x ≤ 9223372036854775807) : wrap64 x = x := by unfold wrap64; omega
theorem mw_eq {a b : Int × Int} (ha : plB a = true) (hb : plB b = true) : mwP a b = midP a b ∧ ewP a b = endP a b := by
  have h1 := plB_iff.1 ha
  have h2 := plB_iff.1 hb
  have d1 := half_bd (b.1 - a.1)
  have d2 := half_bd (b.2 - a.2)
  unfold mwP ewP midP endP
  rw [wrap_in (x := b.1 - a.1) (by omega) (by omega), wrap_in (x := b.2 - a.2) (by omega) (by omega)]
  generalize (b.1 - a.1).tdiv 2 = x at *
  generalize (b.2 - a.2).tdiv 2 = y at *
  rw [wrap_in (x := x) (by omega) (by omega), wrap_in (x := y) (by omega) (by omega), wrap_in (x := 2 * x) (by omega) (by omega), wrap_in (x := 2 * y) (by omega) (by omega)]
  rw [wrap_in (x := a.1 + x) (by omega) (by omega), wrap_in (x := a.2 + y) (by omega) (by omega), wrap_in (x := a.1 + 2 * x) (by omega) (by omega), wrap_in (x := a.2 + 2 * y) (by omega) (by omega)]
  exact ⟨rfl, rfl⟩
/-- Boxes: a list of blocks that stand, and nothing old has turned. -/
def Bxs (w : World) (L : List (Nat × Array Value × TypeId)) (wr : World) : Prop := (∀ x ∈ L, wr.heap[x.1]? = some (.cells x.2.1 x.2.2 (0, 0))) ∧ Below w.heap.size w wr
theorem Bxs.step {w w1 w2 : World} {L : List (Nat × Array Value × TypeId)} (h : Bxs w L w1) (b : Below w1.heap.size w1 w2) : Bxs w L w2 :=
  ⟨fun x hx => (b.block _ (heap_lt (h.1 x hx))).trans (h.1 x hx), h.2.trans (b.mono h.2.size)⟩
theorem Bxs.drew {w w1 : World} {L : List (Nat × Array Value × TypeId)} (h : Bxs w L w1) : Bxs w L w1.drew := ⟨h.1, h.2.drew⟩
theorem Bxs.add {w w1 : World} {L : List (Nat × Array Value × TypeId)} (h : Bxs w L w1) {q : Nat} (hq : w1.heap.size = q) (c : Array Value) (t : TypeId) : Bxs w ((q, c, t) :: L) (w1.alloc (.cells c t)) := by
  have k := h.step ((Below.refl _ _).alloc (Nat.le_refl _) (.cells c t))
  refine ⟨fun x hx => ?_, k.2⟩
  cases hx with
  | head => subst hq; exact heap_alloc_new w1 _
  | tail _ hx => exact k.1 x hx
theorem Bxs.nil {w w1 : World} (b : Below w.heap.size w w1) : Bxs w [] w1 := ⟨(fun x hx => by cases hx), b⟩
theorem Try.infoPl3 : (Try.prog.info? 25).map (·.size) = some 2 := by kernel_rfl
set_option maxRecDepth 100000 in
set_option maxHeartbeats 4000000 in
theorem l_mid (a b : Int × Int) (w : World) :
    Calls Try.prog 16 #[.agg #[.int .i64 a.1, .int .i64 a.2], .agg #[.int .i64 b.1, .int .i64 b.2]] w
      fun e w' => e = .returned (.tuple #[.agg #[.int .i64 (mwP a b).1, .int .i64 (mwP a b).2], .agg #[.int .i64 (ewP a b).1, .int .i64 (ewP a b).2]]) ∧ Below w.heap.size w w' := by
  have k0 := (((Bxs.nil (Below.refl w.heap.size w)).add rfl #[.int .i64 a.1, .int .i64 a.2] 25).add (q := w.heap.size + 1) (by simp) #[.int .i64 b.1, .int .i64 b.2] 25)
  have k1 := (k0.add (q := w.heap.size + 2) (by simp) #[.int .i64 (mwP a b).1, .int .i64 (mwP a b).2] 25).add (q := w.heap.size + 3) (by simp) #[.int .i64 (ewP a b).1, .int .i64 (ewP a b).2] 25
  have HB := Lib.hid (And.intro (k1.1 _ (.tail _ (.head _))) (And.intro (k1.1 _ (.head _)) k1.2.drew))
  clear k0 k1
  unfold mwP ewP at *
  obtain ⟨x1, x2⟩ := a
  obtain ⟨y1, y2⟩ := b
  dsimp only at *
  go_enter Try.func16, Try.ntmps16
  go_wp2
  go_region
  go_wp2
  exact bodyPost_ret (v := .tuple #[_, _]) (res_cells9 (p := 4) (q := 5) (ty := 25) (ty2 := 25) (by rfl) _ _ (w.heap.size + 2) (w.heap.size + 3) _ _ _ _ (0, 0) (0, 0) _ _ (by rfl) (by rfl) HB.out.1 HB.out.2.1 Try.underlying25 Try.underlying25 rfl rfl Try.infoPl3 Try.infoPl3) rfl
    ⟨rfl, HB.out.2.2⟩
end Go.Proofs.Ythahakefmpajfaa

/- A track that is cut: the middle (laws), starts and being early. -/
import Derived.Test.YtnpgppenkpkfnaaLjS
import Derived.RegionTactic
import Derived.BigRegion
namespace Go.Proofs.Ytnpgppenkpkfnaa
open Go.RowKit
set_option linter.unusedVariables false
set_option linter.unusedSimpArgs false

/-- The same as words. -/
def mwP (a b : Int × Int) : Int × Int := (wrap64 (a.1 + wrap64 ((wrap64 (b.1 - a.1)).tdiv 2)), wrap64 (a.2 + wrap64 ((wrap64 (b.2 - a.2)).tdiv 2)))
def ewP (a b : Int × Int) : Int × Int := (wrap64 (a.1 + wrap64 (2 * wrap64 ((wrap64 (b.1 - a.1)).tdiv 2))), wrap64 (a.2 + wrap64 (2 * wrap64 ((wrap64 (b.2 - a.2)).tdiv 2))))
theorem wrap_in {x : Int} (h0 : -9223372036854775808 ≤ x) (h1 : x ≤ 9223372036854775807) : wrap64 x = x := by unfold wrap64; omega
theorem mw_eq {a b : Int × Int} (ha : plB a = true) (hb : plB b = true) : mwP a b = midP a b ∧ ewP a b = endP a b := by
  have h1 := plB_iff.1 ha
  have h2 := plB_iff.1 hb
  have d1 := half_bd (b.1 - a.1)
  have d2 := half_bd (b.2 - a.2)
  unfold mwP ewP midP endP
  rw [wrap_in (x := b.1 - a.1) (by omega) (by omega), wrap_in (x := b.2 - a.2) (by omega) (by omega)]
  generalize (b.1 - a.1).tdiv 2 = x at *
  generalize (b.2 - a.2).tdiv 2 = y at *
  rw [wrap_in (x := x) (by omega) (by omega), wrap_in (x := y) (by omega) (by omega), wrap_in (x := 2 * x) (by omega) (by omega), wrap_in (x := 2 * y) (by omega) (by omega)]
  rw [wrap_in (x := a.1 + x) (by omega) (by omega), wrap_in (x := a.2 + y) (by omega) (by omega), wrap_in (x := a.1 + 2 * x) (by omega) (by omega), wrap_in (x := a.2 + 2 * y) (by omega) (by omega)]
  exact ⟨rfl, rfl⟩
/-- Boxes: a list of blocks that stand, and nothing old has turned. -/
def Bxs (w : World) (L : List (Nat × Array Value × TypeId)) (wr : World) : Prop := (∀ x ∈ L, wr.heap[x.1]? = some (.cells x.2.1 x.2.2 (0, 0))) ∧ Below w.heap.size w wr
theorem Bxs.step {w w1 w2 : World} {L : List (Nat × Array Value × TypeId)} (h : Bxs w L w1) (b : Below w1.heap.size w1 w2) : Bxs w L w2 :=
  ⟨fun x hx => (b.block _ (heap_lt (h.1 x hx))).trans (h.1 x hx), h.2.trans (b.mono h.2.size)⟩
theorem Bxs.drew {w w1 : World} {L : List (Nat × Array Value × TypeId)} (h : Bxs w L w1) : Bxs w L w1.drew := ⟨h.1, h.2.drew⟩
theorem Bxs.add {w w1 : World} {L : List (Nat × Array Value × TypeId)} (h : Bxs w L w1) {q : Nat} (hq : w1.heap.size = q) (c : Array Value) (t : TypeId) : Bxs w ((q, c, t) :: L) (w1.alloc (.cells c t)) := by
  have k := h.step ((Below.refl _ _).alloc (Nat.le_refl _) (.cells c t))
  refine ⟨fun x hx => ?_, k.2⟩
  cases hx with
  | head => subst hq; exact heap_alloc_new w1 _
  | tail _ hx => exact k.1 x hx
theorem Bxs.nil {w w1 : World} (b : Below w.heap.size w w1) : Bxs w [] w1 := ⟨(fun x hx => by cases hx), b⟩
set_option maxRecDepth 100000 in
set_option maxHeartbeats 4000000 in
theorem l_mid (a b : Int × Int) (w : World) :
    Calls Try.prog 18 #[.agg #[.int .i64 a.1, .int .i64 a.2], .agg #[.int .i64 b.1, .int .i64 b.2]] w
      fun e w' => e = .returned (.tuple #[.agg #[.int .i64 (mwP a b).1, .int .i64 (mwP a b).2], .agg #[.int .i64 (ewP a b).1, .int .i64 (ewP a b).2]]) ∧ Below w.heap.size w w' := by
  have k0 := (((Bxs.nil (Below.refl w.heap.size w)).add rfl #[.int .i64 a.1, .int .i64 a.2] 25).add (q := w.heap.size + 1) (by simp) #[.int .i64 b.1, .int .i64 b.2] 25)
  have k1 := (k0.add (q := w.heap.size + 2) (by simp) #[.int .i64 (mwP a b).1, .int .i64 (mwP a b).2] 25).add (q := w.heap.size + 3) (by simp) #[.int .i64 (ewP a b).1, .int .i64 (ewP a b).2] 25
  have HB := Lib.hid (And.intro (k1.1 _ (.tail _ (.head _))) (And.intro (k1.1 _ (.head _)) k1.2.drew))
  clear k0 k1
  unfold mwP ewP at *
  obtain ⟨x1, x2⟩ := a
  obtain ⟨y1, y2⟩ := b
  dsimp only at *
  go_enter Try.func18, Try.ntmps18
  go_wp2
  go_region
  go_wp2
  exact bodyPost_ret (v := .tuple #[_, _]) (res_cells9 (p := 4) (q := 5) (ty := 25) (ty2 := 25) (by rfl) _ _ (w.heap.size + 2) (w.heap.size + 3) _ _ _ _ (0, 0) (0, 0) _ _ (by rfl) (by rfl) HB.out.1 HB.out.2.1 Try.underlying25 Try.underlying25 rfl rfl Try.infoPl2 Try.infoPl2) rfl
    ⟨rfl, HB.out.2.2⟩
def three (s m e : Sg) (j : Nat) : Sg := if j = 0 then s else if j = 1 then m else e
theorem hit_iff {l : Ln} {f : Nat → Sg} {gun : Int} {k : Nat} (ht : tk2 (f k) (f (k + 1)) = true) (hg : gun ≤ (f k).2) : hitB l f gun k = decide (crW l (f k).1 (f (k + 1)).1 = 1) := by
  unfold hitB
  by_cases h : crW l (f k).1 (f (k + 1)).1 = 1
  · have hb : ctB l (f k) (f (k + 1)) = true := ctB_iff.2 ⟨by omega, ht⟩
    have := ct_time hb
    rw [hb, decide_eq_true h, decide_eq_true (show gun ≤ ctW l (f k) (f (k + 1)) by omega)]
    rfl
  · rw [decide_eq_false h, Bool.and_false]
theorem ctW_eq {l : Ln} {s t : Sg} (h : crW l s.1 t.1 = 1) (ht : tk2 s t = true) : ctW l s t = s.2 + ctD (t.2 - s.2) (hgt l s.1) (hgt l t.1) := by
  unfold ctW
  rw [ctB_iff.2 ⟨by omega, ht⟩]
  rfl
theorem cr_one {l : Ln} {a b : Int × Int} (h : crW l a b = 1) : 0 ≤ hgt l a ∧ hgt l b < 0 := by
  obtain ⟨_, _, _, h1⟩ := cr_sides (l := l) (a := a) (b := b) (by omega)
  omega
/-- A track that is cut starts alike, and at the same second. -/
theorem cut_start {l : Ln} {s t : Sg} {H : Int} (hl : liB l = true) (ht : tk2 s t = true) (h1 : 1 ≤ H) (h2 : 2 * H ≤ t.2 - s.2) :
    stR l 3 (three s (midP s.1 t.1, s.2 + H) (endP s.1 t.1, s.2 + 2 * H)) s.2 = stR l 2 (two s (endP s.1 t.1, s.2 + 2 * H)) s.2 := by
  obtain ⟨pa, pb, bs, bt, _⟩ := tk2_iff.1 ht
  obtain ⟨pm, pu⟩ := mid_ok pa pb
  have k1 : tk2 s (endP s.1 t.1, s.2 + 2 * H) = true := tk2_iff.2 ⟨pa, pu, bs, by dsimp only; omega, by dsimp only; omega⟩
  have k2 : tk2 s (midP s.1 t.1, s.2 + H) = true := tk2_iff.2 ⟨pa, pm, bs, by dsimp only; omega, by dsimp only; omega⟩
  have k3 : tk2 (midP s.1 t.1, s.2 + H) (endP s.1 t.1, s.2 + 2 * H) = true := tk2_iff.2 ⟨pm, pu, by dsimp only; omega, by dsimp only; omega, by dsimp only; omega⟩
  have T2 : tkB 2 (two s (endP s.1 t.1, s.2 + 2 * H)) = true := k1
  have T3 : tkB 3 (three s (midP s.1 t.1, s.2 + H) (endP s.1 t.1, s.2 + 2 * H)) = true := by
    rw [tkB_iff]
    refine ⟨by omega, fun j hj => ?_⟩
    have hj3 : j = 0 ∨ j = 1 ∨ j = 2 := by omega
    unfold SgOk three
    rcases hj3 with rfl | rfl | rfl
    · exact ⟨pa, bs, fun h => by omega⟩
    · exact ⟨pm, by simp; omega, fun _ => by simp; omega⟩
    · exact ⟨pu, by simp; omega, fun _ => by simp; omega⟩
  have E2 : stR l 2 (two s (endP s.1 t.1, s.2 + 2 * H)) s.2 = if crW l s.1 (endP s.1 t.1) = 1 then (ctW l s (endP s.1 t.1, s.2 + 2 * H), true) else (0, false) := by
    unfold stR
    rw [T2]
    show (if hitB l _ _ 0 = true then _ else (0, false)) = _
    have q0 : hitB l (two s (endP s.1 t.1, s.2 + 2 * H)) s.2 0 = decide (crW l s.1 (endP s.1 t.1) = 1) := hit_iff (l := l) (f := two s (endP s.1 t.1, s.2 + 2 * H)) (gun := s.2) (k := 0) k1 (Int.le_refl _)
    rw [q0]
    simp only [decide_eq_true_eq]
    rfl
  have E3 : stR l 3 (three s (midP s.1 t.1, s.2 + H) (endP s.1 t.1, s.2 + 2 * H)) s.2 = if crW l s.1 (midP s.1 t.1) = 1 then (ctW l s (midP s.1 t.1, s.2 + H), true) else if crW l (midP s.1 t.1) (endP s.1 t.1) = 1 then (ctW l (midP s.1 t.1, s.2 + H) (endP s.1 t.1, s.2 + 2 * H), true) else (0, false) := by
    unfold stR
    rw [T3]
    show (if hitB l _ _ 0 = true then _ else if hitB l _ _ 1 = true then _ else (0, false)) = _
    have q0 : hitB l (three s (midP s.1 t.1, s.2 + H) (endP s.1 t.1, s.2 + 2 * H)) s.2 0 = decide (crW l s.1 (midP s.1 t.1) = 1) := hit_iff (l := l) (f := three s (midP s.1 t.1, s.2 + H) (endP s.1 t.1, s.2 + 2 * H)) (gun := s.2) (k := 0) k2 (Int.le_refl _)
    have q1 : hitB l (three s (midP s.1 t.1, s.2 + H) (endP s.1 t.1, s.2 + 2 * H)) s.2 1 = decide (crW l (midP s.1 t.1) (endP s.1 t.1) = 1) := hit_iff (l := l) (f := three s (midP s.1 t.1, s.2 + H) (endP s.1 t.1, s.2 + 2 * H)) (gun := s.2) (k := 1) k3 (show s.2 ≤ s.2 + H by omega)
    rw [q0, q1]
    simp only [decide_eq_true_eq]
    rfl
  rw [E2, E3]
  have hm := hgt_mid l s.1 t.1
  have hc := cut_cr hl pa pb
  have b1 := crW_bd l s.1 (midP s.1 t.1)
  have b2 := crW_bd l (midP s.1 t.1) (endP s.1 t.1)
  clear E2 E3 T2 T3
  by_cases g1 : crW l s.1 (midP s.1 t.1) = 1
  · rw [if_pos g1]
    obtain ⟨q1, q2⟩ := cr_one g1
    have g2 : crW l s.1 (endP s.1 t.1) = 1 := by
      have q3 : ¬ crW l (midP s.1 t.1) (endP s.1 t.1) = -1 := fun q => by
        obtain ⟨_, _, _, q4⟩ := cr_sides (l := l) (a := midP s.1 t.1) (b := endP s.1 t.1) (by omega)
        omega
      have q5 : ¬ crW l (midP s.1 t.1) (endP s.1 t.1) = 1 := fun q => by
        have := cr_one q
        omega
      omega
    rw [if_pos g2, ctW_eq g1 k2, ctW_eq g2 k1]
    dsimp only
    rw [show s.2 + H - s.2 = H by omega, show s.2 + 2 * H - s.2 = 2 * H by omega, ctD_first (by omega) hm q1 q2]
  · rw [if_neg g1]
    by_cases g3 : crW l (midP s.1 t.1) (endP s.1 t.1) = 1
    · rw [if_pos g3]
      obtain ⟨q1, q2⟩ := cr_one g3
      have g2 : crW l s.1 (endP s.1 t.1) = 1 := by
        have q3 : ¬ crW l s.1 (midP s.1 t.1) = -1 := fun q => by
          obtain ⟨_, _, _, q4⟩ := cr_sides (l := l) (a := s.1) (b := midP s.1 t.1) (by omega)
          omega
        omega
      rw [if_pos g2, ctW_eq g3 k3, ctW_eq g2 k1]
      dsimp only
      rw [show s.2 + 2 * H - (s.2 + H) = H by omega, show s.2 + 2 * H - s.2 = 2 * H by omega, ctD_second (by omega) hm q1 q2]
      rw [Int.add_assoc]
    · rw [if_neg g3, if_neg (by omega)]
/-- In the middle a boat is early exactly if she is ahead. -/
theorem cut_early {l : Ln} {s t : Sg} {H : Int} (hl : liB l = true) (ht : tk2 s t = true) (h1 : 1 ≤ H) (h2 : 2 * H ≤ t.2 - s.2) :
    eaR l 2 (two s (endP s.1 t.1, s.2 + 2 * H)) (s.2 + H) = (sdW l (midP s.1 t.1) == 1) := by
  obtain ⟨pa, pb, bs, bt, _⟩ := tk2_iff.1 ht
  obtain ⟨pm, pu⟩ := mid_ok pa pb
  have k1 : tk2 s (endP s.1 t.1, s.2 + 2 * H) = true := tk2_iff.2 ⟨pa, pu, bs, by dsimp only; omega, by dsimp only; omega⟩
  have T2 : tkB 2 (two s (endP s.1 t.1, s.2 + 2 * H)) = true := k1
  have hm := hgt_mid l s.1 t.1
  have e1 : eaR l 2 (two s (endP s.1 t.1, s.2 + 2 * H)) (s.2 + H) = eaHit l (two s (endP s.1 t.1, s.2 + 2 * H)) (s.2 + H) 0 := by
    unfold eaR
    rw [hl, T2]
    show (if eaHit l _ _ 0 = true then true else false) = _
    cases eaHit l (two s (endP s.1 t.1, s.2 + 2 * H)) (s.2 + H) 0 <;> rfl
  have e2 : eaHit l (two s (endP s.1 t.1, s.2 + 2 * H)) (s.2 + H) 0 = decide (hgt l (midP s.1 t.1) < 0) := by
    unfold eaHit
    show (decide (s.2 ≤ s.2 + H ∧ s.2 + H ≤ s.2 + 2 * H) && decide (eaV (hgt l s.1) (hgt l (endP s.1 t.1)) s.2 (s.2 + 2 * H) (s.2 + H) < 0)) = _
    rw [decide_eq_true (show s.2 ≤ s.2 + H ∧ s.2 + H ≤ s.2 + 2 * H by omega), Bool.true_and]
    congr 1
    apply propext
    unfold eaV
    rw [show s.2 + 2 * H - (s.2 + H) = H by omega, show s.2 + H - s.2 = H by omega, ← Int.add_mul, ← hm]
    rw [mul_neg_iff (by omega)]
    omega
  rw [e1, e2]
  rcases sd_ways l (midP s.1 t.1) with ⟨a, _⟩ | ⟨_, a, _⟩ | ⟨_, _, a, b⟩ | ⟨_, _, a, _, b⟩ | ⟨_, _, a, _, b⟩
  · rw [hl] at a; cases a
  · rw [pm] at a; cases a
  · rw [b, decide_eq_true a]; rfl
  · rw [b, decide_eq_false a]; rfl
  · rw [b, decide_eq_false a]; rfl
end Go.Proofs.Ytnpgppenkpkfnaa

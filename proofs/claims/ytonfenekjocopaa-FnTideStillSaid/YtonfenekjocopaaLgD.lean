/- A leg's move; RunLegs (impl and spec). -/
import Derived.Test.YtonfenekjocopaaLgC
import Derived.Deep.RegionHeld3
namespace Go.Proofs.Ytonfenekjocopaa
open Go.RowKit Ieee
set_option linter.unusedVariables false
set_option linter.unusedSimpArgs false
attribute [local go_sem] st_cplx

/-- Nothing that lay in a world has turned. -/
def BelW (W wx : World) : Prop := Below W.heap.size W wx
theorem BelW.refl (W : World) : BelW W W := Below.refl _ _
theorem BelW.drew {W wx : World} (h : BelW W wx) : BelW W wx.drew := Below.drew h
theorem BelW.step {W wx w' : World} (h : BelW W wx) (k : Below wx.heap.size wx w') : BelW W w' := Below.trans h (k.mono h.size)
theorem BelW.cell {W wx : World} (h : BelW W wx) {g k : Nat} {v : Value} (hc : W.cell? ⟨g, k, none⟩ = some v) : wx.cell? ⟨g, k, none⟩ = some v := by
  have hg : g < W.heap.size := by
    rcases Nat.lt_or_ge g W.heap.size with h' | h'
    · exact h'
    · simp [World.cell?, Array.getElem?_eq_none h'] at hc
  have e := h.block g hg
  rw [← hc]
  simp only [World.cell?, e]

set_option maxRecDepth 100000 in
set_option maxHeartbeats 2000000 in
theorem i_move (h : Int) (s : Nat) (n : Int) (b : Nat) (p q : Nat × Nat) (w : World) (hp : W64 p) (hs : okBs s) (hq : okV q.1 q.2) (hb : w.heap[b]? = some (.cells #[.complex .f64 p.1 p.2] 24 (0, 0))) :
    Calls Try.prog 40 #[.agg #[.int .i64 h, .float .f32 s, .int .i64 n], .pointer (some ⟨b, 0, none⟩), .complex .f32 q.1 q.2] w fun e w' =>
      e = .returned (.bool (stepB p (grdW s q.1 q.2 (dg h)) n)) ∧ w'.heap[b]? = some (.cells #[.complex .f64 (if stepB p (grdW s q.1 q.2 (dg h)) n = true then stepW p (grdW s q.1 q.2 (dg h)) n else p).1 (if stepB p (grdW s q.1 q.2 (dg h)) n = true then stepW p (grdW s q.1 q.2 (dg h)) n else p).2] 24 (0, 0)) ∧ w.grownBy w' (some b) := by
  have G := grd_ok hs (dg_lt h) hq
  have co := fun w => i_over h s q.1 q.2 w hs hq
  have hbl := block_lt hb
  have hbx := heap_alloc_new w (.cells #[.int .i64 h, .float .f32 s, .int .i64 n] 45)
  have hb1 := (Below.heap_alloc w (.cells #[.int .i64 h, .float .f32 s, .int .i64 n] 45) _ hbl).trans hb
  have hB1 := (Below.refl w.heap.size w).alloc (Nat.le_refl _) (.cells #[.int .i64 h, .float .f32 s, .int .i64 n] 45)
  have cs := fun w => i_stepOn p (grdW s q.1 q.2 (dg h)) n w hp ⟨G.l1, G.l2⟩
  have hsf : stepF p (grdW s q.1 q.2 (dg h)) n = if stepB p (grdW s q.1 q.2 (dg h)) n = true then stepW p (grdW s q.1 q.2 (dg h)) n else (0, 0) := rfl
  rw [hsf] at cs
  clear hsf G hp hs hq hb
  have HX := Lib.hid (And.intro hbx (And.intro hb1 hB1))
  clear hbx hb1 hB1
  generalize stepB p (grdW s q.1 q.2 (dg h)) n = t at *
  generalize stepW p (grdW s q.1 q.2 (dg h)) n = r at *
  generalize grdW s q.1 q.2 (dg h) = v at *
  obtain ⟨v1, v2⟩ := v
  obtain ⟨p1, p2⟩ := p
  obtain ⟨q1, q2⟩ := q
  obtain ⟨r1, r2⟩ := r
  dsimp only at *
  cases t
  all_goals
    simp only [Bool.false_eq_true, if_false, if_true] at cs ⊢
    go_enter Try.func40, Try.ntmps40
    go_wp2_with fail
    refine (co _).mono ?_
    rintro e w1 ⟨rfl, c1⟩
    have b1 : BelW (w.alloc (.cells #[.int .i64 h, .float .f32 s, .int .i64 n] 45)) w1 := c1
    have HB := Lib.hid b1
    have k0 : ∀ wx, BelW w1 wx → wx.cell? ⟨b, 0, none⟩ = some (.complex .f64 p1 p2) := fun wx hx => hx.cell (HB.out.cell (cell_of_row _ _ 0 _ _ _ HX.out.2.1))
    have k2 : ∀ wx, BelW w1 wx → wx.cell? ⟨w.heap.size, 2, none⟩ = some (.int .i64 n) := fun wx hx => hx.cell (HB.out.cell (cell_of_row _ _ 2 _ _ _ HX.out.1))
    have S0 := BelW.refl w1
    clear b1 c1 co
    go_upto_region 4 with fail
    go_region_held3 (fun wx => BelW w1 wx) (first | assumption | exact BelW.drew (by assumption) | exact BelW.step (by assumption) (by assumption))
      (first | (go_at_call 15; with_reducible refine (cs _).mono ?_; rintro e w6 ⟨rfl, b6⟩))
    have hS : BelW w1 w6 := by assumption
    have b16 := Below.trans HB.out (Below.mono hS HB.out.size)
    have hb6 := (b16.block b (by simp; omega)).trans HX.out.2.1
    have g16 : w.grownBy w6 (some b) := grown_trans (World.grownBy_alloc w _ (some b)) ⟨b16.os, b16.tape, b16.output, b16.size, fun k hk _ => b16.block k hk⟩
    obtain ⟨_, x6, f6⟩ := cell_at hb6 (k := 0) rfl Nat.one_pos
    have hb7 := heap_set_self (k := 0) hb6 (.complex .f64 r1 r2)
    have g17 := grown_trans g16 (grown_set w6 b 0 (.complex .f64 r1 r2))
    have HE := Lib.hid (And.intro (And.intro hb6 g16) (And.intro hb7 g17))
    clear hb6 g16 hb7 g17 b16 hS k0 k2 S0 HB HX cs
    go_wp2_with fail
    go_ret
    first
      | exact ⟨rfl, HE.out.1.1, HE.out.1.2⟩
      | exact ⟨rfl, by simpa using HE.out.2.1, HE.out.2.2⟩

/-- Where some legs lead: words. -/
noncomputable def runW (q : Nat × Nat) (ls : Nat → Int × Nat × Int) (p : Nat × Nat) : Nat → Option (Nat × Nat)
  | 0 => some p
  | k + 1 => match runW q ls p k with
    | none => none
    | some r => if stepB r (grdW (ls k).2.1 q.1 q.2 (dg (ls k).1)) (ls k).2.2 = true then some (stepW r (grdW (ls k).2.1 q.1 q.2 (dg (ls k).1)) (ls k).2.2) else none
theorem runW_step {q : Nat × Nat} {ls : Nat → Int × Nat × Int} {p r : Nat × Nat} {k : Nat} (h : runW q ls p k = some r) :
    runW q ls p (k + 1) = if stepB r (grdW (ls k).2.1 q.1 q.2 (dg (ls k).1)) (ls k).2.2 = true then some (stepW r (grdW (ls k).2.1 q.1 q.2 (dg (ls k).1)) (ls k).2.2) else none := by
  rw [runW.eq_def]; simp only; rw [h]
theorem runW_none {q : Nat × Nat} {ls : Nat → Int × Nat × Int} {p : Nat × Nat} {k : Nat} (h : runW q ls p k = none) : ∀ m, k ≤ m → runW q ls p m = none := fun m hm => by
  induction m with
  | zero => rw [show 0 = k by omega]; exact h
  | succ m ih =>
    rcases Nat.lt_or_ge m k with g | g
    · rw [show m + 1 = k by omega]; exact h
    · rw [runW.eq_def]; simp only; rw [ih g]
/-- What it tells, all in all. -/
noncomputable def runO (p : Nat × Nat) (n : Nat) (ls : Nat → Int × Nat × Int) (q : Nat × Nat) : Option (Nat × Nat) := if (vcB p && lsB n ls && vlB q) = true then runW q ls p n else none
end Go.Proofs.Ytonfenekjocopaa

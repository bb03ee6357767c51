/- The drawing of what is asked of the gun: DrawEarlyAt. -/
import Derived.Test.YtnpgppenkpkfnaaLiK
namespace Go.Proofs.Ytnpgppenkpkfnaa
open Go.RowKit
set_option linter.unusedVariables false
set_option linter.unusedSimpArgs false

/-- What is drawn where a boat's being early is asked. -/
def EaE (w : World) (e : Ending) (w' : World) : Prop := ∃ (l : Ln) (n : Nat) (TA : Option Addr) (tg tc : Nat) (f : Nat → Sg) (gun : Int),
      e = .returned (.tuple #[.agg #[.int .i64 l.1.1, .int .i64 l.1.2, .int .i64 l.2.1, .int .i64 l.2.2], .slice TA n tc, .int .i64 gun]) ∧ n ≤ 201 ∧ (0 < n → TA = some ⟨tg, 0, none⟩ ∧ w.heap.size ≤ tg) ∧ SigsIn w' tg 0 n f ∧ Below w.heap.size w w'
/-- A store far off leaves the sights. -/
theorem sigs_far {w w' : World} {g o n q : Nat} {f : Nat → Sg} (h : SigsIn w g o n f) (k : w.grownBy w' (some q)) (hne : 0 < n → q ≠ g) : SigsIn w' g o n f := fun j hj => by
  have hg := h.lt (by omega)
  exact h.same (k.block g hg (fun e => hne (by omega) (by injection e with e; exact e.symm))) j hj
set_option maxRecDepth 100000 in
set_option maxHeartbeats 2000000 in
theorem d_earlyAt (w : World) (len cap : Nat) (A : Option Addr) (hcode : Code w w.heap.size A len) :
    Calls Try.prog 28 #[.slice A len cap] w (EaE w) := by
  have bb := Bx1.new w #[.int .i64 0, .int .i64 0, .int .i64 0, .int .i64 0] 27
  have hs2 : (w.alloc (.cells #[.int .i64 0, .int .i64 0, .int .i64 0, .int .i64 0] 27)).heap.size = w.heap.size + 1 := by simp
  have hc1 := code_step9 hcode bb.2 (show w.heap.size ≤ (w.alloc (.cells #[.int .i64 0, .int .i64 0, .int .i64 0, .int .i64 0] 27)).heap.size by omega)
  have HBB := Lib.hid bb
  have hlen := hcode.1
  clear bb
  go_enter Try.func28, Try.ntmps28
  go_wp2_with fail
  refine (d_startTime _ len cap A hc1).mono ?_
  rintro e w1 ⟨⟨⟨x1, x2⟩, x3, x4⟩, n, TA, tg, tc, f, gun, rfl, hn, hTA, hSig, b1⟩
  rw [hs2] at b1 hTA
  dsimp only at *
  have r1 := (b1.block w.heap.size (by omega)).trans HBB.out.1
  have B1 := Lib.hid (HBB.out.2.trans (b1.mono (by omega)))
  have l1 := block_lt r1
  clear hc1 hs2 b1 HBB hcode
  have bx3 := heap_alloc_new w1 (.cells #[.int .i64 x1, .int .i64 x2, .int .i64 x3, .int .i64 x4] 27)
  have r13 := (Below.heap_alloc w1 (.cells #[.int .i64 x1, .int .i64 x2, .int .i64 x3, .int .i64 x4] 27) w.heap.size l1).trans r1
  have B3 := Lib.hid (B1.out.alloc B1.out.size (.cells #[.int .i64 x1, .int .i64 x2, .int .i64 x3, .int .i64 x4] 27))
  have bA : Below w1.heap.size w1 (w1.alloc (.cells #[.int .i64 x1, .int .i64 x2, .int .i64 x3, .int .i64 x4] 27)) := (Below.refl _ w1).alloc (Nat.le_refl _) _
  have S3 := Lib.hid (hSig.below bA (Nat.le_refl _))
  have k0 := cell_of_row _ _ 0 _ _ _ bx3
  have k1 := cell_of_row _ _ 1 _ _ _ bx3
  have k2 := cell_of_row _ _ 2 _ _ _ bx3
  have k3 := cell_of_row _ _ 3 _ _ _ bx3
  have S4 := Lib.hid (st4 r13 (.int .i64 x1) (.int .i64 x2) (.int .i64 x3) (.int .i64 x4))
  obtain ⟨⟨_, u0, y0⟩, ⟨_, u1, y1⟩, ⟨_, u2, y2⟩, _, u3, y3⟩ := S4.out.1
  have SF := Lib.hid (sigs_far S3.out S4.out.2.2 (fun h0 e => by have := (hTA h0).2; omega))
  clear r1 B1 r13 bA bx3 hSig
  generalize hw3 : w1.alloc (.cells #[.int .i64 x1, .int .i64 x2, .int .i64 x3, .int .i64 x4] 27) = w3 at *
  by_cases h0 : n = 0
  · subst h0
    go_wp2_with fail
    exact bodyPost_ret (res_cell_tt9 (fn := Try.f28) (p := 2) (u := 3) (v := 4) (ty := 27) rfl _ _ w.heap.size _ #[.int .i64 x1, .int .i64 x2, .int .i64 x3, .int .i64 x4] (0, 0) _ rfl S4.out.2.1 Try.underlying27 rfl Try.infoLn) rfl
      (by unfold EaE; exact ⟨((x1, x2), x3, x4), _, TA, tg, tc, f, _, rfl, hn, fun h => ⟨(hTA h).1, by have := (hTA h).2; omega⟩, SF.out, below_cur B3.out (Nat.le_refl _) S4.out.2.2 (Nat.le_refl _)⟩)
  have h1 : (0 : Int) < (n : Int) := by omega
  by_cases h3 : len % 3 = 0
  · have e3 : ((len : Int).tmod 3 == 0) = true := by rw [beq_iff_eq, Int.tmod_eq_emod_of_nonneg (by omega)]; omega
    have e4 : (len : Int).tmod 3 = 0 := by rw [Int.tmod_eq_emod_of_nonneg (by omega)]; omega
    obtain ⟨rfl, htg⟩ := hTA (by omega)
    have hdv : (n : Int).tdiv 2 = ((n / 2 : Nat) : Int) := by rw [Int.tdiv_eq_ediv_of_nonneg (by omega)]; omega
    have hd1 : ((n / 2 : Nat) : Int) < (n : Int) := by omega
    have hd0 : (0 : Int) ≤ ((n / 2 : Nat) : Int) := by omega
    have c2 := (S3.out (n / 2) (by omega)).2.2
    rw [Nat.zero_add] at c2
    generalize (f (n / 2)).2 = gz at c2
    go_wp2_with fail
    exact bodyPost_ret (res_cell_tt9 (fn := Try.f28) (p := 2) (u := 3) (v := 4) (ty := 27) rfl _ _ w.heap.size _ #[.int .i64 x1, .int .i64 x2, .int .i64 x3, .int .i64 x4] (0, 0) _ rfl S4.out.2.1 Try.underlying27 rfl Try.infoLn) rfl
      (by unfold EaE; exact ⟨((x1, x2), x3, x4), _, _, tg, tc, f, _, rfl, hn, fun _ => ⟨rfl, by omega⟩, SF.out, below_cur B3.out (Nat.le_refl _) S4.out.2.2 (Nat.le_refl _)⟩)
  · have e3 : ((len : Int).tmod 3 == 0) = false := by rw [beq_eq_false_iff_ne, Int.tmod_eq_emod_of_nonneg (by omega)]; omega
    have e4 : ¬ (len : Int).tmod 3 = 0 := by rw [Int.tmod_eq_emod_of_nonneg (by omega)]; omega
    go_wp2_with fail
    exact bodyPost_ret (res_cell_tt9 (fn := Try.f28) (p := 2) (u := 3) (v := 4) (ty := 27) rfl _ _ w.heap.size _ #[.int .i64 x1, .int .i64 x2, .int .i64 x3, .int .i64 x4] (0, 0) _ rfl S4.out.2.1 Try.underlying27 rfl Try.infoLn) rfl
      (by unfold EaE; exact ⟨((x1, x2), x3, x4), _, TA, tg, tc, f, _, rfl, hn, fun h => ⟨(hTA h).1, by have := (hTA h).2; omega⟩, SF.out, below_cur B3.out (Nat.le_refl _) S4.out.2.2 (Nat.le_refl _)⟩)
end Go.Proofs.Ytnpgppenkpkfnaa

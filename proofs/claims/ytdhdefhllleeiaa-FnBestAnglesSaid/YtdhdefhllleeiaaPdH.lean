/- The drawing of polars: DrawMadeUp. -/
import Derived.Test.YtdhdefhllleeiaaPdG
namespace Go.Proofs.Ytdhdefhllleeiaa
open Go.RowKit Ieee
set_option linter.unusedSimpArgs false
set_option linter.unusedVariables false

set_option maxRecDepth 100000 in
set_option maxHeartbeats 4000000 in
theorem d_madeUp (w : World) (len cap : Nat) (A : Option Addr) (hcode : Code w w.heap.size A len) :
    Calls Try.prog 17 #[.slice A len cap] w fun e w' => ∃ (vW vA vS : Value) (n na m x : Nat) (a : Int), e = .returned (.tuple #[.agg #[vW, vA, vS], .float .f32 x, .int .i64 a]) ∧ PolT (w.heap.size + 1) w' vW vA vS n na m ∧ x < 4294967296 ∧ (-9223372036854775808 ≤ a ∧ a ≤ 9223372036854775807) ∧ Below w.heap.size w w' := by
  have b0 : Below w.heap.size w (w.alloc (.cells #[.slice none 0 0, .slice none 0 0, .slice none 0 0] 28)) := (Below.refl _ w).alloc (Nat.le_refl _) _
  have s1 : (w.alloc (.cells #[.slice none 0 0, .slice none 0 0, .slice none 0 0] 28)).heap.size = w.heap.size + 1 := by simp
  have hc1 := hcode.step b0 (Nat.le_succ _)
  rw [show w.heap.size.succ = (w.alloc (.cells #[.slice none 0 0, .slice none 0 0, .slice none 0 0] 28)).heap.size from s1.symm] at hc1
  have hr0 := heap_alloc_new w (.cells #[.slice none 0 0, .slice none 0 0, .slice none 0 0] 28)
  go_enter Try.func17, Try.ntmps17
  go_wp2_with fail
  refine (d_speedAt _ len cap A hc1).mono ?_
  rintro e w3 ⟨vW, vA, vS, n', na', m', x, a, rfl, pt, xl, ha, b2⟩
  rw [s1] at pt b2
  have b03 := b0.trans (b2.mono (Nat.le_succ _))
  have r3 := (b2.block w.heap.size (by omega)).trans hr0
  have hs3 := b2.size
  rw [s1] at hs3
  obtain ⟨AW, cW', rfl, _⟩ := pt.2.1
  obtain ⟨AA, cA', rfl, _⟩ := pt.2.2.1
  obtain ⟨AS, cS', rfl, _⟩ := pt.2.2.2
  have b04 := b03.alloc b03.size (.cells #[.slice AW n' cW', .slice AA na' cA', .slice AS m' cS'] 28)
  have r4 := (Below.heap_alloc w3 (.cells #[.slice AW n' cW', .slice AA na' cA', .slice AS m' cS'] 28) w.heap.size (by omega)).trans r3
  have pt4 := pt.same (fun k _ hk => Below.heap_alloc w3 (.cells #[.slice AW n' cW', .slice AA na' cA', .slice AS m' cS'] 28) k hk)
  have S3 := Lib.hid (store3 (w := w) r4 pt4 (by omega) b04)
  obtain ⟨_, _, _, ⟨x0, y0⟩, ⟨x1, y1⟩, x2, y2⟩ := S3.out.1
  clear pt r3 r4 b03 b04 pt4 b2 b0 hr0 hc1
  go_wp2_with fail
  refine bodyPost_ret (res_cell_tmp2 (fn := Try.f17) (p := 2) (u := 3) (v := 4) (ty := 28) rfl _ _ w.heap.size _ #[.slice AW n' cW', .slice AA na' cA', .slice AS m' cS'] (0, 0) _ rfl S3.out.2.1 Try.underlying28 rfl Try.infoP) rfl ?_
  exact ⟨_, _, _, n', na', m', x, a, rfl, S3.out.2.2.1.low (by omega), xl, ha, S3.out.2.2.2⟩
end Go.Proofs.Ytdhdefhllleeiaa

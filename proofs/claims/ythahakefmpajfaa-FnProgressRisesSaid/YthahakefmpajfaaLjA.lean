/- Places and vectors (impl): the methods of a place, of a vector; comparing whole numbers. -/
import Derived.Test.YthahakefmpajfaaLiD
namespace Go.Proofs.Ythahakefmpajfaa
open Go.RowKit
set_option linter.unusedVariables false
set_option linter.unusedSimpArgs false

theorem i_plB (p : Int × Int) (w : World) : Calls Try.prog 47 #[.agg #[.int .i64 p.1, .int .i64 p.2]] w fun e w' => e = .returned (.bool (plB p)) ∧ Below w.heap.size w w' := by
  have b1 := (Below.refl _ w).alloc (Nat.le_refl _) (.cells #[.int .i64 p.1, .int .i64 p.2] 25)
  obtain ⟨x, y⟩ := p
  dsimp only at *
  have HB := Lib.hid b1
  clear b1
  have hw : (plB (x, y) = false ∧ ¬ -10000 ≤ x) ∨ (plB (x, y) = false ∧ -10000 ≤ x ∧ ¬ x ≤ 10000) ∨ (plB (x, y) = false ∧ -10000 ≤ x ∧ x ≤ 10000 ∧ ¬ -10000 ≤ y) ∨ (plB (x, y) = false ∧ -10000 ≤ x ∧ x ≤ 10000 ∧ -10000 ≤ y ∧ ¬ y ≤ 10000) ∨ (plB (x, y) = true ∧ -10000 ≤ x ∧ x ≤ 10000 ∧ -10000 ≤ y ∧ y ≤ 10000) := by
    cases e : plB (x, y)
    · have : ¬ plB (x, y) = true := by rw [e]; simp
      rw [plB_iff] at this
      dsimp only at this
      simp
      omega
    · have := plB_iff.1 e
      dsimp only at this
      simp
      omega
  rcases hw with ⟨e, h1⟩ | ⟨e, h1, h2⟩ | ⟨e, h1, h2, h3⟩ | ⟨e, h1, h2, h3, h4⟩ | ⟨e, h1, h2, h3, h4⟩
  all_goals
    rw [e]
    clear e
    go_enter Try.func47, Try.ntmps47
    go_wp2
    go_ret
    exact ⟨rfl, HB.out⟩
theorem Try.infoVc : (Try.prog.info? 124).map (·.size) = some 2 := by kernel_rfl
set_option maxRecDepth 100000 in
set_option maxHeartbeats 1000000 in
theorem i_less (p q : Int × Int) (w : World) (hp : plB p = true) (hq : plB q = true) :
    Calls Try.prog 92 #[.agg #[.int .i64 p.1, .int .i64 p.2], .agg #[.int .i64 q.1, .int .i64 q.2]] w fun e w' => e = .returned (.agg #[.int .i64 (p.1 - q.1), .int .i64 (p.2 - q.2)]) ∧ Below w.heap.size w w' := by
  have a1 := plB_iff.1 hp
  have a2 := plB_iff.1 hq
  clear hp hq
  obtain ⟨x, y⟩ := p
  obtain ⟨z, t⟩ := q
  dsimp only at *
  have HS := Lib.hid (Bx3.new w #[.int .i64 x, .int .i64 y] 25 #[.int .i64 z, .int .i64 t] 25 #[.int .i64 (x - z), .int .i64 (y - t)] 124)
  go_enter Try.func92, Try.ntmps92
  go_wp2
  exact bodyPost_ret (v := .agg #[.int .i64 (x - z), .int .i64 (y - t)]) (results_cell_row (p := 4) (ty := 124) (by rfl) _ _ (w.heap.size + 2) _ #[.int .i64 (x - z), .int .i64 (y - t)] (0, 0) _ (by rfl) HS.out.2.2.1 Try.underlying124 rfl Try.infoVc) rfl
    ⟨rfl, HS.out.2.2.2⟩
set_option maxRecDepth 100000 in
set_option maxHeartbeats 1000000 in
theorem i_vcross (p q : Int × Int) (w : World) (hp : (-20000 ≤ p.1 ∧ p.1 ≤ 20000) ∧ (-20000 ≤ p.2 ∧ p.2 ≤ 20000)) (hq : (-20000 ≤ q.1 ∧ q.1 ≤ 20000) ∧ (-20000 ≤ q.2 ∧ q.2 ≤ 20000)) :
    Calls Try.prog 93 #[.agg #[.int .i64 p.1, .int .i64 p.2], .agg #[.int .i64 q.1, .int .i64 q.2]] w fun e w' => e = .returned (.int .i64 (p.1 * q.2 - p.2 * q.1)) ∧ Below w.heap.size w w' := by
  have m1 := mul_bdI hp.1.1 hp.1.2 hq.2.1 hq.2.2
  have m2 := mul_bdI hp.2.1 hp.2.2 hq.1.1 hq.1.2
  obtain ⟨x, y⟩ := p
  obtain ⟨z, t⟩ := q
  dsimp only at *
  have HS := Lib.hid (Bx2.new w #[.int .i64 x, .int .i64 y] 124 #[.int .i64 z, .int .i64 t] 124)
  go_enter Try.func93, Try.ntmps93
  go_wp2
  go_ret
  exact ⟨rfl, HS.out.2.2⟩
/-- Which of two whole numbers is greater. -/
def cmI (a b : Int) : Int := if a < b then -1 else if b < a then 1 else 0
theorem i_nanI (a : Int) (w : World) : Calls Try.prog 99 #[.int .i64 a] w fun e w' => e = .returned (.bool false) ∧ w' = w := by
  have e : (a == a) = true := by simp
  go_enter Try.func99, Try.ntmps99
  go_wp2
  go_ret
  exact ⟨rfl, rfl⟩
set_option maxRecDepth 100000 in
theorem i_cmI (a b : Int) (w : World) : Calls Try.prog 98 #[.int .i64 a, .int .i64 b] w fun e w' => e = .returned (.int .i64 (cmI a b)) ∧ w' = w := by
  have c1 := fun w => i_nanI a w
  have c2 := fun w => i_nanI b w
  have hw : (cmI a b = -1 ∧ a < b) ∨ (cmI a b = 1 ∧ ¬ a < b ∧ b < a) ∨ (cmI a b = 0 ∧ ¬ a < b ∧ ¬ b < a) := by unfold cmI; split <;> (try split) <;> omega
  rcases hw with ⟨e, h1⟩ | ⟨e, h1, h2⟩ | ⟨e, h1, h2⟩
  all_goals
    rw [e]
    clear e
    go_enter Try.func98, Try.ntmps98
    go_wp2_with (first
      | (go_at_call 99; ((with_reducible refine (c1 _).mono ?_); rintro e w' ⟨rfl, rfl⟩))
      | (go_at_call 99; ((with_reducible refine (c2 _).mono ?_); rintro e w' ⟨rfl, rfl⟩)))
    go_ret
    exact ⟨rfl, rfl⟩
end Go.Proofs.Ythahakefmpajfaa

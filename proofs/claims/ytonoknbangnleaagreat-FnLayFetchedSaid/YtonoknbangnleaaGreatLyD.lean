/- The drawing of ways: l08Way, DrawCanFetch. -/
import Derived.Test.YtonoknbangnleaaGreatTkC
import Derived.Test.YtonoknbangnleaaGreatTkA
namespace Go.Proofs.YtonoknbangnleaaGreat
open Go.RowKit Ieee
set_option linter.unusedSimpArgs false
set_option linter.unusedVariables false

/-- A turn's part times a whole number up to 4000. -/
theorem turn_much {k : Nat} (hk : k < 360) (n : Int) (n0 : 0 ≤ n) (n1 : n ≤ 4000) : ∃ p q, floatBits .mul .f64 (trn k).1 (floatOfInt .f64 n) = some p ∧ floatBits .mul .f64 (trn k).2 (floatOfInt .f64 n) = some q ∧ p < 18446744073709551616 ∧ q < 18446744073709551616 := by
  obtain ⟨⟨k1, k2⟩, k3, k4⟩ := turn_part hk
  obtain ⟨fn, fv⟩ := ofInt_val n (by omega) (by omega)
  have hb := oneV_bound
  have key : ∀ x : Nat, isNum x → (fval x).natAbs ≤ 2 * oneV → ∃ p, floatBits .mul .f64 x (floatOfInt .f64 n) = some p ∧ p < 18446744073709551616 := fun x hx hxb => by
    obtain ⟨p, h1, _, h3, _⟩ := mul_op hx fn (by
      rw [fv, Int.natAbs_mul, Int.natAbs_mul, Int.natAbs_natCast, Nat.pow_add]
      have h2 : n.natAbs * oneV ≤ 4000 * oneV := Nat.mul_le_mul_right _ (by omega)
      have := Nat.mul_le_mul hxb h2
      refine Nat.lt_of_le_of_lt this ?_
      rw [show 2 * oneV * (4000 * oneV) = 8000 * oneV * oneV by rw [← Nat.mul_assoc, Nat.mul_right_comm 2 oneV 4000]]
      exact Nat.mul_lt_mul_of_pos_right (by omega) (Nat.two_pow_pos _))
    exact ⟨p, h1, h3⟩
  obtain ⟨p, p1, p2⟩ := key _ k1 k2
  obtain ⟨q, q1, q2⟩ := key _ k3 k4
  exact ⟨p, q, p1, q1, p2, q2⟩

set_option maxHeartbeats 1000000 in
/-- A pick out of a slice of whole numbers in a block of its own. -/
theorem d_pickin (lo hi : Int) (hlo : -9223372036854775808 ≤ lo) (hhi : hi ≤ 9223372036854775807) (w : World) (B g len cap b n m : Nat) (A : Option Addr) (t : TypeId) (xs : List Int) (hc : Cur w B g A len cap) (hn : n = xs.length) (h0 : 0 < n) (h1 : n < 1000) (hbg : b ≠ g)
    (hx : ∀ x ∈ xs, lo ≤ x ∧ x ≤ hi) (hb : w.heap[b]? = some (.cells (xs.map (Value.int .i64)).toArray t (0, 0))) :
    Calls Tryz.prog 21 #[.pointer (some ⟨g, 0, none⟩), .slice (some ⟨b, 0, none⟩) n m] w fun e w' => ∃ x : Int, lo ≤ x ∧ x ≤ hi ∧ e = .returned (.int .i64 x) ∧ Cur w' B g A len cap ∧ w.grownBy w' (some g) := by
  have HB := Lib.hid hb
  clear hb
  go_enter Tryz.func21, Tryz.ntmps21
  go_wp2_with fail
  refine (d_below _ _ B g len cap A hc (by omega)).mono ?_
  rintro e w1 ⟨x, x0, x1, x2, rfl, cur1, gr1⟩
  obtain ⟨k, rfl⟩ : ∃ k : Nat, x = k := ⟨x.toNat, by omega⟩
  have hk : k < n := by have := x1 (by omega); omega
  have hcell : w1.cell? ⟨b, k, none⟩ = some (.int .i64 (xs.getD k 0)) := by
    have hlt : b < w.heap.size := by
      rcases Nat.lt_or_ge b w.heap.size with h | h
      · exact h
      · have := HB.out; rw [Array.getElem?_eq_none h] at this; cases this
    rw [cell_of_row w1 b k _ _ _ ((gr1.block b hlt (by simpa using hbg)).trans HB.out)]
    simp [List.getD, List.getElem?_eq_getElem (show k < xs.length by omega)]
  have hmem : xs.getD k 0 ∈ xs := by
    rw [List.getD, List.getElem?_eq_getElem (show k < xs.length by omega)]; exact List.getElem_mem _
  obtain ⟨r0, r1⟩ := hx _ hmem
  generalize xs.getD k 0 = v at *
  clear x1 x2 hx hmem HB
  have k0 : (0 : Int) ≤ (k : Int) := by omega
  have k1 : (k : Int) < (n : Int) := by omega
  go_wp2
  go_ret
  exact ⟨v, r0, r1, rfl, cur1, gr1⟩
set_option maxRecDepth 100000 in
set_option maxHeartbeats 2000000 in
theorem d_way (x y : Nat) (w : World) (B g len cap : Nat) (A : Option Addr) (hc : Cur w B g A len cap) (xl : x < 4294967296) (yl : y < 4294967296) :
    Calls Tryz.prog 44 #[.pointer (some ⟨g, 0, none⟩), .complex .f32 x y] w fun e w' => ∃ a b : Nat, a < 18446744073709551616 ∧ b < 18446744073709551616 ∧ e = .returned (.complex .f64 a b) ∧ Cur w' B g A len cap ∧ w.grownBy w' (some g) := by
  have HF := fun w => s_from x y _ w xl yl (frm_is (x, y))
  obtain ⟨f0, f1⟩ := frm_bd (x, y)
  generalize frm (x, y) = f at *
  clear xl yl
  go_enter Tryz.func44, Tryz.ntmps44
  go_wp2_with fail
  refine (d_below 4000 _ _ g len cap A hc (by omega)).mono ?_
  rintro e w1 ⟨k, k0, k1, _, rfl, cur1, gr1⟩
  have k9 := k1 (by omega)
  clear k1 hc
  go_wp2_with (go_at_call 45; ((with_reducible refine (HF _).mono ?_); rintro e w' ⟨rfl, rfl⟩))
  clear HF
  · refine (d_once 2 _ _ g len cap A cur1 (by omega)).mono ?_
    rintro e w2 ⟨t, rfl, cur2, gr2⟩
    have gr12 := grown_trans gr1 gr2
    have hgl := cur2.lt
    clear gr1 gr2 cur1
    cases t
    · go_wp2_with fail
      refine (d_vector 3000 _ _ g len cap A cur2 (by omega) (by omega)).mono ?_
      rintro e w3 ⟨a, b, al, bl, rfl, cur3, gr3⟩
      go_wp2
      go_ret
      exact ⟨a, b, al, bl, rfl, cur3, grown_trans gr12 gr3⟩
    · go_wp2_with fail
      refine (d_pickin (-45) 200 (by omega) (by omega) _ _ g len cap w2.heap.size 9 9 A 3 [0, 180, 20, -20, 45, -45, 160, 200, 90] (cur2.alloc _) rfl (by omega) (by omega) (by omega) (by intro x hx; simp at hx; omega) (heap_alloc_new w2 _)).mono ?_
      rintro e w3 ⟨p, p0, p1, rfl, cur3, gr3⟩
      have gA := World.grownBy_alloc w2 (.cells #[.int .i64 0, .int .i64 180, .int .i64 20, .int .i64 (-20), .int .i64 45, .int .i64 (-45), .int .i64 160, .int .i64 200, .int .i64 90] 3) (some g)
      have gr13 := grown_trans gr12 (grown_trans gA gr3)
      clear gA gr3 gr12 cur2
      go_wp2_with fail
      refine (d_below 5 _ _ g len cap A cur3 (by omega)).mono ?_
      rintro e w4 ⟨q, q0, q1, _, rfl, cur4, gr4⟩
      have q9 := q1 (by omega)
      have gr14 := grown_trans gr13 gr4
      clear q1 gr4 gr13 cur3
      have ct := fun w => s_turn (f + p + q) w
      have hm : ((f + p + q) % 360).toNat < 360 := by omega
      obtain ⟨a, b, a1, b1, al, bl⟩ := turn_much hm k k0 (by omega)
      have f1 := fun w => run_float_arith (P := Tryz.prog) w .mul 42 .f64 _ _ _ a1
      have f2 := fun w => run_float_arith (P := Tryz.prog) w .mul 42 .f64 _ _ _ b1
      unfold tv at ct
      clear a1 b1
      generalize (trn ((f + p + q) % 360).toNat).1 = u1 at *
      generalize (trn ((f + p + q) % 360).toNat).2 = u2 at *
      clear hm
      go_wp2_with (go_at_call 20; ((with_reducible refine (ct _).mono ?_); rintro e w' ⟨rfl, rfl⟩))
      go_ret
      exact ⟨a, b, al, bl, rfl, cur4, gr14⟩
  · refine (d_vector 3000 _ _ g len cap A cur1 (by omega) (by omega)).mono ?_
    rintro e w2 ⟨a, b, al, bl, rfl, cur2, gr2⟩
    go_wp2
    go_ret
    exact ⟨a, b, al, bl, rfl, cur2, grown_trans gr1 gr2⟩
set_option maxRecDepth 100000 in
set_option maxHeartbeats 4000000 in
theorem d_can (w : World) (len cap : Nat) (A : Option Addr) (hcode : Code w w.heap.size A len) :
    Calls Tryz.prog 16 #[.slice A len cap] w fun e w' => ∃ (vW vA vS : Value) (n na m x y a b : Nat), e = .returned (.tuple #[.agg #[vW, vA, vS], .complex .f32 x y, .complex .f64 a b]) ∧ PolT (w.heap.size + 1) w' vW vA vS n na m ∧ (x < 4294967296 ∧ y < 4294967296) ∧ (a < 18446744073709551616 ∧ b < 18446744073709551616) ∧ Below w.heap.size w w' := by
  have b0 : Below w.heap.size w (w.alloc (.cells #[.slice none 0 0, .slice none 0 0, .slice none 0 0] 28)) := (Below.refl _ w).alloc (Nat.le_refl _) _
  have s1 : (w.alloc (.cells #[.slice none 0 0, .slice none 0 0, .slice none 0 0] 28)).heap.size = w.heap.size + 1 := by simp
  have hc1 := hcode.step b0 (Nat.le_succ _)
  have hr0 := heap_alloc_new w (.cells #[.slice none 0 0, .slice none 0 0, .slice none 0 0] 28)
  go_enter Tryz.func16, Tryz.ntmps16
  go_wp2_with fail
  refine (d_new _ (w.heap.size + 1) len cap A (by rw [s1]; exact Nat.le_refl _) hc1).mono ?_
  rintro e w2 ⟨g, rfl, cu, b2⟩
  have b02 := b0.trans (b2.mono (Nat.le_succ _))
  have r2 := (b2.block w.heap.size (by omega)).trans hr0
  have hs2 := b2.size
  rw [s1] at hs2
  have hg2 := cu.lt
  clear hc1 b0 hr0 b2
  go_wp2_with fail
  refine (d_any _ _ g len cap A cu).mono ?_
  rintro e w3 ⟨vW, vA, vS, n', na', m', rfl, pt, cu3, gr⟩
  have hg0 := cu.1
  have b03 := below_cur b02 (Nat.le_refl _) gr (by omega)
  have r3 := (gr.block w.heap.size (by omega) (fun e => by cases e; omega)).trans r2
  have hs3 := gr.size
  obtain ⟨AW, cW', rfl, _⟩ := pt.2.1
  obtain ⟨AA, cA', rfl, _⟩ := pt.2.2.1
  obtain ⟨AS, cS', rfl, _⟩ := pt.2.2.2
  have b04 := b03.alloc b03.size (.cells #[.slice AW n' cW', .slice AA na' cA', .slice AS m' cS'] 28)
  have r4 := (Below.heap_alloc w3 (.cells #[.slice AW n' cW', .slice AA na' cA', .slice AS m' cS'] 28) w.heap.size (by omega)).trans r3
  have PT4 := Lib.hid (pt.same (fun k _ hk => Below.heap_alloc w3 (.cells #[.slice AW n' cW', .slice AA na' cA', .slice AS m' cS'] 28) k hk))
  have bx4 := heap_alloc_new w3 (.cells #[.slice AW n' cW', .slice AA na' cA', .slice AS m' cS'] 28)
  have cu4 := cu3.alloc (.cells #[.slice AW n' cW', .slice AA na' cA', .slice AS m' cS'] 28)
  have hs4 : (w3.alloc (.cells #[.slice AW n' cW', .slice AA na' cA', .slice AS m' cS'] 28)).heap.size = w3.heap.size + 1 := by simp
  have R4 := Lib.hid r4
  have B4 := Lib.hid b04
  have BX4 := Lib.hid bx4
  clear pt cu3 cu gr r2 r3 r4 b02 b03 b04 bx4
  go_wp2_with fail
  refine (d_wind _ _ g len cap A cu4).mono ?_
  rintro e w5 ⟨x, y, xl, yl, rfl, cu5, gr5⟩
  have bx5 := box_far BX4.out gr5 (fun e => by cases e; omega)
  have PT5 := Lib.hid (PT4.out.same (grown_hi gr5 (fun k e => by cases e; omega)))
  have R5 := Lib.hid (box_far R4.out gr5 (fun e => by cases e; omega))
  have B5 := Lib.hid (below_cur B4.out (Nat.le_refl _) gr5 (by omega))
  have hs5 := gr5.size
  have BX5 := Lib.hid bx5
  have k0 := cell_of_row w5 _ 0 _ _ _ bx5
  have k1 := cell_of_row w5 _ 1 _ _ _ bx5
  have k2 := cell_of_row w5 _ 2 _ _ _ bx5
  have cd := cu5.grown_far (grown_drewN w5 1 none) (by simp) (fun k e => by cases e)
  clear bx5 PT4 R4 B4 BX4 cu4 gr5 cu5
  go_upto_region 4 with fail
  go_region_with ((go_at_call 44; refine (d_way x y _ _ g len cap A cd xl yl).mono ?_; rintro e w6 ⟨a, b, al, bl, rfl, cu6, gr6⟩; have bx6 := box_far (w1 := w5.drew) BX5.out gr6 (fun e => by cases e; omega); have l0 := cell_of_row w6 _ 0 _ _ _ bx6; have l1 := cell_of_row w6 _ 1 _ _ _ bx6; have l2 := cell_of_row w6 _ 2 _ _ _ bx6; have S3 := Lib.hid (store3 (w := w) (box_far (w1 := w5.drew) R5.out gr6 (fun e => by cases e; omega)) (PT5.out.same (grown_hi (w := w5.drew) gr6 (fun k e => by cases e; omega))) (by omega) (below_cur (w1 := w5.drew) (below_drewN B5.out 1) (Nat.le_refl _) gr6 (by omega))); obtain ⟨_, _, _, ⟨x0, y0⟩, ⟨x1, y1⟩, x2, y2⟩ := S3.out.1; clear bx6))
  all_goals (
    go_wp2_with fail
    refine bodyPost_ret (res_cell_tmp2 (fn := Tryz.f16) (p := 2) (u := 3) (v := 4) (ty := 28) rfl _ _ w.heap.size _ #[.slice AW n' cW', .slice AA na' cA', .slice AS m' cS'] (0, 0) _ rfl S3.out.2.1 Tryz.underlying28 rfl Tryz.infoP) rfl ?_
    exact ⟨_, _, _, n', na', m', x, y, a, b, rfl, S3.out.2.2.1.low (by omega), ⟨xl, yl⟩, ⟨al, bl⟩, S3.out.2.2.2⟩)
end Go.Proofs.YtonoknbangnleaaGreat

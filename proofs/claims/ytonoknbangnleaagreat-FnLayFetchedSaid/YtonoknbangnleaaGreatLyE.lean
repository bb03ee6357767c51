/- The drawing of ways on laylines: DrawOnLayline. -/
import Derived.Test.YtonoknbangnleaaGreatLyD
import Derived.Test.YtonoknbangnleaaGreatTkB
namespace Go.Proofs.YtonoknbangnleaaGreat
open Go.RowKit Ieee
set_option linter.unusedSimpArgs false
set_option linter.unusedVariables false

set_option maxRecDepth 100000 in
set_option maxHeartbeats 4000000 in
theorem d_onl (w : World) (len cap : Nat) (A : Option Addr) (hcode : Code w w.heap.size A len) :
    Calls Tryz.prog 5 #[.slice A len cap] w fun e w' => ∃ (vW vA vS : Value) (n na m x y a b : Nat), e = .returned (.tuple #[.agg #[vW, vA, vS], .complex .f32 x y, .complex .f64 a b]) ∧ PolT (w.heap.size + 1) w' vW vA vS n na m ∧ (x < 4294967296 ∧ y < 4294967296) ∧ (a < 18446744073709551616 ∧ b < 18446744073709551616) ∧ Below w.heap.size w w' := by
  have b0 : Below w.heap.size w (w.alloc (.cells #[.slice none 0 0, .slice none 0 0, .slice none 0 0] 28)) := (Below.refl _ w).alloc (Nat.le_refl _) _
  have s1 : (w.alloc (.cells #[.slice none 0 0, .slice none 0 0, .slice none 0 0] 28)).heap.size = w.heap.size + 1 := by simp
  have hc1 := hcode.step b0 (Nat.le_succ _)
  have hr0 := heap_alloc_new w (.cells #[.slice none 0 0, .slice none 0 0, .slice none 0 0] 28)
  have hc1' : Code (w.alloc (.cells #[.slice none 0 0, .slice none 0 0, .slice none 0 0] 28)) (w.alloc (.cells #[.slice none 0 0, .slice none 0 0, .slice none 0 0] 28)).heap.size A len := by rw [s1]; exact hc1
  go_enter Tryz.func5, Tryz.ntmps5
  go_wp2_with fail
  refine (d_can _ len cap A hc1').mono ?_
  rintro e w1 ⟨vW, vA, vS, n', na', m', x, y, a, b, rfl, pt, ⟨xl, yl⟩, ⟨al, bl⟩, b1⟩
  rw [s1] at pt b1
  have b01 := b0.trans (b1.mono (Nat.le_succ _))
  have r1 := (b1.block w.heap.size (by omega)).trans hr0
  have hs1 := b1.size
  rw [s1] at hs1
  clear hc1' hc1 b0 hr0 b1
  obtain ⟨AW, cW', rfl, _⟩ := pt.2.1
  obtain ⟨AA, cA', rfl, _⟩ := pt.2.2.1
  obtain ⟨AS, cS', rfl, _⟩ := pt.2.2.2
  obtain ⟨P, e1, e2, e3, eW, eA, eS, hPol⟩ := pt.pol
  have b02 := b01.alloc b01.size (.cells #[.slice AW n' cW', .slice AA na' cA', .slice AS m' cS'] 28)
  have r2 := (Below.heap_alloc w1 (.cells #[.slice AW n' cW', .slice AA na' cA', .slice AS m' cS'] 28) w.heap.size (by omega)).trans r1
  have PT2 := Lib.hid (pt.same (fun k _ hk => Below.heap_alloc w1 (.cells #[.slice AW n' cW', .slice AA na' cA', .slice AS m' cS'] 28) k hk))
  have bx2 := heap_alloc_new w1 (.cells #[.slice AW n' cW', .slice AA na' cA', .slice AS m' cS'] 28)
  have hs2 : (w1.alloc (.cells #[.slice AW n' cW', .slice AA na' cA', .slice AS m' cS'] 28)).heap.size = w1.heap.size + 1 := by simp
  have HP2 := hPol.keeps (keeps_alloc w1 (.cells #[.slice AW n' cW', .slice AA na' cA', .slice AS m' cS'] 28))
  have HC2 := Lib.hid (hcode.step b02 (show w.heap.size ≤ w1.heap.size + 1 by omega))
  have HT : Hid (∃ t1 t2 : Int, ∃ t3 : Bool, Calls Tryz.prog 17 #[.agg #[.slice AW n' cW', .slice AA na' cA', .slice AS m' cS'], .complex .f32 x y] (w1.alloc (.cells #[.slice AW n' cW', .slice AA na' cA', .slice AS m' cS'] 28)) fun e w' => e = .returned (.tuple #[.int .i64 t1, .int .i64 t2, .bool t3]) ∧ Below (w1.alloc (.cells #[.slice AW n' cW', .slice AA na' cA', .slice AS m' cS'] 28)).heap.size (w1.alloc (.cells #[.slice AW n' cW', .slice AA na' cA', .slice AS m' cS'] 28)) w') := Lib.hid (by
    have := s_TackHeadings P (x, y) _ HP2 xl yl
    rw [← eW, ← eA, ← eS] at this
    exact ⟨_, _, _, this⟩)
  have k0 := cell_of_row _ _ 0 _ _ _ bx2
  have k1 := cell_of_row _ _ 1 _ _ _ bx2
  have k2 := cell_of_row _ _ 2 _ _ _ bx2
  have R2 := Lib.hid r2
  have B2 := Lib.hid b02
  have BX2 := Lib.hid bx2
  clear pt r1 r2 b01 b02 bx2 HP2 hPol eW eA eS e1 e2 e3 P hcode
  generalize hw2 : w1.alloc (.cells #[.slice AW n' cW', .slice AA na' cA', .slice AS m' cS'] 28) = w2 at *
  -- what stands at the end, whatever was drawn behind w2
  have FIN : Hid (∀ wr, Below w2.heap.size w2 wr → (wr.cell? ⟨w1.heap.size, 0, none⟩ = some (.slice AW n' cW') ∧ wr.cell? ⟨w1.heap.size, 1, none⟩ = some (.slice AA na' cA') ∧ wr.cell? ⟨w1.heap.size, 2, none⟩ = some (.slice AS m' cS')) ∧
      wr.heap[w.heap.size]? = some (.cells #[.slice none 0 0, .slice none 0 0, .slice none 0 0] 28 (0, 0)) ∧ PolT (w.heap.size + 1 + 1) wr (.slice AW n' cW') (.slice AA na' cA') (.slice AS m' cS') n' na' m' ∧ Below w.heap.size w wr) := Lib.hid (fun wr h => by
    have bx := (h.block w1.heap.size (by omega)).trans BX2.out
    exact ⟨⟨cell_of_row _ _ 0 _ _ _ bx, cell_of_row _ _ 1 _ _ _ bx, cell_of_row _ _ 2 _ _ _ bx⟩, (h.block w.heap.size (by omega)).trans R2.out, PT2.out.same (fun k _ hk => h.block k (by omega)), B2.out.trans (h.mono B2.out.size)⟩)
  clear R2 B2 BX2 PT2
  obtain ⟨t1, t2, t3, ht⟩ := HT.out
  go_wp2_with fail
  refine ht.mono ?_
  rintro e w3 ⟨rfl, b3⟩
  have hcode3 := HC2.out.step (show Below (w1.heap.size + 1) w2 w3 by rw [← hs2]; exact b3) (Nat.le_refl _)
  have h3 := b3.size
  clear ht HT HC2 k0 k1 k2
  go_wp2_with fail
  refine (d_new _ (w1.heap.size + 1) len cap A (by omega) hcode3).mono ?_
  rintro e w4 ⟨g, rfl, cu, b4⟩
  have hgl := cu.1
  have bb := b3.trans (show Below w2.heap.size w3 w4 by rw [hs2]; exact b4)
  clear b3 b4 hcode3 h3
  go_wp2_with fail
  refine (d_once 2 _ _ g len cap A cu (by omega)).mono ?_
  rintro e w5 ⟨q1, rfl, cu5, gr5⟩
  have b5 := below_cur bb (Nat.le_refl _) gr5 (show w2.heap.size ≤ g by omega)
  clear bb gr5 cu
  cases q1
  · cases t3
    · clear cu5
      obtain ⟨⟨k0, k1, k2⟩, r, PT, BW⟩ := FIN.out _ b5
      have S3 := Lib.hid (store3 (w := w) r PT (by omega) BW)
      obtain ⟨_, _, _, ⟨x0, y0⟩, ⟨x1, y1⟩, x2, y2⟩ := S3.out.1
      clear FIN r PT BW
      go_wp2_with fail
      refine bodyPost_ret (res_cell_tmp2 (fn := Tryz.f5) (p := 2) (u := 3) (v := 4) (ty := 28) rfl _ _ w.heap.size _ #[.slice AW n' cW', .slice AA na' cA', .slice AS m' cS'] (0, 0) _ rfl S3.out.2.1 Tryz.underlying28 rfl Tryz.infoP) rfl ?_
      exact ⟨_, _, _, n', na', m', x, y, a, b, rfl, S3.out.2.2.1.low (by omega), ⟨xl, yl⟩, ⟨al, bl⟩, S3.out.2.2.2⟩
    · go_wp2_with fail
      refine (d_once 3 _ _ g len cap A cu5 (by omega)).mono ?_
      rintro e w6 ⟨q2, rfl, cu6, gr6⟩
      have b6 := below_cur b5 (Nat.le_refl _) gr6 (show w2.heap.size ≤ g by omega)
      clear b5 gr6 cu5
      cases q2
      · have ct := fun w => s_turn t1 w
        have hm : (t1 % 360).toNat < 360 := by omega
        have TM := Lib.hid (fun k (k0 : 1 ≤ k) (k1 : k ≤ 2048) => turn_much hm k (by omega) (by omega))
        unfold tv at ct
        generalize (trn (t1 % 360).toNat).1 = u1 at *
        generalize (trn (t1 % 360).toNat).2 = u2 at *
        clear hm
        have hgl6 := cu6.lt
        go_wp2_with (go_at_call 20; ((with_reducible refine (ct _).mono ?_); rintro e w' ⟨rfl, rfl⟩))
        refine (d_pickin 1 2048 (by omega) (by omega) _ _ g len cap w6.heap.size 4 4 A 3 [1, 64, 512, 2048] (cu6.alloc _) rfl (by omega) (by omega) (by omega) (by intro x hx; simp at hx; omega) (heap_alloc_new w6 _)).mono ?_
        rintro e w7 ⟨p, p0, p1, rfl, cu7, gr7⟩
        have b7 := below_cur (b6.alloc b6.size (.cells #[.int .i64 1, .int .i64 64, .int .i64 512, .int .i64 2048] 3)) (Nat.le_refl _) gr7 (show w2.heap.size ≤ g by omega)
        clear b6 gr7 cu6 ct
        obtain ⟨a', b', a1, b1, al', bl'⟩ := TM.out p p0 p1
        have f1 := fun w => run_float_arith (P := Tryz.prog) w .mul 42 .f64 _ _ _ a1
        have f2 := fun w => run_float_arith (P := Tryz.prog) w .mul 42 .f64 _ _ _ b1
        clear TM a1 b1
        obtain ⟨⟨k0, k1, k2⟩, r, PT, BW⟩ := FIN.out _ b7
        have S3 := Lib.hid (store3 (w := w) r PT (by omega) BW)
        obtain ⟨_, _, _, ⟨x0, y0⟩, ⟨x1, y1⟩, x2, y2⟩ := S3.out.1
        clear FIN r PT BW
        go_wp2_with fail
        refine bodyPost_ret (res_cell_tmp2 (fn := Tryz.f5) (p := 2) (u := 3) (v := 4) (ty := 28) rfl _ _ w.heap.size _ #[.slice AW n' cW', .slice AA na' cA', .slice AS m' cS'] (0, 0) _ rfl S3.out.2.1 Tryz.underlying28 rfl Tryz.infoP) rfl ?_
        exact ⟨_, _, _, n', na', m', x, y, a', b', rfl, S3.out.2.2.1.low (by omega), ⟨xl, yl⟩, ⟨al', bl'⟩, S3.out.2.2.2⟩
      · clear cu6
        obtain ⟨⟨k0, k1, k2⟩, r, PT, BW⟩ := FIN.out _ b6
        have S3 := Lib.hid (store3 (w := w) r PT (by omega) BW)
        obtain ⟨_, _, _, ⟨x0, y0⟩, ⟨x1, y1⟩, x2, y2⟩ := S3.out.1
        clear FIN r PT BW
        go_wp2_with fail
        refine bodyPost_ret (res_cell_tmp2 (fn := Tryz.f5) (p := 2) (u := 3) (v := 4) (ty := 28) rfl _ _ w.heap.size _ #[.slice AW n' cW', .slice AA na' cA', .slice AS m' cS'] (0, 0) _ rfl S3.out.2.1 Tryz.underlying28 rfl Tryz.infoP) rfl ?_
        exact ⟨_, _, _, n', na', m', x, y, a, b, rfl, S3.out.2.2.1.low (by omega), ⟨xl, yl⟩, ⟨al, bl⟩, S3.out.2.2.2⟩
  · cases t3
    · clear cu5
      obtain ⟨⟨k0, k1, k2⟩, r, PT, BW⟩ := FIN.out _ b5
      have S3 := Lib.hid (store3 (w := w) r PT (by omega) BW)
      obtain ⟨_, _, _, ⟨x0, y0⟩, ⟨x1, y1⟩, x2, y2⟩ := S3.out.1
      clear FIN r PT BW
      go_wp2_with fail
      refine bodyPost_ret (res_cell_tmp2 (fn := Tryz.f5) (p := 2) (u := 3) (v := 4) (ty := 28) rfl _ _ w.heap.size _ #[.slice AW n' cW', .slice AA na' cA', .slice AS m' cS'] (0, 0) _ rfl S3.out.2.1 Tryz.underlying28 rfl Tryz.infoP) rfl ?_
      exact ⟨_, _, _, n', na', m', x, y, a, b, rfl, S3.out.2.2.1.low (by omega), ⟨xl, yl⟩, ⟨al, bl⟩, S3.out.2.2.2⟩
    · go_wp2_with fail
      refine (d_once 3 _ _ g len cap A cu5 (by omega)).mono ?_
      rintro e w6 ⟨q2, rfl, cu6, gr6⟩
      have b6 := below_cur b5 (Nat.le_refl _) gr6 (show w2.heap.size ≤ g by omega)
      clear b5 gr6 cu5
      cases q2
      · have ct := fun w => s_turn t2 w
        have hm : (t2 % 360).toNat < 360 := by omega
        have TM := Lib.hid (fun k (k0 : 1 ≤ k) (k1 : k ≤ 2048) => turn_much hm k (by omega) (by omega))
        unfold tv at ct
        generalize (trn (t2 % 360).toNat).1 = u1 at *
        generalize (trn (t2 % 360).toNat).2 = u2 at *
        clear hm
        have hgl6 := cu6.lt
        go_wp2_with (go_at_call 20; ((with_reducible refine (ct _).mono ?_); rintro e w' ⟨rfl, rfl⟩))
        refine (d_pickin 1 2048 (by omega) (by omega) _ _ g len cap w6.heap.size 4 4 A 3 [1, 64, 512, 2048] (cu6.alloc _) rfl (by omega) (by omega) (by omega) (by intro x hx; simp at hx; omega) (heap_alloc_new w6 _)).mono ?_
        rintro e w7 ⟨p, p0, p1, rfl, cu7, gr7⟩
        have b7 := below_cur (b6.alloc b6.size (.cells #[.int .i64 1, .int .i64 64, .int .i64 512, .int .i64 2048] 3)) (Nat.le_refl _) gr7 (show w2.heap.size ≤ g by omega)
        clear b6 gr7 cu6 ct
        obtain ⟨a', b', a1, b1, al', bl'⟩ := TM.out p p0 p1
        have f1 := fun w => run_float_arith (P := Tryz.prog) w .mul 42 .f64 _ _ _ a1
        have f2 := fun w => run_float_arith (P := Tryz.prog) w .mul 42 .f64 _ _ _ b1
        clear TM a1 b1
        obtain ⟨⟨k0, k1, k2⟩, r, PT, BW⟩ := FIN.out _ b7
        have S3 := Lib.hid (store3 (w := w) r PT (by omega) BW)
        obtain ⟨_, _, _, ⟨x0, y0⟩, ⟨x1, y1⟩, x2, y2⟩ := S3.out.1
        clear FIN r PT BW
        go_wp2_with fail
        refine bodyPost_ret (res_cell_tmp2 (fn := Tryz.f5) (p := 2) (u := 3) (v := 4) (ty := 28) rfl _ _ w.heap.size _ #[.slice AW n' cW', .slice AA na' cA', .slice AS m' cS'] (0, 0) _ rfl S3.out.2.1 Tryz.underlying28 rfl Tryz.infoP) rfl ?_
        exact ⟨_, _, _, n', na', m', x, y, a', b', rfl, S3.out.2.2.1.low (by omega), ⟨xl, yl⟩, ⟨al', bl'⟩, S3.out.2.2.2⟩
      · clear cu6
        obtain ⟨⟨k0, k1, k2⟩, r, PT, BW⟩ := FIN.out _ b6
        have S3 := Lib.hid (store3 (w := w) r PT (by omega) BW)
        obtain ⟨_, _, _, ⟨x0, y0⟩, ⟨x1, y1⟩, x2, y2⟩ := S3.out.1
        clear FIN r PT BW
        go_wp2_with fail
        refine bodyPost_ret (res_cell_tmp2 (fn := Tryz.f5) (p := 2) (u := 3) (v := 4) (ty := 28) rfl _ _ w.heap.size _ #[.slice AW n' cW', .slice AA na' cA', .slice AS m' cS'] (0, 0) _ rfl S3.out.2.1 Tryz.underlying28 rfl Tryz.infoP) rfl ?_
        exact ⟨_, _, _, n', na', m', x, y, a, b, rfl, S3.out.2.2.1.low (by omega), ⟨xl, yl⟩, ⟨al, bl⟩, S3.out.2.2.2⟩
end Go.Proofs.YtonoknbangnleaaGreat

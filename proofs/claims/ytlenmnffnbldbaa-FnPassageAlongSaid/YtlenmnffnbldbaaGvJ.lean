/- Passages: the walk of Passage (impl), the drawing, the walk of the law FnPassageAlong. -/
import Derived.Test.YtlenmnffnbldbaaGvI
import Derived.Test.YtlenmnffnbldbaaScA
namespace Go.Proofs.Ytlenmnffnbldbaa
open Go.RowKit Ieee
set_option linter.unusedVariables false
set_option linter.unusedSimpArgs false

set_option maxRecDepth 100000 in
set_option maxHeartbeats 2000000 in
/-- A passage where a heading is told. -/
theorem i_pass (t : Int) (m s u v : Nat) (w : World) (ml : m < 18446744073709551616) (hs : okBs s) (hv : okV u v) (k : Nat) (hk : k < 360) (hN : stN s u v (dg t) = (k : Int)) (hB : stB s u v (dg t) = true) :
    Calls Try.prog 29 #[.int .i64 t, .float .f64 m, .float .f32 s, .complex .f32 u v] w fun e w' => SecEnd m (alW s u v (dg t) k) e ∧ Below w.heap.size w w' := by
  have hdk : dg (k : Int) = k := by unfold dg; omega
  have cs := fun w => i_steer t s u v w hs hv
  have ca := fun w => i_along t (k : Int) s u v w hs hv
  rw [hN, hB] at cs
  rw [hdk] at ca
  have al := (dc_grd hs (dg_lt t) hk hv).dl
  have al' : alW s u v (dg t) k < 18446744073709551616 := al
  clear hN hB al
  generalize alW s u v (dg t) k = a at *
  go_enter Try.func29, Try.ntmps29
  go_wp2_with fail
  refine (cs _).mono ?_
  rintro e w1 ⟨rfl, b1⟩
  go_wp2_with fail
  refine (ca _).mono ?_
  rintro e w2 ⟨rfl, b2⟩
  have b3 := b1.trans (b2.mono b1.size)
  clear b1 b2
  go_wp2_with fail
  refine (i_sec m a _ ml al').mono ?_
  rintro e w3 ⟨⟨n, f, h1, rfl⟩, rfl⟩
  have H1 := Lib.hid h1
  clear h1
  go_wp2
  go_ret2
  exact ⟨⟨n, f, H1.out, rfl⟩, b3⟩
set_option maxRecDepth 100000 in
set_option maxHeartbeats 2000000 in
/-- A passage where none is. -/
theorem i_pass_none (t : Int) (m s u v : Nat) (w : World) (h : ∀ w, Calls Try.prog 14 #[.int .i64 t, .float .f32 s, .complex .f32 u v] w fun e w' => e = .returned (.tuple #[.int .i64 0, .bool false]) ∧ Below w.heap.size w w') :
    Calls Try.prog 29 #[.int .i64 t, .float .f64 m, .float .f32 s, .complex .f32 u v] w fun e w' => e = .returned (.tuple #[.int .i64 0, .bool false]) ∧ Below w.heap.size w w' := by
  go_enter Try.func29, Try.ntmps29
  go_wp2_with fail
  refine (h _).mono ?_
  rintro e w1 ⟨rfl, b1⟩
  go_wp2
  go_ret2
  exact ⟨rfl, b1⟩

set_option maxRecDepth 100000 in
set_option maxHeartbeats 1000000 in
theorem d_passage (w : World) (len cap : Nat) (A : Option Addr) (hcode : Code w w.heap.size A len) :
    Calls Try.prog 28 #[.slice A len cap] w fun e w' => ∃ (t : Int) (m s u v : Nat), m < 18446744073709551616 ∧ s < 4294967296 ∧ u < 4294967296 ∧ v < 4294967296 ∧ e = .returned (.tuple #[.int .i64 t, .float .f64 m, .float .f32 s, .complex .f32 u v]) ∧ Below w.heap.size w w' := by
  go_enter Try.func28, Try.ntmps28
  go_wp2_with fail
  refine (d_new w w.heap.size len cap A (Nat.le_refl _) hcode).mono ?_
  rintro e w1 ⟨g, rfl, cur1, b1⟩
  go_wp2_with fail
  refine (d_degrees _ _ g len cap A cur1).mono ?_
  rintro e w2 ⟨a, a0, a1, rfl, cur2, gr2⟩
  have b2 := below_cur b1 (Nat.le_refl _) gr2 cur1.1
  go_wp2_with fail
  refine (d_real 20000 _ _ g len cap A cur2 (by omega) (by omega)).mono ?_
  rintro e w3 ⟨m, ml, rfl, cur3, gr3⟩
  have b3 := below_cur b2 (Nat.le_refl _) gr3 cur1.1
  go_wp2_with fail
  refine (d_speed _ _ g len cap A cur3).mono ?_
  rintro e w4 ⟨s, sl, rfl, cur4, gr4⟩
  have b4 := below_cur b3 (Nat.le_refl _) gr4 cur1.1
  go_wp2_with fail
  refine (d_stream _ _ g len cap A cur4).mono ?_
  rintro e w5 ⟨u, v, ul, vl, rfl, cur5, gr5⟩
  have b5 := below_cur b4 (Nat.le_refl _) gr5 cur1.1
  go_wp2
  refine bodyPost_ret (res_tmp4 rfl _ _ _) rfl ?_
  exact ⟨a, m, s, u, v, ml, sl, ul, vl, rfl, b5⟩

set_option maxRecDepth 100000 in
set_option maxHeartbeats 4000000 in
theorem w_FnPassageAlong (a0 : Option Addr) (len cap : Nat) (zs : List Int) (w : World) (hr : IsRow .u8 w a0 len cap zs) :
    Calls Try.prog 7 #[.slice a0 len cap] w fun e w' => e = .returned (.bool true) ∧ Below w.heap.size w w' := by
  by_cases hbig : len ≤ 1048576
  · have hcode := code_of_row hr hbig
    go_enter Try.func7, Try.ntmps7
    go_wp2_with (first
      | (go_at_call 12; go_in)
      | fail)
    refine (d_passage _ len cap a0 hcode).mono ?_
    rintro e w1 ⟨t, m, s, u, v, ml, sl, ul, vl, rfl, b1⟩
    by_cases hok : okBs s ∧ okV u v
    · obtain ⟨hs, hv⟩ := hok
      have hj := dg_lt t
      cases hb : stB s u v (dg t)
      · obtain ⟨e1, _⟩ := stB_false hb
        have ci := fun w => i_steer t s u v w hs hv
        have cs := fun w => s_steer t s u v w hs hv
        rw [e1, hb] at ci cs
        have cp := fun w => i_pass_none t m s u v w ci
        clear e1 hb
        go_wp2_with fail
        refine (cp _).mono ?_
        rintro e w2 ⟨rfl, c2⟩
        have b2 := b1.trans (c2.mono b1.size)
        clear c2
        go_wp2_with fail
        refine (ci _).mono ?_
        rintro e w3 ⟨rfl, c3⟩
        have b3 := b2.trans (c3.mono b2.size)
        clear c3
        go_wp2_with fail
        refine (cs _).mono ?_
        rintro e w4 ⟨rfl, rfl⟩
        go_wp2
        go_ret
        exact ⟨rfl, b3⟩
      · obtain ⟨k, e1, hk, _⟩ := stB_true hb
        have hdk : dg (k : Int) = k := by unfold dg; omega
        have ci := fun w => i_steer t s u v w hs hv
        have cs := fun w => s_steer t s u v w hs hv
        have cp := fun w => i_pass t m s u v w ml hs hv k hk e1 hb
        have ca := fun w => i_along t (k : Int) s u v w hs hv
        rw [e1, hb] at ci cs
        rw [hdk] at ca
        have al : alW s u v (dg t) k < 18446744073709551616 := (dc_grd hs hj hk hv).dl
        clear e1 hb
        generalize alW s u v (dg t) k = a at *
        go_wp2_with fail
        refine (cp _).mono ?_
        rintro e w2 ⟨⟨n, f, h1, rfl⟩, c2⟩
        have b2 := b1.trans (c2.mono b1.size)
        clear c2
        go_wp2_with fail
        refine (ci _).mono ?_
        rintro e w3 ⟨rfl, c3⟩
        have b3 := b2.trans (c3.mono b2.size)
        clear c3
        go_wp2_with fail
        refine (cs _).mono ?_
        rintro e w4 ⟨rfl, rfl⟩
        go_wp2_with fail
        refine (ca _).mono ?_
        rintro e w5 ⟨rfl, c5⟩
        have b5 := b3.trans (c5.mono b3.size)
        clear c5
        go_wp2_with fail
        refine (i_sec m a _ ml al).mono ?_
        rintro e w6 ⟨⟨n', f', h2, rfl⟩, rfl⟩
        obtain ⟨rfl, rfl⟩ := h1.same h2
        clear h1 h2 b1 b2 b3
        cases f
        all_goals
          go_wp2
          go_ret
          exact ⟨rfl, b5⟩
    · have ci := fun w => i_steer_no t s u v w sl ul vl hok
      have cs := fun w => s_steer_no t s u v w sl ul vl hok
      have cp := fun w => i_pass_none t m s u v w ci
      clear hok
      go_wp2_with fail
      refine (cp _).mono ?_
      rintro e w2 ⟨rfl, c2⟩
      have b2 := b1.trans (c2.mono b1.size)
      clear c2
      go_wp2_with fail
      refine (ci _).mono ?_
      rintro e w3 ⟨rfl, c3⟩
      have b3 := b2.trans (c3.mono b2.size)
      clear c3
      go_wp2_with fail
      refine (cs _).mono ?_
      rintro e w4 ⟨rfl, rfl⟩
      go_wp2
      go_ret
      exact ⟨rfl, b3⟩
  · go_enter Try.func7, Try.ntmps7
    go_wp2
    go_ret
    exact ⟨rfl, Below.refl _ _⟩
end Go.Proofs.Ytlenmnffnbldbaa

/- The walk of the law FnWindsBack. -/
import Derived.Test.YtgohekdikgfcnaaDmM
import Derived.Test.YtgohekdikgfcnaaDrW
import Derived.Test.YtgohekdikgfcnaaPlc
namespace Go.Proofs.Ytgohekdikgfcnaa
open Go.RowKit Ieee

theorem tmod_bd (x : Int) (h : 0 ≤ x) : 0 ≤ x.tmod 201 ∧ x.tmod 201 < 201 := by
  rw [Int.tmod_eq_emod_of_nonneg h]; omega

set_option maxRecDepth 100000 in
set_option maxHeartbeats 4000000 in
theorem w_FnWindsBack (a0 : Option Addr) (len cap : Nat) (zs : List Int) (w : World) (hr : IsRow .u8 w a0 len cap zs) :
    Calls Try.prog 3 #[.slice a0 len cap] w fun e w' => e = .returned (.bool true) ∧ Below w.heap.size w w' := by
  by_cases hbig : len ≤ 1048576
  · have hcode := code_of_row hr hbig
    go_enter Try.func3, Try.ntmps3
    go_wp2_with (go_at_call 8; go_in)
    go_wp2_with fail
    refine (d_places _ len cap a0 hcode).mono ?_
    rintro e w1 ⟨xs, v, hxs, hbd, rfl, hown, b1⟩
    obtain ⟨g, c, rfl, hc, hB, hgl, hcell⟩ := ints_own hown (by omega)
    match xs, hxs with
    | [x0, x1, x2, x3, x4, x5, x6, x7, x8, x9, x10, x11], _ =>
    have c0 := hcell 0 x0 rfl
    have c1 := hcell 1 x1 rfl
    have c2 := hcell 2 x2 rfl
    have c3 := hcell 3 x3 rfl
    obtain ⟨p0, q0⟩ := hbd 0 x0 rfl
    obtain ⟨p1, q1⟩ := hbd 1 x1 rfl
    obtain ⟨p2, q2⟩ := hbd 2 x2 rfl
    obtain ⟨p3, q3⟩ := hbd 3 x3 rfl
    clear hcell hbd hown hB hgl
    obtain ⟨u0, v0⟩ := tmod_bd x0 p0
    obtain ⟨u1, v1⟩ := tmod_bd x1 p1
    obtain ⟨u2, v2⟩ := tmod_bd x2 p2
    obtain ⟨u3, v3⟩ := tmod_bd x3 p3
    have w0 : IntKind.i64.wrap (x0.tmod 201 - 100) = x0.tmod 201 - 100 := IntWalk.i64_in _ (by omega)
    have w1 : IntKind.i64.wrap (x1.tmod 201 - 100) = x1.tmod 201 - 100 := IntWalk.i64_in _ (by omega)
    have w2 : IntKind.i64.wrap (x2.tmod 201 - 100) = x2.tmod 201 - 100 := IntWalk.i64_in _ (by omega)
    have w3 : IntKind.i64.wrap (x3.tmod 201 - 100) = x3.tmod 201 - 100 := IntWalk.i64_in _ (by omega)
    obtain ⟨a, ha, ea⟩ := eig_ex (x0.tmod 201 - 100) (by omega) (by omega)
    obtain ⟨b, hb, eb⟩ := eig_ex (x1.tmod 201 - 100) (by omega) (by omega)
    obtain ⟨c', hc', ec⟩ := eig_ex (x2.tmod 201 - 100) (by omega) (by omega)
    obtain ⟨d, hd, ed⟩ := eig_ex (x3.tmod 201 - 100) (by omega) (by omega)
    have f0 := fun w => run_float_arith (P := Try.prog) w .quo 27 .f32 _ _ _ ha
    have f1 := fun w => run_float_arith (P := Try.prog) w .quo 27 .f32 _ _ _ hb
    have f2 := fun w => run_float_arith (P := Try.prog) w .quo 27 .f32 _ _ _ hc'
    have f3 := fun w => run_float_arith (P := Try.prog) w .quo 27 .f32 _ _ _ hd
    clear ha hb hc' hd
    have oa : okV a b := ⟨⟨ea.2.1, eb.2.1⟩, ea.okP (by omega), eb.okP (by omega)⟩
    have oc : okV c' d := ⟨⟨ec.2.1, ed.2.1⟩, ec.okP (by omega), ed.okP (by omega)⟩
    obtain ⟨s1, g1, h1⟩ := eig_sub ea ec (by omega) (by omega)
    obtain ⟨s2, g2, h2⟩ := eig_sub eb ed (by omega) (by omega)
    have os : okV s1 s2 := ⟨⟨h1.2.1, h2.2.1⟩, h1.okP (by omega), h2.okP (by omega)⟩
    obtain ⟨t1, k1, m1⟩ := eig_add h1 ec (by omega) (by omega)
    obtain ⟨t2, k2, m2⟩ := eig_add h2 ed (by omega) (by omega)
    rw [Int.sub_add_cancel] at m1 m2
    obtain ⟨z1, i1, n1⟩ := eig_damp ec ea (by omega) (by omega)
    obtain ⟨z2, i2, n2⟩ := eig_damp ed eb (by omega) (by omega)
    have D1 := fun w => i_app a b c' d s1 s2 w oa oc g1 g2
    have D2 := fun w => i_tw s1 s2 c' d t1 t2 w os oc k1 k2
    have D3 := fun w => i_Damp_yes c' d a b 1065353216 z1 z2 w oc oa (by omega) okK_one i1 i2
    have j1 := eig_same m1 ea
    have j2 := eig_same m2 eb
    have j3 := eig_same n1 ea
    have j4 := eig_same n2 eb
    clear ea eb ec ed oa oc g1 g2 h1 h2 os k1 k2 m1 m2 i1 i2 n1 n2
    go_wp2
    go_quiet (fail)
    go_wp2
    go_quiet (fail)
    go_wp2_with (first
      | (go_at_call 10; ((with_reducible refine (D1 _).mono ?_); rintro e w' ⟨rfl, rfl⟩))
      | (go_at_call 11; ((with_reducible refine (D2 _).mono ?_); rintro e w' ⟨rfl, rfl⟩))
      | (go_at_call 12; ((with_reducible refine (D3 _).mono ?_); rintro e w2 ⟨rfl, b2⟩)))
    go_ret
    exact ⟨rfl, Below.trans (b1.grown (row := none) (grown_drewN _ _ _) b1.size (fun _ h => by cases h)) (b2.mono b1.size)⟩
  · go_enter Try.func3, Try.ntmps3
    go_wp2
    go_ret
    exact ⟨rfl, Below.refl _ _⟩
end Go.Proofs.Ytgohekdikgfcnaa

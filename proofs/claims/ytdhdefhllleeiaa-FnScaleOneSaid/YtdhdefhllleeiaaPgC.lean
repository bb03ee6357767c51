/- The law of a polar scaled by one: FnScaleOne. -/
import Derived.Test.YtdhdefhllleeiaaPcD
import Derived.Test.YtdhdefhllleeiaaPsM
namespace Go.Proofs.Ytdhdefhllleeiaa
open Go.RowKit Ieee
set_option linter.unusedSimpArgs false
set_option linter.unusedVariables false

set_option maxRecDepth 100000 in
set_option maxHeartbeats 4000000 in
theorem w_FnScaleOne (a0 : Option Addr) (len cap : Nat) (zs : List Int) (w : World) (hr : IsRow .u8 w a0 len cap zs) :
    Calls Try.prog 5 #[.slice a0 len cap] w fun e w' => e = .returned (.bool true) ∧ Below w.heap.size w w' := by
  by_cases hbig : len ≤ 1048576
  · have hcode := code_of_row hr hbig
    go_enter Try.func5, Try.ntmps5
    go_wp2_with (first
      | (go_at_call 13; go_in)
      | (go_at_call 23; ((with_reducible refine (d_scalePolar _ len cap a0 hcode).mono ?_); rintro e w1 ⟨vW, vA, vS, n', na', m', x, rfl, pt, xl, b1⟩; obtain ⟨P, rfl, rfl, rfl, rfl, rfl, rfl, hP⟩ := pt.pol)))
    have HS := Lib.hid (PtSt.new hP b1)
    clear hcode hP b1 xl pt
    generalize w1.heap.size = gp at *
    refine (i_scalePolar P 1065353216 _ HS.out.2.2.1).mono ?_
    rintro e w2 ⟨b2, ⟨hno, rfl⟩ | ⟨hyes, gW, cW, gA, cA, gS, cS, b, c, rfl, own⟩⟩
    · have HS2 := Lib.hid ((HS.out.step b2).step ((Below.refl _ _).alloc (Nat.le_refl _) (.cells #[.slice none 0 0, .slice none 0 0, .slice none 0 0] 28)))
      have HNO := Lib.hid hno
      have c0 := HS2.out.d0
      have c1 := HS2.out.d1
      have c2 := HS2.out.d2
      have hbx := heap_alloc_new w2 (.cells #[.slice none 0 0, .slice none 0 0, .slice none 0 0] 28)
      have HBX := Lib.hid hbx
      clear hno b2 HS hbx
      go_wp2_with fail
      refine (s_polarOk P _ HS2.out.2.2.1).mono ?_
      rintro e w3 ⟨t, ht, rfl, b3⟩
      have hb3 := (b3.block _ (by simp)).trans HBX.out
      have q0 := cell_of_row w3 _ 0 _ _ _ hb3
      have q1 := cell_of_row w3 _ 1 _ _ _ hb3
      have q2 := cell_of_row w3 _ 2 _ _ _ hb3
      have HB := Lib.hid (HS2.out.step b3).below
      cases t
      · clear ht b3 hb3 c0 c1 c2
        go_wp2
        go_ret
        exact ⟨rfl, HB.out⟩
      · exact absurd (scale_one (ht.1 rfl)) HNO.out
    · have hok := hyes.1
      have HQ := Lib.hid ((own.one HS.out.2.2.1 hok (cW := cW) (cA := cA)).keeps (keeps_alloc w2 (.cells #[.slice (some ⟨gW, 0, none⟩) P.nw cW, .slice (some ⟨gA, 0, none⟩) P.na cA, .slice (some ⟨gS, 0, none⟩) P.ns cS] 28)))
      have HS2 := Lib.hid ((HS.out.step b2).step ((Below.refl _ _).alloc (Nat.le_refl _) (.cells #[.slice (some ⟨gW, 0, none⟩) P.nw cW, .slice (some ⟨gA, 0, none⟩) P.na cA, .slice (some ⟨gS, 0, none⟩) P.ns cS] 28)))
      have c0 := HS2.out.d0
      have c1 := HS2.out.d1
      have c2 := HS2.out.d2
      have hsame := l_samePolar P (oneQ P gW cW gA cA gS cS b c) _ HS2.out.2.2.1 HQ.out ⟨rfl, rfl, rfl, rfl, rfl, rfl, rfl⟩ hok
      dsimp only [oneQ] at hsame
      clear own hyes hok b2 HS
      go_wp2_with fail
      refine hsame.mono ?_
      rintro e w3 ⟨rfl, b3⟩
      have HB := Lib.hid (HS2.out.step b3).below
      clear c0 c1 c2 hsame b3
      go_wp2
      go_ret
      exact ⟨rfl, HB.out⟩
  · go_enter Try.func5, Try.ntmps5
    go_wp2
    go_ret
    exact ⟨rfl, Below.refl _ _⟩
end Go.Proofs.Ytdhdefhllleeiaa

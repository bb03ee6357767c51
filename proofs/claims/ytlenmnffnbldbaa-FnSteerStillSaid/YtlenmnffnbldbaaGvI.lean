/- The walk of the law FnSteerLeast. -/
import Derived.Test.YtlenmnffnbldbaaGvH
namespace Go.Proofs.Ytlenmnffnbldbaa
open Go.RowKit Ieee
set_option linter.unusedVariables false
set_option linter.unusedSimpArgs false

theorem stB_false {s u v j : Nat} (h : stB s u v j = false) : stN s u v j = 0 ∧ ∀ k, k < 360 → mayP s u v j k = false := by
  unfold stB at h
  cases e : stW s u v j with
  | none => exact ⟨by unfold stN; rw [e]; rfl, fun k hk => bsF_nothing e k hk⟩
  | some m => rw [e] at h; cases h
theorem stB_true {s u v j : Nat} (h : stB s u v j = true) : ∃ m : Nat, stN s u v j = (m : Int) ∧ m < 360 ∧ mayP s u v j m = true ∧ ∀ k, k < 360 → mayP s u v j k = true → offX s u v j m < offX s u v j k ∨ (offX s u v j m = offX s u v j k ∧ m ≤ k) := by
  unfold stB at h
  cases e : stW s u v j with
  | none => rw [e] at h; cases h
  | some m =>
    obtain ⟨a, b, c⟩ := bsF_some e
    exact ⟨m, by unfold stN; rw [e]; rfl, a, b, c⟩

set_option maxRecDepth 100000 in
set_option maxHeartbeats 4000000 in
theorem w_FnSteerLeast (a0 : Option Addr) (len cap : Nat) (zs : List Int) (w : World) (hr : IsRow .u8 w a0 len cap zs) :
    Calls Try.prog 4 #[.slice a0 len cap] w fun e w' => e = .returned (.bool true) ∧ Below w.heap.size w w' := by
  by_cases hbig : len ≤ 1048576
  · have hcode := code_of_row hr hbig
    go_enter Try.func4, Try.ntmps4
    go_wp2_with (first
      | (go_at_call 12; go_in)
      | fail)
    refine (d_along _ len cap a0 hcode).mono ?_
    rintro e w1 ⟨t, h, s, u, v, sl, ul, vl, rfl, b1⟩
    by_cases hok : okBs s ∧ okV u v
    · obtain ⟨hs, hv⟩ := hok
      have hj := dg_lt t
      have hk := dg_lt h
      go_wp2_with fail
      refine (i_steer t s u v _ hs hv).mono ?_
      rintro e w2 ⟨rfl, c2⟩
      have b2 := b1.trans (c2.mono b1.size)
      clear c2
      go_wp2_with fail
      refine (i_along t h s u v _ hs hv).mono ?_
      rintro e w3 ⟨rfl, c3⟩
      have b3 := b2.trans (c3.mono b2.size)
      clear c3
      go_wp2_with fail
      refine (i_off t h s u v _ hs hv).mono ?_
      rintro e w4 ⟨rfl, c4⟩
      have b4 := b3.trans (c4.mono b3.size)
      clear c4
      go_wp2_with fail
      refine (s_steer t s u v _ hs hv).mono ?_
      rintro e w5 ⟨rfl, rfl⟩
      clear b1 b2 b3
      cases hb : stB s u v (dg t)
      · obtain ⟨e1, hn⟩ := stB_false hb
        have hle := may_false hs hv hj hk (hn _ hk)
        rw [e1]
        clear hn e1 hb
        go_wp2
        go_ret
        exact ⟨rfl, b4⟩
      · obtain ⟨m, e1, hm, hmp, hbest⟩ := stB_true hb
        rw [e1]
        have hdm : dg (m : Int) = m := by unfold dg; omega
        have hmgt := may_true hmp
        have m0 : (0 : Int) ≤ (m : Int) := by omega
        have m1 : (m : Int) < 360 := by omega
        have ci := fun w => i_along t (m : Int) s u v w hs hv
        have co := fun w => i_off t (m : Int) s u v w hs hv
        rw [hdm] at ci co
        go_wp2_with fail
        refine (ci _).mono ?_
        rintro e w5 ⟨rfl, c5⟩
        have b5 := b4.trans (c5.mono b4.size)
        clear c5
        go_wp2_with fail
        refine (co _).mono ?_
        rintro e w6 ⟨rfl, c6⟩
        have b6 := b5.trans (c6.mono b5.size)
        clear c6 b4 b5
        cases hp : mayP s u v (dg t) (dg h)
        · have hle := may_false hs hv hj hk hp
          clear hbest
          generalize alW s u v (dg t) (dg h) = al at *
          generalize ofW s u v (dg t) (dg h) = of at *
          generalize alW s u v (dg t) m = bl at *
          generalize ofW s u v (dg t) m = bf at *
          go_wp2
          go_ret
          exact ⟨rfl, b6⟩
        · have hgt := may_true hp
          have hor := amt_order hs hv hj hk hm
          have la := fun w => l_amount (ofW s u v (dg t) (dg h)) w (dc_grd hs hj hk hv).cl
          have lb := fun w => l_amount (ofW s u v (dg t) m) w (dc_grd hs hj hm hv).cl
          have ld := fun w => l_deg h w
          have hdh : h % 360 = ((dg h : Nat) : Int) := by unfold dg; omega
          rw [hdh] at ld
          rcases hbest _ hk hp with hlt | ⟨heq, hle⟩
          · rw [Int.compare_eq_lt.2 (by omega)] at hor
            clear hbest hp hmp hlt
            generalize alW s u v (dg t) (dg h) = al at *
            generalize alW s u v (dg t) m = bl at *
            generalize amtW (ofW s u v (dg t) (dg h)) = aof at *
            generalize amtW (ofW s u v (dg t) m) = abf at *
            generalize ofW s u v (dg t) (dg h) = of at *
            generalize ofW s u v (dg t) m = bf at *
            go_wp2_with (first
              | (go_at_call 20; ((with_reducible refine (lb _).mono ?_); rintro e w' ⟨rfl, rfl⟩))
              | (go_at_call 20; ((with_reducible refine (la _).mono ?_); rintro e w' ⟨rfl, rfl⟩))
              | (go_at_call 15; ((with_reducible refine (ld _).mono ?_); rintro e w' ⟨rfl, rfl⟩)))
            go_ret
            exact ⟨rfl, b6⟩
          · rw [Int.compare_eq_eq.2 (by omega)] at hor
            have hle2 : (m : Int) ≤ ((dg h : Nat) : Int) := by omega
            clear hbest hp hmp heq hle hdh
            generalize alW s u v (dg t) (dg h) = al at *
            generalize alW s u v (dg t) m = bl at *
            generalize amtW (ofW s u v (dg t) (dg h)) = aof at *
            generalize amtW (ofW s u v (dg t) m) = abf at *
            generalize ofW s u v (dg t) (dg h) = of at *
            generalize ofW s u v (dg t) m = bf at *
            go_wp2_with (first
              | (go_at_call 20; ((with_reducible refine (lb _).mono ?_); rintro e w' ⟨rfl, rfl⟩))
              | (go_at_call 20; ((with_reducible refine (la _).mono ?_); rintro e w' ⟨rfl, rfl⟩))
              | (go_at_call 15; ((with_reducible refine (ld _).mono ?_); rintro e w' ⟨rfl, rfl⟩)))
            go_ret
            exact ⟨rfl, b6⟩
    · go_wp2_with fail
      refine (i_steer_no t s u v _ sl ul vl hok).mono ?_
      rintro e w2 ⟨rfl, c2⟩
      have b2 := b1.trans (c2.mono b1.size)
      clear c2
      go_wp2_with fail
      refine (i_along_no t h s u v _ sl ul vl hok).mono ?_
      rintro e w3 ⟨rfl, c3⟩
      have b3 := b2.trans (c3.mono b2.size)
      clear c3
      go_wp2_with fail
      refine (i_off_no t h s u v _ sl ul vl hok).mono ?_
      rintro e w4 ⟨rfl, c4⟩
      have b4 := b3.trans (c4.mono b3.size)
      clear c4
      go_wp2_with fail
      refine (s_steer_no t s u v _ sl ul vl hok).mono ?_
      rintro e w5 ⟨rfl, rfl⟩
      clear hok
      go_wp2
      go_ret
      exact ⟨rfl, b4⟩
  · go_enter Try.func4, Try.ntmps4
    go_wp2
    go_ret
    exact ⟨rfl, Below.refl _ _⟩
end Go.Proofs.Ytlenmnffnbldbaa

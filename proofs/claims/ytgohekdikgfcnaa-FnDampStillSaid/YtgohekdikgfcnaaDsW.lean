/- The walks of the laws FnDampStill and FnWindsBack. -/
import Derived.Test.YtgohekdikgfcnaaDmM
import Derived.Test.YtgohekdikgfcnaaDrW
import Derived.Test.YtgohekdikgfcnaaPlc
namespace Go.Proofs.Ytgohekdikgfcnaa
open Go.RowKit Ieee

set_option maxRecDepth 100000 in
set_option maxHeartbeats 4000000 in
theorem w_FnDampStill (a0 : Option Addr) (len cap : Nat) (zs : List Int) (w : World) (hr : IsRow .u8 w a0 len cap zs) :
    Calls Try.prog 4 #[.slice a0 len cap] w fun e w' => e = .returned (.bool true) ∧ Below w.heap.size w w' := by
  by_cases hbig : len ≤ 1048576
  · have hcode := code_of_row hr hbig
    go_enter Try.func4, Try.ntmps4
    go_wp2_with (first
      | (go_at_call 8; go_in)
      | (go_at_call 13; ((with_reducible refine (d_damp _ len cap a0 hcode).mono ?_); rintro e w1 ⟨x, y, c, d, k, ⟨hx, hy⟩, ⟨hc, hd⟩, hk, rfl, b1⟩)))
    by_cases o1 : okV x y
    · by_cases o2 : okV c d
      · obtain ⟨r1, e1, l1, n1, f1⟩ := damp_still o1.2.1 o2.2.1 okK_zero (.inl S.nought_val)
        obtain ⟨r2, e2, l2, n2, f2⟩ := damp_still o1.2.2 o2.2.2 okK_zero (.inl S.nought_val)
        have D1 := fun w => i_Damp_yes x y c d 0 r1 r2 w o1 o2 (by omega) okK_zero e1 e2
        have q1 := order_same n1 o1.2.1.1 f1
        have q2 := order_same n2 o1.2.2.1 f2
        clear e1 e2 l1 l2 n1 n2 f1 f2
        by_cases o3 : okK k
        · obtain ⟨r3, e3, l3, n3, f3⟩ := damp_still o1.2.1 o1.2.1 o3 (.inr rfl)
          obtain ⟨r4, e4, l4, n4, f4⟩ := damp_still o1.2.2 o1.2.2 o3 (.inr rfl)
          obtain ⟨r5, e5, _, _⟩ := damp_is o1.2.1 o2.2.1 o3
          obtain ⟨r6, e6, _, _⟩ := damp_is o1.2.2 o2.2.2 o3
          have D2 := fun w => i_Damp_yes x y x y k r3 r4 w o1 o1 hk o3 e3 e4
          have D3 := fun w => i_Damp_yes x y c d k r5 r6 w o1 o2 hk o3 e5 e6
          have D4 := fun w => s_Damp_yes x y c d k r5 r6 w o1 o2 hk o3 e5 e6
          have q3 := order_same n3 o1.2.1.1 f3
          have q4 := order_same n4 o1.2.2.1 f4
          clear e3 e4 l3 l4 n3 n4 f3 f4 e5 e6
          go_wp2_with (first
            | (go_at_call 12; ((with_reducible refine (D1 _).mono ?_); rintro e w2 ⟨rfl, b2⟩))
            | (go_at_call 12; ((with_reducible refine (D2 _).mono ?_); rintro e w3 ⟨rfl, b3⟩))
            | (go_at_call 12; ((with_reducible refine (D3 _).mono ?_); rintro e w4 ⟨rfl, b4⟩))
            | (go_at_call 14; ((with_reducible refine (D4 _).mono ?_); rintro e w' ⟨rfl, rfl⟩)))
          go_ret
          have b12 := b1.trans (b2.mono b1.size)
          have b13 := b12.trans (b3.mono b12.size)
          exact ⟨rfl, b13.trans (b4.mono b13.size)⟩
        · have D2 := fun w => i_Damp_no x y x y k w hx hy hx hy hk (fun h => o3 h.2.2)
          have D3 := fun w => i_Damp_no x y c d k w hx hy hc hd hk (fun h => o3 h.2.2)
          have D4 := fun w => s_Damp_no x y c d k w hx hy hc hd hk (fun h => o3 h.2.2)
          go_wp2_with (first
            | (go_at_call 12; ((with_reducible refine (D1 _).mono ?_); rintro e w2 ⟨rfl, b2⟩))
            | (go_at_call 12; ((with_reducible refine (D2 _).mono ?_); rintro e w3 ⟨rfl, b3⟩))
            | (go_at_call 12; ((with_reducible refine (D3 _).mono ?_); rintro e w4 ⟨rfl, b4⟩))
            | (go_at_call 14; ((with_reducible refine (D4 _).mono ?_); rintro e w' ⟨rfl, rfl⟩))
            | (go_at_call 15; ((with_reducible refine (i_velok_yes x y _ o1).mono ?_); rintro e w' ⟨rfl, rfl⟩)))
          go_ret
          have b12 := b1.trans (b2.mono b1.size)
          have b13 := b12.trans (b3.mono b12.size)
          exact ⟨rfl, b13.trans (b4.mono b13.size)⟩
      · have D1 := fun w => i_Damp_no x y c d 0 w hx hy hc hd (by omega) (fun h => o2 h.2.1)
        have D3 := fun w => i_Damp_no x y c d k w hx hy hc hd hk (fun h => o2 h.2.1)
        have D4 := fun w => s_Damp_no x y c d k w hx hy hc hd hk (fun h => o2 h.2.1)
        by_cases o3 : okK k
        · obtain ⟨r3, e3, l3, n3, f3⟩ := damp_still o1.2.1 o1.2.1 o3 (.inr rfl)
          obtain ⟨r4, e4, l4, n4, f4⟩ := damp_still o1.2.2 o1.2.2 o3 (.inr rfl)
          have D2 := fun w => i_Damp_yes x y x y k r3 r4 w o1 o1 hk o3 e3 e4
          clear e3 e4 l3 l4 n3 n4 f3 f4
          go_wp2_with (first
            | (go_at_call 12; ((with_reducible refine (D1 _).mono ?_); rintro e w2 ⟨rfl, b2⟩))
            | (go_at_call 12; ((with_reducible refine (D2 _).mono ?_); rintro e w3 ⟨rfl, b3⟩))
            | (go_at_call 12; ((with_reducible refine (D3 _).mono ?_); rintro e w4 ⟨rfl, b4⟩))
            | (go_at_call 14; ((with_reducible refine (D4 _).mono ?_); rintro e w' ⟨rfl, rfl⟩)))
          go_ret
          have b12 := b1.trans (b2.mono b1.size)
          have b13 := b12.trans (b3.mono b12.size)
          exact ⟨rfl, b13.trans (b4.mono b13.size)⟩
        · have D2 := fun w => i_Damp_no x y x y k w hx hy hx hy hk (fun h => o3 h.2.2)
          go_wp2_with (first
            | (go_at_call 12; ((with_reducible refine (D1 _).mono ?_); rintro e w2 ⟨rfl, b2⟩))
            | (go_at_call 12; ((with_reducible refine (D2 _).mono ?_); rintro e w3 ⟨rfl, b3⟩))
            | (go_at_call 12; ((with_reducible refine (D3 _).mono ?_); rintro e w4 ⟨rfl, b4⟩))
            | (go_at_call 14; ((with_reducible refine (D4 _).mono ?_); rintro e w' ⟨rfl, rfl⟩)))
          go_ret
          have b12 := b1.trans (b2.mono b1.size)
          have b13 := b12.trans (b3.mono b12.size)
          exact ⟨rfl, b13.trans (b4.mono b13.size)⟩
    · have D1 := fun w => i_Damp_no x y c d 0 w hx hy hc hd (by omega) (fun h => o1 h.1)
      have D2 := fun w => i_Damp_no x y x y k w hx hy hx hy hk (fun h => o1 h.1)
      have D3 := fun w => i_Damp_no x y c d k w hx hy hc hd hk (fun h => o1 h.1)
      have D4 := fun w => s_Damp_no x y c d k w hx hy hc hd hk (fun h => o1 h.1)
      go_wp2_with (first
        | (go_at_call 12; ((with_reducible refine (D1 _).mono ?_); rintro e w2 ⟨rfl, b2⟩))
        | (go_at_call 12; ((with_reducible refine (D2 _).mono ?_); rintro e w3 ⟨rfl, b3⟩))
        | (go_at_call 12; ((with_reducible refine (D3 _).mono ?_); rintro e w4 ⟨rfl, b4⟩))
        | (go_at_call 14; ((with_reducible refine (D4 _).mono ?_); rintro e w' ⟨rfl, rfl⟩)))
      go_ret
      have b12 := b1.trans (b2.mono b1.size)
      have b13 := b12.trans (b3.mono b12.size)
      exact ⟨rfl, b13.trans (b4.mono b13.size)⟩
  · go_enter Try.func4, Try.ntmps4
    go_wp2
    go_ret
    exact ⟨rfl, Below.refl _ _⟩
end Go.Proofs.Ytgohekdikgfcnaa

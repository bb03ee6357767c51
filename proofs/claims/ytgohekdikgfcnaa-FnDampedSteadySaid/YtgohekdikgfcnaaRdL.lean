/- The walk of the law FnDampedSteady. -/
import Derived.Test.YtgohekdikgfcnaaRsW
namespace Go.Proofs.Ytgohekdikgfcnaa
open Go.RowKit Ieee

theorem slice_none {w : World} {B t : Nat} {v : Value} {xs : List Value} (h : w.ownsRow B t 1 v 0 xs) : ∃ a c, v = .slice a 0 c := by
  obtain ⟨_, ⟨h1, _⟩ | ⟨g, cap, cur, hv, _⟩⟩ := h
  · exact ⟨none, 0, h1⟩
  · exact ⟨_, _, hv⟩
set_option maxHeartbeats 1000000 in
theorem i_run_zero (a : Option Addr) (c k : Nat) (w : World) :
    Calls Try.prog 23 #[.slice a 0 c, .float .f32 k] w fun e w' => e = .returned (.slice none 0 0) ∧ w = w' := by
  go_enter Try.func23, Try.ntmps23
  go_wp2
  go_ret
  exact ⟨rfl, rfl⟩
set_option maxHeartbeats 1000000 in
theorem s_all_zero (a : Option Addr) (c : Nat) (w : World) :
    Calls Try.prog 43 #[.slice a 0 c] w fun e w' => e = .returned (.bool true) ∧ w = w' := by
  go_enter Try.func43, Try.ntmps43
  go_wp2
  go_loop [3] (fun i => i = .int .i64 0) (fun _ => 0)
  case atStart => exact rfl
  case round =>
    obtain rfl := hrel
    go_wp2
    go_ret
    exact ⟨rfl, rfl⟩
set_option maxHeartbeats 1000000 in
theorem s_run_zero (a : Option Addr) (c k : Nat) (w : World) (hk : k < 4294967296) :
    Calls Try.prog 24 #[.slice a 0 c, .float .f32 k] w fun e w' => ∃ (a' : Option Addr) (c' : Nat), e = .returned (.slice a' 0 c') ∧ Below w.heap.size w w' := by
  have b0 := (Below.refl w.heap.size w).alloc (Nat.le_refl _) (.cells #[] 26)
  go_enter Try.func24, Try.ntmps24
  go_wp2_with fail
  refine (s_all_zero a c _).mono ?_
  rintro e w1 ⟨rfl, rfl⟩
  go_wp2_with fail
  refine (s_share k _ hk).mono ?_
  rintro e w2 ⟨t, ht, rfl, rfl⟩
  clear ht
  cases t
  · go_wp2
    go_ret
    exact ⟨_, _, rfl, b0⟩
  · go_wp2
    go_loop [5, 6, 7, 8] (fun r i x o => i = .int .i64 0 ∧ r = .slice (some ⟨w.heap.size, 0, none⟩) 0 0) (fun _ _ _ _ => 0)
    case atStart => exact ⟨rfl, rfl⟩
    case round =>
      obtain ⟨rfl, rfl⟩ := hrel
      go_wp2
      go_ret
      exact ⟨⟨_, _, rfl⟩, b0⟩
set_option maxRecDepth 100000 in
set_option maxHeartbeats 4000000 in
theorem w_FnDampedSteady (a0 : Option Addr) (len cap : Nat) (zs : List Int) (w : World) (hr : IsRow .u8 w a0 len cap zs) :
    Calls Try.prog 7 #[.slice a0 len cap] w fun e w' => e = .returned (.bool true) ∧ Below w.heap.size w w' := by
  by_cases hbig : len ≤ 1048576
  · have hcode := code_of_row hr hbig
    go_enter Try.func7, Try.ntmps7
    go_wp2_with (first
      | (go_at_call 8; go_in)
      | fail)
    refine (d_rundamp _ len cap a0 hcode).mono ?_
    rintro e w1 ⟨n, xs, v, k, hn, hxs, hbd, hk, rfl, hown, b1⟩
    clear hcode
    rcases Nat.eq_zero_or_pos n with h0 | h0
    · subst h0
      obtain ⟨a, c, rfl⟩ := slice_none hown
      clear hown hbd
      go_wp2_with (first
        | (go_at_call 23; ((with_reducible refine (i_run_zero _ _ _ _).mono ?_); rintro e w2 ⟨rfl, rfl⟩))
        | (go_at_call 24; ((with_reducible refine (s_run_zero _ _ _ _ hk).mono ?_); rintro e w3 ⟨a', c', rfl, b3⟩)))
      go_ret
      exact ⟨rfl, b1.trans (b3.mono b1.size)⟩
    · obtain ⟨g, cp, rfl, hcap, hg0, hg1, hcell⟩ := winds_own hown (by omega)
      obtain ⟨ws, hws⟩ : ∃ ws : Nat → Nat × Nat, ∀ j, ws j = xs.getD j (0, 0) := ⟨_, fun _ => rfl⟩
      have hW : Winds w1 g n ws := fun j hj => by
        have hx : xs[j]? = some (ws j) := by rw [hws, List.getD, List.getElem?_eq_getElem (show j < xs.length by omega)]; rfl
        exact ⟨hcell j _ hx, hbd j _ hx⟩
      have HW := Lib.hid hW
      clear hcell hbd hW hws hown
      go_wp2_with fail
      refine (i_run ws g n cp k _ h0 (by omega) hcap hg1 hk HW.out).mono ?_
      rintro e w2 ⟨v2, rfl, hr2, b2⟩
      have b12 := b1.trans (b2.mono b1.size)
      rcases hr2 with ⟨hruns, h2, c2, rfl, hh2, hs2, hcell2⟩ | ⟨hno, rfl⟩
      · have HC2 := Lib.hid hcell2
        have HR := Lib.hid hruns
        clear hcell2 hruns
        go_wp2_with fail
        refine (s_run ws g n cp k _ h0 (by omega) (by have := b2.size; omega) hk (HW.out.below b2 hg1)).mono ?_
        rintro e w3 ⟨a3, m3, c3, rfl, hr3, b3⟩
        have hm3 : m3 = n := by
          rcases hr3 with ⟨_, h⟩ | ⟨h, _⟩
          · exact h
          · exact absurd HR.out h
        subst hm3
        have b13 := b2.trans (b3.mono b2.size)
        have b13' := b1.trans (b13.mono b1.size)
        have hn0 : (m3 == 0) = false := by simp; omega
        have hn1 : ((m3 : Int) == 0) = false := by simp; omega
        clear hr3
        go_wp2_with fail
        refine (i_run ws g m3 cp 0 _ h0 (by omega) hcap (by have := b13.size; omega) (by omega) (HW.out.below b13 hg1)).mono ?_
        rintro e w4 ⟨v4, rfl, hr4, b4⟩
        have b14 := b13.trans (b4.mono b13.size)
        have b14' := b1.trans (b14.mono b1.size)
        rcases hr4 with ⟨_, h4, c4, rfl, hh4, hs4, hcell4⟩ | ⟨hno, _⟩
        · have HC4 := Lib.hid hcell4
          clear hcell4
          have z3 := b3.size
          have z4 := b4.size
          have hg4 : g < w4.heap.size := by have := b14.size; omega
          have l0 : w4.cell? ⟨g, 0, none⟩ = some (.complex .f32 (ws 0).1 (ws 0).2) := (b14.cell (p := ⟨g, 0, none⟩) hg1).trans (HW.out 0 h0).1
          have o0 : w4.cell? ⟨h2, 0, none⟩ = some (.complex .f32 (ws 0).1 (ws 0).2) := ((b3.trans (b4.mono b3.size)).cell (p := ⟨h2, 0, none⟩) hs2).trans (HC2.out 0 h0)
          have HL := Lib.hid (And.intro l0 o0)
          clear l0 o0
          go_wp2
          go_loopw [7] (fun i wr => ∃ j : Nat, j ≤ m3 ∧ i = .int .i64 j ∧ Below w4.heap.size w4 wr) (fun i _ => m3 - (intOf i).toNat)
          case atStart => exact ⟨0, by omega, rfl, Below.refl _ _⟩
          case round =>
            obtain ⟨j, hj, rfl, bel⟩ := hrel
            have l0 : wr.cell? ⟨g, 0, none⟩ = some (.complex .f32 (ws 0).1 (ws 0).2) := (bel.cell (p := ⟨g, 0, none⟩) hg4).trans HL.out.1
            have o0 : wr.cell? ⟨h2, 0, none⟩ = some (.complex .f32 (ws 0).1 (ws 0).2) := (bel.cell (p := ⟨h2, 0, none⟩) (show h2 < w4.heap.size by omega)).trans HL.out.2
            have i0 : (0 : Int) < (m3 : Int) := by omega
            have hw0 := HR.out.2.1.2 0 h0
            by_cases hlt : j < m3
            · have x0 : wr.cell? ⟨h4, j, none⟩ = some (.complex .f32 (outs ws 0 j).1 (outs ws 0 j).2) := (bel.cell (p := ⟨h4, j, none⟩) hs4).trans (HC4.out j hlt)
              obtain ⟨q1, q2, q3⟩ := outs_still HR.out.2.1 j hlt
              have f1 := order_same q1.2.1.1 hw0.2.1.1 q2
              have f2 := order_same q1.2.2.1 hw0.2.2.1 q3
              have jlt : (j : Int) < (m3 : Int) := by omega
              clear q1 q2 q3 hw0 o0
              generalize outs ws 0 j = oj at *
              generalize ws 0 = wz at *
              go_wp2
              go_quiet (fail)
              go_wp2
              go_roundw
              case rel => exact ⟨j + 1, by omega, by go_num, below_drewN bel _⟩
              case measure => simp [intOf]; omega
            · obtain rfl : j = m3 := by omega
              have f1 := order_same hw0.2.1.1 hw0.2.1.1 rfl
              have f2 := order_same hw0.2.2.1 hw0.2.2.1 rfl
              clear hw0
              generalize ws 0 = wz at *
              go_wp2
              go_quiet (fail)
              go_wp2
              go_ret
              exact ⟨rfl, below_drewN (b14'.trans (bel.mono b14'.size)) _⟩
        · exact absurd (runs_still HR.out) hno
      · have HN := Lib.hid hno
        clear hno
        go_wp2_with fail
        refine (s_run ws g n cp k _ h0 (by omega) (by have := b2.size; omega) hk (HW.out.below b2 hg1)).mono ?_
        rintro e w3 ⟨a3, m3, c3, rfl, hr3, b3⟩
        have hm3 : m3 = 0 := by
          rcases hr3 with ⟨h, _⟩ | ⟨_, h⟩
          · exact absurd h HN.out
          · exact h
        subst hm3
        clear hr3
        go_wp2
        go_ret
        exact ⟨rfl, b12.trans (b3.mono b12.size)⟩
  · go_enter Try.func7, Try.ntmps7
    go_wp2
    go_ret
    exact ⟨rfl, Below.refl _ _⟩
end Go.Proofs.Ytgohekdikgfcnaa

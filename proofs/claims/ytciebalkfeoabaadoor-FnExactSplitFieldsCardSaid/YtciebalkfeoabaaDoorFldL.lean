/- The walk of the law FnExactSplitFields. -/
import Derived.Test.YtciebalkfeoabaaDoorFlds2
namespace Go.Proofs.YtciebalkfeoabaaDoor
open Go.RowKit

set_option maxRecDepth 100000 in
set_option maxHeartbeats 1000000 in
theorem s_sp (s : ByteArray) (w : World) (hs : s.size ≤ 1048576) :
    Calls Tryd.prog 22 #[.string s] w fun e w' => SpOutS s w' e ∧ Below w.heap.size w w' := by
  by_cases h6 : s.size ≤ 600
  · exact s_sp_loop s w h6
  · have HS := Lib.hid (show ¬ spOk s from fun h => h6 h.1)
    go_enter Tryd.func22, Tryd.ntmps22
    go_wp2
    go_ret2
    exact ⟨SpOutS.no HS.out _ _ _, (Below.refl _ _).alloc (Nat.le_refl _) _⟩

set_option maxRecDepth 100000 in
set_option maxHeartbeats 1000000 in
theorem l_marks0 (w : World) (c : Nat) (A : Option Addr) :
    Calls Tryd.prog 31 #[.slice A 0 c, .int .i64 1] w fun e w' => e = .returned (.int .i64 1) ∧ w = w' := by
  go_enter Tryd.func31, Tryd.ntmps31
  go_wp2
  go_loop [1, 5] (fun m i => m = .int .i64 1 ∧ i = .int .i64 0) (fun _ _ => 0)
  case atStart => exact ⟨rfl, rfl⟩
  case round =>
    obtain ⟨rfl, rfl⟩ := hrel
    go_wp2
    go_ret
    exact ⟨rfl, rfl⟩

abbrev Tabs_FnExactSplitFields (w : World) : Prop := TabS w
set_option maxRecDepth 100000 in
set_option maxHeartbeats 2000000 in
theorem w_FnExactSplitFields (s : ByteArray) (w : World) (hs : s.size ≤ maxLen) (ht : Tabs_FnExactSplitFields w) :
    Calls Tryd.prog 10 #[.string s] w fun e w' => e = .returned (.bool true) ∧ Below w.heap.size w w' := by
  unfold maxLen at hs
  by_cases hbig : s.size ≤ 1048576
  · have HT := Lib.hid ht
    clear ht
    go_enter Tryd.func10, Tryd.ntmps10
    go_wp2_with fail
    refine (s_sp s _ hbig).mono ?_
    rintro e w1 ⟨⟨n, cw, Aw, xs, ok, hr, rfl, hrow⟩, b1⟩
    go_wp2_with fail
    refine (i_sp s _ hbig (TabS.below HT.out b1)).mono ?_
    rintro e w2 ⟨⟨n', cg, Ag, xs', ok', hr', rfl, hn24, hblk⟩, b2⟩
    obtain ⟨rfl, rfl, rfl⟩ := hr.same hr'
    have HR := Lib.hid hr
    clear hr hr'
    have b02 := b1.trans (b2.mono b1.size)
    rcases hblk with ⟨rfl, rfl⟩ | ⟨g, rfl, hg, hblk⟩
    · have hx : xs = [] := List.length_eq_zero_iff.1 hrow.1
      subst hx
      have r0 : ∀ (w : World) (A : Option Addr), StrRow w A 0 [] := fun _ _ => ⟨rfl, fun h => absurd rfl h⟩
      cases ok
      all_goals
        go_wp2_with fail
        refine (l_eqs _ 0 _ _ _ _ [] (r0 _ _) (r0 _ _) (by omega)).mono ?_
        rintro e w3 ⟨rfl, b3⟩
        have b03 := b02.trans (b3.mono b02.size)
        go_wp2_with fail
        refine (l_marks0 _ _ _).mono ?_
        rintro e w4 ⟨rfl, rfl⟩
        go_wp2_with fail
        refine (l_held _ 0 _ _ [] (r0 _ _) (by omega) (fun j hj => absurd hj (by omega))).mono ?_
        rintro e w5 ⟨rfl, b5⟩
        have b05 := b03.trans (b5.mono b03.size)
        go_wp2_with fail
        refine (i_sp s _ hbig (TabS.below HT.out b05)).mono ?_
        rintro e w6 ⟨⟨n', cg, Ag, xs', ok', hr', rfl, hn24', hblk'⟩, b6⟩
        obtain ⟨rfl, rfl, rfl⟩ := HR.out.same hr'
        clear hr' hblk'
        have b06 := b05.trans (b6.mono b05.size)
        go_wp2_with fail
        refine (l_eqs _ 0 _ _ _ _ [] (r0 _ _) (r0 _ _) (by omega)).mono ?_
        rintro e w7 ⟨rfl, b7⟩
        have b07 := b06.trans (b7.mono b06.size)
        go_wp2_with fail
        refine (l_held _ 0 _ _ [] (r0 _ _) (by omega) (fun j hj => absurd hj (by omega))).mono ?_
        rintro e w8 ⟨rfl, b8⟩
        go_wp2
        go_ret
        exact ⟨rfl, b07.trans (b8.mono b07.size)⟩
    · have hxl := hrow.1
      have row2 : StrRow w2 (some ⟨g, 0, none⟩) n xs := hxl ▸ hblk.row
      have HB2 := Lib.hid hblk
      have HW := Lib.hid hrow
      have H2 := Lib.hid row2
      clear hblk hrow row2
      cases ok
      all_goals
        go_wp2_with fail
        refine (l_eqs _ n _ _ _ _ xs H2.out (HW.out.below b2) (by omega)).mono ?_
        rintro e w3 ⟨rfl, b3⟩
        have b03 := b02.trans (b3.mono b02.size)
        have b13 := b2.trans (b3.mono b2.size)
        go_wp2_with fail
        refine (l_marks _ n _ g w1.heap.size xs hxl (HB2.out.below b3) hg (by omega)).mono ?_
        rintro e w4 ⟨rfl, b4, ys, hyl, hyb, hys⟩
        have b14 := b13.trans b4
        have b04 := b03.trans (b4.mono b1.size)
        have row4 : StrRow w4 (some ⟨g, 0, none⟩) n ys := hyl ▸ hyb.row
        have H4 := Lib.hid row4
        have HY := Lib.hid hys
        clear row4 hys hyb
        go_wp2_with fail
        refine (l_held _ n _ _ ys H4.out (by omega) HY.out).mono ?_
        rintro e w5 ⟨rfl, b5⟩
        have b05 := b04.trans (b5.mono b04.size)
        have b15 := b14.trans (b5.mono b14.size)
        go_wp2_with fail
        refine (i_sp s _ hbig (TabS.below HT.out b05)).mono ?_
        rintro e w6 ⟨⟨n', cg', Ag', xs', ok', hr', rfl, hn24', hblk'⟩, b6⟩
        obtain ⟨rfl, rfl, rfl⟩ := HR.out.same hr'
        clear hr'
        have b06 := b05.trans (b6.mono b05.size)
        have b16 := b15.trans (b6.mono b15.size)
        have row6 : StrRow w6 Ag' n xs := by
          rcases hblk' with ⟨_, h0⟩ | ⟨g', rfl, _, hb'⟩
          · exact ⟨hxl, fun h => absurd h0 h⟩
          · exact hxl ▸ hb'.row
        have H6 := Lib.hid row6
        clear hblk' row6
        go_wp2_with fail
        refine (l_eqs _ n _ _ _ _ xs H6.out (HW.out.below b16) (by omega)).mono ?_
        rintro e w7 ⟨rfl, b7⟩
        have b07 := b06.trans (b7.mono b06.size)
        have b46 := b5.trans (b6.mono b5.size)
        have b47 := b46.trans (b7.mono b46.size)
        go_wp2_with fail
        refine (l_held _ n _ _ ys (H4.out.below b47) (by omega) HY.out).mono ?_
        rintro e w8 ⟨rfl, b8⟩
        go_wp2
        go_ret
        exact ⟨rfl, b07.trans (b8.mono b07.size)⟩
  · go_enter Tryd.func10, Tryd.ntmps10
    go_wp2
    go_ret
    exact ⟨rfl, Below.refl _ _⟩
end Go.Proofs.YtciebalkfeoabaaDoor

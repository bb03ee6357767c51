/- The walk of the law FnStreamHours. -/
import Derived.Test.YtbklmfchbojboaaTdE
namespace Go.Proofs.Ytbklmfchbojboaa
open Go.RowKit Ieee
set_option linter.unusedSimpArgs false
set_option linter.unusedVariables false
attribute [local go_sem] st_cplx

theorem fl_div_zero_inf {f : Format} {x y : Nat} {s t : Bool} {m : Nat} {i j : Int} (hx : f.read x = .number s m i) (hm : m ≠ 0) (hy : f.read y = .number t 0 j) : ∃ b, f.div x y = some (f.write (.infinity b)) := by
  unfold Format.div
  rw [hx, hy]
  simp only [Datum.quotient, if_pos, if_neg hm, Option.map_some]
  exact ⟨_, rfl⟩
theorem inf_self (b : Bool) : FloatKind.f64.format.order (FloatKind.f64.format.write (.infinity b)) (FloatKind.f64.format.write (.infinity b)) = some .eq := by cases b <;> kernel_rfl
set_option maxHeartbeats 800000 in
theorem l_same64 (x : Nat) (w : World) (hx : isNum x) :
    Calls Try.prog 53 #[.float .f64 x, .float .f64 x] w fun e w' => e = .returned (.bool true) ∧ w = w' := by
  have hs : FloatKind.f64.format.order x x = some .eq := by
    rw [show FloatKind.f64.format.order x x = some (compare (fval x) (fval x)) from order_val hx hx, Int.compare_eq_eq.2 rfl]
  clear hx
  by_cases hz : (FloatKind.f64.format.order x 0 == some .eq) = true
  · obtain ⟨t, j, hx⟩ := fl_order_zero (f := FloatKind.f64.format) (x := x) (z := 0) (s := false) (i := -1074) (by kernel_rfl) (by simpa using hz)
    obtain ⟨b, hr⟩ := fl_div_zero_inf (f := FloatKind.f64.format) (x := 4607182418800017408) (y := x) (s := false) (m := 4503599627370496) (i := -52) (by kernel_rfl) (by omega) hx
    have hi := inf_self b
    generalize FloatKind.f64.format.write (.infinity b) = r at *
    have hq := fun w => run_float_arith (P := Try.prog) w .quo 48 .f64 4607182418800017408 x r hr
    have hz2 : FloatKind.f64.format.order x 0 = some .eq := by simpa using hz
    clear hx hr
    go_enter Try.func53, Try.ntmps53
    go_wp2
    go_ret
    exact ⟨rfl, rfl⟩
  · have hz' : (FloatKind.f64.format.order x 0 == some .eq) = false := by simpa using hz
    have hz2 : ¬ FloatKind.f64.format.order x 0 = some .eq := by simpa using hz
    clear hz
    go_enter Try.func53, Try.ntmps53
    go_wp2
    go_ret
    exact ⟨rfl, rfl⟩

theorem same_order {x : Nat} (hx : isNum x) : (FloatKind.f64.format.order x x == some .eq) = true := by
  rw [show FloatKind.f64.format.order x x = some (compare (fval x) (fval x)) from order_val hx hx, Int.compare_eq_eq.2 rfl]; rfl
set_option maxHeartbeats 800000 in
theorem l_same (x y : Nat) (w : World) (hx : isNum x) (hy : isNum y) :
    Calls Try.prog 30 #[.complex .f64 x y, .complex .f64 x y] w fun e w' => e = .returned (.bool true) ∧ w = w' := by
  have s1 := fun w => l_same64 x w hx
  have s2 := fun w => l_same64 y w hy
  clear hx hy
  go_enter Try.func30, Try.ntmps30
  go_wp2_with (go_at_call 53; (first | ((with_reducible refine (s1 _).mono ?_); rintro e w' ⟨rfl, rfl⟩) | ((with_reducible refine (s2 _).mono ?_); rintro e w' ⟨rfl, rfl⟩)))
  go_ret
  exact ⟨rfl, rfl⟩
set_option maxHeartbeats 800000 in
theorem l_sameAir (a b : Nat) (w : World) (h : okV a b) :
    Calls Try.prog 10 #[.complex .f32 a b, .complex .f32 a b] w fun e w' => e = .returned (.bool true) ∧ w = w' := by
  have ha := wid_num h.1.1 h.2.1.1
  have hb := wid_num h.1.2 h.2.2.1
  have hs : (Try.prog.underlying 25).isSome = true := by rw [Try.underlying25]; rfl
  have q := fun w => run_convert_complex (P := Try.prog) w 25 24 .f32 .f64 a b (wid a) (wid b) hs Try.underlying24 (by unfold cConvBits; rw [ha.1, hb.1]; rfl)
  have s1 := fun w => l_same (wid a) (wid b) w ha.2.1 hb.2.1
  clear ha hb hs h
  go_enter Try.func10, Try.ntmps10
  go_wp2_with (go_at_call 30; (with_reducible refine (s1 _).mono ?_); rintro e w' ⟨rfl, rfl⟩)
  go_ret
  exact ⟨rfl, rfl⟩
theorem okV_zero : okV 0 0 := ⟨by omega, ⟨S.isNum_of S.nought_num, by rw [S.nought_val]; exact Nat.zero_le _⟩, ⟨S.isNum_of S.nought_num, by rw [S.nought_val]; exact Nat.zero_le _⟩⟩
theorem flow_hour (Z : Stn) (k : Nat) (hk : k < 13) : FlowIs Z (((k : Int) - 6) * 3600) (Z.x k) (Z.y k) := by
  have hn : nOf (((k : Int) - 6) * 3600) = 3600 * k := by
    unfold nOf clampOf
    split
    · omega
    · split <;> omega
  unfold FlowIs FlowN
  left
  rw [hn, show ((3600 * (k : Int)) / 3600).toNat = k by omega]
  exact ⟨by omega, rfl, rfl⟩
theorem flow_late {Z : Stn} {o : Int} {u v : Nat} (h : FlowIs Z o u v) (ho : 21600 ≤ o) : u = Z.x 12 ∧ v = Z.y 12 := by
  have hn : nOf o = 43200 := by
    unfold nOf clampOf
    split
    · omega
    · split <;> omega
  unfold FlowIs FlowN at h
  rw [hn] at h
  rcases h with ⟨_, h1, h2⟩ | ⟨h1, _⟩
  · exact ⟨h1, h2⟩
  · omega
set_option maxRecDepth 100000 in
set_option maxHeartbeats 4000000 in
theorem w_FnStreamHours (a0 : Option Addr) (len cap : Nat) (zs : List Int) (w : World) (hr : IsRow .u8 w a0 len cap zs) :
    Calls Try.prog 3 #[.slice a0 len cap] w fun e w' => e = .returned (.bool true) ∧ Below w.heap.size w w' := by
  by_cases hbig : len ≤ 1048576
  case neg =>
    go_enter Try.func3, Try.ntmps3
    have hb2 : (1048576 : Int) < (len : Int) := by omega
    go_wp2_with (go_at_call 6; go_in)
    go_ret
    exact ⟨rfl, Below.refl _ _⟩
  case pos =>
  have hcode := code_of_row hr hbig
  go_enter Try.func3, Try.ntmps3
  go_wp2_with (go_at_call 6; go_in)
  refine (d_flowat w len cap a0 hcode).mono ?_
  rintro e w1 ⟨cs, o, hst, ⟨o0, o1⟩, rfl, b1⟩
  have hes := hst.1
  have hst1 := run_storeCells_new (P := Try.prog) w1 28 (zeroS 0 0) cs (by rw [hes]; exact Try.infoStS) (by rw [hes]; rfl) hst.one
  unfold zeroS at hst1
  have hb2 : (w1.alloc (.cells cs 28)).heap[w1.heap.size]? = some (.cells cs 28 (0, 0)) := heap_alloc_new w1 _
  have hbl2 : Below w.heap.size w (w1.alloc (.cells cs 28)) := b1.alloc b1.size _
  obtain ⟨Z, hZ⟩ := hst.is
  have HZ := Lib.hid hZ
  clear hst hZ
  go_upto_region 4 with fail
  generalize w1.alloc (.cells cs 28) = w2 at *
  generalize hq : w1.heap.size = q at *
  clear hst1 hes hq b1
  have HI : Hid ((Try.prog.info? 28).map (·.size) = some cs.size) := Lib.hid (by rw [HZ.out.1]; exact Try.infoStS)
  have HB2 := Lib.hid (And.intro hb2 hbl2)
  clear hb2 hbl2
  by_cases hok : FlOk Z.x Z.y
  · obtain ⟨u, v, hf, ul, vl⟩ := flow_ex hok o
    have HF := Lib.hid (And.intro hok hf)
    clear hok hf
    go_wp2_with (refine wpList_load_row rfl _ _ rfl q rfl _ cs (0, 0) _ HB2.out.1 Try.underlying28 rfl HI.out ?_)
    refine (i_FlowAt_yes cs Z o u v _ HZ.out HF.out.1 HF.out.2).mono ?_
    rintro e w3 ⟨rfl, b3⟩
    have HB3 := Lib.hid (And.intro ((b3.block q (block_lt HB2.out.1)).trans HB2.out.1) (HB2.out.2.trans (b3.mono HB2.out.2.size)))
    clear b3 HB2
    go_wp2_with (refine wpList_load_row rfl _ _ rfl q rfl _ cs (0, 0) _ HB3.out.1 Try.underlying28 rfl HI.out ?_)
    refine (s_FlowAt_yes cs Z o u v _ HZ.out HF.out.1 HF.out.2).mono ?_
    rintro e w4 ⟨rfl, b4⟩
    have HB4 := Lib.hid (And.intro ((b4.block q (block_lt HB3.out.1)).trans HB3.out.1) (HB3.out.2.trans (b4.mono HB3.out.2.size)))
    clear b4 HB3
    go_wp2_with fail
    go_loopw [9, 10, 11] (fun h _ _ wr => ∃ k : Nat, k ≤ 13 ∧ h = .int .i64 k ∧ wr.heap[q]? = some (.cells cs 28 (0, 0)) ∧ Below w.heap.size w wr) (fun h _ _ _ => 13 - (intOf h).toNat)
    case atStart => exact ⟨0, by omega, rfl, HB4.out⟩
    case round =>
      clear HB4
      obtain ⟨k, hk, rfl, hb5, hbl5⟩ := hrel
      have HB5 := Lib.hid (And.intro hb5 hbl5)
      clear hb5 hbl5
      by_cases hlt : k < 13
      · have k1 : (k : Int) < 13 := by omega
        go_wp2_with (refine wpList_load_row rfl _ _ rfl q rfl _ cs (0, 0) _ HB5.out.1 Try.underlying28 rfl HI.out ?_)
        refine (i_FlowAt_yes cs Z (((k : Int) - 6) * 3600) (Z.x k) (Z.y k) _ HZ.out HF.out.1 (flow_hour Z k hlt)).mono ?_
        rintro e w6 ⟨rfl, b6⟩
        have hb6 := (b6.block q (block_lt HB5.out.1)).trans HB5.out.1
        have ck : w6.cell? ⟨q, 1 + k, none⟩ = some (.complex .f32 (Z.x k) (Z.y k)) := (cell_of_row w6 _ (1 + k) _ _ _ hb6).trans (HZ.out.2.2.2 k hlt).2
        have hsame := fun w => l_sameAir (Z.x k) (Z.y k) w (HF.out.1 k hlt)
        have HB6 := Lib.hid (And.intro hb6 (HB5.out.2.trans (b6.mono HB5.out.2.size)))
        clear b6 HB5 hb6
        generalize Z.x k = a at *
        generalize Z.y k = b at *
        have k0 : (0 : Int) ≤ (k : Int) := by omega
        go_wp2_with (go_at_call 10; (with_reducible refine (hsame _).mono ?_); rintro e w' ⟨rfl, rfl⟩)
        go_roundw
        case rel => exact ⟨k + 1, by omega, by go_num, HB6.out⟩
        case measure => simp [intOf]; omega
      · obtain rfl : k = 13 := by omega
        go_wp2_with (refine wpList_load_row rfl _ _ rfl q rfl _ cs (0, 0) _ HB5.out.1 Try.underlying28 rfl HI.out ?_)
        refine (i_FlowAt_yes cs Z o u v _ HZ.out HF.out.1 HF.out.2).mono ?_
        rintro e w6 ⟨rfl, b6⟩
        have HB6 := Lib.hid (And.intro ((b6.block q (block_lt HB5.out.1)).trans HB5.out.1) (HB5.out.2.trans (b6.mono HB5.out.2.size)))
        clear b6 HB5
        go_wp2_with (refine wpList_load_row rfl _ _ rfl q rfl _ cs (0, 0) _ HB6.out.1 Try.underlying28 rfl HI.out ?_)
        refine (i_FlowAt_yes cs Z 21600 (Z.x 12) (Z.y 12) _ HZ.out HF.out.1 (flow_hour Z 12 (by omega))).mono ?_
        rintro e w7 ⟨rfl, b7⟩
        have HB7 := Lib.hid (HB6.out.2.trans (b7.mono HB6.out.2.size))
        clear b7 HB6
        have hsame := fun w => l_sameAir (Z.x 12) (Z.y 12) w (HF.out.1 12 (by omega))
        by_cases ho : o < 21600
        · go_wp2_with fail
          go_ret
          exact ⟨rfl, HB7.out⟩
        · obtain ⟨hu, hv⟩ := flow_late HF.out.2 (by omega)
          have ho2 : 21600 ≤ o := by omega
          subst hu hv
          clear HF
          generalize Z.x 12 = a at *
          generalize Z.y 12 = b at *
          go_wp2_with (go_at_call 10; (with_reducible refine (hsame _).mono ?_); rintro e w' ⟨rfl, rfl⟩)
          go_ret
          exact ⟨rfl, HB7.out⟩
  · have HF := Lib.hid hok
    clear hok
    have hsame := fun w => l_sameAir 0 0 w okV_zero
    go_wp2_with (refine wpList_load_row rfl _ _ rfl q rfl _ cs (0, 0) _ HB2.out.1 Try.underlying28 rfl HI.out ?_)
    refine (i_FlowAt_no cs Z o _ HZ.out HF.out).mono ?_
    rintro e w3 ⟨rfl, b3⟩
    have HB3 := Lib.hid (And.intro ((b3.block q (block_lt HB2.out.1)).trans HB2.out.1) (HB2.out.2.trans (b3.mono HB2.out.2.size)))
    clear b3 HB2
    go_wp2_with (refine wpList_load_row rfl _ _ rfl q rfl _ cs (0, 0) _ HB3.out.1 Try.underlying28 rfl HI.out ?_)
    refine (s_FlowAt_no cs Z o _ HZ.out HF.out).mono ?_
    rintro e w4 ⟨rfl, b4⟩
    have HB4 := Lib.hid (And.intro ((b4.block q (block_lt HB3.out.1)).trans HB3.out.1) (HB3.out.2.trans (b4.mono HB3.out.2.size)))
    clear b4 HB3
    go_wp2_with fail
    go_loopw [9, 10, 11] (fun h _ _ wr => ∃ k : Nat, k ≤ 13 ∧ h = .int .i64 k ∧ wr.heap[q]? = some (.cells cs 28 (0, 0)) ∧ Below w.heap.size w wr) (fun h _ _ _ => 13 - (intOf h).toNat)
    case atStart => exact ⟨0, by omega, rfl, HB4.out⟩
    case round =>
      clear HB4
      obtain ⟨k, hk, rfl, hb5, hbl5⟩ := hrel
      have HB5 := Lib.hid (And.intro hb5 hbl5)
      clear hb5 hbl5
      by_cases hlt : k < 13
      · have k1 : (k : Int) < 13 := by omega
        go_wp2_with (refine wpList_load_row rfl _ _ rfl q rfl _ cs (0, 0) _ HB5.out.1 Try.underlying28 rfl HI.out ?_)
        refine (i_FlowAt_no cs Z (((k : Int) - 6) * 3600) _ HZ.out HF.out).mono ?_
        rintro e w6 ⟨rfl, b6⟩
        have HB6 := Lib.hid (And.intro ((b6.block q (block_lt HB5.out.1)).trans HB5.out.1) (HB5.out.2.trans (b6.mono HB5.out.2.size)))
        clear b6 HB5
        go_wp2_with fail
        go_roundw
        case rel => exact ⟨k + 1, by omega, by go_num, HB6.out⟩
        case measure => simp [intOf]; omega
      · obtain rfl : k = 13 := by omega
        go_wp2_with (refine wpList_load_row rfl _ _ rfl q rfl _ cs (0, 0) _ HB5.out.1 Try.underlying28 rfl HI.out ?_)
        refine (i_FlowAt_no cs Z o _ HZ.out HF.out).mono ?_
        rintro e w6 ⟨rfl, b6⟩
        have HB6 := Lib.hid (And.intro ((b6.block q (block_lt HB5.out.1)).trans HB5.out.1) (HB5.out.2.trans (b6.mono HB5.out.2.size)))
        clear b6 HB5
        go_wp2_with (refine wpList_load_row rfl _ _ rfl q rfl _ cs (0, 0) _ HB6.out.1 Try.underlying28 rfl HI.out ?_)
        refine (i_FlowAt_no cs Z 21600 _ HZ.out HF.out).mono ?_
        rintro e w7 ⟨rfl, b7⟩
        have HB7 := Lib.hid (HB6.out.2.trans (b7.mono HB6.out.2.size))
        clear b7 HB6
        by_cases ho : o < 21600
        · go_wp2_with fail
          go_ret
          exact ⟨rfl, HB7.out⟩
        · have ho2 : 21600 ≤ o := by omega
          go_wp2_with (go_at_call 10; (with_reducible refine (hsame _).mono ?_); rintro e w' ⟨rfl, rfl⟩)
          go_ret
          exact ⟨rfl, HB7.out⟩
end Go.Proofs.Ytbklmfchbojboaa

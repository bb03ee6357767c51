/- l04Mix, l04Row, SpeedAt, MadeUp (spec). -/
import Derived.Test.YtonoknbangnleaaGreatPsM
namespace Go.Proofs.YtonoknbangnleaaGreat
open Go.RowKit Ieee
set_option linter.unusedSimpArgs false
set_option linter.unusedVariables false

set_option maxHeartbeats 400000 in
theorem s_mix (l x k r : Nat) (w : World) (h : DampIs l x k r) :
    Calls Tryz.prog 106 #[.float .f32 l, .float .f32 x, .float .f32 k] w fun e w' => e = .returned (.float .f32 r) ∧ w = w' := by
  obtain ⟨d, p, h1, h2, h3⟩ := h
  have q1 := fun w => run_float_arith (P := Tryz.prog) w .sub 35 .f32 _ _ _ h1
  have q2 := fun w => run_float_arith (P := Tryz.prog) w .mul 35 .f32 _ _ _ h2
  have q3 := fun w => run_float_arith (P := Tryz.prog) w .add 35 .f32 _ _ _ h3
  clear h1 h2 h3
  go_enter Tryz.func106, Tryz.ntmps106
  go_wp2
  go_ret
  exact ⟨rfl, rfl⟩
set_option maxRecDepth 100000 in
set_option maxHeartbeats 1000000 in
theorem s_row (P : Pol) (i : Nat) (a : Int) (w : World) (h : PolIn w P) (hP : PolOk P) (hi : i < P.ns) (h0 : 0 ≤ a) (h1 : a ≤ 180) :
    Calls Tryz.prog 105 #[.slice P.A P.na P.ca, .slice (P.R i) (P.rn i) (P.rc i), .int .i64 a] w fun e w' => e = .returned (.float .f32 (rowS P i a)) ∧ ∃ m, w' = w.drewN m := by
  obtain ⟨gS, oS, gR, oR, eS, eR, _, cR⟩ := row_at h hP hi
  obtain ⟨gA, oA, eA, cA⟩ := ang_at h hP
  have hrn := (hP.2.2.2 i hi).1
  have hrow := fun j r (hj : LastIs P.na P.av a j) hr => rowS_is hP (i := i) (a := a) (r := r) ⟨j, hj, hr⟩
  have hsp := (hP.2.2.2 i hi).2
  obtain ⟨⟨n0, n1⟩, a0, a1, hasc⟩ := id hP.2.1
  have hang := hP.2.1
  rw [eA, eR, hrn]
  suffices hs : ∀ r : Nat, Hid (r = rowS P i a) → Calls Tryz.prog 105 #[.slice (some ⟨gA, oA, none⟩) P.na P.ca, .slice (some ⟨gR, oR, none⟩) P.na (P.rc i), .int .i64 a] w fun e w' => e = .returned (.float .f32 r) ∧ ∃ m, w' = w.drewN m from hs _ (Lib.hid rfl)
  intro r HRR
  have HA := Lib.hid (And.intro a0 (And.intro a1 hasc))
  have HC := Lib.hid (And.intro cA cR)
  have HRW := Lib.hid hrow
  have HSP := Lib.hid hsp
  have HG := Lib.hid hang
  clear eS eR cR eA cA hrn hrow hsp a0 a1 hasc hang hP h hi
  generalize P.rc i = rci at *
  go_enter Tryz.func105, Tryz.ntmps105
  go_wp2
  go_loop [7] (fun q => ∃ k : Nat, k < P.na ∧ q = .int .i64 k ∧ ∀ j, j < k → P.av j < a) (fun q => P.na - (intOf q).toNat)
  case atStart => exact ⟨0, by omega, rfl, fun j h => by omega⟩
  case round =>
    obtain ⟨k, hk, rfl, hall⟩ := hrel
    have HB := Lib.hid hall
    clear hall
    have ck : w.cell? ⟨gA, oA + k, none⟩ = some (.int .i64 (P.av k)) := HC.out.1 k hk
    have hk1 : (k : Int) < (P.na : Int) := by omega
    by_cases hlt : P.av k < a
    · have HN := Lib.hid (show ∀ j, j < k + 1 → P.av j < a from fun j hj => by
        rcases Nat.lt_or_ge j k with h | h
        · exact HB.out j h
        · rw [show j = k by omega]; exact hlt)
      have hk2 : k + 1 < P.na := by
        rcases Nat.lt_or_ge (k + 1) P.na with h | h
        · exact h
        · have := HA.out.2.1
          rw [show P.na - 1 = k by omega] at this
          omega
      generalize P.av k = y at *
      go_wp2
      go_round
      case rel => exact ⟨k + 1, hk2, by go_num, HN.out⟩
      case measure => simp [intOf]; omega
    · by_cases heq : P.av k = a
      · have hl : LastIs P.na P.av a k := ⟨hk, by omega, fun h => by have := HA.out.2.2 k h; omega⟩
        have hr := HRW.out k _ hl (.inl ⟨heq, rfl⟩)
        have cr := HC.out.2 k hk
        rw [← HRR.out] at hr
        rw [← hr] at cr
        rw [heq] at ck
        clear hl hr heq hlt
        go_wp2
        go_ret
        exact ⟨rfl, 0, rfl⟩
      · have hk0 : k ≠ 0 := fun e => by have := HA.out.1; rw [e] at hlt heq; omega
        obtain ⟨j, rfl⟩ : ∃ j, k = j + 1 := ⟨k - 1, by omega⟩
        have hl : LastIs P.na P.av a j := ⟨by omega, Int.le_of_lt (HB.out j (by omega)), fun _ => by omega⟩
        obtain ⟨_, y0, z1, haz, q, hq, ql, hqok⟩ := angle_share HG.out h1 hl (HB.out j (by omega))
        obtain ⟨r', hd, _, _⟩ := mix_ex (M := 50) (by omega) (okS_bd (HSP.out j (by omega))) (okS_bd (HSP.out (j + 1) hk)) hqok
        have hr := HRW.out j r' hl (.inr ⟨HB.out j (by omega), q, hq, hqok, hd⟩)
        rw [← HRR.out] at hr
        rw [← hr] at hd
        have hya := HB.out j (by omega)
        have cy := HC.out.1 j (by omega)
        have cs := HC.out.2 j (by omega)
        have ct := HC.out.2 (j + 1) hk
        have hqr := fun w => run_float_arith (P := Tryz.prog) w .quo 35 .f32 _ _ _ hq
        have hdm := fun w => s_mix _ _ _ _ w hd
        have hne : (P.av (j + 1) == a) = false := by simpa using heq
        have wi : IntKind.i64.wrap (j : Int) = (j : Int) := IntWalk.i64_in _ (by omega)
        have i1 : (0 : Int) ≤ (j : Int) := by omega
        have i2 : (j : Int) < (P.na : Int) := by omega
        have i3 : (0 : Int) ≤ (j : Int) + 1 := by omega
        have i4 : (j : Int) + 1 < (P.na : Int) := by omega
        have hdy : -9223372036854775808 ≤ a - P.av j ∧ a - P.av j ≤ 9223372036854775807 := by omega
        have wy : IntKind.i64.wrap (a - P.av j) = a - P.av j := IntWalk.i64_in _ (by omega)
        have wz : IntKind.i64.wrap (P.av (j + 1) - P.av j) = P.av (j + 1) - P.av j := IntWalk.i64_in _ (by omega)
        have hlt' : ¬ P.av (j + 1) < a := by omega
        clear hl hq hqok hd hr heq hk0 hdy
        generalize P.av j = y at *
        generalize P.av (j + 1) = z at *
        generalize P.sp i j = s at *
        generalize P.sp i (j + 1) = t at *
        go_wp2
        go_quiet (fail)
        go_wp2
        go_quiet ((go_at_call 106; exact quiet_plus (hdm _)))
        go_wp2
        go_ret
        exact ⟨rfl, _, World.drewN_drewN _ _ _⟩
theorem quiet_more {P : Program} {f : FuncId} {args : Array Value} {w : World} {m n : Nat} {v : Value}
    (h : Calls P f args (w.drewN (m + n)) fun e w' => e = .returned v ∧ ∃ k, w' = (w.drewN (m + n)).drewN k) : Calls P f args (w.drewN (m + n)) fun e w'' => e = .returned v ∧ ∃ k, w'' = w.drewN (m + k) :=
  h.mono fun _ _ ⟨he, k, hm⟩ => ⟨he, n + k, by rw [hm, World.drewN_drewN, Nat.add_assoc]⟩
set_option maxRecDepth 100000 in
set_option maxHeartbeats 4000000 in
theorem s_SpeedAt (P : Pol) (x : Nat) (a : Int) (w : World) (h : PolIn w P) (hx : x < 4294967296) :
    Calls Tryz.prog 96 #[.agg #[.slice P.W P.nw P.cw, .slice P.A P.na P.ca, .slice P.S P.ns P.cs], .float .f32 x, .int .i64 a] w fun e w' => Told (AskOk P x a) (spd P x a) w e w' := by
  suffices hs : ∀ (V : Prop) (r : Nat), Hid (V ↔ AskOk P x a) → Hid (r = spd P x a) → Calls Tryz.prog 96 #[.agg #[.slice P.W P.nw P.cw, .slice P.A P.na P.ca, .slice P.S P.ns P.cs], .float .f32 x, .int .i64 a] w fun e w' => Told V r w e w' from hs _ _ (Lib.hid Iff.rfl) (Lib.hid rfl)
  intro V r HV HRR
  have HI := Lib.hid h
  clear h
  go_enter Tryz.func96, Tryz.ntmps96
  go_wp2_with fail
  with_reducible refine (s_polarOk P _ (HI.out.keeps (keeps_alloc _ _))).mono ?_
  rintro e w1 ⟨t, ht, rfl, b1⟩
  have hB := (BoxIn.new w P).step b1
  have c0 := hB.c0
  have c1 := hB.c1
  have c2 := hB.c2
  have HB := Lib.hid hB
  clear hB b1
  cases t
  · have HN := Lib.hid (show ¬ V from fun h => says_no ht (HV.out.1 h).1)
    clear ht
    go_wp2
    go_ret2
    exact Told.no HN.out rfl HB.out.2
  have HP := Lib.hid (says_yes ht)
  clear ht
  obtain ⟨t, u, htu, _, f1, f2⟩ := air_flag x hx
  have HTU := Lib.hid htu
  clear htu
  cases t
  · have HN := Lib.hid (show ¬ V from fun h => by have := HTU.out.2 (HV.out.1 h).2.1; cases this)
    go_wp2
    go_ret2
    exact Told.no HN.out rfl HB.out.2
  cases u
  · have HN := Lib.hid (show ¬ V from fun h => by have := HTU.out.2 (HV.out.1 h).2.1; cases this)
    go_wp2
    go_ret2
    exact Told.no HN.out rfl HB.out.2
  have HX := Lib.hid (HTU.out.1 rfl)
  by_cases hr : 0 ≤ a ∧ a ≤ 180
  case neg =>
    have HN := Lib.hid (show ¬ V from fun h => hr (HV.out.1 h).2.2)
    have hin := fun w => s_inP a 0 180 w
    rw [decide_eq_false hr] at hin
    clear hr
    go_wp2_with (go_at_call 104; ((with_reducible refine (hin _).mono ?_); rintro e w' ⟨rfl, rfl⟩))
    go_ret2
    exact Told.no HN.out rfl HB.out.2
  case pos =>
  obtain ⟨h0, h1⟩ := id hr
  have HY := Lib.hid (show V from HV.out.2 ⟨HP.out, HX.out, h0, h1⟩)
  have hin := fun w => s_inP a 0 180 w
  rw [decide_eq_true hr] at hin
  have hs := (spd_ok HP.out HX.out h0 h1).1
  rw [← HRR.out] at hs
  have hnw := HP.out.1.1
  have HNS := Lib.hid HP.out.2.2.1
  have HO := Lib.hid HP.out.1.2.1
  have HASC := Lib.hid HP.out.1.2.2
  have hrow : ∀ w' i, Keeps w w' → i < P.ns → Calls Tryz.prog 105 #[.slice P.A P.na P.ca, .slice (P.R i) (P.rn i) (P.rc i), .int .i64 a] w' fun e w'' => e = .returned (.float .f32 (rowS P i a)) ∧ ∃ m, w'' = w'.drewN m :=
    fun w' i hk hi => s_row P i a w' (HI.out.keeps hk) HP.out hi h0 h1
  obtain ⟨gW, oW, eW, cW⟩ := wnd_at (HI.out.keeps HB.out.keeps) HP.out
  obtain ⟨gS, oS, eS, cS⟩ := (HI.out.keeps HB.out.keeps).2.2.1.1 (by rw [HNS.out]; omega)
  have HR := Lib.hid hrow
  have HC := Lib.hid (And.intro cW cS)
  rw [eW] at c0
  rw [eS] at c2
  clear hrow cW cS eW eS hr
  have hn0 := (HO.out 0 (by omega)).1.2.1
  have hxn := HX.out.2.1
  have hnw1 : (0 : Int) < (P.nw : Int) := by omega
  have hns1 : (0 : Int) < (P.ns : Int) := by rw [HNS.out]; omega
  have hnsl : (P.ns : Int) = (P.nw : Int) ↔ True := by rw [HNS.out]; simp
  have c00 : w1.cell? ⟨gW, oW, none⟩ = some (.float .f32 (P.ws 0)) := HC.out.1 0 (by omega)
  clear hnsl
  rcases hs with ⟨hle, q, s, hq, hrs, hm⟩ | ⟨hlt, i, hi, hcase⟩
  · have e1 := ord_le hxn hn0
    rw [decide_eq_true hle] at e1
    have hqr := fun w => run_float_arith (P := Tryz.prog) w .quo 35 .f32 _ _ _ hq
    have hmr := fun w => run_float_arith (P := Tryz.prog) w .mul 35 .f32 _ _ _ hm
    have hs0 := rowS_is HP.out hrs
    have cs0 : w1.cell? ⟨gS, oS, none⟩ = some (.slice (P.R 0) (P.rn 0) (P.rc 0)) := HC.out.2 0 (by rw [HNS.out]; omega)
    have hR := fun n => HR.out (w1.drewN n) 0 (HB.out.keeps.trans (keeps_drewN _ n)) (by rw [HNS.out]; omega)
    rw [hs0] at hR
    clear hq hm hrs hle hn0 hxn
    generalize P.ws 0 = f at *
    go_wp2_with (go_at_call 104; ((with_reducible refine (hin _).mono ?_); rintro e w' ⟨rfl, rfl⟩))
    go_quiet ((go_at_call 105; exact Calls.quiet_of (hR _)))
    have HD := Lib.hid (HB.out.drawn (Drawn.one w1 nq))
    go_wp2
    go_ret2
    exact Told.yes HY.out rfl HD.out.2
  · have e1 := ord_le hxn hn0
    rw [decide_eq_false (by omega)] at e1
    obtain ⟨p, hp⟩ : ∃ p, P.nw = p + 1 := ⟨P.nw - 1, by omega⟩
    have hp1 : (P.nw : Int) = (p : Int) + 1 := by omega
    have clast : w1.cell? ⟨gW, oW + p, none⟩ = some (.float .f32 (P.ws p)) := HC.out.1 p (by omega)
    have hnl := (HO.out p (by omega)).1.2.1
    have e2 := ord_ge hxn hnl
    have wi : IntKind.i64.wrap (p : Int) = (p : Int) := IntWalk.i64_in _ (by omega)
    have i1 : (0 : Int) ≤ (p : Int) := by omega
    have i2 : (p : Int) < (p : Int) + 1 := by omega
    have HPP := Lib.hid hp
    have hns2 : (P.ns : Int) = (p : Int) + 1 := by rw [HNS.out]; omega
    have hin1 := hi.1
    rcases hcase with ⟨hl, hrs⟩ | ⟨hl, d, e, q, s, t, hd, he, hq, hqok, hrs, hrt, hdm⟩
    · obtain rfl : i = p := by omega
      rw [decide_eq_true hi.2.1] at e2
      have hs0 := rowS_is HP.out hrs
      have csl : w1.cell? ⟨gS, oS + i, none⟩ = some (.slice (P.R i) (P.rn i) (P.rc i)) := HC.out.2 i (by rw [HNS.out]; omega)
      have hR := fun n => HR.out (w1.drewN n) i (HB.out.keeps.trans (keeps_drewN _ n)) (by rw [HNS.out]; omega)
      rw [hs0] at hR
      clear hrs hn0 hxn hnl hi hlt hp hl
      generalize P.ws 0 = f at *
      generalize P.ws i = v at *
      go_wp2_with (go_at_call 104; ((with_reducible refine (hin _).mono ?_); rintro e w' ⟨rfl, rfl⟩))
      go_quiet ((go_at_call 105; exact Calls.quiet_of (hR _)))
      have HD := Lib.hid (HB.out.drawn (Drawn.one w1 nq))
      go_wp2
      go_ret2
      exact Told.yes HY.out rfl HD.out.2
    · have hlast : ¬ S.fval (P.ws p) ≤ S.fval x := fun hh => by
        have h9 : S.fval x < S.fval (P.ws (i + 1)) := hi.2.2 hl
        have h10 : S.fval (P.ws (i + 1)) ≤ S.fval (P.ws p) := asc_le (f := fun i => S.fval (P.ws i)) HASC.out (show i + 1 ≤ p by omega) (by omega)
        omega
      rw [decide_eq_false hlast] at e2
      have hs0 := rowS_is HP.out hrs
      have ht0 := rowS_is HP.out hrt
      have hdr := fun w => run_float_arith (P := Tryz.prog) w .sub 35 .f32 _ _ _ hd
      have her := fun w => run_float_arith (P := Tryz.prog) w .sub 35 .f32 _ _ _ he
      have hqr := fun w => run_float_arith (P := Tryz.prog) w .quo 35 .f32 _ _ _ hq
      have hmx := fun w => s_mix _ _ _ _ w hdm
      have HLI := Lib.hid hi
      have HLL := Lib.hid hl
      have HXN := Lib.hid hxn
      have cu := HC.out.1 i hin1
      have cv' := HC.out.1 (i + 1) hl
      have csi : w1.cell? ⟨gS, oS + i, none⟩ = some (.slice (P.R i) (P.rn i) (P.rc i)) := HC.out.2 i (by rw [HNS.out]; omega)
      have csj : w1.cell? ⟨gS, oS + (i + 1), none⟩ = some (.slice (P.R (i + 1)) (P.rn (i + 1)) (P.rc (i + 1))) := HC.out.2 (i + 1) (by rw [HNS.out]; omega)
      have hRi := fun n => HR.out (w1.drewN n) i (HB.out.keeps.trans (keeps_drewN _ n)) (by rw [HNS.out]; omega)
      have hRj := fun n => HR.out (w1.drewN n) (i + 1) (HB.out.keeps.trans (keeps_drewN _ n)) (by rw [HNS.out]; omega)
      rw [hs0] at hRi
      rw [ht0] at hRj
      have HLS := Lib.hid (And.intro hdr (And.intro her (And.intro cu (And.intro cv' (And.intro csi csj)))))
      clear hrs hrt hn0 hxn hnl hi hlt hp hl hd he hq hdm hqok hlast hdr her cu cv' csi csj hs0 ht0
      have hi9 : i + 1 ≤ 12 := by omega
      generalize P.ws 0 = f at *
      generalize P.ws p = v at *
      go_wp2_with (go_at_call 104; ((with_reducible refine (hin _).mono ?_); rintro e w' ⟨rfl, rfl⟩))
      clear clast c00 e1 e2
      go_loop [10] (fun q => ∃ k : Nat, k ≤ i ∧ q = .int .i64 k) (fun q => i + 1 - (intOf q).toNat)
      case atStart => exact ⟨0, Nat.zero_le _, rfl⟩
      case round =>
        obtain ⟨k, hk, rfl⟩ := hrel
        have hkn : k + 1 < P.nw := by have := HLL.out; omega
        have hkn1 : (k : Int) + 1 < (P.nw : Int) := by omega
        have ck := HC.out.1 (k + 1) hkn
        have e1 := ord_le (HO.out (k + 1) hkn).1.2.1 HXN.out
        have k3 : (0 : Int) ≤ (k : Int) + 1 := by omega
        by_cases hlt : k < i
        · have hle : S.fval (P.ws (k + 1)) ≤ S.fval x := Int.le_trans (asc_le (f := fun i => S.fval (P.ws i)) HASC.out (show k + 1 ≤ i by omega) HLI.out.1) HLI.out.2.1
          rw [decide_eq_true hle] at e1
          clear hle
          generalize P.ws (k + 1) = y at *
          go_wp2
          go_round
          case rel => exact ⟨k + 1, by omega, by go_num⟩
          case measure => simp [intOf]; omega
        · obtain rfl : k = i := by omega
          have hle : ¬ S.fval (P.ws (k + 1)) ≤ S.fval x := by have h9 : S.fval x < S.fval (P.ws (k + 1)) := HLI.out.2.2 HLL.out; omega
          rw [decide_eq_false hle] at e1
          obtain ⟨hdr, her, cu, cv', csi, csj⟩ := HLS.out
          have wk : IntKind.i64.wrap ((k : Int) + 1) = (k : Int) + 1 := IntWalk.i64_in _ (by omega)
          have k1 : (0 : Int) ≤ (k : Int) := by omega
          have k5 : ((k : Int) + 1).toNat = k + 1 := by omega
          have k6 : (k : Int) < (P.nw : Int) := by omega
          have k7 : (k : Int) < (P.ns : Int) := by rw [HNS.out]; omega
          have k8 : (k : Int) + 1 < (P.ns : Int) := by rw [HNS.out]; omega
          have k9 : (k : Int) < (p : Int) + 1 := by omega
          have k10 : (k : Int) + 1 < (p : Int) + 1 := by omega
          have HMX := Lib.hid hmx
          have HRI := Lib.hid hRi
          have HRJ := Lib.hid hRj
          clear hle HLS hmx hRi hRj
          generalize P.ws (k + 1) = y at *
          generalize P.ws k = u at *
          go_wp2
          go_quiet (fail)
          go_wp2
          go_quiet ((first
            | (go_at_call 106; with_reducible exact quiet_plus (HMX.out _))
            | (go_at_call 105; with_reducible exact quiet_more (HRI.out _))
            | (go_at_call 105; with_reducible exact quiet_more (HRJ.out _))))
          go_wp2
          go_ret2
          exact Told.yes HY.out rfl (by first | exact below_drewN (below_drewN HB.out.2 _) _ | exact below_drewN HB.out.2 _)
set_option maxRecDepth 100000 in
set_option maxHeartbeats 1000000 in
theorem s_MadeUp (P : Pol) (x : Nat) (a : Int) (w : World) (h : PolIn w P) (hx : x < 4294967296) :
    Calls Tryz.prog 77 #[.agg #[.slice P.W P.nw P.cw, .slice P.A P.na P.ca, .slice P.S P.ns P.cs], .float .f32 x, .int .i64 a] w fun e w' => Told (AskOk P x a) (madeW P x a.toNat) w e w' := by
  suffices hs : ∀ (V : Prop) (r : Nat), Hid (V ↔ AskOk P x a) → Hid (r = madeW P x a.toNat) → Calls Tryz.prog 77 #[.agg #[.slice P.W P.nw P.cw, .slice P.A P.na P.ca, .slice P.S P.ns P.cs], .float .f32 x, .int .i64 a] w fun e w' => Told V r w e w' from hs _ _ (Lib.hid Iff.rfl) (Lib.hid rfl)
  intro V r HV HRR
  have HI := Lib.hid h
  clear h
  go_enter Tryz.func77, Tryz.ntmps77
  go_wp2_with fail
  with_reducible refine (s_SpeedAt P x a _ (HI.out.keeps (keeps_alloc _ _)) hx).mono ?_
  rintro e w1 ⟨b1, ⟨hv, rfl⟩ | ⟨hv, rfl⟩⟩
  · have hB := (BoxIn.new w P).step b1
    have HB := Lib.hid hB
    obtain ⟨hP, hA, h0, h1⟩ := id hv
    obtain ⟨k, rfl⟩ : ∃ k : Nat, a = k := ⟨a.toNat, by omega⟩
    have hm := made_ok hP hA (a := k) (by omega)
    have hr : r = madeW P x k := HRR.out
    rw [← hr] at hm
    have hmr := fun w => run_float_arith (P := Tryz.prog) w .mul 35 .f32 _ _ _ hm.1
    have HY := Lib.hid (HV.out.2 hv)
    have hk : (((k : Int)) % 360).toNat = k := by omega
    have ht := s_turn (k : Int) w1
    rw [hk] at ht
    unfold tv at ht
    have hsr : (Tryz.prog.underlying 42).isSome = true := by rw [Tryz.underlying42]; rfl
    have hc := fun w => run_convert_float_float (P := Tryz.prog) w 42 35 .f64 .f32 _ _ hsr Tryz.underlying35 (cos_ok k (by omega)).1
    clear hm hr hv hP hA hB b1 HRR HV hk hsr
    generalize spd P x k = s at *
    generalize cosW k = c at *
    generalize trn k = tt at *
    go_wp2_with fail
    with_reducible refine ht.mono ?_
    rintro e w2 ⟨rfl, rfl⟩
    clear ht
    go_wp2
    go_ret2
    exact Told.yes HY.out rfl HB.out.2
  · have HN := Lib.hid (show ¬ V from fun h => hv (HV.out.1 h))
    have HB := Lib.hid ((BoxIn.new w P).step b1)
    clear hv b1
    go_wp2
    go_ret2
    exact Told.no HN.out rfl HB.out.2
end Go.Proofs.YtonoknbangnleaaGreat

/- spec.PolarOk. Made by gen_PsM.py. -/
import Derived.Test.YtonoknbangnleaaGreatPoC
namespace Go.Proofs.YtonoknbangnleaaGreat
open Go.RowKit Ieee
set_option linter.unusedSimpArgs false
set_option linter.unusedVariables false

set_option maxHeartbeats 400000 in
theorem s_inP (n a b : Int) (w : World) : Calls Tryz.prog 104 #[.int .i64 n, .int .i64 a, .int .i64 b] w fun e w' => e = .returned (.bool (decide (a ≤ n ∧ n ≤ b))) ∧ w = w' := by
  suffices h : ∀ t : Bool, Hid (t = decide (a ≤ n ∧ n ≤ b)) → Calls Tryz.prog 104 #[.int .i64 n, .int .i64 a, .int .i64 b] w fun e w' => e = .returned (.bool t) ∧ w = w' from h _ (Lib.hid rfl)
  intro t HT
  by_cases h1 : a ≤ n
  · by_cases h2 : n ≤ b
    · have h := HT.out
      rw [decide_eq_true ⟨h1, h2⟩] at h
      subst h
      go_enter Tryz.func104, Tryz.ntmps104
      go_wp2
      go_ret
      exact ⟨rfl, rfl⟩
    · have h := HT.out
      rw [decide_eq_false (fun h => h2 h.2)] at h
      subst h
      go_enter Tryz.func104, Tryz.ntmps104
      go_wp2
      go_ret
      exact ⟨rfl, rfl⟩
  · have h := HT.out
    rw [decide_eq_false (fun h => h1 h.1)] at h
    subst h
    go_enter Tryz.func104, Tryz.ntmps104
    go_wp2
    go_ret
    exact ⟨rfl, rfl⟩
/-- A wind's speed that is more than nothing. -/
def okW (x : Nat) : Prop := okA x ∧ 0 < S.fval x
theorem wind_flag (x : Nat) (hx : x < 4294967296) : ∃ t u : Bool, ((t && u) = true ↔ okW x) ∧ (FloatKind.f32.format.order x 0 == some .gt) = t ∧
    (FloatKind.f32.format.order x 1120403456 == some .lt || FloatKind.f32.format.order x 1120403456 == some .eq) = u := by
  obtain ⟨t, u, h, h1, h2, h3⟩ := air_flag x hx
  refine ⟨_, u, ?_, rfl, h3⟩
  cases hg : (FloatKind.f32.format.order x 0 == some .gt)
  · simp only [Bool.false_and, Bool.false_eq_true, false_iff]
    intro hw
    rw [ord_gt hw.1.2.1 (S.isNum_of S.nought_num), S.nought_val, decide_eq_true hw.2] at hg
    cases hg
  · rw [hg, Bool.true_or] at h2
    subst h2
    rw [h]
    refine ⟨fun ha => ⟨ha, ?_⟩, fun hw => hw.1⟩
    rw [ord_gt ha.2.1 (S.isNum_of S.nought_num), S.nought_val] at hg
    exact of_decide_eq_true hg
/-- What has been looked at of a polar, up to its row i. -/
def Upto (P : Pol) (i : Nat) : Prop := (∀ j, j < i → okW (P.ws j) ∧ P.rn j = P.na ∧ RowOk P.na (P.sp j)) ∧ ∀ j, j + 1 < i → S.fval (P.ws j) < S.fval (P.ws (j + 1))
theorem upto_next {P : Pol} {i : Nat} (h : Upto P i) (h1 : okW (P.ws i)) (h2 : P.rn i = P.na) (h3 : RowOk P.na (P.sp i)) (h4 : ∀ j, i = j + 1 → S.fval (P.ws j) < S.fval (P.ws (j + 1))) : Upto P (i + 1) := by
  refine ⟨fun j hj => ?_, fun j hj => ?_⟩
  · rcases Nat.lt_or_ge j i with h' | h'
    · exact h.1 j h'
    · rw [show j = i by omega]; exact ⟨h1, h2, h3⟩
  · rcases Nat.lt_or_ge (j + 1) i with h' | h'
    · exact h.2 j h'
    · exact h4 j (by omega)
theorem upto_all {P : Pol} (hr : 1 ≤ P.nw ∧ P.nw ≤ 12) (ha : AnglesOk P.na P.av) (hn : P.ns = P.nw) (h : Upto P P.nw) : PolOk P :=
  ⟨⟨hr, fun i hi => (h.1 i hi).1, fun i hi => h.2 i hi⟩, ha, hn, fun i hi => (h.1 i (by omega)).2⟩
theorem not_next {P : Pol} (h : PolOk P) {i : Nat} (hi : i < P.nw) : okW (P.ws i) ∧ P.rn i = P.na ∧ RowOk P.na (P.sp i) ∧ ∀ j, i = j + 1 → S.fval (P.ws j) < S.fval (P.ws (j + 1)) :=
  ⟨h.1.2.1 i hi, (h.2.2.2 i (by rw [h.2.2.1]; exact hi)).1, (h.2.2.2 i (by rw [h.2.2.1]; exact hi)).2, fun j e => h.1.2.2 j (by omega)⟩

set_option maxRecDepth 100000 in
set_option maxHeartbeats 4000000 in
theorem s_polarOk (P : Pol) (w : World) (h : PolIn w P) :
    Calls Tryz.prog 103 #[.agg #[.slice P.W P.nw P.cw, .slice P.A P.na P.ca, .slice P.S P.ns P.cs]] w fun e w' => SaysW (PolOk P) w e w' := by
  suffices hs : ∀ V : Prop, Hid (V ↔ PolOk P) → Calls Tryz.prog 103 #[.agg #[.slice P.W P.nw P.cw, .slice P.A P.na P.ca, .slice P.S P.ns P.cs]] w fun e w' => SaysW V w e w' from hs _ (Lib.hid Iff.rfl)
  intro V HV
  have HI := Lib.hid h
  have hns := h.2.2.1.2
  have hna := h.2.1.2.1
  have hnw := h.1.2.1
  clear h
  have hB := BoxIn.new w P
  have HB := Lib.hid hB
  clear hB
  by_cases r1 : 1 ≤ P.nw ∧ P.nw ≤ 12
  case neg =>
    have HN := Lib.hid (show ¬ V from fun h => r1 (HV.out.1 h).1.1)
    have d1 : decide ((1 : Int) ≤ (P.nw : Int) ∧ (P.nw : Int) ≤ 12) = false := decide_eq_false (by omega)
    have hin := fun w => s_inP (P.nw : Int) 1 12 w
    rw [d1] at hin
    clear d1 r1
    go_enter Tryz.func103, Tryz.ntmps103
    go_wp2_with (go_at_call 104; ((with_reducible refine (hin _).mono ?_); rintro e w' ⟨rfl, rfl⟩))
    go_ret
    exact SaysW.no HN.out rfl HB.out.2
  case pos =>
  have d1 : decide ((1 : Int) ≤ (P.nw : Int) ∧ (P.nw : Int) ≤ 12) = true := decide_eq_true (by omega)
  have hin1 := fun w => s_inP (P.nw : Int) 1 12 w
  rw [d1] at hin1
  by_cases r2 : 2 ≤ P.na ∧ P.na ≤ 24
  case neg =>
    have HN := Lib.hid (show ¬ V from fun h => r2 (HV.out.1 h).2.1.1)
    have d2 : decide ((2 : Int) ≤ (P.na : Int) ∧ (P.na : Int) ≤ 24) = false := decide_eq_false (by omega)
    have hin2 := fun w => s_inP (P.na : Int) 2 24 w
    rw [d2] at hin2
    clear d1 d2 r1 r2
    go_enter Tryz.func103, Tryz.ntmps103
    go_wp2_with (go_at_call 104; (first | ((with_reducible refine (hin1 _).mono ?_); rintro e w' ⟨rfl, rfl⟩) | ((with_reducible refine (hin2 _).mono ?_); rintro e w' ⟨rfl, rfl⟩)))
    go_ret
    exact SaysW.no HN.out rfl HB.out.2
  case pos =>
  have d2 : decide ((2 : Int) ≤ (P.na : Int) ∧ (P.na : Int) ≤ 24) = true := decide_eq_true (by omega)
  have hin2 := fun w => s_inP (P.na : Int) 2 24 w
  rw [d2] at hin2
  by_cases heq : P.ns = P.nw
  case neg =>
    have HN := Lib.hid (show ¬ V from fun h => heq (HV.out.1 h).2.2.1)
    have heq1 : ¬ (((P.ns : Nat) : Int) = ((P.nw : Nat) : Int)) := by omega
    clear d1 d2 r1 r2 heq
    go_enter Tryz.func103, Tryz.ntmps103
    go_wp2_with (go_at_call 104; (first | ((with_reducible refine (hin1 _).mono ?_); rintro e w' ⟨rfl, rfl⟩) | ((with_reducible refine (hin2 _).mono ?_); rintro e w' ⟨rfl, rfl⟩)))
    go_ret
    exact SaysW.no HN.out rfl HB.out.2
  case pos =>
  have HEQ := Lib.hid heq
  have heq1 : (((P.ns : Nat) : Int) == ((P.nw : Nat) : Int)) = true := by simp; omega
  have HR := Lib.hid (And.intro r1 r2)
  obtain ⟨gA0, oA0, eA, cA⟩ := HI.out.2.1.1 (by omega)
  obtain ⟨gW0, oW0, eW, cW⟩ := HI.out.1.1 (by omega)
  obtain ⟨gS0, oS0, eS, cS⟩ := HI.out.2.2.1.1 (by omega)
  have HE := Lib.hid (And.intro eA (And.intro eW eS))
  have HCA := Lib.hid cA
  have HCW := Lib.hid cW
  have HCS := Lib.hid cS
  clear d1 d2 heq eA eW eS cA cW cS
  go_enter Tryz.func103, Tryz.ntmps103
  go_wp2_with (go_at_call 104; (first | ((with_reducible refine (hin1 _).mono ?_); rintro e w' ⟨rfl, rfl⟩) | ((with_reducible refine (hin2 _).mono ?_); rintro e w' ⟨rfl, rfl⟩)))
  clear hin1 hin2
  go_loopw [3] (fun i wr => ∃ k : Nat, k ≤ P.nw ∧ i = .int .i64 k ∧ Upto P k ∧ BoxIn w P wr) (fun i _ => P.nw - (intOf i).toNat)
  case atStart => exact ⟨0, Nat.zero_le _, rfl, ⟨fun j h => by omega, fun j h => by omega⟩, HB.out⟩
  case round =>
    obtain ⟨i, hi, rfl, hup, hB⟩ := hrel
    have HU := Lib.hid hup
    have c0 := hB.c0
    have c1 := hB.c1
    have c2 := hB.c2
    rw [HE.out.2.1] at c0
    rw [HE.out.1] at c1
    rw [HE.out.2.2] at c2
    have HB' := Lib.hid hB
    clear hup hB
    by_cases hlt : i < P.nw
    · have hlt1 : (i : Int) < (P.nw : Int) := by omega
      have hlt2 : (i : Int) < (P.ns : Int) := by have := HEQ.out; omega
      have cw := HB'.out.keeps.2 _ _ (HCW.out i hlt)
      have cs : wr.cell? ⟨gS0, oS0 + i, none⟩ = some (.slice (P.R i) (P.rn i) (P.rc i)) := HB'.out.keeps.2 _ _ (HCS.out i (by have := HEQ.out; omega))
      have hri := (HI.out.2.2.2 i (by have := HEQ.out; omega)).2.1
      have hwl := HI.out.1.2.2 i hlt
      have HNX := Lib.hid (fun h => not_next h hlt)
      obtain ⟨t, u, htu, f1, f2⟩ := wind_flag (P.ws i) hwl
      have HTU := Lib.hid htu
      unfold fv at cw
      clear htu hwl
      generalize hx : P.ws i = x at *
      generalize hn : P.rn i = n at *
      generalize hA : P.R i = Ri at *
      generalize hci : P.rc i = ci at *
      have HX := Lib.hid (And.intro hx (And.intro hn (And.intro hA hci)))
      clear hx hn hA hci
      cases t
      · have HN := Lib.hid (show ¬ V from fun h => by have h1 := HTU.out.2 (HNX.out (HV.out.1 h)).1; cases h1)
        go_wp2
        go_quiet (fail)
        have HD := Lib.hid (HB'.out.drawn (Drawn.one wr nq))
        go_wp2
        go_ret
        exact SaysW.no HN.out rfl HD.out.2
      cases u
      · have HN := Lib.hid (show ¬ V from fun h => by have h1 := HTU.out.2 (HNX.out (HV.out.1 h)).1; cases h1)
        go_wp2
        go_quiet (fail)
        have HD := Lib.hid (HB'.out.drawn (Drawn.one wr nq))
        go_wp2
        go_ret
        exact SaysW.no HN.out rfl HD.out.2
      have hxw : okW x := HTU.out.1 rfl
      have HXW := Lib.hid hxw
      clear hxw
      by_cases hi0 : i = 0
      · subst hi0
        have H4 := Lib.hid (show ∀ j, 0 = j + 1 → S.fval (P.ws j) < S.fval (P.ws (j + 1)) from fun j e => by omega)
        rw [Nat.add_zero] at cw cs
        have i0 : (0 : Int) < (P.nw : Int) := by omega
        have i1 : (0 : Int) < (P.ns : Int) := by omega
        by_cases hna1 : n = P.na
        · have HNA := Lib.hid hna1
          have hna2 : ((n : Int) == (P.na : Int)) = true := by simp; omega
          have hna3 : ((n : Int) != (P.na : Int)) = false := by simp; omega
          clear hna1
          go_wp2
          go_quiet (fail)
          have hD := HB'.out.drawn (Drawn.one wr nq)
          generalize wr.drewN nq = w5 at *
          have HD := Lib.hid hD
          clear hD c0 c1 c2 cw cs hna2 hna3 f1 f2
          go_wp2
          go_loopw [4] (fun q wr => ∃ k : Nat, k ≤ n ∧ q = .int .i64 k ∧ (∀ j, j < k → okS (P.sp 0 j)) ∧ BoxIn w P wr) (fun q _ => n - (intOf q).toNat)
          case atStart => exact ⟨0, Nat.zero_le _, rfl, fun j h => by omega, HD.out⟩
          case round =>
            obtain ⟨k, hk, rfl, hall, hB⟩ := hrel
            have HA := Lib.hid hall
            have c2 := hB.c2
            rw [HE.out.2.2] at c2
            have cs : wr.cell? ⟨gS0, oS0, none⟩ = some (.slice Ri n ci) := by
              have := HB'.out
              have h := hB.keeps.2 _ _ (HCS.out 0 (by have := HEQ.out; omega))
              rw [← HX.out.2.1, ← HX.out.2.2.1, ← HX.out.2.2.2]; exact h
            have HB3 := Lib.hid hB
            clear hall hB
            by_cases hlt : k < n
            · have hrow := (HI.out.2.2.2 0 (by have := HEQ.out; omega)).1
              rw [HX.out.2.1, HX.out.2.2.1] at hrow
              obtain ⟨gR, oR, hRi, cR⟩ := hrow (by omega)
              have cr : wr.cell? ⟨gR, oR + k, none⟩ = some (fv (P.sp 0 k)) := HB3.out.keeps.2 _ _ (cR k hlt)
              have hwl := (HI.out.2.2.2 0 (by have := HEQ.out; omega)).2.2 k (by rw [HX.out.2.1]; exact hlt)
              rw [hRi] at cs
              unfold fv at cr
              have hk1 : (k : Int) < (n : Int) := by omega
              obtain ⟨t, u, hb, _, f1, f2⟩ := boat_flag _ hwl
              have HBF := Lib.hid hb
              clear hb hrow cR hwl hRi
              have HNS := Lib.hid (fun h : ¬ okS (P.sp 0 k) => show ¬ V from fun hv => h ((HNX.out (HV.out.1 hv)).2.2.1 k (by have := HNA.out; omega)))
              generalize hs : P.sp 0 k = s at *
              have HS := Lib.hid hs
              clear hs
              cases t
              · have HN := Lib.hid (HNS.out fun h => by have h1 := HBF.out.2 h; cases h1)
                go_wp2
                go_ret
                exact SaysW.no HN.out rfl HB3.out.2
              cases u
              · have HN := Lib.hid (HNS.out fun h => by have h1 := HBF.out.2 h; cases h1)
                go_wp2
                go_ret
                exact SaysW.no HN.out rfl HB3.out.2
              have HOK := Lib.hid (show ∀ j, j < k + 1 → okS (P.sp 0 j) from fun j hj => by
                rcases Nat.lt_or_ge j k with h | h
                · exact HA.out j h
                · obtain rfl : j = k := by omega
                  rw [HS.out]; exact HBF.out.1 rfl)
              go_wp2
              go_roundw
              case rel => exact ⟨k + 1, by omega, by go_num, HOK.out, HB3.out⟩
              case measure => simp [intOf]; omega
            · obtain rfl : k = n := by omega
              have hk1 : ¬ ((k : Int) < (k : Int)) := by omega
              have HUN := Lib.hid (upto_next HU.out (by rw [HX.out.1]; exact HXW.out) (by rw [HX.out.2.1]; exact HNA.out) (fun j hj => HA.out j (by have := HNA.out; omega)) H4.out)
              go_wp2
              go_roundw
              case rel => exact ⟨0 + 1, by omega, by go_num, HUN.out, HB3.out⟩
              case measure => simp [intOf]; omega
        · have HN := Lib.hid (show ¬ V from fun h => hna1 (HNX.out (HV.out.1 h)).2.1)
          have hna2 : ((n : Int) == (P.na : Int)) = false := by simp; omega
          have hna3 : ((n : Int) != (P.na : Int)) = true := by simp; omega
          clear hna1
          go_wp2
          go_quiet (fail)
          have HD := Lib.hid (HB'.out.drawn (Drawn.one wr nq))
          go_wp2
          go_ret
          exact SaysW.no HN.out rfl HD.out.2
      · obtain ⟨i', rfl⟩ : ∃ i', i = i' + 1 := ⟨i - 1, by omega⟩
        have cw' := HB'.out.keeps.2 _ _ (HCW.out i' (by omega))
        unfold fv at cw'
        have ho' := (HU.out.1 i' (by omega)).1
        have e1 := ord_le HXW.out.1.2.1 ho'.1.2.1
        have hi1 : (0 : Int) < (i' : Int) + 1 := by omega
        have hi2 : decide ((0 : Int) < (i' : Int) + 1) = true := decide_eq_true hi1
        have wi : IntKind.i64.wrap (i' : Int) = (i' : Int) := IntWalk.i64_in _ (by omega)
        have i1 : (0 : Int) ≤ (i' : Int) := by omega
        have i2 : (i' : Int) < (P.nw : Int) := by omega
        have i3 : (0 : Int) ≤ (i' : Int) + 1 := by omega
        have ew : P.ws (i' + 1) = x := HX.out.1
        clear ho' hi0
        generalize hx' : P.ws i' = x' at *
        have HX' := Lib.hid hx'
        clear hx'
        cases hd : decide (S.fval x ≤ S.fval x')
        · have H4 := Lib.hid (show ∀ j, i' + 1 = j + 1 → S.fval (P.ws j) < S.fval (P.ws (j + 1)) from fun j e => by
            obtain rfl : j = i' := by omega
            rw [ew, HX'.out]; have := of_decide_eq_false hd; omega)
          rw [hd] at e1
          clear hd ew
          by_cases hna1 : n = P.na
          · have HNA := Lib.hid hna1
            have hna2 : ((n : Int) == (P.na : Int)) = true := by simp; omega
            have hna3 : ((n : Int) != (P.na : Int)) = false := by simp; omega
            clear hna1
            go_wp2
            go_quiet (fail)
            have hD := HB'.out.drawn (Drawn.one wr nq)
            generalize wr.drewN nq = w5 at *
            have HD := Lib.hid hD
            clear hD c0 c1 c2 cw cs hna2 hna3 f1 f2 cw' e1
            go_wp2
            go_loopw [4] (fun q wr => ∃ k : Nat, k ≤ n ∧ q = .int .i64 k ∧ (∀ j, j < k → okS (P.sp (i' + 1) j)) ∧ BoxIn w P wr) (fun q _ => n - (intOf q).toNat)
            case atStart => exact ⟨0, Nat.zero_le _, rfl, fun j h => by omega, HD.out⟩
            case round =>
              obtain ⟨k, hk, rfl, hall, hB⟩ := hrel
              have HA := Lib.hid hall
              have c2 := hB.c2
              rw [HE.out.2.2] at c2
              have cs : wr.cell? ⟨gS0, oS0 + (i' + 1), none⟩ = some (.slice Ri n ci) := by
                have := HB'.out
                have h := hB.keeps.2 _ _ (HCS.out (i' + 1) (by have := HEQ.out; omega))
                rw [← HX.out.2.1, ← HX.out.2.2.1, ← HX.out.2.2.2]; exact h
              have HB3 := Lib.hid hB
              clear hall hB
              by_cases hlt : k < n
              · have hrow := (HI.out.2.2.2 (i' + 1) (by have := HEQ.out; omega)).1
                rw [HX.out.2.1, HX.out.2.2.1] at hrow
                obtain ⟨gR, oR, hRi, cR⟩ := hrow (by omega)
                have cr : wr.cell? ⟨gR, oR + k, none⟩ = some (fv (P.sp (i' + 1) k)) := HB3.out.keeps.2 _ _ (cR k hlt)
                have hwl := (HI.out.2.2.2 (i' + 1) (by have := HEQ.out; omega)).2.2 k (by rw [HX.out.2.1]; exact hlt)
                rw [hRi] at cs
                unfold fv at cr
                have hk1 : (k : Int) < (n : Int) := by omega
                obtain ⟨t, u, hb, _, f1, f2⟩ := boat_flag _ hwl
                have HBF := Lib.hid hb
                clear hb hrow cR hwl hRi
                have HNS := Lib.hid (fun h : ¬ okS (P.sp (i' + 1) k) => show ¬ V from fun hv => h ((HNX.out (HV.out.1 hv)).2.2.1 k (by have := HNA.out; omega)))
                generalize hs : P.sp (i' + 1) k = s at *
                have HS := Lib.hid hs
                clear hs
                cases t
                · have HN := Lib.hid (HNS.out fun h => by have h1 := HBF.out.2 h; cases h1)
                  go_wp2
                  go_ret
                  exact SaysW.no HN.out rfl HB3.out.2
                cases u
                · have HN := Lib.hid (HNS.out fun h => by have h1 := HBF.out.2 h; cases h1)
                  go_wp2
                  go_ret
                  exact SaysW.no HN.out rfl HB3.out.2
                have HOK := Lib.hid (show ∀ j, j < k + 1 → okS (P.sp (i' + 1) j) from fun j hj => by
                  rcases Nat.lt_or_ge j k with h | h
                  · exact HA.out j h
                  · obtain rfl : j = k := by omega
                    rw [HS.out]; exact HBF.out.1 rfl)
                go_wp2
                go_roundw
                case rel => exact ⟨k + 1, by omega, by go_num, HOK.out, HB3.out⟩
                case measure => simp [intOf]; omega
              · obtain rfl : k = n := by omega
                have hk1 : ¬ ((k : Int) < (k : Int)) := by omega
                have HUN := Lib.hid (upto_next HU.out (by rw [HX.out.1]; exact HXW.out) (by rw [HX.out.2.1]; exact HNA.out) (fun j hj => HA.out j (by have := HNA.out; omega)) H4.out)
                go_wp2
                go_roundw
                case rel => exact ⟨(i' + 1) + 1, by omega, by go_num, HUN.out, HB3.out⟩
                case measure => simp [intOf]; omega
          · have HN := Lib.hid (show ¬ V from fun h => hna1 (HNX.out (HV.out.1 h)).2.1)
            have hna2 : ((n : Int) == (P.na : Int)) = false := by simp; omega
            have hna3 : ((n : Int) != (P.na : Int)) = true := by simp; omega
            clear hna1
            go_wp2
            go_quiet (fail)
            have HD := Lib.hid (HB'.out.drawn (Drawn.one wr nq))
            go_wp2
            go_ret
            exact SaysW.no HN.out rfl HD.out.2
        · have HN := Lib.hid (show ¬ V from fun h => by
            have h1 := (HNX.out (HV.out.1 h)).2.2.2 i' rfl
            rw [ew, HX'.out] at h1
            have := of_decide_eq_true hd; omega)
          rw [hd] at e1
          clear hd ew
          go_wp2
          go_quiet (fail)
          have HD := Lib.hid (HB'.out.drawn (Drawn.one wr nq))
          go_wp2
          go_ret
          exact SaysW.no HN.out rfl HD.out.2
    · obtain rfl : i = P.nw := by omega
      have hlt1 : ¬ ((P.nw : Int) < (P.nw : Int)) := by omega
      go_wp2
      go_loopw [5] (fun i wr => ∃ k : Nat, k + 1 ≤ P.na ∧ i = .int .i64 ((k : Int) + 1) ∧ (∀ j, j < k → P.av j < P.av (j + 1)) ∧ BoxIn w P wr) (fun i _ => P.na + 1 - (intOf i).toNat)
      case atStart => exact ⟨0, by have := HR.out.2; omega, rfl, fun j h => by omega, HB'.out⟩
      case round =>
        obtain ⟨k, hk, rfl, hall, hB⟩ := hrel
        have HA := Lib.hid hall
        clear c0 c1 c2
        have c0 := hB.c0
        have c1 := hB.c1
        have c2 := hB.c2
        rw [HE.out.1] at c1
        have HB2 := Lib.hid hB
        clear hall hB
        by_cases hlt : k + 1 < P.na
        · have a1 : wr.cell? ⟨gA0, oA0 + k, none⟩ = some (iv (P.av k)) := HB2.out.keeps.2 _ _ (HCA.out k (by omega))
          have a2 : wr.cell? ⟨gA0, oA0 + (k + 1), none⟩ = some (iv (P.av (k + 1))) := HB2.out.keeps.2 _ _ (HCA.out (k + 1) hlt)
          unfold iv at a1 a2
          have hk1 : (k : Int) + 1 < (P.na : Int) := by omega
          have wi : IntKind.i64.wrap (k : Int) = (k : Int) := IntWalk.i64_in _ (by omega)
          have i1 : (0 : Int) ≤ (k : Int) := by omega
          have i2 : (k : Int) < (P.na : Int) := by omega
          have i3 : (0 : Int) ≤ (k : Int) + 1 := by omega
          by_cases hb : P.av (k + 1) ≤ P.av k
          · have HN := Lib.hid (show ¬ V from fun h => by have := (HV.out.1 h).2.1.2.2.2 k hlt; omega)
            generalize P.av k = y at *
            generalize P.av (k + 1) = z at *
            have hbd : decide (z ≤ y) = true := decide_eq_true hb
            go_wp2
            go_quiet (fail)
            have HD := Lib.hid (HB2.out.drawn (Drawn.one wr nq))
            go_wp2
            go_ret
            exact SaysW.no HN.out rfl HD.out.2
          · have HY := Lib.hid (show ∀ j, j < k + 1 → P.av j < P.av (j + 1) from fun j hj => by
              rcases Nat.lt_or_ge j k with h | h
              · exact HA.out j h
              · obtain rfl : j = k := by omega
                omega)
            generalize P.av k = y at *
            generalize P.av (k + 1) = z at *
            have hbd : decide (z ≤ y) = false := decide_eq_false hb
            go_wp2
            go_quiet (fail)
            have HD := Lib.hid (HB2.out.drawn (Drawn.one wr nq))
            go_wp2
            go_roundw
            case rel => exact ⟨k + 1, by omega, by go_num, HY.out, HD.out⟩
            case measure => simp [intOf]; omega
        · obtain ⟨k', hk'⟩ : ∃ k', P.na = k' + 1 := ⟨P.na - 1, by omega⟩
          obtain rfl : k = k' := by omega
          have hk1 : ¬ ((k : Int) + 1 < (P.na : Int)) := by omega
          have a1 : wr.cell? ⟨gA0, oA0, none⟩ = some (iv (P.av 0)) := HB2.out.keeps.2 _ _ (HCA.out 0 (by omega))
          have a2 : wr.cell? ⟨gA0, oA0 + k, none⟩ = some (iv (P.av k)) := HB2.out.keeps.2 _ _ (HCA.out k (by omega))
          unfold iv at a1 a2
          have en : (P.na : Int) = (k : Int) + 1 := by omega
          have wi : IntKind.i64.wrap (k : Int) = (k : Int) := IntWalk.i64_in _ (by omega)
          have i1 : (0 : Int) ≤ (k : Int) := by omega
          have i2 : (0 : Int) < (P.na : Int) := by omega
          have i4 : (k : Int) < (k : Int) + 1 := by omega
          have HK := Lib.hid hk'
          clear hk'
          by_cases b0 : P.av 0 = 0
          · by_cases b1 : P.av k = 180
            · have HY := Lib.hid (show V from HV.out.2 (upto_all HR.out.1 ⟨HR.out.2, b0, by rw [HK.out]; exact b1, fun j hj => HA.out j (by have := HK.out; omega)⟩ HEQ.out HU.out))
              rw [b0] at a1
              rw [b1] at a2
              clear b0 b1
              go_wp2
              go_ret
              exact SaysW.yes HY.out rfl HB2.out.2
            · have HN := Lib.hid (show ¬ V from fun h => b1 (by have := (HV.out.1 h).2.1.2.2.1; rw [HK.out] at this; exact this))
              rw [b0] at a1
              have b2 : (P.av k == 180) = false := by simpa using b1
              clear b0 b1
              generalize P.av k = y at *
              go_wp2
              go_ret
              exact SaysW.no HN.out rfl HB2.out.2
          · have HN := Lib.hid (show ¬ V from fun h => b0 (HV.out.1 h).2.1.2.1)
            have b2 : (P.av 0 == 0) = false := by simpa using b0
            clear b0
            generalize P.av 0 = y at *
            go_wp2
            go_ret
            exact SaysW.no HN.out rfl HB2.out.2
end Go.Proofs.YtonoknbangnleaaGreat

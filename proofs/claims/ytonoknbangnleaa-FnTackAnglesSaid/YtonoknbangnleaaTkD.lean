/- The walk of the law FnTackAngles. -/
import Derived.Test.YtonoknbangnleaaTkB
import Derived.Test.YtonoknbangnleaaTkC
import Derived.Test.YtonoknbangnleaaLwA
namespace Go.Proofs.Ytonoknbangnleaa
open Go.RowKit Ieee
set_option linter.unusedVariables false
set_option linter.unusedSimpArgs false

theorem hd_btw {f b : Int} (f0 : 0 ≤ f) (f1 : f < 360) (b0 : 0 ≤ b) (b1 : b ≤ 180) : btw ((f - b) % 360) f = b ∧ btw ((f + b) % 360) f = b := by
  unfold btw
  constructor <;> split <;> omega
theorem hd_wsd {f b : Int} (f0 : 0 ≤ f) (f1 : f < 360) (b0 : 0 < b) (b1 : b < 180) : wsd ((f - b) % 360) f = 1 ∧ wsd ((f + b) % 360) f = -1 := by
  have e1 : asd ((f - b) % 360) f = b := by unfold asd; split <;> omega
  have e2 : asd ((f + b) % 360) f = -b := by unfold asd; split <;> omega
  unfold wsd
  rw [e1, e2]
  constructor
  · rw [if_neg (by omega), if_neg (by omega)]
  · rw [if_pos (by omega)]
/-- What stands of a best angle: there is none, or it is such. -/
theorem hd_ways {f b : Int} {t : Bool} (f0 : -1 ≤ f) (f1 : f < 360) (u0 : t = true → 0 ≤ b ∧ b ≤ 180) :
    (hdT f (b, t) = false ∧ hdA f (b, t) = 0 ∧ hdB f (b, t) = 0) ∨
    (hdT f (b, t) = true ∧ t = true ∧ 0 ≤ b ∧ b ≤ 180 ∧ btw (hdA f (b, t)) f = b ∧ btw (hdB f (b, t)) f = b ∧ (0 < b ∧ b < 180 → wsd (hdA f (b, t)) f = 1 ∧ wsd (hdB f (b, t)) f = -1)) := by
  by_cases h : f = -1 ∨ t = false
  · left
    obtain ⟨a, b, c⟩ := (hd_cases f b t).1 h
    exact ⟨c, a, b⟩
  · right
    have hf : ¬ f = -1 := fun e => h (.inl e)
    have ht : t = true := by cases t; exact absurd (.inr rfl) h; rfl
    obtain ⟨a, b, c⟩ := (hd_cases f b t).2 ⟨hf, ht⟩
    have hu := u0 ht
    obtain ⟨x1, x2⟩ := hd_btw (f := f) (by omega) f1 hu.1 hu.2
    rw [a, b]
    exact ⟨c, ht, hu.1, hu.2, x1, x2, fun k => hd_wsd (by omega) f1 k.1 k.2⟩
set_option maxRecDepth 100000 in
set_option maxHeartbeats 8000000 in
theorem w_FnTackAngles (a0 : Option Addr) (len cap : Nat) (zs : List Int) (w : World) (hr : IsRow .u8 w a0 len cap zs) :
    Calls Try.prog 3 #[.slice a0 len cap] w fun e w' => e = .returned (.bool true) ∧ Below w.heap.size w w' := by
  by_cases hbig : len ≤ 1048576
  · have hcode := code_of_row hr hbig
    go_enter Try.func3, Try.ntmps3
    go_wp2_with (first
      | (go_at_call 5; go_in)
      | (go_at_call 6; ((with_reducible refine (d_tack _ len cap a0 hcode).mono ?_); rintro e w1 ⟨vW, vA, vS, n', na', m', v1, v2, rfl, pt, xl, yl, b1⟩; obtain ⟨P, rfl, rfl, rfl, rfl, rfl, rfl, hP⟩ := pt.pol)))
    have HS := Lib.hid (LySt.new hP b1)
    have HF := Lib.hid (fun w => i_from v1 v2 _ w xl yl (frm_is (v1, v2)))
    have HW := Lib.hid (fun w => i_wsp (v1, v2) w xl yl)
    have HU := Lib.hid (fun w' (h : PolIn w' P) => i_upE P (wsW (v1, v2)) w' h (wsW_lt _))
    have HD := Lib.hid (fun w' (h : PolIn w' P) => i_dnE P (wsW (v1, v2)) w' h (wsW_lt _))
    have HT1 := Lib.hid (fun w' (h : PolIn w' P) => i_TackHeadings P (v1, v2) w' h xl yl)
    have HT2 := Lib.hid (fun w' (h : PolIn w' P) => s_TackHeadings P (v1, v2) w' h xl yl)
    have HJ1 := Lib.hid (fun w' (h : PolIn w' P) => i_JibeHeadings P (v1, v2) w' h xl yl)
    have HJ2 := Lib.hid (fun w' (h : PolIn w' P) => s_JibeHeadings P (v1, v2) w' h xl yl)
    obtain ⟨f0, f1⟩ := frm_bd (v1, v2)
    have u0 := (outE_bd (upE_is P (wsW (v1, v2)))).1
    have d0 := (outE_bd (dnE_is P (wsW (v1, v2)))).1
    generalize frm (v1, v2) = f at *
    generalize upE P (wsW (v1, v2)) = u at *
    generalize dnE P (wsW (v1, v2)) = d at *
    generalize wsW (v1, v2) = x at *
    obtain ⟨ub, ut⟩ := u
    obtain ⟨db, dt⟩ := d
    dsimp only at *
    have X1 := hd_ways (b := ub) (t := ut) f0 f1 (fun h => by have := u0 h; omega)
    have u9 : ut = true → ub ≤ 90 := fun h => by have := u0 h; omega
    have X2 := hd_ways (b := db) (t := dt) f0 f1 (fun h => by have := d0 h; omega)
    have d1 : dt = true → 91 ≤ db := fun h => by have := d0 h; omega
    clear hcode hP b1 xl yl pt u0 d0 hr hbig
    generalize hdA f (ub, ut) = A1 at *
    generalize hdB f (ub, ut) = B1 at *
    generalize hdT f (ub, ut) = T1 at *
    generalize hdA f (db, dt) = A2 at *
    generalize hdB f (db, dt) = B2 at *
    generalize hdT f (db, dt) = T2 at *
    have m0 : ∀ w', LySt w P w1.heap.size w' → w'.cell? ⟨w1.heap.size, 0, none⟩ = some (.slice P.W P.nw P.cw) := fun w' h => h.d0
    have m1 : ∀ w', LySt w P w1.heap.size w' → w'.cell? ⟨w1.heap.size, 1, none⟩ = some (.slice P.A P.na P.ca) := fun w' h => h.d1
    have m2 : ∀ w', LySt w P w1.heap.size w' → w'.cell? ⟨w1.heap.size, 2, none⟩ = some (.slice P.S P.ns P.cs) := fun w' h => h.d2
    generalize w1.heap.size = gp at *
    refine (HF.out _).mono ?_
    rintro e w2 ⟨rfl, bl⟩
    have HS2 := Lib.hid (HS.out.step bl)
    have c0 := m0 _ HS2.out
    have c1 := m1 _ HS2.out
    have c2 := m2 _ HS2.out
    clear bl HS HF
    go_wp2_with fail
    refine (HT1.out _ HS2.out.pol).mono ?_
    rintro e w3 ⟨rfl, bl⟩
    have HS3 := Lib.hid (HS2.out.step bl)
    clear c0 c1 c2
    have c0 := m0 _ HS3.out
    have c1 := m1 _ HS3.out
    have c2 := m2 _ HS3.out
    clear bl HS2 HT1
    go_wp2_with fail
    refine (HT2.out _ HS3.out.pol).mono ?_
    rintro e w4 ⟨rfl, bl⟩
    have HS4 := Lib.hid (HS3.out.step bl)
    clear c0 c1 c2
    have c0 := m0 _ HS4.out
    have c1 := m1 _ HS4.out
    have c2 := m2 _ HS4.out
    clear bl HS3 HT2
    go_wp2_with fail
    refine (HJ2.out _ HS4.out.pol).mono ?_
    rintro e w5 ⟨rfl, bl⟩
    have HS5 := Lib.hid (HS4.out.step bl)
    clear c0 c1 c2
    clear bl HS4 HJ2
    rcases X1 with ⟨rfl, rfl, rfl⟩ | ⟨rfl, rfl, ub0, ub1, e1A, e1B, e1W⟩
    · have c0 := m0 _ HS5.out
      have c1 := m1 _ HS5.out
      have c2 := m2 _ HS5.out
      go_wp2_with fail
      refine (HJ1.out _ HS5.out.pol).mono ?_
      rintro e w8 ⟨rfl, bl⟩
      have HS8 := Lib.hid (HS5.out.step bl)
      clear c0 c1 c2 bl
      rcases X2 with ⟨rfl, rfl, rfl⟩ | ⟨rfl, rfl, db0, db1, e2A, e2B, e2W⟩
      · go_wp2
        go_ret
        exact ⟨rfl, HS8.out.below⟩
      · have d91 := d1 rfl
        have a2 := fun w => i_btw A2 f w
        have b2 := fun w => i_btw B2 f w
        rw [e2A] at a2
        rw [e2B] at b2
        by_cases hd : db = 180
        · subst hd
          clear d1 e2W
          go_wp2
          have hst := HS8.out
          go_region_held3 (fun w' => LySt w P gp w') (first | assumption | exact LySt.drawn (by assumption) (Drawn.one _ 1) | exact LySt.step (by assumption) (by assumption))
            (first
              | (go_at_call 12; with_reducible refine (HW.out _).mono ?_; rintro e w' ⟨rfl, b⟩)
              | (go_at_call 16; with_reducible refine (HD.out _ (LySt.pol (by assumption))).mono ?_; rintro e w' ⟨rfl, b⟩))
          go_wp2_with (first
            | (go_at_call 13; ((with_reducible refine (a2 _).mono ?_); rintro e w' ⟨rfl, rfl⟩))
            | (go_at_call 13; ((with_reducible refine (b2 _).mono ?_); rintro e w' ⟨rfl, rfl⟩))
            | (go_at_call 14; ((with_reducible refine (s2 _).mono ?_); rintro e w' ⟨rfl, rfl⟩))
            | (go_at_call 14; ((with_reducible refine (s2' _).mono ?_); rintro e w' ⟨rfl, rfl⟩)))
          go_ret
          exact ⟨rfl, by first | assumption | exact LySt.below (by assumption)⟩
        · obtain ⟨e2S, e2S'⟩ := e2W ⟨by omega, by omega⟩
          clear d1 e2W
          have s2 := fun w => i_wsd A2 f w
          have s2' := fun w => i_wsd B2 f w
          rw [e2S] at s2
          rw [e2S'] at s2'
          go_wp2
          have hst := HS8.out
          go_region_held3 (fun w' => LySt w P gp w') (first | assumption | exact LySt.drawn (by assumption) (Drawn.one _ 1) | exact LySt.step (by assumption) (by assumption))
            (first
              | (go_at_call 12; with_reducible refine (HW.out _).mono ?_; rintro e w' ⟨rfl, b⟩)
              | (go_at_call 16; with_reducible refine (HD.out _ (LySt.pol (by assumption))).mono ?_; rintro e w' ⟨rfl, b⟩))
          go_wp2_with (first
            | (go_at_call 13; ((with_reducible refine (a2 _).mono ?_); rintro e w' ⟨rfl, rfl⟩))
            | (go_at_call 13; ((with_reducible refine (b2 _).mono ?_); rintro e w' ⟨rfl, rfl⟩))
            | (go_at_call 14; ((with_reducible refine (s2 _).mono ?_); rintro e w' ⟨rfl, rfl⟩))
            | (go_at_call 14; ((with_reducible refine (s2' _).mono ?_); rintro e w' ⟨rfl, rfl⟩)))
          go_ret
          exact ⟨rfl, by first | assumption | exact LySt.below (by assumption)⟩
    · have a1 := fun w => i_btw A1 f w
      have b1 := fun w => i_btw B1 f w
      rw [e1A] at a1
      rw [e1B] at b1
      by_cases hu : ub = 0
      · subst hu
        clear e1W
        go_wp2
        have hst := HS5.out
        go_region_held3 (fun w' => LySt w P gp w') (first | assumption | exact LySt.drawn (by assumption) (Drawn.one _ 1) | exact LySt.step (by assumption) (by assumption))
          (first
            | (go_at_call 12; with_reducible refine (HW.out _).mono ?_; rintro e w' ⟨rfl, b⟩)
            | (go_at_call 11; with_reducible refine (HU.out _ (LySt.pol (by assumption))).mono ?_; rintro e w' ⟨rfl, b⟩))
        have HS6 := Lib.hid (show LySt w P gp w' from by assumption)
        have c0 := m0 _ HS6.out
        have c1 := m1 _ HS6.out
        have c2 := m2 _ HS6.out
        go_wp2_with (first
          | (go_at_call 13; ((with_reducible refine (a1 _).mono ?_); rintro e w' ⟨rfl, rfl⟩))
          | (go_at_call 13; ((with_reducible refine (b1 _).mono ?_); rintro e w' ⟨rfl, rfl⟩))
          | (go_at_call 14; ((with_reducible refine (s1 _).mono ?_); rintro e w' ⟨rfl, rfl⟩))
          | (go_at_call 14; ((with_reducible refine (s1' _).mono ?_); rintro e w' ⟨rfl, rfl⟩)))
        refine (HJ1.out _ HS6.out.pol).mono ?_
        rintro e w8 ⟨rfl, bl⟩
        have HS8 := Lib.hid (HS6.out.step bl)
        clear c0 c1 c2 bl
        rcases X2 with ⟨rfl, rfl, rfl⟩ | ⟨rfl, rfl, db0, db1, e2A, e2B, e2W⟩
        · go_wp2
          go_ret
          exact ⟨rfl, HS8.out.below⟩
        · have d91 := d1 rfl
          have a2 := fun w => i_btw A2 f w
          have b2 := fun w => i_btw B2 f w
          rw [e2A] at a2
          rw [e2B] at b2
          by_cases hd : db = 180
          · subst hd
            clear d1 e2W
            go_wp2
            have hst := HS8.out
            go_region_held3 (fun w' => LySt w P gp w') (first | assumption | exact LySt.drawn (by assumption) (Drawn.one _ 1) | exact LySt.step (by assumption) (by assumption))
              (first
                | (go_at_call 12; with_reducible refine (HW.out _).mono ?_; rintro e w' ⟨rfl, b⟩)
                | (go_at_call 16; with_reducible refine (HD.out _ (LySt.pol (by assumption))).mono ?_; rintro e w' ⟨rfl, b⟩))
            go_wp2_with (first
              | (go_at_call 13; ((with_reducible refine (a2 _).mono ?_); rintro e w' ⟨rfl, rfl⟩))
              | (go_at_call 13; ((with_reducible refine (b2 _).mono ?_); rintro e w' ⟨rfl, rfl⟩))
              | (go_at_call 14; ((with_reducible refine (s2 _).mono ?_); rintro e w' ⟨rfl, rfl⟩))
              | (go_at_call 14; ((with_reducible refine (s2' _).mono ?_); rintro e w' ⟨rfl, rfl⟩)))
            go_ret
            exact ⟨rfl, by first | assumption | exact LySt.below (by assumption)⟩
          · obtain ⟨e2S, e2S'⟩ := e2W ⟨by omega, by omega⟩
            clear d1 e2W
            have s2 := fun w => i_wsd A2 f w
            have s2' := fun w => i_wsd B2 f w
            rw [e2S] at s2
            rw [e2S'] at s2'
            go_wp2
            have hst := HS8.out
            go_region_held3 (fun w' => LySt w P gp w') (first | assumption | exact LySt.drawn (by assumption) (Drawn.one _ 1) | exact LySt.step (by assumption) (by assumption))
              (first
                | (go_at_call 12; with_reducible refine (HW.out _).mono ?_; rintro e w' ⟨rfl, b⟩)
                | (go_at_call 16; with_reducible refine (HD.out _ (LySt.pol (by assumption))).mono ?_; rintro e w' ⟨rfl, b⟩))
            go_wp2_with (first
              | (go_at_call 13; ((with_reducible refine (a2 _).mono ?_); rintro e w' ⟨rfl, rfl⟩))
              | (go_at_call 13; ((with_reducible refine (b2 _).mono ?_); rintro e w' ⟨rfl, rfl⟩))
              | (go_at_call 14; ((with_reducible refine (s2 _).mono ?_); rintro e w' ⟨rfl, rfl⟩))
              | (go_at_call 14; ((with_reducible refine (s2' _).mono ?_); rintro e w' ⟨rfl, rfl⟩)))
            go_ret
            exact ⟨rfl, by first | assumption | exact LySt.below (by assumption)⟩
      · have u90 := u9 rfl
        obtain ⟨e1S, e1S'⟩ := e1W ⟨by omega, by omega⟩
        have hup : 0 < ub := by omega
        clear e1W
        have s1 := fun w => i_wsd A1 f w
        have s1' := fun w => i_wsd B1 f w
        rw [e1S] at s1
        rw [e1S'] at s1'
        go_wp2
        have hst := HS5.out
        go_region_held3 (fun w' => LySt w P gp w') (first | assumption | exact LySt.drawn (by assumption) (Drawn.one _ 1) | exact LySt.step (by assumption) (by assumption))
          (first
            | (go_at_call 12; with_reducible refine (HW.out _).mono ?_; rintro e w' ⟨rfl, b⟩)
            | (go_at_call 11; with_reducible refine (HU.out _ (LySt.pol (by assumption))).mono ?_; rintro e w' ⟨rfl, b⟩))
        have HS6 := Lib.hid (show LySt w P gp w' from by assumption)
        have c0 := m0 _ HS6.out
        have c1 := m1 _ HS6.out
        have c2 := m2 _ HS6.out
        go_wp2_with (first
          | (go_at_call 13; ((with_reducible refine (a1 _).mono ?_); rintro e w' ⟨rfl, rfl⟩))
          | (go_at_call 13; ((with_reducible refine (b1 _).mono ?_); rintro e w' ⟨rfl, rfl⟩))
          | (go_at_call 14; ((with_reducible refine (s1 _).mono ?_); rintro e w' ⟨rfl, rfl⟩))
          | (go_at_call 14; ((with_reducible refine (s1' _).mono ?_); rintro e w' ⟨rfl, rfl⟩)))
        refine (HJ1.out _ HS6.out.pol).mono ?_
        rintro e w8 ⟨rfl, bl⟩
        have HS8 := Lib.hid (HS6.out.step bl)
        clear c0 c1 c2 bl
        rcases X2 with ⟨rfl, rfl, rfl⟩ | ⟨rfl, rfl, db0, db1, e2A, e2B, e2W⟩
        · go_wp2
          go_ret
          exact ⟨rfl, HS8.out.below⟩
        · have d91 := d1 rfl
          have a2 := fun w => i_btw A2 f w
          have b2 := fun w => i_btw B2 f w
          rw [e2A] at a2
          rw [e2B] at b2
          by_cases hd : db = 180
          · subst hd
            clear d1 e2W
            go_wp2
            have hst := HS8.out
            go_region_held3 (fun w' => LySt w P gp w') (first | assumption | exact LySt.drawn (by assumption) (Drawn.one _ 1) | exact LySt.step (by assumption) (by assumption))
              (first
                | (go_at_call 12; with_reducible refine (HW.out _).mono ?_; rintro e w' ⟨rfl, b⟩)
                | (go_at_call 16; with_reducible refine (HD.out _ (LySt.pol (by assumption))).mono ?_; rintro e w' ⟨rfl, b⟩))
            go_wp2_with (first
              | (go_at_call 13; ((with_reducible refine (a2 _).mono ?_); rintro e w' ⟨rfl, rfl⟩))
              | (go_at_call 13; ((with_reducible refine (b2 _).mono ?_); rintro e w' ⟨rfl, rfl⟩))
              | (go_at_call 14; ((with_reducible refine (s2 _).mono ?_); rintro e w' ⟨rfl, rfl⟩))
              | (go_at_call 14; ((with_reducible refine (s2' _).mono ?_); rintro e w' ⟨rfl, rfl⟩)))
            go_ret
            exact ⟨rfl, by first | assumption | exact LySt.below (by assumption)⟩
          · obtain ⟨e2S, e2S'⟩ := e2W ⟨by omega, by omega⟩
            clear d1 e2W
            have s2 := fun w => i_wsd A2 f w
            have s2' := fun w => i_wsd B2 f w
            rw [e2S] at s2
            rw [e2S'] at s2'
            go_wp2
            have hst := HS8.out
            go_region_held3 (fun w' => LySt w P gp w') (first | assumption | exact LySt.drawn (by assumption) (Drawn.one _ 1) | exact LySt.step (by assumption) (by assumption))
              (first
                | (go_at_call 12; with_reducible refine (HW.out _).mono ?_; rintro e w' ⟨rfl, b⟩)
                | (go_at_call 16; with_reducible refine (HD.out _ (LySt.pol (by assumption))).mono ?_; rintro e w' ⟨rfl, b⟩))
            go_wp2_with (first
              | (go_at_call 13; ((with_reducible refine (a2 _).mono ?_); rintro e w' ⟨rfl, rfl⟩))
              | (go_at_call 13; ((with_reducible refine (b2 _).mono ?_); rintro e w' ⟨rfl, rfl⟩))
              | (go_at_call 14; ((with_reducible refine (s2 _).mono ?_); rintro e w' ⟨rfl, rfl⟩))
              | (go_at_call 14; ((with_reducible refine (s2' _).mono ?_); rintro e w' ⟨rfl, rfl⟩)))
            go_ret
            exact ⟨rfl, by first | assumption | exact LySt.below (by assumption)⟩
  · go_enter Try.func3, Try.ntmps3
    go_wp2
    go_ret
    exact ⟨rfl, Below.refl _ _⟩
end Go.Proofs.Ytonoknbangnleaa

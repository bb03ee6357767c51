/- The walk of the law FnLayFetched. -/
import Derived.Test.YtonoknbangnleaaGreatLyC
import Derived.Test.YtonoknbangnleaaGreatLyE
namespace Go.Proofs.YtonoknbangnleaaGreat
open Go.RowKit Ieee
set_option linter.unusedVariables false
set_option linter.unusedSimpArgs false

theorem hd_btw2 {f b : Int} (f0 : 0 ≤ f) (f1 : f < 360) (b0 : 0 ≤ b) (b1 : b ≤ 180) : btw f ((f - b) % 360) = b ∧ btw f ((f + b) % 360) = b := by
  unfold btw
  constructor <;> split <;> omega
/-- On no layline; or the way bears at the best angle up. -/
theorem onL_ways {f b k : Int} {t : Bool} (f0 : -1 ≤ f) (f1 : f < 360) (u0 : t = true → 0 ≤ b ∧ b ≤ 90) :
    onL (hdT f (b, t)) (hdA f (b, t)) (hdB f (b, t)) k = 0 ∨
    (¬ f = -1 ∧ t = true ∧ ¬ k = -1 ∧ btw f k = b ∧ ¬ onL (hdT f (b, t)) (hdA f (b, t)) (hdB f (b, t)) k = 0) := by
  by_cases h : f = -1 ∨ t = false
  · left
    obtain ⟨_, _, c⟩ := (hd_cases f b t).1 h
    rw [c]; rfl
  · have hf : ¬ f = -1 := fun e => h (.inl e)
    have ht : t = true := by
      cases t
      · exact absurd (.inr rfl) h
      · rfl
    obtain ⟨a, b', c⟩ := (hd_cases f b t).2 ⟨hf, ht⟩
    have hu := u0 ht
    obtain ⟨x1, x2⟩ := hd_btw2 (f := f) (b := b) (by omega) f1 hu.1 (by omega)
    rw [a, b', c]
    by_cases k1 : k = (f - b) % 360
    · right
      refine ⟨hf, ht, by omega, by rw [k1]; exact x1, ?_⟩
      unfold onL
      rw [if_pos rfl, if_pos k1]; omega
    · by_cases k2 : k = (f + b) % 360
      · right
        refine ⟨hf, ht, by omega, by rw [k2]; exact x2, ?_⟩
        unfold onL
        rw [if_pos rfl, if_neg k1, if_pos k2]; omega
      · left
        unfold onL
        rw [if_pos rfl, if_neg k1, if_neg k2]
set_option maxRecDepth 100000 in
set_option maxHeartbeats 8000000 in
theorem w_FnLayFetched (a0 : Option Addr) (len cap : Nat) (zs : List Int) (w : World) (hr : IsRow .u8 w a0 len cap zs) :
    Calls Tryz.prog 3 #[.slice a0 len cap] w fun e w' => e = .returned (.bool true) ∧ Below w.heap.size w w' := by
  by_cases hbig : len ≤ 1048576
  · have hcode := code_of_row hr hbig
    go_enter Tryz.func3, Tryz.ntmps3
    go_wp2_with (go_at_call 4; go_in)
    go_wp2_with fail
    refine (d_onl _ len cap a0 hcode).mono ?_
    rintro e w1 ⟨vW, vA, vS, n', na', m', v1, v2, z1, z2, rfl, pt, ⟨xl, yl⟩, ⟨al, bl⟩, b1⟩
    obtain ⟨P, rfl, rfl, rfl, rfl, rfl, rfl, hP⟩ := pt.pol
    have HS := Lib.hid (LySt.new hP b1)
    have HW := Lib.hid (fun w => i_wsp (v1, v2) w xl yl)
    have HU := Lib.hid (fun w' (h : PolIn w' P) => i_upE P (wsW (v1, v2)) w' h (wsW_lt _))
    have HD := Lib.hid (fun w' (h : PolIn w' P) => i_dnE P (wsW (v1, v2)) w' h (wsW_lt _))
    have HO1 := Lib.hid (fun w' (h : PolIn w' P) => i_onL P (v1, v2) (z1, z2) w' h xl yl al bl)
    have HO2 := Lib.hid (fun w' (h : PolIn w' P) => s_onL P (v1, v2) (z1, z2) w' h xl yl al bl)
    have HCfA := Lib.hid (fun hf hk hu hd o1 o2 w' (h : PolIn w' P) => i_fetch P (v1, v2) (z1, z2) w' h xl yl al bl hf hk hu hd o1 o2)
    have HTmA := Lib.hid (fun hf hk hu hd o1 o2 w' (h : PolIn w' P) => i_time P (v1, v2) (z1, z2) w' h xl yl al bl hf hk hu hd o1 o2)
    have HSpA := Lib.hid (fun hP hx h0 h1 w' (h : PolIn w' P) => i_spd P (wsW (v1, v2)) (upE P (wsW (v1, v2))).1 w' h hP hx h0 h1 (wsW_lt _))
    have HL := Lib.hid (fun w => i_len (z1, z2) _ w al bl (lenX_is (z1, z2)))
    have HSf := Lib.hid (fun w => i_secV (lenX (z1, z2)) (wid (spd P (wsW (v1, v2)) (upE P (wsW (v1, v2))).1)) w (lenX_lt _) (wid_lt _))
    have HVl := Lib.hid (fun h => up_valid (P := P) (x := wsW (v1, v2)) h)
    have HCv := Lib.hid (fun hP hx h0 h1 => spd_wid (P := P) (x := wsW (v1, v2)) (a := (upE P (wsW (v1, v2))).1) hP hx h0 h1)
    obtain ⟨f0, f1⟩ := frm_bd (v1, v2)
    have u0 := (outE_bd (upE_is P (wsW (v1, v2)))).1
    have d0 := (outE_bd (dnE_is P (wsW (v1, v2)))).1
    have hs2 : (Tryz.prog.underlying 35).isSome = true := by rw [Tryz.underlying35]; rfl
    generalize frm (v1, v2) = f at *
    generalize brg (z1, z2) = k at *
    generalize lenX (z1, z2) = l at *
    generalize upE P (wsW (v1, v2)) = u at *
    generalize dnE P (wsW (v1, v2)) = d at *
    generalize wsW (v1, v2) = x at *
    obtain ⟨ub, ut⟩ := u
    obtain ⟨db, dt⟩ := d
    dsimp only at *
    have X := onL_ways (k := k) f0 f1 (fun h => (show 0 ≤ ub ∧ ub ≤ 90 by have := u0 h; omega))
    clear hcode hP b1 xl yl al bl pt hr hbig
    have m0 : ∀ w', LySt w P w1.heap.size w' → w'.cell? ⟨w1.heap.size, 0, none⟩ = some (.slice P.W P.nw P.cw) := fun w' h => h.d0
    have m1 : ∀ w', LySt w P w1.heap.size w' → w'.cell? ⟨w1.heap.size, 1, none⟩ = some (.slice P.A P.na P.ca) := fun w' h => h.d1
    have m2 : ∀ w', LySt w P w1.heap.size w' → w'.cell? ⟨w1.heap.size, 2, none⟩ = some (.slice P.S P.ns P.cs) := fun w' h => h.d2
    have c0 := m0 _ HS.out
    have c1 := m1 _ HS.out
    have c2 := m2 _ HS.out
    go_wp2
    clear c0 c1 c2
    generalize w1.heap.size = gp at *
    generalize onL (hdT f (ub, ut)) (hdA f (ub, ut)) (hdB f (ub, ut)) k = r at *
    rcases X with rfl | ⟨hf, rfl, hk, hbt, hr0⟩
    · clear HCfA HTmA HSpA HSf HVl HCv HL u0 d0
      have hst := HS.out
      go_region_held3 (fun w' => LySt w P gp w') (first | assumption | exact LySt.drawn (by assumption) (Drawn.one _ 1) | exact LySt.step (by assumption) (by assumption))
        (first
          | (go_at_call 7; with_reducible refine (HW.out _).mono ?_; rintro e w' ⟨rfl, b⟩)
          | (go_at_call 6; with_reducible refine (HD.out _ (LySt.pol (by assumption))).mono ?_; rintro e w' ⟨rfl, b⟩))
      go_wp2
      go_region_held3 (fun w' => LySt w P gp w') (first | assumption | exact LySt.drawn (by assumption) (Drawn.one _ 1) | exact LySt.step (by assumption) (by assumption))
        (first
          | (go_at_call 8; with_reducible refine (HO1.out _ (LySt.pol (by assumption))).mono ?_; rintro e w' ⟨rfl, b⟩)
          | (go_at_call 9; with_reducible refine (HO2.out _ (LySt.pol (by assumption))).mono ?_; rintro e w' ⟨rfl, b⟩))
      have HS5 := Lib.hid (show LySt w P gp w' from by assumption)
      have c0 := m0 _ HS5.out
      have c1 := m1 _ HS5.out
      have c2 := m2 _ HS5.out
      go_wp2_with fail
      refine (HO1.out _ HS5.out.pol).mono ?_
      rintro e w6 ⟨rfl, bl⟩
      have HS6 := Lib.hid (HS5.out.step bl)
      clear c0 c1 c2 bl HS5
      go_wp2
      go_ret
      exact ⟨rfl, HS6.out.below⟩
    · cases dt
      · clear HCfA HTmA HSpA HSf HVl HCv HL u0 d0
        have hr1 : (r == 0) = false := by rw [beq_eq_false_iff_ne]; exact hr0
        have hst := HS.out
        go_region_held3 (fun w' => LySt w P gp w') (first | assumption | exact LySt.drawn (by assumption) (Drawn.one _ 1) | exact LySt.step (by assumption) (by assumption))
          (first
            | (go_at_call 7; with_reducible refine (HW.out _).mono ?_; rintro e w' ⟨rfl, b⟩)
            | (go_at_call 6; with_reducible refine (HD.out _ (LySt.pol (by assumption))).mono ?_; rintro e w' ⟨rfl, b⟩))
        go_wp2
        go_region_held3 (fun w' => LySt w P gp w') (first | assumption | exact LySt.drawn (by assumption) (Drawn.one _ 1) | exact LySt.step (by assumption) (by assumption))
          (first
            | (go_at_call 8; with_reducible refine (HO1.out _ (LySt.pol (by assumption))).mono ?_; rintro e w' ⟨rfl, b⟩)
            | (go_at_call 9; with_reducible refine (HO2.out _ (LySt.pol (by assumption))).mono ?_; rintro e w' ⟨rfl, b⟩))
        have HS5 := Lib.hid (show LySt w P gp w' from by assumption)
        have c0 := m0 _ HS5.out
        have c1 := m1 _ HS5.out
        have c2 := m2 _ HS5.out
        go_wp2_with fail
        refine (HO1.out _ HS5.out.pol).mono ?_
        rintro e w6 ⟨rfl, bl⟩
        have HS6 := Lib.hid (HS5.out.step bl)
        clear c0 c1 c2 bl HS5
        go_wp2
        go_ret
        exact ⟨rfl, HS6.out.below⟩
      · have hu := u0 rfl
        have hd := d0 rfl
        obtain ⟨vP, vx⟩ := HVl.out rfl
        have HCf := Lib.hid (HCfA.out hf hk rfl rfl (show ub ≤ btw f k by omega) (show btw f k ≤ db by omega))
        have HTm := Lib.hid (HTmA.out hf hk rfl rfl (show ub ≤ btw f k by omega) (show btw f k ≤ db by omega))
        have HSp := Lib.hid (HSpA.out vP vx (show 0 ≤ ub by omega) (show ub ≤ 180 by omega))
        have q := fun w => run_convert_float_float (P := Tryz.prog) w 35 42 .f32 .f64 _ _ hs2 Tryz.underlying42 (HCv.out vP vx (show 0 ≤ ub by omega) (show ub ≤ 180 by omega))
        have hr1 : (r == 0) = false := by rw [beq_eq_false_iff_ne]; exact hr0
        rw [hbt] at HTm
        clear HCfA HTmA HSpA HVl HCv u0 d0 hu hd vP vx hf hk hbt
        generalize secV l (wid (spd P x ub)) = sec at *
        generalize wid (spd P x ub) = s' at *
        generalize spd P x ub = s at *
        obtain ⟨sn, st⟩ := sec
        dsimp only at *
        have hst := HS.out
        go_region_held3 (fun w' => LySt w P gp w') (first | assumption | exact LySt.drawn (by assumption) (Drawn.one _ 1) | exact LySt.step (by assumption) (by assumption))
          (first
            | (go_at_call 7; with_reducible refine (HW.out _).mono ?_; rintro e w' ⟨rfl, b⟩)
            | (go_at_call 6; with_reducible refine (HD.out _ (LySt.pol (by assumption))).mono ?_; rintro e w' ⟨rfl, b⟩))
        go_wp2
        go_region_held3 (fun w' => LySt w P gp w') (first | assumption | exact LySt.drawn (by assumption) (Drawn.one _ 1) | exact LySt.step (by assumption) (by assumption))
          (first
            | (go_at_call 8; with_reducible refine (HO1.out _ (LySt.pol (by assumption))).mono ?_; rintro e w' ⟨rfl, b⟩)
            | (go_at_call 9; with_reducible refine (HO2.out _ (LySt.pol (by assumption))).mono ?_; rintro e w' ⟨rfl, b⟩))
        have HS5 := Lib.hid (show LySt w P gp w' from by assumption)
        have c0 := m0 _ HS5.out
        have c1 := m1 _ HS5.out
        have c2 := m2 _ HS5.out
        go_wp2_with fail
        refine (HO1.out _ HS5.out.pol).mono ?_
        rintro e w6 ⟨rfl, bl⟩
        have HS6 := Lib.hid (HS5.out.step bl)
        clear c0 c1 c2 bl HS5
        go_wp2
        have hst6 := HS6.out
        go_region_held3 (fun w' => LySt w P gp w') (first | assumption | exact LySt.drawn (by assumption) (Drawn.one _ 1) | exact LySt.step (by assumption) (by assumption))
          (first
            | (go_at_call 7; with_reducible refine (HW.out _).mono ?_; rintro e w' ⟨rfl, b⟩)
            | (go_at_call 10; with_reducible refine (HU.out _ (LySt.pol (by assumption))).mono ?_; rintro e w' ⟨rfl, b⟩))
        go_wp2
        go_region_held3 (fun w' => LySt w P gp w') (first | assumption | exact LySt.drawn (by assumption) (Drawn.one _ 1) | exact LySt.step (by assumption) (by assumption))
          (first
            | (go_at_call 7; with_reducible refine (HW.out _).mono ?_; rintro e w' ⟨rfl, b⟩)
            | (go_at_call 11; with_reducible refine (HSp.out _ (LySt.pol (by assumption))).mono ?_; rintro e w' ⟨rfl, b⟩))
        have HS8 := Lib.hid (show LySt w P gp w' from by assumption)
        have c0 := m0 _ HS8.out
        have c1 := m1 _ HS8.out
        have c2 := m2 _ HS8.out
        go_wp2_with fail
        refine (HTm.out _ HS8.out.pol).mono ?_
        rintro e w9 ⟨rfl, bl⟩
        have HS9 := Lib.hid (HS8.out.step bl)
        clear c0 c1 c2 bl HS8
        have c0 := m0 _ HS9.out
        have c1 := m1 _ HS9.out
        have c2 := m2 _ HS9.out
        go_wp2_with (first
          | (go_at_call 14; ((with_reducible refine (HL.out _).mono ?_); rintro e w' ⟨rfl, rfl⟩))
          | (go_at_call 13; ((with_reducible refine (HSf.out _).mono ?_); rintro e w' ⟨rfl, rfl⟩)))
        refine (HCf.out _ HS9.out.pol).mono ?_
        rintro e w10 ⟨rfl, bl⟩
        have HS10 := Lib.hid (HS9.out.step bl)
        clear c0 c1 c2 bl HS9
        go_wp2
        go_ret
        exact ⟨rfl, HS10.out.below⟩
  · go_enter Tryz.func3, Tryz.ntmps3
    go_wp2
    go_ret
    exact ⟨rfl, Below.refl _ _⟩
end Go.Proofs.YtonoknbangnleaaGreat

/- The law of the best angles: FnBestAngles. -/
import Derived.Test.YtdhdefhllleeiaaPdH
import Derived.Test.YtdhdefhllleeiaaPgA
import Derived.Test.YtdhdefhllleeiaaPxM
namespace Go.Proofs.Ytdhdefhllleeiaa
open Go.RowKit Ieee
set_option linter.unusedSimpArgs false
set_option linter.unusedVariables false

/-- What the best angles say of the angle asked: in whole numbers. -/
theorem up_facts {G : Nat → Int} {up : Int} {fine : Bool} (h : Best 0 90 G up fine) : (0 ≤ up ∧ up ≤ 90) ∧ (fine = true → 0 < G up.toNat ∧ ∀ j, j ≤ 90 → G j ≤ G up.toNat) ∧ (fine = false → ∀ j, j ≤ 90 → G j ≤ 0) := by
  rcases h with ⟨rfl, rfl, h1⟩ | ⟨rfl, n, rfl, h1, h2, h3, h4, h5⟩
  · exact ⟨by omega, fun h => (by cases h), fun _ j hj => h1 j (Nat.zero_le _) hj⟩
  · exact ⟨by omega, fun _ => ⟨by simpa using h3, fun j hj => by simpa using h5 j (Nat.zero_le _) hj⟩, fun h => by cases h⟩
theorem down_facts {G : Nat → Int} {down : Int} {good : Bool} (h : Best 91 180 (fun j => -G j) down good) : (0 ≤ down ∧ down ≤ 180) ∧ (good = true → 91 ≤ down ∧ G down.toNat < 0 ∧ ∀ j, 91 ≤ j → j ≤ 180 → G down.toNat ≤ G j) ∧ (good = false → ∀ j, 91 ≤ j → j ≤ 180 → 0 ≤ G j) := by
  rcases h with ⟨rfl, rfl, h1⟩ | ⟨rfl, n, rfl, h1, h2, h3, h4, h5⟩
  · dsimp only at h1
    exact ⟨by omega, fun h => (by cases h), fun _ j hj hj' => by have := h1 j hj hj'; omega⟩
  · dsimp only at h3 h5
    exact ⟨by omega, fun _ => ⟨by omega, by simp only [Int.toNat_natCast]; omega, fun j hj hj' => by have := h5 j hj hj'; simp only [Int.toNat_natCast]; omega⟩, fun h => by cases h⟩
theorem fast_facts {G : Nat → Int} {fast : Int} {full : Bool} (h : Best 0 180 G fast full) : (0 ≤ fast ∧ fast ≤ 180) ∧ (full = true → ∀ j, j ≤ 180 → G j ≤ G fast.toNat) ∧ (full = false → ∀ j, j ≤ 180 → G j ≤ 0) := by
  rcases h with ⟨rfl, rfl, h1⟩ | ⟨rfl, n, rfl, h1, h2, h3, h4, h5⟩
  · exact ⟨by omega, fun h => (by cases h), fun _ j hj => h1 j (Nat.zero_le _) hj⟩
  · exact ⟨by omega, fun _ j hj => by simpa using h5 j (Nat.zero_le _) hj, fun h => by cases h⟩
theorem out_yes {v : Prop} {r a : Nat} {t : Bool} (h : OutF v r a t) (hv : v) : a = r := by
  rcases h with ⟨_, h, _⟩ | ⟨hn, _⟩
  · exact h
  · exact absurd hv hn
theorem outb_yes {v : Prop} {lo hi : Nat} {G : Nat → Int} {b : Int} {t : Bool} (h : OutB v lo hi G b t) (hv : v) : Best lo hi G b t := by
  rcases h with ⟨_, h⟩ | ⟨hn, _⟩
  · exact h
  · exact absurd hv hn
theorem zero_num : S.isNum 0 := (zero_ok 1).2.1
theorem zero_val : S.fval 0 = 0 := by kernel_rfl
theorem le_no {a b : Nat} (ha : S.isNum a) (hb : S.isNum b) (h : S.fval b < S.fval a) : (FloatKind.f32.format.order a b == some .lt || FloatKind.f32.format.order a b == some .eq) = false := by rw [ord_le ha hb]; exact decide_eq_false (by omega)
theorem le_yes {a b : Nat} (ha : S.isNum a) (hb : S.isNum b) (h : S.fval a ≤ S.fval b) : (FloatKind.f32.format.order a b == some .lt || FloatKind.f32.format.order a b == some .eq) = true := by rw [ord_le ha hb]; exact decide_eq_true h
theorem ge_no {a b : Nat} (ha : S.isNum a) (hb : S.isNum b) (h : S.fval a < S.fval b) : (FloatKind.f32.format.order a b == some .gt || FloatKind.f32.format.order a b == some .eq) = false := by rw [ord_ge ha hb]; exact decide_eq_false (by omega)
theorem ge_yes {a b : Nat} (ha : S.isNum a) (hb : S.isNum b) (h : S.fval b ≤ S.fval a) : (FloatKind.f32.format.order a b == some .gt || FloatKind.f32.format.order a b == some .eq) = true := by rw [ord_ge ha hb]; exact decide_eq_true h
theorem gt_no {a b : Nat} (ha : S.isNum a) (hb : S.isNum b) (h : S.fval a ≤ S.fval b) : (FloatKind.f32.format.order a b == some .gt) = false := by rw [ord_gt ha hb]; exact decide_eq_false (by omega)
theorem lt_no {a b : Nat} (ha : S.isNum a) (hb : S.isNum b) (h : S.fval b ≤ S.fval a) : (FloatKind.f32.format.order a b == some .lt) = false := by rw [ord_lt ha hb]; exact decide_eq_false (by omega)

set_option maxRecDepth 100000 in
set_option maxHeartbeats 8000000 in
theorem w_FnBestAngles (a0 : Option Addr) (len cap : Nat) (zs : List Int) (w : World) (hr : IsRow .u8 w a0 len cap zs) :
    Calls Try.prog 4 #[.slice a0 len cap] w fun e w' => e = .returned (.bool true) ∧ Below w.heap.size w w' := by
  by_cases hbig : len ≤ 1048576
  · have hcode := code_of_row hr hbig
    go_enter Try.func4, Try.ntmps4
    go_wp2_with (first
      | (go_at_call 13; go_in)
      | (go_at_call 17; ((with_reducible refine (d_madeUp _ len cap a0 hcode).mono ?_); rintro e w1 ⟨vW, vA, vS, n', na', m', x, a, rfl, pt, xl, ha, b1⟩; obtain ⟨P, rfl, rfl, rfl, rfl, rfl, rfl, hP⟩ := pt.pol)))
    have HS := Lib.hid (PtSt.new hP b1)
    have HX := Lib.hid xl
    have HA := Lib.hid ha
    clear hcode hP b1 xl ha pt
    have m0 : ∀ w', PtSt w P w1.heap.size w' → w'.cell? ⟨w1.heap.size, 0, none⟩ = some (.slice P.W P.nw P.cw) := fun w' h => h.d0
    have m1 : ∀ w', PtSt w P w1.heap.size w' → w'.cell? ⟨w1.heap.size, 1, none⟩ = some (.slice P.A P.na P.ca) := fun w' h => h.d1
    have m2 : ∀ w', PtSt w P w1.heap.size w' → w'.cell? ⟨w1.heap.size, 2, none⟩ = some (.slice P.S P.ns P.cs) := fun w' h => h.d2
    generalize w1.heap.size = gp at *
    refine (i_MadeUp P x a _ HS.out.2.2.1 HX.out).mono ?_
    rintro e w2 ht
    obtain ⟨rm, t1, O1, rfl, bl⟩ := told_out ht
    have HS2 := Lib.hid (HS.out.step bl)
    have c0 := m0 _ HS2.out
    have c1 := m1 _ HS2.out
    have c2 := m2 _ HS2.out
    clear ht bl HS
    have HO1 := Lib.hid O1
    clear O1
    go_wp2_with fail
    refine (i_SpeedAt P x a _ HS2.out.2.2.1 HX.out).mono ?_
    rintro e w3 ht
    obtain ⟨rs, t2, O2, rfl, bl⟩ := told_out ht
    have HS3 := Lib.hid (HS2.out.step bl)
    clear c0 c1 c2
    have c0 := m0 _ HS3.out
    have c1 := m1 _ HS3.out
    have c2 := m2 _ HS3.out
    clear ht bl HS2
    have HO2 := Lib.hid O2
    clear O2
    go_wp2_with fail
    refine (s_MadeUp P x a _ HS3.out.2.2.1 HX.out).mono ?_
    rintro e w4 ht
    obtain ⟨rd, t3, O3, rfl, bl⟩ := told_out ht
    have HS4 := Lib.hid (HS3.out.step bl)
    clear c0 c1 c2
    have c0 := m0 _ HS4.out
    have c1 := m1 _ HS4.out
    have c2 := m2 _ HS4.out
    clear ht bl HS3
    obtain ⟨hrd, htd⟩ := out_fun O3 HO1.out
    subst hrd htd
    clear O3
    cases t3
    · have h0 : rd = 0 := by
        rcases HO1.out with ⟨_, _, h⟩ | ⟨_, h, _⟩
        · cases h
        · exact h
      subst h0
      have h00 : FloatKind.f32.format.order 0 0 = some .eq := ord_self zero_num
      go_wp2
      go_ret
      exact ⟨rfl, HS4.out.below⟩
    have hask : AskOk P x a := by
      rcases HO1.out with ⟨h, _⟩ | ⟨_, _, h⟩
      · exact h
      · cases h
    have HK := Lib.hid hask
    obtain ⟨aN, rfl⟩ : ∃ k : Nat, a = k := ⟨a.toNat, by have := hask.2.2; omega⟩
    have hrm := out_yes HO1.out hask
    have hrs := out_yes HO2.out hask
    have HRM := Lib.hid hrm
    have HRS := Lib.hid hrs
    clear hask hrm hrs HO1 HO2
    go_wp2_with fail
    refine (i_BestUp P x _ HS4.out.2.2.1 HX.out).mono ?_
    rintro e w5 ht
    obtain ⟨up, fine, O1, rfl, bl⟩ := best_out ht
    have HS5 := Lib.hid (HS4.out.step bl)
    clear c0 c1 c2
    have c0 := m0 _ HS5.out
    have c1 := m1 _ HS5.out
    have c2 := m2 _ HS5.out
    clear ht bl HS4
    have HU := Lib.hid (up_facts (outb_yes O1 ⟨HK.out.1, HK.out.2.1⟩))
    clear O1
    go_wp2_with fail
    refine (i_BestDown P x _ HS5.out.2.2.1 HX.out).mono ?_
    rintro e w6 ht
    obtain ⟨down, good, O1, rfl, bl⟩ := best_out ht
    have HS6 := Lib.hid (HS5.out.step bl)
    clear c0 c1 c2
    have c0 := m0 _ HS6.out
    have c1 := m1 _ HS6.out
    have c2 := m2 _ HS6.out
    clear ht bl HS5
    have HDn := Lib.hid (down_facts (outb_yes O1 ⟨HK.out.1, HK.out.2.1⟩))
    clear O1
    go_wp2_with fail
    refine (i_Fastest P x _ HS6.out.2.2.1 HX.out).mono ?_
    rintro e w7 ht
    obtain ⟨fast, full, O1, rfl, bl⟩ := best_out ht
    have HS7 := Lib.hid (HS6.out.step bl)
    clear c0 c1 c2
    have c0 := m0 _ HS7.out
    have c1 := m1 _ HS7.out
    have c2 := m2 _ HS7.out
    clear ht bl HS6
    have HF := Lib.hid (fast_facts (outb_yes O1 ⟨HK.out.1, HK.out.2.1⟩))
    clear O1
    go_wp2_with fail
    refine (i_MadeUp P x up _ HS7.out.2.2.1 HX.out).mono ?_
    rintro e w8 ht
    obtain ⟨rx, t5, O1, rfl, bl⟩ := told_out ht
    have HS8 := Lib.hid (HS7.out.step bl)
    clear c0 c1 c2
    have c0 := m0 _ HS8.out
    have c1 := m1 _ HS8.out
    have c2 := m2 _ HS8.out
    clear ht bl HS7
    have HRX := Lib.hid (out_yes O1 ⟨HK.out.1, HK.out.2.1, by have := HU.out.1; omega, by have := HU.out.1; omega⟩)
    clear O1
    go_wp2_with fail
    refine (i_MadeUp P x down _ HS8.out.2.2.1 HX.out).mono ?_
    rintro e w9 ht
    obtain ⟨ry, t6, O1, rfl, bl⟩ := told_out ht
    have HS9 := Lib.hid (HS8.out.step bl)
    clear c0 c1 c2
    have c0 := m0 _ HS9.out
    have c1 := m1 _ HS9.out
    have c2 := m2 _ HS9.out
    clear ht bl HS8
    have HRY := Lib.hid (out_yes O1 ⟨HK.out.1, HK.out.2.1, by have := HDn.out.1; omega, by have := HDn.out.1; omega⟩)
    clear O1
    go_wp2_with fail
    refine (i_SpeedAt P x fast _ HS9.out.2.2.1 HX.out).mono ?_
    rintro e w10 ht
    obtain ⟨rz, t7, O1, rfl, bl⟩ := told_out ht
    have HS10 := Lib.hid (HS9.out.step bl)
    clear c0 c1 c2
    have c0 := m0 _ HS10.out
    have c1 := m1 _ HS10.out
    have c2 := m2 _ HS10.out
    clear ht bl HS9
    have HRZ := Lib.hid (out_yes O1 ⟨HK.out.1, HK.out.2.1, by have := HF.out.1; omega, by have := HF.out.1; omega⟩)
    clear O1 c0 c1 c2
    obtain ⟨ha0, ha1⟩ := HK.out.2.2
    have ha2 : aN ≤ 180 := by omega
    have hup := HU.out.1
    have hdn := HDn.out.1
    have hfs := HF.out.1
    have nm : S.isNum rd := by rw [HRM.out]; exact (made_ok HK.out.1 HK.out.2.1 (a := (aN : Int).toNat) (by omega)).2.2.1
    have nx : S.isNum rx := by rw [HRX.out]; exact (made_ok HK.out.1 HK.out.2.1 (a := up.toNat) (by omega)).2.2.1
    have ny : S.isNum ry := by rw [HRY.out]; exact (made_ok HK.out.1 HK.out.2.1 (a := down.toNat) (by omega)).2.2.1
    have ns : S.isNum rs := by rw [HRS.out]; exact (spd_ok HK.out.1 HK.out.2.1 ha0 ha1).2.2.1
    have nz : S.isNum rz := by rw [HRZ.out]; exact (spd_ok HK.out.1 HK.out.2.1 hfs.1 hfs.2).2.2.1
    have hm : S.fval rd = S.fval (madeW P x aN) := by rw [HRM.out]; simp
    have hx' : S.fval rx = S.fval (madeW P x up.toNat) := by rw [HRX.out]
    have hy' : S.fval ry = S.fval (madeW P x down.toNat) := by rw [HRY.out]
    have hs' : S.fval rs = S.fval (spd P x aN) := by rw [HRS.out]
    have hz' : S.fval rz = S.fval (spd P x fast.toNat) := by
      rw [HRZ.out, show ((fast.toNat : Nat) : Int) = fast from Int.toNat_of_nonneg hfs.1]
    have f1 : fine = true → 0 < S.fval rx ∧ (aN ≤ 90 → S.fval rd ≤ S.fval rx) := fun h => by
      have := HU.out.2.1 h
      rw [hx', hm]
      exact ⟨this.1, fun h => this.2 aN h⟩
    have f2 : fine = false → aN ≤ 90 → S.fval rd ≤ 0 := fun h h' => by rw [hm]; exact HU.out.2.2 h aN h'
    have f3 : good = true → 91 ≤ down ∧ S.fval ry < 0 ∧ (90 < aN → S.fval ry ≤ S.fval rd) := fun h => by
      have := HDn.out.2.1 h
      rw [hy', hm]
      exact ⟨this.1, this.2.1, fun h => this.2.2 aN (by omega) ha2⟩
    have f4 : good = false → 90 < aN → 0 ≤ S.fval rd := fun h h' => by rw [hm]; exact HDn.out.2.2 h aN (by omega) ha2
    have f5 : full = true → S.fval rs ≤ S.fval rz := fun h => by rw [hs', hz']; exact HF.out.2.1 h aN ha2
    have f6 : full = false → S.fval rs ≤ 0 := fun h => by rw [hs']; exact HF.out.2.2 h aN ha2
    have zn := zero_num
    have zv := zero_val
    have FF := Lib.hid (And.intro f1 (And.intro f2 (And.intro f3 (And.intro f4 (And.intro f5 f6)))))
    have NN := Lib.hid (And.intro nm (And.intro nx (And.intro ny (And.intro ns (And.intro nz (And.intro zn zv))))))
    have HB := Lib.hid HS10.out.below
    clear f1 f2 f3 f4 f5 f6 hm hx' hy' hs' hz' nm nx ny ns nz zn zv HRM HRS HRX HRY HRZ HU HDn HF HK HX HA hdn hfs ha0 ha1 ha2 HS10
    go_upto_region 17 with fail
    go_cut [136] (fun s136 wx => s136 = .bool false ∧ wx = w10)
    case first =>
      rcases Nat.lt_or_ge 90 aN with hb | hb
      · have q1 : ¬ (aN : Int) ≤ 90 := by omega
        have q2 : (90 : Int) < (aN : Int) := by omega
        cases fine
        · skip
          cases good
          · skip
            go_wp2_with fail
            go_meet
            exact ⟨rfl, rfl⟩
          · have p4 : ¬ down < 91 := by have := (FF.out.2.2.1 rfl).1; omega
            have p5 := ge_no NN.out.2.2.1 NN.out.2.2.2.2.2.1 (by have := (FF.out.2.2.1 rfl).2.1; have := NN.out.2.2.2.2.2.2; omega)
            have p6 := lt_no NN.out.1 NN.out.2.2.1 ((FF.out.2.2.1 rfl).2.2 hb)
            go_wp2_with fail
            go_meet
            exact ⟨rfl, rfl⟩
        · have p1 : ¬ (90 : Int) < up := by omega
          have p2 := le_no NN.out.2.1 NN.out.2.2.2.2.2.1 (by have := (FF.out.1 rfl).1; have := NN.out.2.2.2.2.2.2; omega)
          cases good
          · skip
            go_wp2_with fail
            go_meet
            exact ⟨rfl, rfl⟩
          · have p4 : ¬ down < 91 := by have := (FF.out.2.2.1 rfl).1; omega
            have p5 := ge_no NN.out.2.2.1 NN.out.2.2.2.2.2.1 (by have := (FF.out.2.2.1 rfl).2.1; have := NN.out.2.2.2.2.2.2; omega)
            have p6 := lt_no NN.out.1 NN.out.2.2.1 ((FF.out.2.2.1 rfl).2.2 hb)
            go_wp2_with fail
            go_meet
            exact ⟨rfl, rfl⟩
      · have q1 : (aN : Int) ≤ 90 := by omega
        have q2 : ¬ (90 : Int) < (aN : Int) := by omega
        cases fine
        · skip
          cases good
          · skip
            go_wp2_with fail
            go_meet
            exact ⟨rfl, rfl⟩
          · have p4 : ¬ down < 91 := by have := (FF.out.2.2.1 rfl).1; omega
            have p5 := ge_no NN.out.2.2.1 NN.out.2.2.2.2.2.1 (by have := (FF.out.2.2.1 rfl).2.1; have := NN.out.2.2.2.2.2.2; omega)
            go_wp2_with fail
            go_meet
            exact ⟨rfl, rfl⟩
        · have p1 : ¬ (90 : Int) < up := by omega
          have p2 := le_no NN.out.2.1 NN.out.2.2.2.2.2.1 (by have := (FF.out.1 rfl).1; have := NN.out.2.2.2.2.2.2; omega)
          have p3 := gt_no NN.out.1 NN.out.2.1 ((FF.out.1 rfl).2 hb)
          cases good
          · skip
            go_wp2_with fail
            go_meet
            exact ⟨rfl, rfl⟩
          · have p4 : ¬ down < 91 := by have := (FF.out.2.2.1 rfl).1; omega
            have p5 := ge_no NN.out.2.2.1 NN.out.2.2.2.2.2.1 (by have := (FF.out.2.2.1 rfl).2.1; have := NN.out.2.2.2.2.2.2; omega)
            go_wp2_with fail
            go_meet
            exact ⟨rfl, rfl⟩
    case rest =>
    obtain ⟨rfl, rfl⟩ := hcut
    rcases Nat.lt_or_ge 90 aN with hb | hb
    · have q1 : ¬ (aN : Int) ≤ 90 := by omega
      have q2 : (90 : Int) < (aN : Int) := by omega
      cases fine
      · skip
        cases good
        · have r2 := ge_yes NN.out.1 NN.out.2.2.2.2.2.1 (by have := FF.out.2.2.2.1 rfl hb; have := NN.out.2.2.2.2.2.2; omega)
          cases full
          · have r4 := le_yes NN.out.2.2.2.1 NN.out.2.2.2.2.2.1 (by have := FF.out.2.2.2.2.2 rfl; have := NN.out.2.2.2.2.2.2; omega)
            go_wp2
            go_ret
            exact ⟨rfl, HB.out⟩
          · have r3 := le_yes NN.out.2.2.2.1 NN.out.2.2.2.2.1 (FF.out.2.2.2.2.1 rfl)
            go_wp2
            go_ret
            exact ⟨rfl, HB.out⟩
        · skip
          cases full
          · have r4 := le_yes NN.out.2.2.2.1 NN.out.2.2.2.2.2.1 (by have := FF.out.2.2.2.2.2 rfl; have := NN.out.2.2.2.2.2.2; omega)
            go_wp2
            go_ret
            exact ⟨rfl, HB.out⟩
          · have r3 := le_yes NN.out.2.2.2.1 NN.out.2.2.2.2.1 (FF.out.2.2.2.2.1 rfl)
            go_wp2
            go_ret
            exact ⟨rfl, HB.out⟩
      · skip
        cases good
        · have r2 := ge_yes NN.out.1 NN.out.2.2.2.2.2.1 (by have := FF.out.2.2.2.1 rfl hb; have := NN.out.2.2.2.2.2.2; omega)
          cases full
          · have r4 := le_yes NN.out.2.2.2.1 NN.out.2.2.2.2.2.1 (by have := FF.out.2.2.2.2.2 rfl; have := NN.out.2.2.2.2.2.2; omega)
            go_wp2
            go_ret
            exact ⟨rfl, HB.out⟩
          · have r3 := le_yes NN.out.2.2.2.1 NN.out.2.2.2.2.1 (FF.out.2.2.2.2.1 rfl)
            go_wp2
            go_ret
            exact ⟨rfl, HB.out⟩
        · skip
          cases full
          · have r4 := le_yes NN.out.2.2.2.1 NN.out.2.2.2.2.2.1 (by have := FF.out.2.2.2.2.2 rfl; have := NN.out.2.2.2.2.2.2; omega)
            go_wp2
            go_ret
            exact ⟨rfl, HB.out⟩
          · have r3 := le_yes NN.out.2.2.2.1 NN.out.2.2.2.2.1 (FF.out.2.2.2.2.1 rfl)
            go_wp2
            go_ret
            exact ⟨rfl, HB.out⟩
    · have q1 : (aN : Int) ≤ 90 := by omega
      have q2 : ¬ (90 : Int) < (aN : Int) := by omega
      cases fine
      · have r1 := le_yes NN.out.1 NN.out.2.2.2.2.2.1 (by have := FF.out.2.1 rfl hb; have := NN.out.2.2.2.2.2.2; omega)
        cases good
        · skip
          cases full
          · have r4 := le_yes NN.out.2.2.2.1 NN.out.2.2.2.2.2.1 (by have := FF.out.2.2.2.2.2 rfl; have := NN.out.2.2.2.2.2.2; omega)
            go_wp2
            go_ret
            exact ⟨rfl, HB.out⟩
          · have r3 := le_yes NN.out.2.2.2.1 NN.out.2.2.2.2.1 (FF.out.2.2.2.2.1 rfl)
            go_wp2
            go_ret
            exact ⟨rfl, HB.out⟩
        · skip
          cases full
          · have r4 := le_yes NN.out.2.2.2.1 NN.out.2.2.2.2.2.1 (by have := FF.out.2.2.2.2.2 rfl; have := NN.out.2.2.2.2.2.2; omega)
            go_wp2
            go_ret
            exact ⟨rfl, HB.out⟩
          · have r3 := le_yes NN.out.2.2.2.1 NN.out.2.2.2.2.1 (FF.out.2.2.2.2.1 rfl)
            go_wp2
            go_ret
            exact ⟨rfl, HB.out⟩
      · skip
        cases good
        · skip
          cases full
          · have r4 := le_yes NN.out.2.2.2.1 NN.out.2.2.2.2.2.1 (by have := FF.out.2.2.2.2.2 rfl; have := NN.out.2.2.2.2.2.2; omega)
            go_wp2
            go_ret
            exact ⟨rfl, HB.out⟩
          · have r3 := le_yes NN.out.2.2.2.1 NN.out.2.2.2.2.1 (FF.out.2.2.2.2.1 rfl)
            go_wp2
            go_ret
            exact ⟨rfl, HB.out⟩
        · skip
          cases full
          · have r4 := le_yes NN.out.2.2.2.1 NN.out.2.2.2.2.2.1 (by have := FF.out.2.2.2.2.2 rfl; have := NN.out.2.2.2.2.2.2; omega)
            go_wp2
            go_ret
            exact ⟨rfl, HB.out⟩
          · have r3 := le_yes NN.out.2.2.2.1 NN.out.2.2.2.2.1 (FF.out.2.2.2.2.1 rfl)
            go_wp2
            go_ret
            exact ⟨rfl, HB.out⟩
  · go_enter Try.func4, Try.ntmps4
    go_wp2
    go_ret
    exact ⟨rfl, Below.refl _ _⟩
end Go.Proofs.Ytdhdefhllleeiaa

/- TackHeadings and JibeHeadings (impl and spec). -/
import Derived.Test.YtonoknbangnleaaGreatTkA
import Derived.Test.YtonoknbangnleaaGreatPZ
namespace Go.Proofs.YtonoknbangnleaaGreat
open Go.RowKit Ieee
set_option linter.unusedVariables false
set_option linter.unusedSimpArgs false

/-- Three results. -/
theorem results_hd {P : Program} {fn : Func} {t u v : Tmp} (h : fn.results = #[.tmp t, .tmp u, .tmp v]) (tmps : Array Value) (w : World) :
    (results fn tmps).run P w = .ok (.tuple #[tmps.getD t undef, tmps.getD u undef, tmps.getD v undef]) w := by
  simp [results, h]
/-- The headings at a best angle, and whether there are any. -/
def hdT (f : Int) (u : Int × Bool) : Bool := !(decide (f = -1)) && u.2
def hdA (f : Int) (u : Int × Bool) : Int := if hdT f u = true then (f - u.1) % 360 else 0
def hdB (f : Int) (u : Int × Bool) : Int := if hdT f u = true then (f + u.1) % 360 else 0
theorem hd_cases (f b : Int) (t : Bool) : (f = -1 ∨ t = false → hdA f (b, t) = 0 ∧ hdB f (b, t) = 0 ∧ hdT f (b, t) = false) ∧ (¬ f = -1 ∧ t = true → hdA f (b, t) = (f - b) % 360 ∧ hdB f (b, t) = (f + b) % 360 ∧ hdT f (b, t) = true) := by
  constructor
  · intro h
    have e : hdT f (b, t) = false := by unfold hdT; rcases h with h | h <;> simp [h]
    unfold hdA hdB
    rw [e]; exact ⟨rfl, rfl, rfl⟩
  · intro h
    have e : hdT f (b, t) = true := by unfold hdT; simp [h.1, h.2]
    unfold hdA hdB
    rw [e]; exact ⟨rfl, rfl, rfl⟩
theorem i_hdAt (f a : Int) (w : World) (h0 : -1 ≤ f) (h1 : f < 360) (h2 : 0 ≤ a) (h3 : a ≤ 180) :
    Calls Tryz.prog 64 #[.int .i64 f, .int .i64 a] w fun e w' => e = .returned (.tuple #[.int .i64 ((f - a) % 360), .int .i64 ((f + a) % 360)]) ∧ w = w' := by
  have d1 := fun w => i_deg (f - a) w
  have d2 := fun w => i_deg (f + a) w
  go_enter Tryz.func64, Tryz.ntmps64
  go_wp2_with (first
    | (go_at_call 87; ((with_reducible refine (d1 _).mono ?_); rintro e w' ⟨rfl, rfl⟩))
    | (go_at_call 87; ((with_reducible refine (d2 _).mono ?_); rintro e w' ⟨rfl, rfl⟩)))
  go_ret2
  exact ⟨rfl, rfl⟩
set_option maxRecDepth 100000 in
set_option maxHeartbeats 2000000 in
theorem i_hdUp (P : Pol) (v : Nat × Nat) (w : World) (h : PolIn w P) (ha : v.1 < 4294967296) (hb : v.2 < 4294967296) :
    Calls Tryz.prog 54 #[.agg #[.slice P.W P.nw P.cw, .slice P.A P.na P.ca, .slice P.S P.ns P.cs], .complex .f32 v.1 v.2, .func (.func 10) #[] #[]] w
      fun e w' => e = .returned (.tuple #[.int .i64 (hdA (frm v) (upE P (wsW v))), .int .i64 (hdB (frm v) (upE P (wsW v))), .bool (hdT (frm v) (upE P (wsW v)))]) ∧ Below w.heap.size w w' := by
  have HF := Lib.hid (fun w => i_from v.1 v.2 _ w ha hb (frm_is v))
  have HW := Lib.hid (fun w => i_wsp v w ha hb)
  have HU := Lib.hid (fun w' (hk : Keeps w w') => i_upE P (wsW v) w' (h.keeps hk) (wsW_lt v))
  obtain ⟨f0, f1⟩ := frm_bd v
  obtain ⟨u0, u1⟩ := outE_bd (upE_is P (wsW v))
  generalize frm v = f at *
  generalize upE P (wsW v) = u at *
  generalize wsW v = x at *
  obtain ⟨b, t⟩ := u
  obtain ⟨v1, v2⟩ := v
  dsimp only at *
  clear h ha hb
  have HX : Hid ((f = -1 ∨ t = false → hdA f (b, t) = 0 ∧ hdB f (b, t) = 0 ∧ hdT f (b, t) = false) ∧ (¬ f = -1 ∧ t = true → hdA f (b, t) = (f - b) % 360 ∧ hdB f (b, t) = (f + b) % 360 ∧ hdT f (b, t) = true)) := Lib.hid (hd_cases f b t)
  generalize hdA f (b, t) = A at *
  generalize hdB f (b, t) = B at *
  generalize hdT f (b, t) = T at *
  have k0 : ∀ w', BoxIn w P w' → w'.cell? ⟨w.heap.size, 0, none⟩ = some (.slice P.W P.nw P.cw) := fun w' hb => hb.c0
  have k1 : ∀ w', BoxIn w P w' → w'.cell? ⟨w.heap.size, 1, none⟩ = some (.slice P.A P.na P.ca) := fun w' hb => hb.c1
  have k2 : ∀ w', BoxIn w P w' → w'.cell? ⟨w.heap.size, 2, none⟩ = some (.slice P.S P.ns P.cs) := fun w' hb => hb.c2
  have hq : f = -1 ∨ (¬ f = -1 ∧ t = false) ∨ (¬ f = -1 ∧ t = true) := by
    by_cases hf : f = -1
    · left; exact hf
    · cases t
      · right; left; exact ⟨hf, rfl⟩
      · right; right; exact ⟨hf, rfl⟩
  go_enter Tryz.func54, Tryz.ntmps54
  go_wp2_with fail
  refine (HF.out _).mono ?_
  rintro e w1 ⟨rfl, b1⟩
  have hst := (BoxIn.new w P).step b1
  clear b1 HF
  rcases hq with rfl | ⟨hf, rfl⟩ | ⟨hf, rfl⟩
  · obtain ⟨rfl, rfl, rfl⟩ := HX.out.1 (.inl rfl)
    clear u0 u1 HX
    go_wp2
    go_region_held3 (fun w' => BoxIn w P w') (first | assumption | exact BoxIn.drawn (by assumption) (Drawn.one _ 1) | exact BoxIn.step (by assumption) (by assumption))
      (first
        | (go_at_call 7; with_reducible refine (HW.out _).mono ?_; rintro e w' ⟨rfl, b⟩)
        | (go_at_call 10; with_reducible refine (HU.out _ (BoxIn.keeps (by assumption))).mono ?_; rintro e w' ⟨rfl, b⟩))
    go_wp2
    (try simp only [Exit.inBlock, Exit.then])
    refine bodyPost_ret (results_hd rfl _ _) rfl ?_
    exact ⟨rfl, by first | assumption | exact BoxIn.below (by assumption)⟩
  · obtain ⟨rfl, rfl, rfl⟩ := HX.out.1 (.inr rfl)
    clear u0 u1 HX
    go_wp2
    go_region_held3 (fun w' => BoxIn w P w') (first | assumption | exact BoxIn.drawn (by assumption) (Drawn.one _ 1) | exact BoxIn.step (by assumption) (by assumption))
      (first
        | (go_at_call 7; with_reducible refine (HW.out _).mono ?_; rintro e w' ⟨rfl, b⟩)
        | (go_at_call 10; with_reducible refine (HU.out _ (BoxIn.keeps (by assumption))).mono ?_; rintro e w' ⟨rfl, b⟩))
    go_wp2
    (try simp only [Exit.inBlock, Exit.then])
    refine bodyPost_ret (results_hd rfl _ _) rfl ?_
    exact ⟨rfl, by first | assumption | exact BoxIn.below (by assumption)⟩
  · obtain ⟨rfl, rfl, rfl⟩ := HX.out.2 ⟨hf, rfl⟩
    have hb := u0 rfl
    have HH := Lib.hid (fun w => i_hdAt f b w f0 f1 (by omega) (by omega))
    clear u0 u1 HX hb
    go_wp2
    go_region_held3 (fun w' => BoxIn w P w') (first | assumption | exact BoxIn.drawn (by assumption) (Drawn.one _ 1) | exact BoxIn.step (by assumption) (by assumption))
      (first
        | (go_at_call 7; with_reducible refine (HW.out _).mono ?_; rintro e w' ⟨rfl, b⟩)
        | (go_at_call 10; with_reducible refine (HU.out _ (BoxIn.keeps (by assumption))).mono ?_; rintro e w' ⟨rfl, b⟩))
    go_wp2_with (go_at_call 64; ((with_reducible refine (HH.out _).mono ?_); rintro e w' ⟨rfl, rfl⟩))
    (try simp only [Exit.inBlock, Exit.then])
    refine bodyPost_ret (results_hd rfl _ _) rfl ?_
    exact ⟨rfl, by first | assumption | exact BoxIn.below (by assumption)⟩
set_option maxRecDepth 100000 in
set_option maxHeartbeats 1000000 in
theorem i_TackHeadings (P : Pol) (v : Nat × Nat) (w : World) (h : PolIn w P) (ha : v.1 < 4294967296) (hb : v.2 < 4294967296) :
    Calls Tryz.prog 28 #[.agg #[.slice P.W P.nw P.cw, .slice P.A P.na P.ca, .slice P.S P.ns P.cs], .complex .f32 v.1 v.2] w
      fun e w' => e = .returned (.tuple #[.int .i64 (hdA (frm v) (upE P (wsW v))), .int .i64 (hdB (frm v) (upE P (wsW v))), .bool (hdT (frm v) (upE P (wsW v)))]) ∧ Below w.heap.size w w' := by
  have HC := Lib.hid (fun w' (hk : Keeps w w') => i_hdUp P v w' (h.keeps hk) ha hb)
  generalize hdA (frm v) (upE P (wsW v)) = A at *
  generalize hdB (frm v) (upE P (wsW v)) = B at *
  generalize hdT (frm v) (upE P (wsW v)) = T at *
  obtain ⟨v1, v2⟩ := v
  dsimp only at *
  clear h ha hb
  have hst := BoxIn.new w P
  have k0 := hst.c0
  have k1 := hst.c1
  have k2 := hst.c2
  have HB := Lib.hid hst
  clear hst
  go_enter Tryz.func28, Tryz.ntmps28
  go_wp2_with fail
  refine (HC.out _ HB.out.keeps).mono ?_
  rintro e w1 ⟨rfl, b1⟩
  have HB1 := Lib.hid (HB.out.step b1)
  clear k0 k1 k2 HB b1
  go_wp2
  (try simp only [Exit.inBlock, Exit.then])
  refine bodyPost_ret (results_hd rfl _ _) rfl ?_
  exact ⟨rfl, HB1.out.below⟩
set_option maxRecDepth 100000 in
set_option maxHeartbeats 2000000 in
theorem s_TackHeadings (P : Pol) (v : Nat × Nat) (w : World) (h : PolIn w P) (ha : v.1 < 4294967296) (hb : v.2 < 4294967296) :
    Calls Tryz.prog 17 #[.agg #[.slice P.W P.nw P.cw, .slice P.A P.na P.ca, .slice P.S P.ns P.cs], .complex .f32 v.1 v.2] w
      fun e w' => e = .returned (.tuple #[.int .i64 (hdA (frm v) (upE P (wsW v))), .int .i64 (hdB (frm v) (upE P (wsW v))), .bool (hdT (frm v) (upE P (wsW v)))]) ∧ Below w.heap.size w w' := by
  have HF := Lib.hid (fun w => s_from v.1 v.2 _ w ha hb (frm_is v))
  have HW := Lib.hid (fun w => s_wsp v w ha hb)
  have HU := Lib.hid (fun w' (hk : Keeps w w') => s_upE P (wsW v) w' (h.keeps hk) (wsW_lt v))
  obtain ⟨f0, f1⟩ := frm_bd v
  obtain ⟨u0, u1⟩ := outE_bd (upE_is P (wsW v))
  generalize frm v = f at *
  generalize upE P (wsW v) = u at *
  generalize wsW v = x at *
  obtain ⟨b, t⟩ := u
  obtain ⟨v1, v2⟩ := v
  dsimp only at *
  clear h ha hb
  have HX : Hid ((f = -1 ∨ t = false → hdA f (b, t) = 0 ∧ hdB f (b, t) = 0 ∧ hdT f (b, t) = false) ∧ (¬ f = -1 ∧ t = true → hdA f (b, t) = (f - b) % 360 ∧ hdB f (b, t) = (f + b) % 360 ∧ hdT f (b, t) = true)) := Lib.hid (hd_cases f b t)
  generalize hdA f (b, t) = A at *
  generalize hdB f (b, t) = B at *
  generalize hdT f (b, t) = T at *
  have k0 : ∀ w', BoxIn w P w' → w'.cell? ⟨w.heap.size, 0, none⟩ = some (.slice P.W P.nw P.cw) := fun w' hb => hb.c0
  have k1 : ∀ w', BoxIn w P w' → w'.cell? ⟨w.heap.size, 1, none⟩ = some (.slice P.A P.na P.ca) := fun w' hb => hb.c1
  have k2 : ∀ w', BoxIn w P w' → w'.cell? ⟨w.heap.size, 2, none⟩ = some (.slice P.S P.ns P.cs) := fun w' hb => hb.c2
  have hq : f = -1 ∨ (¬ f = -1 ∧ t = false) ∨ (¬ f = -1 ∧ t = true) := by
    by_cases hf : f = -1
    · left; exact hf
    · cases t
      · right; left; exact ⟨hf, rfl⟩
      · right; right; exact ⟨hf, rfl⟩
  have hst := BoxIn.new w P
  go_enter Tryz.func17, Tryz.ntmps17
  go_wp2_with fail
  refine (HF.out _).mono ?_
  rintro e w1 ⟨rfl, rfl⟩
  clear HF
  rcases hq with rfl | ⟨hf, rfl⟩ | ⟨hf, rfl⟩
  · obtain ⟨rfl, rfl, rfl⟩ := HX.out.1 (.inl rfl)
    clear u0 u1 HX
    go_wp2
    go_region_held3 (fun w' => BoxIn w P w') (first | assumption | exact BoxIn.drawn (by assumption) (Drawn.one _ 1) | exact BoxIn.step (by assumption) (by assumption))
      (first
        | (go_at_call 47; with_reducible refine (HW.out _).mono ?_; rintro e w' ⟨rfl, rfl⟩)
        | (go_at_call 46; with_reducible refine (HU.out _ (BoxIn.keeps (by assumption))).mono ?_; rintro e w' ⟨rfl, b⟩))
    go_wp2
    (try simp only [Exit.inBlock, Exit.then])
    refine bodyPost_ret (results_hd rfl _ _) rfl ?_
    exact ⟨rfl, by first | assumption | exact BoxIn.below (by assumption)⟩
  · have hf0 : ¬ f < 0 := by omega
    obtain ⟨rfl, rfl, rfl⟩ := HX.out.1 (.inr rfl)
    clear u0 u1 HX
    go_wp2
    go_region_held3 (fun w' => BoxIn w P w') (first | assumption | exact BoxIn.drawn (by assumption) (Drawn.one _ 1) | exact BoxIn.step (by assumption) (by assumption))
      (first
        | (go_at_call 47; with_reducible refine (HW.out _).mono ?_; rintro e w' ⟨rfl, rfl⟩)
        | (go_at_call 46; with_reducible refine (HU.out _ (BoxIn.keeps (by assumption))).mono ?_; rintro e w' ⟨rfl, b⟩))
    go_wp2
    (try simp only [Exit.inBlock, Exit.then])
    refine bodyPost_ret (results_hd rfl _ _) rfl ?_
    exact ⟨rfl, by first | assumption | exact BoxIn.below (by assumption)⟩
  · have hf0 : ¬ f < 0 := by omega
    obtain ⟨rfl, rfl, rfl⟩ := HX.out.2 ⟨hf, rfl⟩
    have hb := u0 rfl
    have d1 := fun w => s_deg (f - b) w
    have d2 := fun w => s_deg (f + b) w
    clear u0 u1 HX
    go_wp2
    go_region_held3 (fun w' => BoxIn w P w') (first | assumption | exact BoxIn.drawn (by assumption) (Drawn.one _ 1) | exact BoxIn.step (by assumption) (by assumption))
      (first
        | (go_at_call 47; with_reducible refine (HW.out _).mono ?_; rintro e w' ⟨rfl, rfl⟩)
        | (go_at_call 46; with_reducible refine (HU.out _ (BoxIn.keeps (by assumption))).mono ?_; rintro e w' ⟨rfl, b⟩))
    go_wp2_with (first
      | (go_at_call 48; ((with_reducible refine (d1 _).mono ?_); rintro e w' ⟨rfl, rfl⟩))
      | (go_at_call 48; ((with_reducible refine (d2 _).mono ?_); rintro e w' ⟨rfl, rfl⟩)))
    (try simp only [Exit.inBlock, Exit.then])
    refine bodyPost_ret (results_hd rfl _ _) rfl ?_
    exact ⟨rfl, by first | assumption | exact BoxIn.below (by assumption)⟩
set_option maxRecDepth 100000 in
set_option maxHeartbeats 2000000 in
theorem i_hdDn (P : Pol) (v : Nat × Nat) (w : World) (h : PolIn w P) (ha : v.1 < 4294967296) (hb : v.2 < 4294967296) :
    Calls Tryz.prog 54 #[.agg #[.slice P.W P.nw P.cw, .slice P.A P.na P.ca, .slice P.S P.ns P.cs], .complex .f32 v.1 v.2, .func (.func 6) #[] #[]] w
      fun e w' => e = .returned (.tuple #[.int .i64 (hdA (frm v) (dnE P (wsW v))), .int .i64 (hdB (frm v) (dnE P (wsW v))), .bool (hdT (frm v) (dnE P (wsW v)))]) ∧ Below w.heap.size w w' := by
  have HF := Lib.hid (fun w => i_from v.1 v.2 _ w ha hb (frm_is v))
  have HW := Lib.hid (fun w => i_wsp v w ha hb)
  have HU := Lib.hid (fun w' (hk : Keeps w w') => i_dnE P (wsW v) w' (h.keeps hk) (wsW_lt v))
  obtain ⟨f0, f1⟩ := frm_bd v
  obtain ⟨u0, u1⟩ := outE_bd (dnE_is P (wsW v))
  generalize frm v = f at *
  generalize dnE P (wsW v) = u at *
  generalize wsW v = x at *
  obtain ⟨b, t⟩ := u
  obtain ⟨v1, v2⟩ := v
  dsimp only at *
  clear h ha hb
  have HX : Hid ((f = -1 ∨ t = false → hdA f (b, t) = 0 ∧ hdB f (b, t) = 0 ∧ hdT f (b, t) = false) ∧ (¬ f = -1 ∧ t = true → hdA f (b, t) = (f - b) % 360 ∧ hdB f (b, t) = (f + b) % 360 ∧ hdT f (b, t) = true)) := Lib.hid (hd_cases f b t)
  generalize hdA f (b, t) = A at *
  generalize hdB f (b, t) = B at *
  generalize hdT f (b, t) = T at *
  have k0 : ∀ w', BoxIn w P w' → w'.cell? ⟨w.heap.size, 0, none⟩ = some (.slice P.W P.nw P.cw) := fun w' hb => hb.c0
  have k1 : ∀ w', BoxIn w P w' → w'.cell? ⟨w.heap.size, 1, none⟩ = some (.slice P.A P.na P.ca) := fun w' hb => hb.c1
  have k2 : ∀ w', BoxIn w P w' → w'.cell? ⟨w.heap.size, 2, none⟩ = some (.slice P.S P.ns P.cs) := fun w' hb => hb.c2
  have hq : f = -1 ∨ (¬ f = -1 ∧ t = false) ∨ (¬ f = -1 ∧ t = true) := by
    by_cases hf : f = -1
    · left; exact hf
    · cases t
      · right; left; exact ⟨hf, rfl⟩
      · right; right; exact ⟨hf, rfl⟩
  go_enter Tryz.func54, Tryz.ntmps54
  go_wp2_with fail
  refine (HF.out _).mono ?_
  rintro e w1 ⟨rfl, b1⟩
  have hst := (BoxIn.new w P).step b1
  clear b1 HF
  rcases hq with rfl | ⟨hf, rfl⟩ | ⟨hf, rfl⟩
  · obtain ⟨rfl, rfl, rfl⟩ := HX.out.1 (.inl rfl)
    clear u0 u1 HX
    go_wp2
    go_region_held3 (fun w' => BoxIn w P w') (first | assumption | exact BoxIn.drawn (by assumption) (Drawn.one _ 1) | exact BoxIn.step (by assumption) (by assumption))
      (first
        | (go_at_call 7; with_reducible refine (HW.out _).mono ?_; rintro e w' ⟨rfl, b⟩)
        | (go_at_call 6; with_reducible refine (HU.out _ (BoxIn.keeps (by assumption))).mono ?_; rintro e w' ⟨rfl, b⟩))
    go_wp2
    (try simp only [Exit.inBlock, Exit.then])
    refine bodyPost_ret (results_hd rfl _ _) rfl ?_
    exact ⟨rfl, by first | assumption | exact BoxIn.below (by assumption)⟩
  · obtain ⟨rfl, rfl, rfl⟩ := HX.out.1 (.inr rfl)
    clear u0 u1 HX
    go_wp2
    go_region_held3 (fun w' => BoxIn w P w') (first | assumption | exact BoxIn.drawn (by assumption) (Drawn.one _ 1) | exact BoxIn.step (by assumption) (by assumption))
      (first
        | (go_at_call 7; with_reducible refine (HW.out _).mono ?_; rintro e w' ⟨rfl, b⟩)
        | (go_at_call 6; with_reducible refine (HU.out _ (BoxIn.keeps (by assumption))).mono ?_; rintro e w' ⟨rfl, b⟩))
    go_wp2
    (try simp only [Exit.inBlock, Exit.then])
    refine bodyPost_ret (results_hd rfl _ _) rfl ?_
    exact ⟨rfl, by first | assumption | exact BoxIn.below (by assumption)⟩
  · obtain ⟨rfl, rfl, rfl⟩ := HX.out.2 ⟨hf, rfl⟩
    have hb := u0 rfl
    have HH := Lib.hid (fun w => i_hdAt f b w f0 f1 (by omega) (by omega))
    clear u0 u1 HX hb
    go_wp2
    go_region_held3 (fun w' => BoxIn w P w') (first | assumption | exact BoxIn.drawn (by assumption) (Drawn.one _ 1) | exact BoxIn.step (by assumption) (by assumption))
      (first
        | (go_at_call 7; with_reducible refine (HW.out _).mono ?_; rintro e w' ⟨rfl, b⟩)
        | (go_at_call 6; with_reducible refine (HU.out _ (BoxIn.keeps (by assumption))).mono ?_; rintro e w' ⟨rfl, b⟩))
    go_wp2_with (go_at_call 64; ((with_reducible refine (HH.out _).mono ?_); rintro e w' ⟨rfl, rfl⟩))
    (try simp only [Exit.inBlock, Exit.then])
    refine bodyPost_ret (results_hd rfl _ _) rfl ?_
    exact ⟨rfl, by first | assumption | exact BoxIn.below (by assumption)⟩
end Go.Proofs.YtonoknbangnleaaGreat

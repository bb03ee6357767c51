/- TimeTo (impl) where a place can be fetched. -/
import Derived.Test.YtonoknbangnleaaGreatLyB
namespace Go.Proofs.YtonoknbangnleaaGreat
open Go.RowKit Ieee
set_option linter.unusedVariables false
set_option linter.unusedSimpArgs false

/-- The seconds for a way at a speed, and whether they can be told. -/
noncomputable def secV (m a : Nat) : Int × Bool := Classical.epsilon (fun p : Int × Bool => SecIs m a p.1 p.2)
theorem secV_is {m a : Nat} {n : Int} {t : Bool} (h : SecIs m a n t) : secV m a = (n, t) := by
  have k : SecIs m a (secV m a).1 (secV m a).2 := Classical.epsilon_spec (p := fun p : Int × Bool => SecIs m a p.1 p.2) ⟨(n, t), h⟩
  obtain ⟨e1, e2⟩ := k.same h
  exact Prod.ext e1 e2
theorem i_secV (m a : Nat) (w : World) (hm : m < 18446744073709551616) (ha : a < 18446744073709551616) :
    Calls Tryz.prog 13 #[.float .f64 m, .float .f64 a] w fun e w' => e = .returned (.tuple #[.int .i64 (secV m a).1, .bool (secV m a).2]) ∧ w = w' :=
  (i_sec m a w hm ha).mono fun e w' ⟨⟨n, t, h1, h2⟩, h3⟩ => by
    rw [secV_is h1]; exact ⟨h2, h3⟩
theorem up_valid {P : Pol} {x : Nat} (h : (upE P x).2 = true) : PolOk P ∧ okA x := by
  rcases upE_is P x with ⟨hv, _⟩ | ⟨_, k⟩
  · exact hv
  · rw [k] at h; cases h
/-- The speed at an angle, asked where it can be told. -/
theorem spd_wid {P : Pol} {x : Nat} {a : Int} (hP : PolOk P) (hx : okA x) (h0 : 0 ≤ a) (h1 : a ≤ 180) : floatToFloatBits .f32 (spd P x a) .f64 = some (wid (spd P x a)) := by
  obtain ⟨_, k1, k2, _⟩ := spd_ok hP hx h0 h1
  exact (wid_num k1 k2).1
theorem i_spd (P : Pol) (x : Nat) (a : Int) (w : World) (h : PolIn w P) (hP : PolOk P) (hx : okA x) (h0 : 0 ≤ a) (h1 : a ≤ 180) (hl : x < 4294967296) :
    Calls Tryz.prog 11 #[.agg #[.slice P.W P.nw P.cw, .slice P.A P.na P.ca, .slice P.S P.ns P.cs], .float .f32 x, .int .i64 a] w fun e w' => e = .returned (.tuple #[.float .f32 (spd P x a), .bool true]) ∧ Below w.heap.size w w' :=
  (i_SpeedAt P x a w h hl).mono fun e w' ⟨b, k⟩ => by
    rcases k with ⟨_, k⟩ | ⟨k, _⟩
    · exact ⟨k, b⟩
    · exact absurd ⟨hP, hx, h0, h1⟩ k
theorem btw_bd (a b : Int) : 0 ≤ btw a b ∧ btw a b ≤ 180 := by unfold btw; split <;> omega
theorem lenX_lt (z : Nat × Nat) : lenX z < 18446744073709551616 := by
  rcases lenX_is z with ⟨_, h⟩ | ⟨_, _, h⟩
  · rw [h]; omega
  · rcases h with ⟨_, h⟩ | ⟨h1, g, h2, h⟩
    · rw [h]; omega
    · rw [h]
      obtain ⟨_, _, _, _, h3⟩ := newt_ops h1 h2 59
      exact FloatKind.f64.format.div_lt h3
theorem meth_angle (k : Nat) (v : Value) (w : World) : (method (k + 1) 75 v "loop.example/g03321/impl.angle").run Tryz.prog w = .ok (133, v) w := by kernel_rfl
theorem enter_angle (v : Value) (w : World) : (callFunc 133 #[v]).run Tryz.prog w = .ok (.enter 133 #[v]) w := by kernel_rfl
attribute [local go_sem] mk_str as_str as_beat as_runn call_angle meth_angle enter_angle
set_option maxRecDepth 100000 in
set_option maxHeartbeats 2000000 in
theorem i_time (P : Pol) (v z : Nat × Nat) (w : World) (h : PolIn w P) (ha : v.1 < 4294967296) (hb : v.2 < 4294967296) (h1 : z.1 < 18446744073709551616) (h2 : z.2 < 18446744073709551616)
    (hf : ¬ frm v = -1) (hk : ¬ brg z = -1) (hu : (upE P (wsW v)).2 = true) (hd : (dnE P (wsW v)).2 = true) (o1 : (upE P (wsW v)).1 ≤ btw (frm v) (brg z)) (o2 : btw (frm v) (brg z) ≤ (dnE P (wsW v)).1) :
    Calls Tryz.prog 12 #[.agg #[.slice P.W P.nw P.cw, .slice P.A P.na P.ca, .slice P.S P.ns P.cs], .complex .f32 v.1 v.2, .complex .f64 z.1 z.2] w
      fun e w' => e = .returned (.tuple #[.int .i64 (secV (lenX z) (wid (spd P (wsW v) (btw (frm v) (brg z))))).1, .bool (secV (lenX z) (wid (spd P (wsW v) (btw (frm v) (brg z))))).2]) ∧ Below w.heap.size w w' := by
  obtain ⟨hP, hx⟩ := up_valid hu
  obtain ⟨b0, b1⟩ := btw_bd (frm v) (brg z)
  have HC := Lib.hid (fun w' (hk' : Keeps w w') => i_sail P v z w' (h.keeps hk') ha hb h1 h2 hf hk hu hd o1 o2)
  have HF := Lib.hid (fun w => i_from v.1 v.2 _ w ha hb (frm_is v))
  have HM := Lib.hid (fun w' => i_metres z (btw (frm v) (brg z)) (frm v) w' h1 h2)
  have HW := Lib.hid (fun w => i_wsp v w ha hb)
  have HA := Lib.hid (fun w => i_angle (btw (frm v) (brg z)) w)
  have HQ := Lib.hid (fun w' (hk' : Keeps w w') => i_spd P (wsW v) (btw (frm v) (brg z)) w' (h.keeps hk') hP hx b0 b1 (wsW_lt v))
  have HS := Lib.hid (fun w => i_secV (lenX z) (wid (spd P (wsW v) (btw (frm v) (brg z)))) w (lenX_lt z) (wid_lt _))
  have hs2 : (Tryz.prog.underlying 35).isSome = true := by rw [Tryz.underlying35]; rfl
  have q := fun w => run_convert_float_float (P := Tryz.prog) w 35 42 .f32 .f64 _ _ hs2 Tryz.underlying42 (spd_wid hP hx b0 b1)
  clear hP hx b0 b1 ha hb h1 h2 hf hk hu hd o1 o2 h hs2
  generalize secV (lenX z) (wid (spd P (wsW v) (btw (frm v) (brg z)))) = sec at *
  generalize wid (spd P (wsW v) (btw (frm v) (brg z))) = s' at *
  generalize spd P (wsW v) (btw (frm v) (brg z)) = s at *
  generalize btw (frm v) (brg z) = o at *
  generalize frm v = f at *
  generalize wsW v = x at *
  generalize lenX z = l at *
  obtain ⟨sn, st⟩ := sec
  obtain ⟨v1, v2⟩ := v
  obtain ⟨z1, z2⟩ := z
  dsimp only at *
  have k0 : ∀ w', BoxIn w P w' → w'.cell? ⟨w.heap.size, 0, none⟩ = some (.slice P.W P.nw P.cw) := fun w' hb => hb.c0
  have k1 : ∀ w', BoxIn w P w' → w'.cell? ⟨w.heap.size, 1, none⟩ = some (.slice P.A P.na P.ca) := fun w' hb => hb.c1
  have k2 : ∀ w', BoxIn w P w' → w'.cell? ⟨w.heap.size, 2, none⟩ = some (.slice P.S P.ns P.cs) := fun w' hb => hb.c2
  have hst := BoxIn.new w P
  have c0 := hst.c0
  have c1 := hst.c1
  have c2 := hst.c2
  have HB := Lib.hid hst
  clear hst
  go_enter Tryz.func12, Tryz.ntmps12
  go_wp2_with fail
  refine (HC.out _ HB.out.keeps).mono ?_
  rintro e w1 ⟨rfl, b1⟩
  have HB1 := Lib.hid (HB.out.step b1)
  clear c0 c1 c2 HB b1 HC
  go_wp2_with fail
  refine (HF.out _).mono ?_
  rintro e w2 ⟨rfl, b2⟩
  have hst := HB1.out.step b2
  clear HB1 b2 HF
  go_wp2_with (go_at_call 36; ((with_reducible refine (HM.out _).mono ?_); rintro e w' ⟨rfl, rfl⟩))
  go_region_held3 (fun w' => BoxIn w P w') (first | assumption | exact BoxIn.drawn (by assumption) (Drawn.one _ 1) | exact BoxIn.step (by assumption) (by assumption))
    (first
      | (go_at_call 7; with_reducible refine (HW.out _).mono ?_; rintro e w' ⟨rfl, b⟩)
      | (go_at_call 133; with_reducible refine (HA.out _).mono ?_; rintro e w' ⟨rfl, rfl⟩)
      | (go_at_call 11; with_reducible refine (HQ.out _ (BoxIn.keeps (by assumption))).mono ?_; rintro e w' ⟨rfl, b⟩))
  all_goals
    go_wp2_with (go_at_call 13; ((with_reducible refine (HS.out _).mono ?_); rintro e w' ⟨rfl, rfl⟩))
    go_ret2
    exact ⟨rfl, by first | assumption | exact BoxIn.below (by assumption)⟩
end Go.Proofs.YtonoknbangnleaaGreat

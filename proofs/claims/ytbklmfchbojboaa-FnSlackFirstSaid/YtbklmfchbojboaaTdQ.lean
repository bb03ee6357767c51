/- StreamAt, SlackFrom (spec). Made by gen_TdQ.py. -/
import Derived.Test.YtbklmfchbojboaaTdO
import Derived.Test.YtbklmfchbojboaaTdP
namespace Go.Proofs.Ytbklmfchbojboaa
open Go.RowKit Ieee
set_option linter.unusedSimpArgs false
set_option linter.unusedVariables false
attribute [local go_sem] st_cplx

theorem s_high_any (B : Nat) (T : Tid) (t : Int) (w : World) (hT : TidIn B w T) :
    Calls Try.prog 60 #[.agg #[.slice T.S T.ns T.cs, .slice T.H T.nh T.ch], .int .i64 t] w fun e w' => ∃ m : Int, e = .returned (.int .i64 m) ∧ Below w.heap.size w w' := by
  by_cases h : TidOk T ∧ 0 ≤ t ∧ t ≤ 10000000
  · exact (s_HighAt_yes B T t w hT h.1 h.2).mono fun e w' k => ⟨_, k⟩
  · exact (s_HighAt_no B T t w hT h).mono fun e w' k => ⟨_, k⟩
set_option maxRecDepth 100000 in
set_option maxHeartbeats 4000000 in
theorem s_StreamAt_no (B : Nat) (T : Tid) (a b : Nat) (ds : Nat → Nat) (t : Int) (w : World) (hT : TidIn B w T) (ha : a < 18446744073709551616) (hb : b < 18446744073709551616)
    (hds : TidOk T ∧ okP a ∧ okP b → NrOk T a b ds) (hno : ¬ ((TidOk T ∧ okP a ∧ okP b) ∧ 0 ≤ t ∧ t ≤ 10000000)) :
    Calls Try.prog 43 #[.agg #[.slice T.S T.ns T.cs, .slice T.H T.nh T.ch], .complex .f64 a b, .int .i64 t] w fun e w' => e = .returned (.tuple #[.complex .f32 0 0, .bool false]) ∧ Below w.heap.size w w' := by
  have HB := Lib.hid (BoxT.new hT)
  have k0 := HB.out.k0
  have k1 := HB.out.k1
  go_enter Try.func43, Try.ntmps43
  go_wp2_with fail
  generalize w.alloc (.cells #[.slice T.S T.ns T.cs, .slice T.H T.nh T.ch] 37) = w1 at *
  generalize w.heap.size = q at *
  by_cases hn : TidOk T ∧ okP a ∧ okP b
  · have HN := s_near_yes B T a b ds w1 HB.out.2.1 hn.1 ha hb hn.2 (hds hn)
    have HH := Lib.hid (fun wx (h : BoxT w B T q wx) => s_HighAt_no B T t wx h.2.1 (fun h => hno ⟨hn, h.2⟩))
    have hne : ¬ ((nr T ds : Int) < 0) := by omega
    clear hT hno hds hn
    generalize (nr T ds : Int) = n at *
    refine HN.mono ?_
    rintro e w2 ⟨rfl, b2⟩
    have HB2 := Lib.hid (HB.out.step b2)
    have k0 := HB2.out.k0
    have k1 := HB2.out.k1
    clear b2 HB
    go_wp2_with fail
    refine (HH.out _ HB2.out).mono ?_
    rintro e w3 ⟨rfl, b3⟩
    have HB3 := Lib.hid (HB2.out.step b3)
    clear b3 HB2
    go_wp2_with fail
    go_ret2
    exact ⟨rfl, HB3.out.2.2⟩
  · have HN := s_near_no B T a b w1 HB.out.2.1 ha hb hn
    have HH := Lib.hid (fun wx (h : BoxT w B T q wx) => s_high_any B T t wx h.2.1)
    clear hT hno hds hn
    refine HN.mono ?_
    rintro e w2 ⟨rfl, b2⟩
    have HB2 := Lib.hid (HB.out.step b2)
    have k0 := HB2.out.k0
    have k1 := HB2.out.k1
    clear b2 HB
    go_wp2_with fail
    refine (HH.out _ HB2.out).mono ?_
    rintro e w3 ⟨m, rfl, b3⟩
    have HB3 := Lib.hid (HB2.out.step b3)
    clear b3 HB2
    go_wp2_with fail
    go_ret2
    exact ⟨rfl, HB3.out.2.2⟩
set_option maxRecDepth 100000 in
set_option maxHeartbeats 8000000 in
theorem s_StreamAt_yes (B : Nat) (T : Tid) (a b : Nat) (ds : Nat → Nat) (u v : Nat) (t : Int) (w : World) (hT : TidIn B w T) (hok : TidOk T) (ha : a < 18446744073709551616) (hb : b < 18446744073709551616) (hab : okP a ∧ okP b) (hds : NrOk T a b ds)
    (ht : 0 ≤ t ∧ t ≤ 10000000) (hf : FlowIs (T.st (nr T ds)) (t - T.hi (fst (far T t) T.nh)) u v) :
    Calls Try.prog 43 #[.agg #[.slice T.S T.ns T.cs, .slice T.H T.nh T.ch], .complex .f64 a b, .int .i64 t] w fun e w' => e = .returned (.tuple #[.complex .f32 u v, .bool true]) ∧ Below w.heap.size w w' := by
  have HB := Lib.hid (BoxT.new hT)
  have hn1 := hok.1.1
  have hn2 := hok.2.1
  obtain ⟨gS, eS, _, _⟩ := hT.2.1 (by omega)
  obtain ⟨gH, eH, _, _⟩ := hT.2.2 (by omega)
  have hkl : nr T ds < T.ns := fstR_lt _ (by omega)
  have hml : fst (far T t) T.nh < T.nh := fst_lt _ (by omega)
  have hst := hok.1.2 _ hkl
  have hso := hT.1.1 _ hkl
  have hhi := (hok.2.2 _ hml).1
  have HN := Lib.hid (fun wx q (h : BoxT w B T q wx) => s_near_yes B T a b ds wx h.2.1 hok ha hb hab hds)
  have HH := Lib.hid (fun wx q (h : BoxT w B T q wx) => s_HighAt_yes B T t wx h.2.1 hok ht)
  have HS := Lib.hid (fun wx q (h : BoxT w B T q wx) => h.2.1.st eS hkl)
  have HT := Lib.hid (fun wx q (h : BoxT w B T q wx) => h.2.1.atH eH hml)
  have HG := Lib.hid (And.intro eS eH)
  have z1 : ((nr T ds : Nat) : Int) < (T.ns : Int) := by omega
  have z0 : (0 : Int) ≤ ((nr T ds : Nat) : Int) := by omega
  have z2 : ¬ ((nr T ds : Nat) : Int) < 0 := by omega
  have y1 : ((fst (far T t) T.nh : Nat) : Int) < (T.nh : Int) := by omega
  have y0 : (0 : Int) ≤ ((fst (far T t) T.nh : Nat) : Int) := by omega
  have y2 : ¬ ((fst (far T t) T.nh : Nat) : Int) < 0 := by omega
  have hw : IntKind.i64.wrap (t - T.hi (fst (far T t) T.nh)) = t - T.hi (fst (far T t) T.nh) := IntWalk.i64_in _ (by omega)
  have HF := Lib.hid (fun w => s_FlowAt_yes (litS (T.st (nr T ds))) (T.st (nr T ds)) (t - T.hi (fst (far T t) T.nh)) u v w (lit_is hso) hst.2 hf)
  clear hT hok hab hds hst hso eS eH hf
  generalize nr T ds = k at *
  generalize fst (far T t) T.nh = m at *
  generalize T.st k = Z at *
  generalize T.hi m = h0 at *
  have k0 := HB.out.k0
  have k1 := HB.out.k1
  go_enter Try.func43, Try.ntmps43
  go_wp2_with fail
  generalize w.alloc (.cells #[.slice T.S T.ns T.cs, .slice T.H T.nh T.ch] 37) = w1 at *
  generalize w.heap.size = q at *
  refine (HN.out _ _ HB.out).mono ?_
  rintro e w2 ⟨rfl, b2⟩
  have HB2 := Lib.hid (HB.out.step b2)
  have k0 := HB2.out.k0
  have k1 := HB2.out.k1
  clear b2 HB
  go_wp2_with fail
  refine (HH.out _ _ HB2.out).mono ?_
  rintro e w3 ⟨rfl, b3⟩
  have HB3 := Lib.hid (HB2.out.step b3)
  clear b3 HB2 k0 k1
  have k0 : ∀ w', BoxT w B T q w' → w'.cell? ⟨q, 0, none⟩ = some (.slice (some ⟨gS, 0, none⟩) T.ns T.cs) := fun w' h => by rw [← HG.out.1]; exact h.k0
  have k1 : ∀ w', BoxT w B T q w' → w'.cell? ⟨q, 1, none⟩ = some (.slice (some ⟨gH, 0, none⟩) T.nh T.ch) := fun w' h => by rw [← HG.out.2]; exact h.k1
  have hb3 := HB3.out
  have a0 : ∀ w', BoxT w B T q w' → w'.cell? ⟨gS, k * 14, none⟩ = some (.complex .f64 Z.a Z.b) := fun w' h => by simpa using HS.out w' q h 0 _ rfl
  have a1 : ∀ w', BoxT w B T q w' → w'.cell? ⟨gS, k * 14 + 1, none⟩ = some (.complex .f32 (Z.x 0) (Z.y 0)) := fun w' h => by simpa using HS.out w' q h 1 _ rfl
  have a2 : ∀ w', BoxT w B T q w' → w'.cell? ⟨gS, k * 14 + 2, none⟩ = some (.complex .f32 (Z.x 1) (Z.y 1)) := fun w' h => by simpa using HS.out w' q h 2 _ rfl
  have a3 : ∀ w', BoxT w B T q w' → w'.cell? ⟨gS, k * 14 + 3, none⟩ = some (.complex .f32 (Z.x 2) (Z.y 2)) := fun w' h => by simpa using HS.out w' q h 3 _ rfl
  have a4 : ∀ w', BoxT w B T q w' → w'.cell? ⟨gS, k * 14 + 4, none⟩ = some (.complex .f32 (Z.x 3) (Z.y 3)) := fun w' h => by simpa using HS.out w' q h 4 _ rfl
  have a5 : ∀ w', BoxT w B T q w' → w'.cell? ⟨gS, k * 14 + 5, none⟩ = some (.complex .f32 (Z.x 4) (Z.y 4)) := fun w' h => by simpa using HS.out w' q h 5 _ rfl
  have a6 : ∀ w', BoxT w B T q w' → w'.cell? ⟨gS, k * 14 + 6, none⟩ = some (.complex .f32 (Z.x 5) (Z.y 5)) := fun w' h => by simpa using HS.out w' q h 6 _ rfl
  have a7 : ∀ w', BoxT w B T q w' → w'.cell? ⟨gS, k * 14 + 7, none⟩ = some (.complex .f32 (Z.x 6) (Z.y 6)) := fun w' h => by simpa using HS.out w' q h 7 _ rfl
  have a8 : ∀ w', BoxT w B T q w' → w'.cell? ⟨gS, k * 14 + 8, none⟩ = some (.complex .f32 (Z.x 7) (Z.y 7)) := fun w' h => by simpa using HS.out w' q h 8 _ rfl
  have a9 : ∀ w', BoxT w B T q w' → w'.cell? ⟨gS, k * 14 + 9, none⟩ = some (.complex .f32 (Z.x 8) (Z.y 8)) := fun w' h => by simpa using HS.out w' q h 9 _ rfl
  have a10 : ∀ w', BoxT w B T q w' → w'.cell? ⟨gS, k * 14 + 10, none⟩ = some (.complex .f32 (Z.x 9) (Z.y 9)) := fun w' h => by simpa using HS.out w' q h 10 _ rfl
  have a11 : ∀ w', BoxT w B T q w' → w'.cell? ⟨gS, k * 14 + 11, none⟩ = some (.complex .f32 (Z.x 10) (Z.y 10)) := fun w' h => by simpa using HS.out w' q h 11 _ rfl
  have a12 : ∀ w', BoxT w B T q w' → w'.cell? ⟨gS, k * 14 + 12, none⟩ = some (.complex .f32 (Z.x 11) (Z.y 11)) := fun w' h => by simpa using HS.out w' q h 12 _ rfl
  have a13 : ∀ w', BoxT w B T q w' → w'.cell? ⟨gS, k * 14 + 13, none⟩ = some (.complex .f32 (Z.x 12) (Z.y 12)) := fun w' h => by simpa using HS.out w' q h 13 _ rfl
  have c0 : ∀ w', BoxT w B T q w' → w'.cell? ⟨gH, m, none⟩ = some (.int .i64 h0) := fun w' h => HT.out w' q h
  have HF2 := Lib.hid (fun w => (show Calls Try.prog 9 #[.agg #[.complex .f64 Z.a Z.b, .complex .f32 (Z.x 0) (Z.y 0), .complex .f32 (Z.x 1) (Z.y 1), .complex .f32 (Z.x 2) (Z.y 2), .complex .f32 (Z.x 3) (Z.y 3), .complex .f32 (Z.x 4) (Z.y 4), .complex .f32 (Z.x 5) (Z.y 5), .complex .f32 (Z.x 6) (Z.y 6), .complex .f32 (Z.x 7) (Z.y 7), .complex .f32 (Z.x 8) (Z.y 8), .complex .f32 (Z.x 9) (Z.y 9), .complex .f32 (Z.x 10) (Z.y 10), .complex .f32 (Z.x 11) (Z.y 11), .complex .f32 (Z.x 12) (Z.y 12)], .int .i64 (t - h0)] w fun e w' => e = .returned (.tuple #[.complex .f32 u v, .bool true]) ∧ Below w.heap.size w w' from HF.out w))
  go_upto_region 5 with fail
  go_region_held3 (fun wx => BoxT w B T q wx) (first | assumption | exact BoxT.drew (by assumption) | exact BoxT.step (by assumption) (by assumption))
    (first
      | (go_at_call 9; with_reducible refine (HF2.out _).mono ?_; rintro e w6 ⟨rfl, b6⟩))
  all_goals
    go_wp2_with fail
    go_ret2
    exact ⟨rfl, BoxT.below (by assumption)⟩

/-! ### The first slack -/
/-- There is a stream, and it is slack. -/
def Hit (T : Tid) (a b : Nat) (f : Int → Nat × Nat) (m : Nat) (t : Int) : Prop := ((TidOk T ∧ okP a ∧ okP b) ∧ 0 ≤ t ∧ t ≤ 10000000) ∧ Slk (f t).1 m ∧ Slk (f t).2 m
theorem far_wrap {n z : Int} (h0 : -9223372036854775808 ≤ n) (h1 : n ≤ 9223372036854775807 + 50000) (hz : IntKind.i64.wrap n = z) (h : (0 ≤ z ∧ z ≤ 10000000) ∨ (0 ≤ n ∧ n ≤ 10000000)) : z = n := by
  have hw : IntKind.i64.wrap n = wrap64 n := IntWalk.i64_left n
  rw [hw] at hz
  unfold wrap64 at hz
  omega
theorem hit_wrap {T : Tid} {a b : Nat} {f : Int → Nat × Nat} {m : Nat} {n z : Int} (h0 : -9223372036854775808 ≤ n) (h1 : n ≤ 9223372036854775807 + 50000) (hz : IntKind.i64.wrap n = z) : (Hit T a b f m z → z = n ∧ Hit T a b f m n) ∧ (Hit T a b f m n → Hit T a b f m z) := by
  refine ⟨fun h => ?_, fun h => ?_⟩
  · have e := far_wrap h0 h1 hz (.inl h.1.2)
    rw [e] at h
    exact ⟨e, h⟩
  · have e := far_wrap h0 h1 hz (.inr h.1.2)
    rw [e]; exact h
/-- What SlackFrom tells. -/
def SlkRes (H : Int → Prop) (time n : Int) (ok : Bool) : Prop := (ok = true → ∃ j : Nat, j < 721 ∧ n = time + 60 * (j : Int) ∧ H n ∧ ∀ i : Nat, i < j → ¬ H (time + 60 * (i : Int))) ∧ (ok = false → n = 0 ∧ ∀ j : Nat, j < 721 → ¬ H (time + 60 * (j : Int)))
set_option maxRecDepth 100000 in
set_option maxHeartbeats 4000000 in
theorem s_SlackFrom (B : Nat) (T : Tid) (a b : Nat) (ds : Nat → Nat) (f : Int → Nat × Nat) (m : Nat) (time : Int) (w : World) (hT : TidIn B w T) (ha : a < 18446744073709551616) (hb : b < 18446744073709551616) (hm : m < 4294967296) (nm : S.isNum m)
    (t0 : -9223372036854775808 ≤ time) (t1 : time ≤ 9223372036854775807) (hds : TidOk T ∧ okP a ∧ okP b → NrOk T a b ds) (hf : TidOk T ∧ okP a ∧ okP b → StrmIs T ds f) :
    Calls Try.prog 16 #[.agg #[.slice T.S T.ns T.cs, .slice T.H T.nh T.ch], .complex .f64 a b, .int .i64 time, .float .f32 m] w fun e w' => ∃ n ok, SlkRes (Hit T a b f m) time n ok ∧ e = .returned (.tuple #[.int .i64 n, .bool ok]) ∧ Below w.heap.size w w' := by
  have HB := Lib.hid (BoxT.new hT)
  have HY := Lib.hid (And.intro hds hf)
  have hvk := fun w => s_vok a b w ha hb
  have k0 := HB.out.k0
  have k1 := HB.out.k1
  clear hT hds hf
  go_enter Try.func16, Try.ntmps16
  go_wp2_with fail
  generalize w.alloc (.cells #[.slice T.S T.ns T.cs, .slice T.H T.nh T.ch] 37) = w1 at *
  generalize w.heap.size = q at *
  refine (s_TideOk B T _ HB.out.2.1).mono ?_
  rintro e w2 ⟨t, ht, rfl, b2⟩
  have HB2 := Lib.hid (And.intro ht (HB.out.step b2))
  clear ht b2 HB k0 k1
  cases t
  · have HN := Lib.hid (show ∀ j : Nat, j < 721 → ¬ Hit T a b f m (time + 60 * (j : Int)) from fun j _ h => by cases HB2.out.1.2 h.1.1.1)
    go_wp2_with fail
    go_ret2
    exact ⟨0, false, ⟨fun h => (by cases h), fun _ => ⟨rfl, HN.out⟩⟩, rfl, HB2.out.2.2.2⟩
  go_wp2_with fail
  refine (hvk _).mono ?_
  rintro e w3 ⟨t, ht, rfl, rfl⟩
  have HV := Lib.hid ht
  clear ht hvk
  cases t
  · have HN := Lib.hid (show ∀ j : Nat, j < 721 → ¬ Hit T a b f m (time + 60 * (j : Int)) from fun j _ h => by cases HV.out.2 h.1.1.2)
    go_wp2_with fail
    go_ret2
    exact ⟨0, false, ⟨fun h => (by cases h), fun _ => ⟨rfl, HN.out⟩⟩, rfl, HB2.out.2.2.2⟩
  have HO := Lib.hid (show TidOk T ∧ okP a ∧ okP b from ⟨HB2.out.1.1 (by first | rfl | trivial), HV.out.1 (by first | rfl | trivial)⟩)
  by_cases hr : -43260 ≤ time ∧ time ≤ 10000000
  case neg =>
    have f1 := s_inT time (-43260) 10000000 false ⟨fun h => (by cases h), fun h => absurd h hr⟩
    have HN := Lib.hid (show ∀ j : Nat, j < 721 → ¬ Hit T a b f m (time + 60 * (j : Int)) from fun j hj h => hr (by have := h.1.2; omega))
    clear hr
    go_wp2_with (go_at_call 42; ((with_reducible refine (f1 _).mono ?_); rintro e w' ⟨rfl, rfl⟩))
    go_ret2
    exact ⟨0, false, ⟨fun h => (by cases h), fun _ => ⟨rfl, HN.out⟩⟩, rfl, HB2.out.2.2.2⟩
  have f1 := s_inT time (-43260) 10000000 true ⟨fun _ => hr, fun _ => rfl⟩
  obtain ⟨r0, r1⟩ := hr
  go_wp2_with (go_at_call 42; ((with_reducible refine (f1 _).mono ?_); rintro e w' ⟨rfl, rfl⟩))
  clear f1
  go_loopw [10, 11, 12] (fun i _ _ wr => ∃ k : Nat, k ≤ 721 ∧ i = .int .i64 k ∧ (∀ j, j < k → ¬ Hit T a b f m (time + 60 * (j : Int))) ∧ BoxT w B T q wr) (fun i _ _ _ => 721 - (intOf i).toNat)
  case atStart => exact ⟨0, by omega, rfl, fun j hj => by omega, HB2.out.2⟩
  case round =>
    obtain ⟨k, hk, rfl, hall, hb1⟩ := hrel
    have HA := Lib.hid hall
    have HB1 := Lib.hid hb1
    have k0 := hb1.k0
    have k1 := hb1.k1
    clear hall hb1
    by_cases hlt : k < 721
    · have z1 : (k : Int) ≤ 720 := by omega
      by_cases hg : 0 ≤ time + 60 * (k : Int) ∧ time + 60 * (k : Int) ≤ 10000000
      · obtain ⟨f1, ⟨u1, v1⟩, nu, nv⟩ := HY.out.2 HO.out _ hg.1 hg.2
        have hS := s_StreamAt_yes B T a b ds (f (time + 60 * (k : Int))).1 (f (time + 60 * (k : Int))).2 (time + 60 * (k : Int)) wr HB1.out.2.1 HO.out.1 ha hb HO.out.2 (HY.out.1 HO.out) hg f1
        have HG := Lib.hid hg
        clear f1 hg
        generalize hfu : (f (time + 60 * (k : Int))).1 = u at *
        generalize hfv : (f (time + 60 * (k : Int))).2 = v at *
        have HV := Lib.hid (And.intro hfu hfv)
        clear hfu hfv
        obtain ⟨t1, h1, _, e1, _⟩ := slk_flag u1 nu hm nm
        obtain ⟨t2, h2, _, e2, _⟩ := slk_flag v1 nv hm nm
        have a1 := fun w => S.s_amount u w u1
        have a2 := fun w => S.s_amount v w v1
        have HT := Lib.hid (And.intro h1 h2)
        clear h1 h2
        generalize S.amtW u = au at *
        generalize S.amtW v = av at *
        go_wp2_with fail
        refine hS.mono ?_
        rintro e w4 ⟨rfl, b4⟩
        have HB3 := Lib.hid (HB1.out.step b4)
        clear b4 hS
        by_cases hh : t1 = true ∧ t2 = true
        · obtain ⟨rfl, rfl⟩ := hh
          have HH := Lib.hid (show Hit T a b f m (time + 60 * (k : Int)) from ⟨⟨HO.out, HG.out⟩, by rw [HV.out.1, HV.out.2]; exact ⟨HT.out.1.1 (by first | rfl | trivial), HT.out.2.1 (by first | rfl | trivial)⟩⟩)
          go_wp2_with (first
            | (go_at_call 44; ((with_reducible refine (a1 _).mono ?_); rintro e w' ⟨rfl, rfl⟩))
            | (go_at_call 44; ((with_reducible refine (a2 _).mono ?_); rintro e w' ⟨rfl, rfl⟩)))
          go_ret2
          exact ⟨_, true, ⟨fun _ => ⟨k, hlt, rfl, HH.out, HA.out⟩, fun h => (by cases h)⟩, rfl, HB3.out.2.2⟩
        · have HN := Lib.hid (show ¬ Hit T a b f m (time + 60 * (k : Int)) from fun h => hh (by
            have h1 := h.2
            rw [HV.out.1, HV.out.2] at h1
            exact ⟨HT.out.1.2 h1.1, HT.out.2.2 h1.2⟩))
          cases t1
          · clear hh
            go_wp2_with (first
              | (go_at_call 44; ((with_reducible refine (a1 _).mono ?_); rintro e w' ⟨rfl, rfl⟩))
              | (go_at_call 44; ((with_reducible refine (a2 _).mono ?_); rintro e w' ⟨rfl, rfl⟩)))
            go_roundw
            case rel => exact ⟨k + 1, by omega, by go_num, (fun j hj => by
              rcases Nat.lt_or_ge j k with h' | h'
              · exact HA.out j h'
              · rw [show j = k by omega]; exact HN.out), HB3.out⟩
            case measure => simp [intOf]; omega
          · obtain rfl : t2 = false := by
              cases t2
              · rfl
              · exact absurd ⟨rfl, rfl⟩ hh
            clear hh
            go_wp2_with (first
              | (go_at_call 44; ((with_reducible refine (a1 _).mono ?_); rintro e w' ⟨rfl, rfl⟩))
              | (go_at_call 44; ((with_reducible refine (a2 _).mono ?_); rintro e w' ⟨rfl, rfl⟩)))
            go_roundw
            case rel => exact ⟨k + 1, by omega, by go_num, (fun j hj => by
              rcases Nat.lt_or_ge j k with h' | h'
              · exact HA.out j h'
              · rw [show j = k by omega]; exact HN.out), HB3.out⟩
            case measure => simp [intOf]; omega
      · have hS := s_StreamAt_no B T a b ds (time + 60 * (k : Int)) wr HB1.out.2.1 ha hb HY.out.1 (fun h => hg h.2)
        have HN := Lib.hid (show ¬ Hit T a b f m (time + 60 * (k : Int)) from fun h => hg h.1.2)
        clear hg
        go_wp2_with fail
        refine hS.mono ?_
        rintro e w4 ⟨rfl, b4⟩
        have HB3 := Lib.hid (HB1.out.step b4)
        clear b4 hS
        go_wp2_with fail
        go_roundw
        case rel => exact ⟨k + 1, by omega, by go_num, (fun j hj => by
          rcases Nat.lt_or_ge j k with h' | h'
          · exact HA.out j h'
          · rw [show j = k by omega]; exact HN.out), HB3.out⟩
        case measure => simp [intOf]; omega
    · obtain rfl : k = 721 := by omega
      go_wp2_with fail
      go_ret2
      exact ⟨0, false, ⟨fun h => (by cases h), fun _ => ⟨rfl, HA.out⟩⟩, rfl, HB1.out.2.2⟩
end Go.Proofs.Ytbklmfchbojboaa

/- NearStation, slack, StreamAt (impl). Made by gen_TdP.py. -/
import Derived.Test.YtbklmfchbojboaaTdN
namespace Go.Proofs.Ytbklmfchbojboaa
open Go.RowKit Ieee
set_option linter.unusedSimpArgs false
set_option linter.unusedVariables false
attribute [local go_sem] st_cplx

theorem BoxT.drew {w : World} {B : Nat} {T : Tid} {q : Nat} {wx : World} (h : BoxT w B T q wx) : BoxT w B T q wx.drew :=
  ⟨h.1, h.2.1.same (HiSame.grown (grown_drew wx none) (fun k e => by cases e)), ⟨h.2.2.os, h.2.2.tape, h.2.2.output, h.2.2.size, h.2.2.block⟩⟩
theorem BoxT.alloc {w : World} {B : Nat} {T : Tid} {q : Nat} {wx : World} (h : BoxT w B T q wx) (o : Obj) : BoxT w B T q (wx.alloc o) := h.step ((Below.refl _ wx).alloc (Nat.le_refl _) o)
theorem BoxT.below {w : World} {B : Nat} {T : Tid} {q : Nat} {wx : World} (h : BoxT w B T q wx) : Below w.heap.size w wx := h.2.2
set_option maxRecDepth 100000 in
set_option maxHeartbeats 1000000 in
theorem i_near_no (B : Nat) (T : Tid) (a b : Nat) (w : World) (hT : TidIn B w T) (ha : a < 18446744073709551616) (hb : b < 18446744073709551616) (hno : ¬ (TidOk T ∧ okP a ∧ okP b)) :
    Calls Try.prog 45 #[.agg #[.slice T.S T.ns T.cs, .slice T.H T.nh T.ch], .complex .f64 a b] w fun e w' => e = .returned (.int .i64 (-1)) ∧ Below w.heap.size w w' := by
  have HB := Lib.hid ((BoxT.new hT).alloc (.cells #[.complex .f64 a b] 24))
  have hg := heap_alloc_new (w.alloc (.cells #[.slice T.S T.ns T.cs, .slice T.H T.nh T.ch] 37)) (.cells #[.complex .f64 a b] 24)
  rw [show (w.alloc (.cells #[.slice T.S T.ns T.cs, .slice T.H T.nh T.ch] 37)).heap.size = w.heap.size + 1 by simp] at hg
  have HO := Lib.hid hno
  have f1 := fun w => i_vok a b w ha hb
  clear hT hno
  go_enter Try.func45, Try.ntmps45
  go_wp2_with fail
  generalize (w.alloc (.cells #[.slice T.S T.ns T.cs, .slice T.H T.nh T.ch] 37)).alloc (.cells #[.complex .f64 a b] 24) = w1 at *
  generalize w.heap.size = q at *
  refine (i_TideOk B T _ HB.out.2.1).mono ?_
  rintro e w2 ⟨t2, ht2, rfl, b2⟩
  have HB2 := Lib.hid (And.intro ht2 (HB.out.step b2))
  have kc := cell_of_row w2 _ 0 _ _ _ ((b2.block (q + 1) (block_lt hg)).trans hg)
  clear ht2 b2 HB hg
  cases t2
  · go_wp2_with fail
    go_ret
    exact ⟨rfl, HB2.out.2.2.2⟩
  · go_wp2_with fail
    refine (f1 _).mono ?_
    rintro e w3 ⟨t, ht, rfl, rfl⟩
    obtain rfl : t = false := by
      cases t
      · rfl
      · exact absurd ⟨HB2.out.1.1 (by first | rfl | trivial), ht.1 rfl⟩ HO.out
    go_wp2_with fail
    go_ret
    exact ⟨rfl, HB2.out.2.2.2⟩
set_option maxRecDepth 100000 in
set_option maxHeartbeats 1000000 in
theorem i_near_yes (B : Nat) (T : Tid) (a b : Nat) (ds : Nat → Nat) (w : World) (hT : TidIn B w T) (hok : TidOk T) (ha : a < 18446744073709551616) (hb : b < 18446744073709551616) (hab : okP a ∧ okP b) (hds : NrOk T a b ds) :
    Calls Try.prog 45 #[.agg #[.slice T.S T.ns T.cs, .slice T.H T.nh T.ch], .complex .f64 a b] w fun e w' => e = .returned (.int .i64 (nr T ds)) ∧ Below w.heap.size w w' := by
  have HB := Lib.hid ((BoxT.new hT).alloc (.cells #[.complex .f64 a b] 24))
  have hg := heap_alloc_new (w.alloc (.cells #[.slice T.S T.ns T.cs, .slice T.H T.nh T.ch] 37)) (.cells #[.complex .f64 a b] 24)
  rw [show (w.alloc (.cells #[.slice T.S T.ns T.cs, .slice T.H T.nh T.ch] 37)).heap.size = w.heap.size + 1 by simp] at hg
  have HO := Lib.hid hok
  have HD := Lib.hid hds
  have HV := Lib.hid hab
  have f1 := fun w => i_vok a b w ha hb
  clear hT hok hds hab
  go_enter Try.func45, Try.ntmps45
  go_wp2_with fail
  generalize (w.alloc (.cells #[.slice T.S T.ns T.cs, .slice T.H T.nh T.ch] 37)).alloc (.cells #[.complex .f64 a b] 24) = w1 at *
  generalize w.heap.size = q at *
  refine (i_TideOk B T _ HB.out.2.1).mono ?_
  rintro e w2 ⟨t2, ht2, rfl, b2⟩
  obtain rfl : t2 = true := ht2.2 HO.out
  have HB2 := Lib.hid (HB.out.step b2)
  have kc := cell_of_row w2 _ 0 _ _ _ ((b2.block (q + 1) (block_lt hg)).trans hg)
  have k0 := HB2.out.k0
  clear ht2 b2 HB hg
  go_wp2_with fail
  refine (f1 _).mono ?_
  rintro e w3 ⟨t, ht, rfl, rfl⟩
  obtain rfl : t = true := ht.2 HV.out
  clear ht f1
  go_wp2_with fail
  refine (i_firstF B T a b (q + 1) ds w2 HB2.out.2.1 HO.out.1 HD.out kc).mono ?_
  rintro e w4 ⟨rfl, b4⟩
  have HE := Lib.hid (HB2.out.step b4)
  clear b4
  go_wp2_with fail
  go_ret
  exact ⟨rfl, HE.out.2.2⟩

set_option maxHeartbeats 1000000 in
theorem i_slack (u v m : Nat) (w : World) (hu : u < 4294967296) (nu : S.isNum u) (hv : v < 4294967296) (nv : S.isNum v) (hm : m < 4294967296) (nm : S.isNum m) :
    Calls Try.prog 39 #[.complex .f32 u v, .float .f32 m] w fun e w' => ∃ t : Bool, (t = true ↔ Slk u m ∧ Slk v m) ∧ e = .returned (.bool t) ∧ w = w' := by
  have hs : (Try.prog.underlying 42).isSome = true := by rw [Try.underlying42]; rfl
  have qu := fun w => run_convert_float_float (P := Try.prog) w 42 48 .f32 .f64 _ _ hs Try.underlying48 (wid_num hu nu).1
  have qv := fun w => run_convert_float_float (P := Try.prog) w 42 48 .f32 .f64 _ _ hs Try.underlying48 (wid_num hv nv).1
  have qm := fun w => run_convert_float_float (P := Try.prog) w 42 48 .f32 .f64 _ _ hs Try.underlying48 (wid_num hm nm).1
  obtain ⟨t1, h1, e1, _, _⟩ := slk_flag hu nu hm nm
  obtain ⟨t2, h2, e2, _, _⟩ := slk_flag hv nv hm nm
  have HT := Lib.hid (And.intro h1 h2)
  have l1 := wid_lt u
  have l2 := wid_lt v
  clear h1 h2 hs
  generalize wid u = xu at *
  generalize wid v = xv at *
  generalize wid m = xm at *
  cases t1 <;> cases t2
  all_goals
    go_enter Try.func39, Try.ntmps39
    go_wp2_with (first
      | (go_at_call 57; ((with_reducible refine (abs_any xu _ l1).mono ?_); rintro e w' ⟨rfl, rfl⟩))
      | (go_at_call 57; ((with_reducible refine (abs_any xv _ l2).mono ?_); rintro e w' ⟨rfl, rfl⟩)))
    go_ret
    refine ⟨_, ?_, rfl, rfl⟩
    obtain ⟨h1, h2⟩ := HT.out
    rw [← h1, ← h2]
    simp

theorem i_high_any (B : Nat) (T : Tid) (t : Int) (w : World) (hT : TidIn B w T) :
    Calls Try.prog 12 #[.agg #[.slice T.S T.ns T.cs, .slice T.H T.nh T.ch], .int .i64 t] w fun e w' => ∃ m : Int, e = .returned (.int .i64 m) ∧ Below w.heap.size w w' := by
  by_cases h : TidOk T ∧ 0 ≤ t ∧ t ≤ 10000000
  · exact (i_HighAt_yes B T t w hT h.1 h.2).mono fun e w' k => ⟨_, k⟩
  · exact (i_HighAt_no B T t w hT h).mono fun e w' k => ⟨_, k⟩
set_option maxRecDepth 100000 in
set_option maxHeartbeats 4000000 in
theorem i_StreamAt_no (B : Nat) (T : Tid) (a b : Nat) (ds : Nat → Nat) (t : Int) (w : World) (hT : TidIn B w T) (ha : a < 18446744073709551616) (hb : b < 18446744073709551616)
    (hds : TidOk T ∧ okP a ∧ okP b → NrOk T a b ds) (hno : ¬ ((TidOk T ∧ okP a ∧ okP b) ∧ 0 ≤ t ∧ t ≤ 10000000)) :
    Calls Try.prog 17 #[.agg #[.slice T.S T.ns T.cs, .slice T.H T.nh T.ch], .complex .f64 a b, .int .i64 t] w fun e w' => e = .returned (.tuple #[.complex .f32 0 0, .bool false]) ∧ Below w.heap.size w w' := by
  have HB := Lib.hid (BoxT.new hT)
  go_enter Try.func17, Try.ntmps17
  go_upto_region 1 with fail
  generalize w.alloc (.cells #[.slice T.S T.ns T.cs, .slice T.H T.nh T.ch] 37) = w1 at *
  generalize w.heap.size = q at *
  have k0 : ∀ w', BoxT w B T q w' → w'.cell? ⟨q, 0, none⟩ = some (.slice T.S T.ns T.cs) := fun w' h => h.k0
  have k1 : ∀ w', BoxT w B T q w' → w'.cell? ⟨q, 1, none⟩ = some (.slice T.H T.nh T.ch) := fun w' h => h.k1
  have hB0 := HB.out
  by_cases hn : TidOk T ∧ okP a ∧ okP b
  · have HN := Lib.hid (fun wx (h : BoxT w B T q wx) => i_near_yes B T a b ds wx h.2.1 hn.1 ha hb hn.2 (hds hn))
    have HH := Lib.hid (fun wx (h : BoxT w B T q wx) => i_HighAt_no B T t wx h.2.1 (fun h => hno ⟨hn, h.2⟩))
    have hne : ((nr T ds : Int) == -1) = false := by simp
    clear hT hno hds hn
    generalize (nr T ds : Int) = n at *
    go_region_held3 (fun wx => BoxT w B T q wx) (first | assumption | exact BoxT.drew (by assumption) | exact BoxT.step (by assumption) (by assumption))
      (first
        | (go_at_call 45; with_reducible refine (HN.out _ (by assumption)).mono ?_; rintro e w6 ⟨rfl, b6⟩)
        | (go_at_call 12; with_reducible refine (HH.out _ (by assumption)).mono ?_; rintro e w6 ⟨rfl, b6⟩))
    all_goals
      go_wp2_with fail
      go_ret2
      exact ⟨rfl, BoxT.below (by assumption)⟩
  · have HN := Lib.hid (fun wx (h : BoxT w B T q wx) => i_near_no B T a b wx h.2.1 ha hb hn)
    have HH := Lib.hid (fun wx (h : BoxT w B T q wx) => i_high_any B T t wx h.2.1)
    clear hT hno hds hn
    go_region_held3 (fun wx => BoxT w B T q wx) (first | assumption | exact BoxT.drew (by assumption) | exact BoxT.step (by assumption) (by assumption))
      (first
        | (go_at_call 45; with_reducible refine (HN.out _ (by assumption)).mono ?_; rintro e w6 ⟨rfl, b6⟩)
        | (go_at_call 12; with_reducible refine (HH.out _ (by assumption)).mono ?_; rintro e w6 ⟨m6, rfl, b6⟩))
    all_goals
      go_wp2_with fail
      go_ret2
      exact ⟨rfl, BoxT.below (by assumption)⟩
set_option maxRecDepth 100000 in
set_option maxHeartbeats 8000000 in
theorem i_StreamAt_yes (B : Nat) (T : Tid) (a b : Nat) (ds : Nat → Nat) (u v : Nat) (t : Int) (w : World) (hT : TidIn B w T) (hok : TidOk T) (ha : a < 18446744073709551616) (hb : b < 18446744073709551616) (hab : okP a ∧ okP b) (hds : NrOk T a b ds)
    (ht : 0 ≤ t ∧ t ≤ 10000000) (hf : FlowIs (T.st (nr T ds)) (t - T.hi (fst (far T t) T.nh)) u v) :
    Calls Try.prog 17 #[.agg #[.slice T.S T.ns T.cs, .slice T.H T.nh T.ch], .complex .f64 a b, .int .i64 t] w fun e w' => e = .returned (.tuple #[.complex .f32 u v, .bool true]) ∧ Below w.heap.size w w' := by
  have HB := Lib.hid (BoxT.new hT)
  have hn1 := hok.1.1
  have hn2 := hok.2.1
  obtain ⟨gS, eS, _, _⟩ := hT.2.1 (by omega)
  obtain ⟨gH, eH, _, _⟩ := hT.2.2 (by omega)
  have hkl : nr T ds < T.ns := fstR_lt _ (by omega)
  have hml : fst (far T t) T.nh < T.nh := fst_lt _ (by omega)
  have hst := hok.1.2 _ hkl
  have hso := hT.1.1 _ hkl
  have hhi := (hok.2.2 _ hml).1
  have HN := Lib.hid (fun wx q (h : BoxT w B T q wx) => i_near_yes B T a b ds wx h.2.1 hok ha hb hab hds)
  have HH := Lib.hid (fun wx q (h : BoxT w B T q wx) => i_HighAt_yes B T t wx h.2.1 hok ht)
  have HS := Lib.hid (fun wx q (h : BoxT w B T q wx) => h.2.1.st eS hkl)
  have HT := Lib.hid (fun wx q (h : BoxT w B T q wx) => h.2.1.atH eH hml)
  have HG := Lib.hid (And.intro eS eH)
  have hne : ((nr T ds : Int) == -1) = false := by simp
  have hme : ((fst (far T t) T.nh : Int) == -1) = false := by simp
  have z1 : ((nr T ds : Nat) : Int) < (T.ns : Int) := by omega
  have z0 : (0 : Int) ≤ ((nr T ds : Nat) : Int) := by omega
  have y1 : ((fst (far T t) T.nh : Nat) : Int) < (T.nh : Int) := by omega
  have y0 : (0 : Int) ≤ ((fst (far T t) T.nh : Nat) : Int) := by omega
  have hw : IntKind.i64.wrap (t - T.hi (fst (far T t) T.nh)) = t - T.hi (fst (far T t) T.nh) := IntWalk.i64_in _ (by omega)
  have HF := Lib.hid (fun w => i_FlowAt_yes (litS (T.st (nr T ds))) (T.st (nr T ds)) (t - T.hi (fst (far T t) T.nh)) u v w (lit_is hso) hst.2 hf)
  clear hT hok hab hds hst hso eS eH hf
  generalize nr T ds = k at *
  generalize fst (far T t) T.nh = m at *
  generalize T.st k = Z at *
  generalize T.hi m = h0 at *
  go_enter Try.func17, Try.ntmps17
  go_upto_region 1 with fail
  generalize w.alloc (.cells #[.slice T.S T.ns T.cs, .slice T.H T.nh T.ch] 37) = w1 at *
  generalize w.heap.size = q at *
  have k0 : ∀ w', BoxT w B T q w' → w'.cell? ⟨q, 0, none⟩ = some (.slice (some ⟨gS, 0, none⟩) T.ns T.cs) := fun w' h => by rw [← HG.out.1]; exact h.k0
  have k1 : ∀ w', BoxT w B T q w' → w'.cell? ⟨q, 1, none⟩ = some (.slice (some ⟨gH, 0, none⟩) T.nh T.ch) := fun w' h => by rw [← HG.out.2]; exact h.k1
  have HN2 := Lib.hid (fun wx (h : BoxT w B T q wx) => (show Calls Try.prog 45 #[.agg #[.slice (some ⟨gS, 0, none⟩) T.ns T.cs, .slice (some ⟨gH, 0, none⟩) T.nh T.ch], .complex .f64 a b] wx fun e w' => e = .returned (.int .i64 k) ∧ Below wx.heap.size wx w' from by
    rw [← HG.out.1, ← HG.out.2]; exact HN.out wx q h))
  have HH2 := Lib.hid (fun wx (h : BoxT w B T q wx) => (show Calls Try.prog 12 #[.agg #[.slice (some ⟨gS, 0, none⟩) T.ns T.cs, .slice (some ⟨gH, 0, none⟩) T.nh T.ch], .int .i64 t] wx fun e w' => e = .returned (.int .i64 m) ∧ Below wx.heap.size wx w' from by
    rw [← HG.out.1, ← HG.out.2]; exact HH.out wx q h))
  have hB0 := HB.out
  go_cut [8, 9] (fun s8 s9 wx => s8 = .int .i64 (k : Int) ∧ s9 = .int .i64 (m : Int) ∧ BoxT w B T q wx)
  case first =>
    go_region_held3 (fun wx => BoxT w B T q wx) (first | assumption | exact BoxT.drew (by assumption) | exact BoxT.step (by assumption) (by assumption))
      (first
        | (go_at_call 45; with_reducible refine (HN2.out _ (by assumption)).mono ?_; rintro e w6 ⟨rfl, b6⟩)
        | (go_at_call 12; with_reducible refine (HH2.out _ (by assumption)).mono ?_; rintro e w6 ⟨rfl, b6⟩))
    all_goals
      go_wp2_with fail
      go_meet
      exact ⟨rfl, rfl, by assumption⟩
  case rest =>
  obtain ⟨rfl, rfl, hb1⟩ := hcut
  clear hB0 HB
  have a0 : ∀ w', BoxT w B T q w' → w'.cell? ⟨gS, k * 14, none⟩ = some (.complex .f64 Z.a Z.b) := fun w' h => by simpa using HS.out w' q h 0 _ rfl
  have a1 : ∀ w', BoxT w B T q w' → w'.cell? ⟨gS, k * 14 + 1, none⟩ = some (.complex .f32 (Z.x 0) (Z.y 0)) := fun w' h => by simpa using HS.out w' q h 1 _ rfl
  have a2 : ∀ w', BoxT w B T q w' → w'.cell? ⟨gS, k * 14 + 2, none⟩ = some (.complex .f32 (Z.x 1) (Z.y 1)) := fun w' h => by simpa using HS.out w' q h 2 _ rfl
  have a3 : ∀ w', BoxT w B T q w' → w'.cell? ⟨gS, k * 14 + 3, none⟩ = some (.complex .f32 (Z.x 2) (Z.y 2)) := fun w' h => by simpa using HS.out w' q h 3 _ rfl
  have a4 : ∀ w', BoxT w B T q w' → w'.cell? ⟨gS, k * 14 + 4, none⟩ = some (.complex .f32 (Z.x 3) (Z.y 3)) := fun w' h => by simpa using HS.out w' q h 4 _ rfl
  have a5 : ∀ w', BoxT w B T q w' → w'.cell? ⟨gS, k * 14 + 5, none⟩ = some (.complex .f32 (Z.x 4) (Z.y 4)) := fun w' h => by simpa using HS.out w' q h 5 _ rfl
  have a6 : ∀ w', BoxT w B T q w' → w'.cell? ⟨gS, k * 14 + 6, none⟩ = some (.complex .f32 (Z.x 5) (Z.y 5)) := fun w' h => by simpa using HS.out w' q h 6 _ rfl
  have a7 : ∀ w', BoxT w B T q w' → w'.cell? ⟨gS, k * 14 + 7, none⟩ = some (.complex .f32 (Z.x 6) (Z.y 6)) := fun w' h => by simpa using HS.out w' q h 7 _ rfl
  have a8 : ∀ w', BoxT w B T q w' → w'.cell? ⟨gS, k * 14 + 8, none⟩ = some (.complex .f32 (Z.x 7) (Z.y 7)) := fun w' h => by simpa using HS.out w' q h 8 _ rfl
  have a9 : ∀ w', BoxT w B T q w' → w'.cell? ⟨gS, k * 14 + 9, none⟩ = some (.complex .f32 (Z.x 8) (Z.y 8)) := fun w' h => by simpa using HS.out w' q h 9 _ rfl
  have a10 : ∀ w', BoxT w B T q w' → w'.cell? ⟨gS, k * 14 + 10, none⟩ = some (.complex .f32 (Z.x 9) (Z.y 9)) := fun w' h => by simpa using HS.out w' q h 10 _ rfl
  have a11 : ∀ w', BoxT w B T q w' → w'.cell? ⟨gS, k * 14 + 11, none⟩ = some (.complex .f32 (Z.x 10) (Z.y 10)) := fun w' h => by simpa using HS.out w' q h 11 _ rfl
  have a12 : ∀ w', BoxT w B T q w' → w'.cell? ⟨gS, k * 14 + 12, none⟩ = some (.complex .f32 (Z.x 11) (Z.y 11)) := fun w' h => by simpa using HS.out w' q h 12 _ rfl
  have a13 : ∀ w', BoxT w B T q w' → w'.cell? ⟨gS, k * 14 + 13, none⟩ = some (.complex .f32 (Z.x 12) (Z.y 12)) := fun w' h => by simpa using HS.out w' q h 13 _ rfl
  have c0 : ∀ w', BoxT w B T q w' → w'.cell? ⟨gH, m, none⟩ = some (.int .i64 h0) := fun w' h => HT.out w' q h
  have HF2 := Lib.hid (fun w => (show Calls Try.prog 8 #[.agg #[.complex .f64 Z.a Z.b, .complex .f32 (Z.x 0) (Z.y 0), .complex .f32 (Z.x 1) (Z.y 1), .complex .f32 (Z.x 2) (Z.y 2), .complex .f32 (Z.x 3) (Z.y 3), .complex .f32 (Z.x 4) (Z.y 4), .complex .f32 (Z.x 5) (Z.y 5), .complex .f32 (Z.x 6) (Z.y 6), .complex .f32 (Z.x 7) (Z.y 7), .complex .f32 (Z.x 8) (Z.y 8), .complex .f32 (Z.x 9) (Z.y 9), .complex .f32 (Z.x 10) (Z.y 10), .complex .f32 (Z.x 11) (Z.y 11), .complex .f32 (Z.x 12) (Z.y 12)], .int .i64 (t - h0)] w fun e w' => e = .returned (.tuple #[.complex .f32 u v, .bool true]) ∧ Below w.heap.size w w' from HF.out w))
  go_upto_region 4 with fail
  go_region_held3 (fun wx => BoxT w B T q wx) (first | assumption | exact BoxT.drew (by assumption) | exact BoxT.step (by assumption) (by assumption))
    (first
      | (go_at_call 8; with_reducible refine (HF2.out _).mono ?_; rintro e w6 ⟨rfl, b6⟩))
  all_goals
    go_wp2_with fail
    go_ret2
    exact ⟨rfl, BoxT.below (by assumption)⟩
end Go.Proofs.Ytbklmfchbojboaa

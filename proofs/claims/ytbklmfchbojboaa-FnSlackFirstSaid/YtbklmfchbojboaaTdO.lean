/- HighAt, NearStation (spec). -/
import Derived.Test.YtbklmfchbojboaaTdN
namespace Go.Proofs.Ytbklmfchbojboaa
open Go.RowKit Ieee
set_option linter.unusedSimpArgs false
set_option linter.unusedVariables false
attribute [local go_sem] st_cplx

set_option maxHeartbeats 400000 in
theorem s_far (z t : Int) (w : World) (ht : 0 ≤ t ∧ t ≤ 10000000) (hz : 0 ≤ z ∧ z ≤ 10000000) :
    Calls Try.prog 71 #[.int .i64 z, .int .i64 t] w fun e w' => e = .returned (.int .i64 (if z < t then t - z else z - t)) ∧ w = w' := by
  obtain ⟨t0, t1⟩ := ht
  obtain ⟨z0, z1⟩ := hz
  by_cases h : t < z
  · rw [if_neg (by omega)]
    go_enter Try.func71, Try.ntmps71
    go_wp2_with fail
    go_ret
    exact ⟨rfl, rfl⟩
  · rw [show (if z < t then t - z else z - t) = t - z by split <;> omega]
    go_enter Try.func71, Try.ntmps71
    go_wp2_with fail
    go_ret
    exact ⟨rfl, rfl⟩
set_option maxRecDepth 100000 in
set_option maxHeartbeats 4000000 in
theorem s_HighAt_yes (B : Nat) (T : Tid) (t : Int) (w : World) (hT : TidIn B w T) (hok : TidOk T) (ht : 0 ≤ t ∧ t ≤ 10000000) :
    Calls Try.prog 60 #[.agg #[.slice T.S T.ns T.cs, .slice T.H T.nh T.ch], .int .i64 t] w fun e w' => e = .returned (.int .i64 (fst (far T t) T.nh)) ∧ Below w.heap.size w w' := by
  have HB := Lib.hid (BoxT.new hT)
  have k0 := HB.out.k0
  have k1 := HB.out.k1
  have hn9 := hT.1.2.2
  have hn1 := hok.2.1
  obtain ⟨gH, eH, _, _⟩ := hT.2.2 (by omega)
  have HG := Lib.hid eH
  have HO := Lib.hid hok
  have f1 := s_inT t 0 10000000 true (by simp [ht])
  clear hT eH hok
  go_enter Try.func60, Try.ntmps60
  go_wp2_with fail
  generalize w.alloc (.cells #[.slice T.S T.ns T.cs, .slice T.H T.nh T.ch] 37) = w1 at *
  generalize w.heap.size = q at *
  refine (s_TideOk B T _ HB.out.2.1).mono ?_
  rintro e w2 ⟨t2, ht2, rfl, b2⟩
  obtain rfl : t2 = true := ht2.2 HO.out
  have HB2 := Lib.hid (HB.out.step b2)
  clear ht2 b2 k0 k1 HB
  go_wp2_with (go_at_call 42; ((with_reducible refine (f1 _).mono ?_); rintro e w' ⟨rfl, rfl⟩))
  go_loopw [5, 6] (fun b i wr => ∃ k : Nat, (1 ≤ k ∧ k ≤ T.nh) ∧ i = .int .i64 k ∧ b = .int .i64 (fst (far T t) k) ∧ BoxT w B T q wr) (fun _ i _ => T.nh - (intOf i).toNat)
  case atStart => exact ⟨1, by omega, rfl, by simp [fst], HB2.out⟩
  case round =>
    obtain ⟨k, ⟨hk1, hk⟩, rfl, rfl, hb⟩ := hrel
    have HT := Lib.hid hb
    have k1 := hb.k1
    clear hb
    rw [HG.out] at k1
    by_cases hlt : k < T.nh
    · have z1 : (k : Int) < (T.nh : Int) := by omega
      have z0 : (0 : Int) ≤ (k : Int) := by omega
      have hbl := fst_lt (far T t) (n := k) (by omega)
      have ck := HT.out.2.1.atH HG.out hlt
      have cb := HT.out.2.1.atH HG.out (show fst (far T t) k < T.nh by omega)
      have b1 : ((fst (far T t) k : Nat) : Int) < (T.nh : Int) := by omega
      have b0 : (0 : Int) ≤ ((fst (far T t) k : Nat) : Int) := by omega
      have m1 := fun w => s_far (T.hi k) t w ht (HO.out.2.2 k hlt).1
      have m2 := fun w => s_far (T.hi (fst (far T t) k)) t w ht (HO.out.2.2 _ (by omega)).1
      have hstep : (far T t k < far T t (fst (far T t) k) ∧ fst (far T t) (k + 1) = k) ∨ (far T t (fst (far T t) k) ≤ far T t k ∧ fst (far T t) (k + 1) = fst (far T t) k) := by
        rw [show fst (far T t) (k + 1) = if far T t k < far T t (fst (far T t) k) then k else fst (far T t) k from rfl]
        by_cases h : far T t k < far T t (fst (far T t) k)
        · left; exact ⟨h, by rw [if_pos h]⟩
        · right; exact ⟨by omega, by rw [if_neg h]⟩
      have e1 : (if T.hi k < t then t - T.hi k else T.hi k - t) = far T t k := rfl
      have e2 : (if T.hi (fst (far T t) k) < t then t - T.hi (fst (far T t) k) else T.hi (fst (far T t) k) - t) = far T t (fst (far T t) k) := rfl
      rw [e1] at m1
      rw [e2] at m2
      clear e1 e2
      generalize far T t k = x at *
      generalize far T t (fst (far T t) k) = y at *
      generalize T.hi k = zk at *
      generalize T.hi (fst (far T t) k) = zb at *
      generalize fst (far T t) k = m at *
      rcases hstep with ⟨h, hs⟩ | ⟨h, hs⟩
      · have HS := Lib.hid hs
        have hd : decide (x < y) = true := decide_eq_true h
        clear hs
        go_wp2
        go_quiet ((go_at_call 71; (first | with_reducible exact Calls.quiet_of_same ((m1 _).mono fun _ _ h => ⟨h.1, h.2.symm⟩) | exact Calls.quiet_of_same ((m2 _).mono fun _ _ h => ⟨h.1, h.2.symm⟩))))
        go_wp2
        go_roundw
        case rel => exact ⟨k + 1, by omega, by go_num, by rw [HS.out], HT.out.drewN _⟩
        case measure => simp [intOf]; omega
      · have HS := Lib.hid hs
        have hd : decide (x < y) = false := decide_eq_false (by omega)
        clear hs
        go_wp2
        go_quiet ((go_at_call 71; (first | with_reducible exact Calls.quiet_of_same ((m1 _).mono fun _ _ h => ⟨h.1, h.2.symm⟩) | exact Calls.quiet_of_same ((m2 _).mono fun _ _ h => ⟨h.1, h.2.symm⟩))))
        go_wp2
        go_roundw
        case rel => exact ⟨k + 1, by omega, by go_num, by rw [HS.out], HT.out.drewN _⟩
        case measure => simp [intOf]; omega
    · obtain rfl : k = T.nh := by omega
      go_wp2_with fail
      go_ret
      exact ⟨rfl, HT.out.2.2⟩
set_option maxRecDepth 100000 in
set_option maxHeartbeats 1000000 in
theorem s_HighAt_no (B : Nat) (T : Tid) (t : Int) (w : World) (hT : TidIn B w T) (hno : ¬ (TidOk T ∧ 0 ≤ t ∧ t ≤ 10000000)) :
    Calls Try.prog 60 #[.agg #[.slice T.S T.ns T.cs, .slice T.H T.nh T.ch], .int .i64 t] w fun e w' => e = .returned (.int .i64 (-1)) ∧ Below w.heap.size w w' := by
  have HB := Lib.hid (BoxT.new hT)
  have HO := Lib.hid hno
  clear hT hno
  go_enter Try.func60, Try.ntmps60
  go_wp2_with fail
  generalize w.alloc (.cells #[.slice T.S T.ns T.cs, .slice T.H T.nh T.ch] 37) = w1 at *
  generalize w.heap.size = q at *
  refine (s_TideOk B T _ HB.out.2.1).mono ?_
  rintro e w2 ⟨t2, ht2, rfl, b2⟩
  have HB2 := Lib.hid (And.intro ht2 (HB.out.step b2))
  clear ht2 b2 HB
  cases t2
  · go_wp2_with fail
    go_ret
    exact ⟨rfl, HB2.out.2.2.2⟩
  · have f1 := s_inT t 0 10000000 false (by
      have h1 := HO.out
      have h2 := HB2.out.1.1 rfl
      constructor
      · intro h; cases h
      · intro h; exact absurd ⟨h2, h⟩ h1)
    go_wp2_with (go_at_call 42; ((with_reducible refine (f1 _).mono ?_); rintro e w' ⟨rfl, rfl⟩))
    go_ret
    exact ⟨rfl, HB2.out.2.2.2⟩
set_option maxRecDepth 100000 in
set_option maxHeartbeats 1000000 in
theorem s_near_no (B : Nat) (T : Tid) (a b : Nat) (w : World) (hT : TidIn B w T) (ha : a < 18446744073709551616) (hb : b < 18446744073709551616) (hno : ¬ (TidOk T ∧ okP a ∧ okP b)) :
    Calls Try.prog 59 #[.agg #[.slice T.S T.ns T.cs, .slice T.H T.nh T.ch], .complex .f64 a b] w fun e w' => e = .returned (.int .i64 (-1)) ∧ Below w.heap.size w w' := by
  have HB := Lib.hid (BoxT.new hT)
  have HO := Lib.hid hno
  have f1 := fun w => s_vok a b w ha hb
  clear hT hno
  go_enter Try.func59, Try.ntmps59
  go_wp2_with fail
  generalize w.alloc (.cells #[.slice T.S T.ns T.cs, .slice T.H T.nh T.ch] 37) = w1 at *
  generalize w.heap.size = q at *
  refine (s_TideOk B T _ HB.out.2.1).mono ?_
  rintro e w2 ⟨t2, ht2, rfl, b2⟩
  have HB2 := Lib.hid (And.intro ht2 (HB.out.step b2))
  clear ht2 b2 HB
  cases t2
  · go_wp2_with fail
    go_ret
    exact ⟨rfl, HB2.out.2.2.2⟩
  · go_wp2_with fail
    refine (f1 _).mono ?_
    rintro e w3 ⟨t, ht, rfl, rfl⟩
    obtain rfl : t = false := by
      cases t
      · rfl
      · exact absurd ⟨HB2.out.1.1 (by first | rfl | trivial), ht.1 rfl⟩ HO.out
    go_wp2_with fail
    go_ret
    exact ⟨rfl, HB2.out.2.2.2⟩
set_option maxRecDepth 100000 in
set_option maxHeartbeats 4000000 in
theorem s_near_yes (B : Nat) (T : Tid) (a b : Nat) (ds : Nat → Nat) (w : World) (hT : TidIn B w T) (hok : TidOk T) (ha : a < 18446744073709551616) (hb : b < 18446744073709551616) (hab : okP a ∧ okP b) (hds : NrOk T a b ds) :
    Calls Try.prog 59 #[.agg #[.slice T.S T.ns T.cs, .slice T.H T.nh T.ch], .complex .f64 a b] w fun e w' => e = .returned (.int .i64 (nr T ds)) ∧ Below w.heap.size w w' := by
  have HB := Lib.hid (BoxT.new hT)
  have hn9 := hT.1.2.2
  have hn1 := hok.1.1
  obtain ⟨gS, eS, _, _⟩ := hT.2.1 (by omega)
  have HG := Lib.hid eS
  have HO := Lib.hid hok
  have HD := Lib.hid hds
  have HV := Lib.hid hab
  have f1 := fun w => s_vok a b w ha hb
  clear hT eS hok hds hab
  go_enter Try.func59, Try.ntmps59
  go_wp2_with fail
  generalize w.alloc (.cells #[.slice T.S T.ns T.cs, .slice T.H T.nh T.ch] 37) = w1 at *
  generalize w.heap.size = q at *
  refine (s_TideOk B T _ HB.out.2.1).mono ?_
  rintro e w2 ⟨t2, ht2, rfl, b2⟩
  obtain rfl : t2 = true := ht2.2 HO.out
  have HB2 := Lib.hid (HB.out.step b2)
  clear ht2 b2 HB
  go_wp2_with fail
  refine (f1 _).mono ?_
  rintro e w3 ⟨t, ht, rfl, rfl⟩
  obtain rfl : t = true := ht.2 HV.out
  clear ht f1
  go_wp2_with fail
  go_loopw [5, 6, 7, 8, 9] (fun b l i _ _ wr => ∃ k : Nat, k ≤ T.ns ∧ i = .int .i64 k ∧ ((k = 0 ∧ b = .int .i64 (-1) ∧ l = .float .f64 0) ∨ (0 < k ∧ b = .int .i64 (fstR (ltD ds) k) ∧ l = .float .f64 (ds (fstR (ltD ds) k)))) ∧ BoxT w B T q wr) (fun _ _ i _ _ _ => T.ns - (intOf i).toNat)
  case atStart => exact ⟨0, by omega, rfl, .inl ⟨rfl, rfl, rfl⟩, HB2.out⟩
  case round =>
    obtain ⟨k, hk, rfl, hcase, hb⟩ := hrel
    have HT := Lib.hid hb
    have k0 := hb.k0
    clear hb
    rw [HG.out] at k0
    by_cases hlt : k < T.ns
    · have z1 : (k : Int) < (T.ns : Int) := by omega
      have z0 : (0 : Int) ≤ (k : Int) := by omega
      have hr := HT.out.2.1.st HG.out hlt
      have c0 : wr.cell? ⟨gS, k * 14, none⟩ = some (.complex .f64 (T.st k).a (T.st k).b) := by simpa using hr 0 _ rfl
      obtain ⟨dx, dy, p, q', h1, h2, h3, h4, h5⟩ := HD.out k hlt
      have hq := fun w => run_complex_sum (P := Try.prog) w .sub (Or.inr rfl) 24 .f64 (T.st k).a (T.st k).b a b dx dy (by unfold cSumBits; rw [h1, h2]; rfl)
      have hD := fun w => s_dot dx dy dx dy p q' (ds k) w h3 h4 h5
      clear h1 h2 h3 h4 h5 hr
      generalize (T.st k).a = za at *
      generalize (T.st k).b = zb at *
      rcases hcase with ⟨hz, rfl, rfl⟩ | ⟨hz, rfl, rfl⟩
      · subst hz
        have HS := Lib.hid (show fstR (ltD ds) (0 + 1) = 0 from by rw [fstR_step]; split <;> rfl)
        generalize hdk : ds 0 = dk at *
        have HK := Lib.hid hdk
        clear hdk
        go_wp2_with (go_at_call 70; (with_reducible refine (hD _).mono ?_); rintro e w' ⟨rfl, rfl⟩)
        go_roundw
        case rel => exact ⟨0 + 1, by omega, by go_num, .inr ⟨by omega, by rw [HS.out]; rfl, by rw [HS.out, HK.out]⟩, HT.out⟩
        case measure => simp [intOf]; omega
      · have hstep : ((FloatKind.f64.format.order (ds k) (ds (fstR (ltD ds) k)) == some .lt) = true ∧ fstR (ltD ds) (k + 1) = k) ∨ ((FloatKind.f64.format.order (ds k) (ds (fstR (ltD ds) k)) == some .lt) = false ∧ fstR (ltD ds) (k + 1) = fstR (ltD ds) k) := by
          rw [fstR_step]
          cases h : ltD ds k (fstR (ltD ds) k)
          · exact .inr ⟨h, by simp⟩
          · exact .inl ⟨h, by simp⟩
        generalize fstR (ltD ds) k = m at *
        have m0 : ¬ ((m : Int) < 0) := by omega
        rcases hstep with ⟨hord, hs⟩ | ⟨hord, hs⟩
        · have HS := Lib.hid hs
          clear hs
          generalize hdk : ds k = dk at *
          have HK := Lib.hid hdk
          clear hdk
          go_wp2_with (go_at_call 70; (with_reducible refine (hD _).mono ?_); rintro e w' ⟨rfl, rfl⟩)
          go_roundw
          case rel => exact ⟨k + 1, by omega, by go_num, .inr ⟨by omega, by rw [HS.out], by rw [HS.out, HK.out]⟩, HT.out⟩
          case measure => simp [intOf]; omega
        · have HS := Lib.hid hs
          clear hs
          generalize hdk : ds k = dk at *
          have HK := Lib.hid hdk
          clear hdk
          go_wp2_with (go_at_call 70; (with_reducible refine (hD _).mono ?_); rintro e w' ⟨rfl, rfl⟩)
          go_roundw
          case rel => exact ⟨k + 1, by omega, by go_num, .inr ⟨by omega, by rw [HS.out], by rw [HS.out]⟩, HT.out⟩
          case measure => simp [intOf]; omega
    · obtain rfl : k = T.ns := by omega
      have hpos : 0 < T.ns := by omega
      rcases hcase with ⟨hz, _⟩ | ⟨_, rfl, rfl⟩
      · omega
      go_wp2_with fail
      go_ret
      exact ⟨rfl, HT.out.2.2⟩
end Go.Proofs.Ytbklmfchbojboaa

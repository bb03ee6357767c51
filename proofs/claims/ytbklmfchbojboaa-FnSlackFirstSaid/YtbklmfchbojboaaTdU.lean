/- The walk of the law FnSlackFirst. -/
import Derived.Test.YtbklmfchbojboaaTdR
import Derived.Test.YtbklmfchbojboaaTdS
namespace Go.Proofs.Ytbklmfchbojboaa
open Go.RowKit Ieee
set_option linter.unusedSimpArgs false
set_option linter.unusedVariables false
attribute [local go_sem] st_cplx

theorem res_same {H : Int → Prop} {t n n' : Int} {ok ok' : Bool} (h : SlkRes H t n ok) (h' : SlkRes H t n' ok') : ok' = ok := by
  cases ok <;> cases ok'
  · rfl
  · obtain ⟨j, hj, e, hh, _⟩ := h'.1 rfl
    rw [e] at hh
    exact absurd hh ((h.2 rfl).2 j hj)
  · obtain ⟨j, hj, e, hh, _⟩ := h.1 rfl
    rw [e] at hh
    exact absurd hh ((h'.2 rfl).2 j hj)
  · rfl
theorem strm_all (T : Tid) (a b : Nat) : ∃ (ds : Nat → Nat) (f : Int → Nat × Nat), (TidOk T ∧ okP a ∧ okP b → NrOk T a b ds) ∧ (TidOk T ∧ okP a ∧ okP b → StrmIs T ds f) := by
  by_cases h : TidOk T ∧ okP a ∧ okP b
  · obtain ⟨ds, hd⟩ := nr_ex h.1.1 h.2.1 h.2.2
    obtain ⟨f, hf⟩ := strm_ex (ds := ds) h.1
    exact ⟨ds, f, fun _ => hd, fun _ => hf⟩
  · exact ⟨fun _ => 0, fun _ => (0, 0), fun k => absurd k h, fun k => absurd k h⟩

set_option maxRecDepth 100000 in
set_option maxHeartbeats 8000000 in
theorem w_FnSlackFirst (a0 : Option Addr) (len cap : Nat) (zs : List Int) (w : World) (hr : IsRow .u8 w a0 len cap zs) :
    Calls Try.prog 5 #[.slice a0 len cap] w fun e w' => e = .returned (.bool true) ∧ Below w.heap.size w w' := by
  by_cases hbig : len ≤ 1048576
  case neg =>
    go_enter Try.func5, Try.ntmps5
    have hb2 : (1048576 : Int) < (len : Int) := by omega
    go_wp2_with (go_at_call 6; go_in)
    go_ret
    exact ⟨rfl, Below.refl _ _⟩
  case pos =>
  have hcode := code_of_row hr hbig
  go_enter Try.func5, Try.ntmps5
  go_wp2_with (go_at_call 6; go_in)
  refine (d_slackfrom w len cap a0 hcode).mono ?_
  rintro e w1 ⟨T, a, b, t, m, rfl, ⟨al, bl⟩, ht, ⟨ml, mn⟩, hT, b1⟩
  have ga := World.grownBy_alloc w1 (.cells #[.slice T.S T.ns T.cs, .slice T.H T.nh T.ch] 37) none
  have HB := Lib.hid (show BoxT w 0 T w1.heap.size (w1.alloc (.cells #[.slice T.S T.ns T.cs, .slice T.H T.nh T.ch] 37)) from ⟨heap_alloc_new w1 _, hT.same (HiSame.grown ga (fun k e => by cases e)), b1.alloc b1.size _⟩)
  obtain ⟨tl, th⟩ := ht
  obtain ⟨ds, f, hd, hf⟩ := strm_all T a b
  have HI := Lib.hid (fun wx (h : BoxT w 0 T w1.heap.size wx) => i_SlackFrom 0 T a b ds f m t wx h.2.1 al bl ml mn tl th hd hf)
  have HS := Lib.hid (fun wx (h : BoxT w 0 T w1.heap.size wx) => s_SlackFrom 0 T a b ds f m t wx h.2.1 al bl ml mn tl th hd hf)
  have HY := Lib.hid (fun wx (h : BoxT w 0 T w1.heap.size wx) z (hg : TidOk T ∧ okP a ∧ okP b) (hz : 0 ≤ z ∧ z ≤ 10000000) => i_StreamAt_yes 0 T a b ds (f z).1 (f z).2 z wx h.2.1 hg.1 al bl hg.2 (hd hg) hz (hf hg z hz.1 hz.2).1)
  have HX := Lib.hid (fun wx (h : BoxT w 0 T w1.heap.size wx) z (hg : ¬ ((TidOk T ∧ okP a ∧ okP b) ∧ 0 ≤ z ∧ z ≤ 10000000)) => i_StreamAt_no 0 T a b ds z wx h.2.1 al bl hd hg)
  have HF := Lib.hid (fun (hg : TidOk T ∧ okP a ∧ okP b) z (hz : 0 ≤ z ∧ z ≤ 10000000) => (hf hg z hz.1 hz.2).2)
  have k0 := HB.out.k0
  have k1 := HB.out.k1
  clear hT b1 ga hd hf
  go_wp2_with fail
  generalize w1.alloc (.cells #[.slice T.S T.ns T.cs, .slice T.H T.nh T.ch] 37) = w2 at *
  generalize w1.heap.size = q at *
  refine (HI.out _ HB.out).mono ?_
  rintro e w3 ⟨n, ok, hres, rfl, b3⟩
  have HB3 := Lib.hid (HB.out.step b3)
  have HR := Lib.hid hres
  clear b3 hres HB HI k0 k1
  have k0 := HB3.out.k0
  have k1 := HB3.out.k1
  go_wp2_with fail
  refine (HS.out _ HB3.out).mono ?_
  rintro e w4 ⟨n', ok', hres, rfl, b4⟩
  have HB4 := Lib.hid (HB3.out.step b4)
  obtain rfl : ok' = ok := res_same HR.out hres
  clear b4 hres HB3 HS k0 k1
  have k0 := HB4.out.k0
  have k1 := HB4.out.k1
  cases ok'
  · obtain rfl : n = 0 := (HR.out.2 rfl).1
    go_wp2_with fail
    go_ret
    exact ⟨rfl, HB4.out.2.2⟩
  obtain ⟨j, hj, hn, hh, hbef⟩ := HR.out.1 rfl
  have HH := Lib.hid hh
  have HBF := Lib.hid hbef
  clear hbef HR
  obtain ⟨⟨hg, hz⟩, s1, s2⟩ := hh
  obtain ⟨⟨u1, v1⟩, nu, nv⟩ := HF.out hg n hz
  have hst := HY.out w4 HB4.out n hg hz
  have hs : (Try.prog.underlying 42).isSome = true := by rw [Try.underlying42]; rfl
  have qm := fun w => run_convert_float_float (P := Try.prog) w 42 48 .f32 .f64 _ _ hs Try.underlying48 (wid_num ml mn).1
  have qu := fun w => run_convert_float_float (P := Try.prog) w 42 48 .f32 .f64 _ _ hs Try.underlying48 (wid_num u1 nu).1
  have qv := fun w => run_convert_float_float (P := Try.prog) w 42 48 .f32 .f64 _ _ hs Try.underlying48 (wid_num v1 nv).1
  have au := fun w' => l_amount (wid (f n).1) w' (wid_lt _)
  have av := fun w' => l_amount (wid (f n).2) w' (wid_lt _)
  obtain ⟨f1, h1, _, _, e1⟩ := slk_flag u1 nu ml mn
  obtain ⟨f2, h2, _, _, e2⟩ := slk_flag v1 nv ml mn
  obtain rfl : f1 = true := h1.2 s1
  obtain rfl : f2 = true := h2.2 s2
  have e1' : (FloatKind.f64.format.order (amtW (wid (f n).1)) (wid m) == some .gt) = false := e1
  have e2' : (FloatKind.f64.format.order (amtW (wid (f n).2)) (wid m) == some .gt) = false := e2
  clear e1 e2 h1 h2 s1 s2
  have HG := Lib.hid hg
  obtain ⟨n0, n1⟩ := hz
  have hsub : n - t = 60 * (j : Int) := by omega
  have hrem : (n - t).tmod 60 = 0 := by rw [hsub, Int.mul_tmod_right]
  have HSUB := Lib.hid (And.intro hn hsub)
  have hwr : IntKind.i64.wrap (n - t) = n - t := IntWalk.i64_in _ (by omega)
  have tb0 : -43260 ≤ t := by omega
  have tb1 : t ≤ 10000000 := by omega
  have HQ := Lib.hid (And.intro qm hs)
  clear hg hn hsub
  generalize hfu : (f n).1 = u at *
  generalize hfv : (f n).2 = v at *
  clear hfu hfv
  generalize hau : amtW (wid u) = xu at *
  generalize hav : amtW (wid v) = xv at *
  generalize wid u = yu at *
  generalize wid v = yv at *
  clear hau hav
  go_wp2_with fail
  refine hst.mono ?_
  rintro e w5 ⟨rfl, b5⟩
  have HB5 := Lib.hid (HB4.out.step b5)
  clear b5 HB4 k0 k1 hst
  have k0 := HB5.out.k0
  have k1 := HB5.out.k1
  by_cases hj0 : j = 0
  · have hnt : n = t := by have := HSUB.out.1; rw [this, hj0]; omega
    have hnb : (n == t) = true := by simpa using hnt
    go_wp2_with (first
      | (go_at_call 18; ((with_reducible refine (au _).mono ?_); rintro e w' ⟨rfl, rfl⟩))
      | (go_at_call 18; ((with_reducible refine (av _).mono ?_); rintro e w' ⟨rfl, rfl⟩)))
    go_ret
    exact ⟨rfl, HB5.out.2.2⟩
  have hlt : t < n := by have := HSUB.out.1; omega
  have hne : ¬ n = t := by omega
  have hneb : (n == t) = false := by simpa using hne
  have hnot : ¬ Hit T a b f m (n - 60) := by
    have h := HBF.out (j - 1) (by omega)
    rw [show t + 60 * ((j - 1 : Nat) : Int) = n - 60 by have := HSUB.out.1; omega] at h
    exact h
  have HN := Lib.hid hnot
  clear hnot
  by_cases hr2 : 0 ≤ n - 60 ∧ n - 60 ≤ 10000000
  · have hst := HY.out w5 HB5.out (n - 60) HG.out hr2
    obtain ⟨⟨u1', v1'⟩, nu', nv'⟩ := HF.out HG.out (n - 60) hr2
    have qu' := fun w => run_convert_float_float (P := Try.prog) w 42 48 .f32 .f64 _ _ HQ.out.2 Try.underlying48 (wid_num u1' nu').1
    have qv' := fun w => run_convert_float_float (P := Try.prog) w 42 48 .f32 .f64 _ _ HQ.out.2 Try.underlying48 (wid_num v1' nv').1
    have au' := fun w' => l_amount (wid (f (n - 60)).1) w' (wid_lt _)
    have av' := fun w' => l_amount (wid (f (n - 60)).2) w' (wid_lt _)
    obtain ⟨f1, h1, _, _, e1⟩ := slk_flag u1' nu' ml mn
    obtain ⟨f2, h2, _, _, e2⟩ := slk_flag v1' nv' ml mn
    have hff : ¬ (f1 = true ∧ f2 = true) := fun h => HN.out ⟨⟨HG.out, hr2⟩, h1.1 h.1, h2.1 h.2⟩
    have e3 : (FloatKind.f64.format.order (amtW (wid (f (n - 60)).1)) (wid m) == some .gt) = !f1 := e1
    have e4 : (FloatKind.f64.format.order (amtW (wid (f (n - 60)).2)) (wid m) == some .gt) = !f2 := e2
    clear e1 e2 h1 h2 HN hr2
    generalize hfu : (f (n - 60)).1 = u' at *
    generalize hfv : (f (n - 60)).2 = v' at *
    clear hfu hfv
    generalize hau : amtW (wid u') = xu' at *
    generalize hav : amtW (wid v') = xv' at *
    generalize wid u' = yu' at *
    generalize wid v' = yv' at *
    clear hau hav
    go_wp2_with (first
      | (go_at_call 18; ((with_reducible refine (au _).mono ?_); rintro e w' ⟨rfl, rfl⟩))
      | (go_at_call 18; ((with_reducible refine (av _).mono ?_); rintro e w' ⟨rfl, rfl⟩)))
    refine hst.mono ?_
    rintro e w6 ⟨rfl, b6⟩
    have HB6 := Lib.hid (HB5.out.step b6)
    clear b6 hst k0 k1
    cases f1
    · clear hff
      go_wp2_with (first
        | (go_at_call 18; ((with_reducible refine (au' _).mono ?_); rintro e w' ⟨rfl, rfl⟩))
        | (go_at_call 18; ((with_reducible refine (av' _).mono ?_); rintro e w' ⟨rfl, rfl⟩)))
      go_ret
      exact ⟨rfl, HB6.out.2.2⟩
    · obtain rfl : f2 = false := by
        cases f2
        · rfl
        · exact absurd ⟨rfl, rfl⟩ hff
      clear hff
      go_wp2_with (first
        | (go_at_call 18; ((with_reducible refine (au' _).mono ?_); rintro e w' ⟨rfl, rfl⟩))
        | (go_at_call 18; ((with_reducible refine (av' _).mono ?_); rintro e w' ⟨rfl, rfl⟩)))
      go_ret
      exact ⟨rfl, HB6.out.2.2⟩
  · have hst := HX.out w5 HB5.out (n - 60) (fun h => hr2 h.2)
    clear hr2
    go_wp2_with (first
      | (go_at_call 18; ((with_reducible refine (au _).mono ?_); rintro e w' ⟨rfl, rfl⟩))
      | (go_at_call 18; ((with_reducible refine (av _).mono ?_); rintro e w' ⟨rfl, rfl⟩)))
    refine hst.mono ?_
    rintro e w6 ⟨rfl, b6⟩
    have HB6 := Lib.hid (HB5.out.step b6)
    clear b6 hst k0 k1
    go_wp2_with fail
    go_ret
    exact ⟨rfl, HB6.out.2.2⟩
end Go.Proofs.Ytbklmfchbojboaa

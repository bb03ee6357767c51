/- The laws' own comparisons: eqFloat32S, eqIntS, eqFloat32SS, eqPolar at lists that hold the same. -/
import Derived.Test.YtdhdefhllleeiaaPoJ
import Derived.Test.YtdhdefhllleeiaaWd
import Derived.Deep.RegionHeld3
namespace Go.Proofs.Ytdhdefhllleeiaa
open Go.RowKit Ieee
set_option linter.unusedSimpArgs false
set_option linter.unusedVariables false

/-- Widening at any word: one word, or what is no number. -/
theorem wide_any (src dst : TypeId) (hs : (Try.prog.underlying src).isSome = true) (hd : Try.prog.underlying dst = some (.float .f64)) (x : Nat) (hx : x < 4294967296) :
    (∃ y, ∀ w, (convert src dst (.float .f32 x)).run Try.prog w = .ok (.float .f64 y) w) ∨
    ∃ nb : World → Nat, (∀ w z, FloatKind.f64.format.order (nb w) z = none) ∧ ∀ w, (convert src dst (.float .f32 x)).run Try.prog w = .ok (.float .f64 (nb w)) w.drew := by
  cases h : floatToFloatBits .f32 x .f64 with
  | some r => exact .inl ⟨r, fun w => run_convert_float_float (P := Try.prog) w src dst .f32 .f64 x r hs hd h⟩
  | none =>
    right
    obtain ⟨u, hs'⟩ := Option.isSome_iff_exists.1 hs
    unfold floatToFloatBits at h
    rw [if_neg (by decide)] at h
    split at h
    · rename_i a b he
      refine ⟨fun w => (Question.nanConv .f64 x).cut (w.tape w.drawn (.nanConv .f64 x)), fun w => ?_, fun w => ?_⟩
      · obtain ⟨_, _, h2, _⟩ := nan_cut 0 0 (w.tape w.drawn (.nanConv .f64 x)) _ rfl
        exact h2
      · cases u <;> simp [convert, run_underlying hs', run_underlying hd, Conv.floatToFloat, he, Question.forced]
    · cases h
    · rename_i s m e he
      split at h
      · rename_i ho
        exfalso
        have hn : S.isNum x := S.isNum_of he
        have := (wid_num hx hn).1
        unfold floatToFloatBits at this
        rw [if_neg (by decide), he] at this
        simp only [ho, if_true] at this
        cases this
      · cases h
set_option maxHeartbeats 400000 in
theorem same_nan (x y : Nat) (w : World) (hx : ∀ z, FloatKind.f64.format.order x z = none) (hy : ∀ z, FloatKind.f64.format.order y z = none) :
    Calls Try.prog 31 #[.float .f64 x, .float .f64 y] w fun e w' => e = .returned (.bool true) ∧ w = w' := by
  have h1 := hx x
  have h2 := hy y
  clear hx hy
  go_enter Try.func31, Try.ntmps31
  go_wp2
  go_ret
  exact ⟨rfl, rfl⟩
set_option maxRecDepth 100000 in
set_option maxHeartbeats 2000000 in
theorem l_eqF (f : Nat → Nat) (A1 A2 : Option Addr) (n c1 c2 : Nat) (w : World) (h1 : RowF w A1 n f) (h2 : RowF w A2 n f) :
    Calls Try.prog 69 #[.slice A1 n c1, .slice A2 n c2] w fun e w' => e = .returned (.bool true) ∧ Drawn w w' := by
  have hs : (Try.prog.underlying 31).isSome = true := by rw [Try.underlying31]; rfl
  have hn := h1.2.1
  have HW := Lib.hid (And.intro h1.1 (And.intro h2.1 h1.2.2))
  clear h1 h2
  go_enter Try.func69, Try.ntmps69
  go_wp2
  go_loopw [5] (fun i wr => ∃ k : Nat, k ≤ n ∧ i = .int .i64 k ∧ Drawn w wr) (fun i _ => n - (intOf i).toNat)
  case atStart => exact ⟨0, Nat.zero_le _, rfl, Drawn.refl _⟩
  case round =>
    obtain ⟨k, hk, rfl, hd⟩ := hrel
    by_cases hlt : k < n
    · obtain ⟨g1, o1, rfl, r1⟩ := HW.out.1 (by omega)
      obtain ⟨g2, o2, rfl, r2⟩ := HW.out.2.1 (by omega)
      have hx := HW.out.2.2 k hlt
      have hk1 : (k : Int) < (n : Int) := by omega
      have d1 := r1 k hlt
      have d2 := r2 k hlt
      unfold fv at d1 d2
      dsimp only at d1 d2
      generalize f k = x at *
      clear r1 r2
      rcases wide_any 31 48 hs Try.underlying48 x hx with ⟨y, hy⟩ | ⟨nb, hnb, hy⟩
      · have c1 := hd.keeps.2 _ _ d1
        have c2 := hd.keeps.2 _ _ d2
        have hsm := fun w => same_float y w
        have HD := Lib.hid hd
        clear d1 d2 hd
        go_wp2
        go_quiet ((go_at_call 31; exact Calls.quiet_of_same ((hsm _).mono fun _ _ h => ⟨h.1, h.2.symm⟩)))
        have HD2 := Lib.hid (HD.out.trans (Drawn.one wr nq))
        go_wp2
        go_roundw
        case rel => exact ⟨k + 1, by omega, by go_num, HD2.out⟩
        case measure => simp [intOf]; omega
      · have c1 := hd.keeps.2 _ _ d1
        have c2 := hd.keeps.2 _ _ d2
        have HD := Lib.hid hd
        have HNB := Lib.hid hnb
        clear d1 d2 hnb hd
        go_wp2
        go_region_with ((go_at_call 31; ((with_reducible refine (same_nan _ _ _ (HNB.out _) (HNB.out _)).mono ?_); rintro e w' ⟨rfl, rfl⟩)))
        all_goals go_wp2
        all_goals go_roundw
        all_goals first | exact ⟨k + 1, by omega, by go_num, HD.out.trans ⟨3, rfl⟩⟩ | (simp [intOf]; omega)
    · obtain rfl : k = n := by omega
      have hk1 : ¬ ((k : Int) < (k : Int)) := by omega
      go_wp2
      go_ret
      exact ⟨rfl, hd⟩
set_option maxRecDepth 100000 in
set_option maxHeartbeats 2000000 in
theorem l_eqI (f : Nat → Int) (A1 A2 : Option Addr) (n c1 c2 : Nat) (w : World) (h1 : RowI w A1 n f) (h2 : RowI w A2 n f) :
    Calls Try.prog 70 #[.slice A1 n c1, .slice A2 n c2] w fun e w' => e = .returned (.bool true) ∧ Drawn w w' := by
  have hn := h1.2.1
  have HW := Lib.hid (And.intro h1.1 h2.1)
  clear h1 h2
  go_enter Try.func70, Try.ntmps70
  go_wp2
  go_loopw [5] (fun i wr => ∃ k : Nat, k ≤ n ∧ i = .int .i64 k ∧ Drawn w wr) (fun i _ => n - (intOf i).toNat)
  case atStart => exact ⟨0, Nat.zero_le _, rfl, Drawn.refl _⟩
  case round =>
    obtain ⟨k, hk, rfl, hd⟩ := hrel
    by_cases hlt : k < n
    · obtain ⟨g1, o1, rfl, r1⟩ := HW.out.1 (by omega)
      obtain ⟨g2, o2, rfl, r2⟩ := HW.out.2 (by omega)
      have hk1 : (k : Int) < (n : Int) := by omega
      have d1 := r1 k hlt
      have d2 := r2 k hlt
      unfold iv at d1 d2
      dsimp only at d1 d2
      generalize f k = x at *
      clear r1 r2
      have c1 := hd.keeps.2 _ _ d1
      have c2 := hd.keeps.2 _ _ d2
      have HD := Lib.hid hd
      clear d1 d2 hd
      go_wp2
      first
        | (go_quiet (fail)
           have HD2 := Lib.hid (HD.out.trans (Drawn.one wr nq)))
        | (have HD2 := Lib.hid HD.out)
      go_wp2
      go_roundw
      case rel => exact ⟨k + 1, by omega, by go_num, HD2.out⟩
      case measure => simp [intOf]; omega
    · obtain rfl : k = n := by omega
      have hk1 : ¬ ((k : Int) < (k : Int)) := by omega
      go_wp2
      go_ret
      exact ⟨rfl, hd⟩
/-- Two polars that hold the same. -/
def Same4 (P Q : Pol) : Prop := P.nw = Q.nw ∧ P.ws = Q.ws ∧ P.na = Q.na ∧ P.av = Q.av ∧ P.ns = Q.ns ∧ P.rn = Q.rn ∧ P.sp = Q.sp
set_option maxRecDepth 100000 in
set_option maxHeartbeats 2000000 in
theorem l_eqFF (n : Nat) (A1 A2 : Option Addr) (c1 c2 : Nat) (R1 R2 : Nat → Option Addr) (rn k1 k2 : Nat → Nat) (sp : Nat → Nat → Nat) (w : World) (hn : n ≤ 1048576)
    (h1 : Row w A1 n (fun i => .slice (R1 i) (rn i) (k1 i))) (h2 : Row w A2 n (fun i => .slice (R2 i) (rn i) (k2 i))) (hr1 : ∀ i, i < n → RowF w (R1 i) (rn i) (sp i)) (hr2 : ∀ i, i < n → RowF w (R2 i) (rn i) (sp i)) :
    Calls Try.prog 71 #[.slice A1 n c1, .slice A2 n c2] w fun e w' => e = .returned (.bool true) ∧ Drawn w w' := by
  have HW := Lib.hid (And.intro h1 (And.intro h2 (And.intro hr1 hr2)))
  clear h1 h2 hr1 hr2
  go_enter Try.func71, Try.ntmps71
  go_wp2
  go_loopw [5] (fun i wr => ∃ k : Nat, k ≤ n ∧ i = .int .i64 k ∧ Drawn w wr) (fun i _ => n - (intOf i).toNat)
  case atStart => exact ⟨0, Nat.zero_le _, rfl, Drawn.refl _⟩
  case round =>
    obtain ⟨k, hk, rfl, hd⟩ := hrel
    by_cases hlt : k < n
    · obtain ⟨g1, o1, rfl, r1⟩ := HW.out.1 (by omega)
      obtain ⟨g2, o2, rfl, r2⟩ := HW.out.2.1 (by omega)
      have hk3 : (k : Int) < (n : Int) := by omega
      have c3 := hd.keeps.2 _ _ (r1 k hlt)
      have c4 := hd.keeps.2 _ _ (r2 k hlt)
      have heq := fun m => l_eqF (sp k) (R1 k) (R2 k) (rn k) (k1 k) (k2 k) (wr.drewN m) ((HW.out.2.2.1 k hlt).keeps (hd.keeps.trans (keeps_drewN _ m))) ((HW.out.2.2.2 k hlt).keeps (hd.keeps.trans (keeps_drewN _ m)))
      dsimp only at c3 c4
      generalize R1 k = B1 at *
      generalize R2 k = B2 at *
      generalize rn k = rk at *
      generalize k1 k = a1 at *
      generalize k2 k = a2 at *
      have HD := Lib.hid hd
      clear r1 r2 hd
      go_wp2
      go_quiet ((go_at_call 69; exact Calls.quiet_of (heq _)))
      have HD2 := Lib.hid (HD.out.trans (Drawn.one wr nq))
      go_wp2
      go_roundw
      case rel => exact ⟨k + 1, by omega, by go_num, HD2.out⟩
      case measure => simp [intOf]; omega
    · obtain rfl : k = n := by omega
      have hk1 : ¬ ((k : Int) < (k : Int)) := by omega
      go_wp2
      go_ret
      exact ⟨rfl, hd⟩
set_option maxRecDepth 100000 in
set_option maxHeartbeats 1000000 in
theorem l_eqP (P Q : Pol) (w : World) (hP : PolIn w P) (hQ : PolIn w Q) (hs : Same4 P Q) :
    Calls Try.prog 29 #[.agg #[.slice P.W P.nw P.cw, .slice P.A P.na P.ca, .slice P.S P.ns P.cs], .agg #[.slice Q.W Q.nw Q.cw, .slice Q.A Q.na Q.ca, .slice Q.S Q.ns Q.cs]] w fun e w' => e = .returned (.bool true) ∧ Below w.heap.size w w' := by
  obtain ⟨W, nw, cw, ws, A, na, ca, av, Z, ns, cs, R, rn, rc, sp⟩ := P
  obtain ⟨W', nw', cw', ws', A', na', ca', av', Z', ns', cs', R', rn', rc', sp'⟩ := Q
  obtain ⟨rfl, rfl, rfl, rfl, rfl, rfl, rfl⟩ := hs
  obtain ⟨p1, p2, p3, p4⟩ := hP
  obtain ⟨q1, q2, q3, q4⟩ := hQ
  dsimp only at *
  have e1 := Lib.hid (fun w' (k : Keeps w w') => l_eqF ws W W' nw cw cw' w' (p1.keeps k) (q1.keeps k))
  have e2 := Lib.hid (fun w' (k : Keeps w w') => l_eqI av A A' na ca ca' w' (p2.keeps k) (q2.keeps k))
  have e3 := Lib.hid (fun w' (k : Keeps w w') => l_eqFF ns Z Z' cs cs' R R' rn rc rc' sp w' p3.2 (p3.1.keeps k) (q3.1.keeps k) (fun i hi => (p4 i hi).keeps k) (fun i hi => (q4 i hi).keeps k))
  clear p1 p2 p3 p4 q1 q2 q3 q4
  have hk2 : ∀ o1 o2 n, Keeps w (((w.alloc o1).alloc o2).drewN n) := fun o1 o2 n => ((keeps_alloc w o1).trans (keeps_alloc _ o2)).trans (keeps_drewN _ n)
  have hb2 : ∀ o1 o2 n, Below w.heap.size w (((w.alloc o1).alloc o2).drewN n) := fun o1 o2 n => below_drewN (((Below.refl _ w).alloc (Nat.le_refl _) o1).alloc (by simp) o2) n
  have HK := Lib.hid hk2
  have HB := Lib.hid hb2
  clear hk2 hb2
  go_enter Try.func29, Try.ntmps29
  go_wp2_with fail
  with_reducible refine (e1.out _ ((keeps_alloc w _).trans (keeps_alloc _ _))).mono ?_
  rintro e w1 ⟨rfl, m1, rfl⟩
  go_wp2_with fail
  with_reducible refine (e2.out _ (HK.out _ _ _)).mono ?_
  rintro e w1 ⟨rfl, m2, rfl⟩
  rw [World.drewN_drewN]
  go_wp2_with fail
  with_reducible refine (e3.out _ (HK.out _ _ _)).mono ?_
  rintro e w1 ⟨rfl, m3, rfl⟩
  rw [World.drewN_drewN]
  go_wp2
  go_ret
  exact ⟨rfl, HB.out _ _ _⟩
end Go.Proofs.Ytdhdefhllleeiaa

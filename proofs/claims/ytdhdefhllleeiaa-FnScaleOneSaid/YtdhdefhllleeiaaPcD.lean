/- The law of a polar scaled by one: FnScaleOne. -/
import Derived.Test.YtdhdefhllleeiaaPcC
import Derived.Test.YtdhdefhllleeiaaPdI
import Derived.Test.YtdhdefhllleeiaaPgA
import Derived.Test.YtdhdefhllleeiaaPxE
namespace Go.Proofs.Ytdhdefhllleeiaa
open Go.RowKit Ieee
set_option linter.unusedSimpArgs false
set_option linter.unusedVariables false

theorem fl_div_zero_inf {f : Format} {x y : Nat} {s t : Bool} {m : Nat} {i j : Int} (hx : f.read x = .number s m i) (hm : m ≠ 0) (hy : f.read y = .number t 0 j) : ∃ b, f.div x y = some (f.write (.infinity b)) := by
  unfold Format.div
  rw [hx, hy]
  simp only [Datum.quotient, if_pos, if_neg hm, Option.map_some]
  exact ⟨_, rfl⟩
theorem inf_self (b : Bool) : FloatKind.f64.format.order (FloatKind.f64.format.write (.infinity b)) (FloatKind.f64.format.write (.infinity b)) = some .eq := by cases b <;> kernel_rfl
set_option maxHeartbeats 800000 in
theorem l_same64 (x : Nat) (w : World) (hx : isNum x) :
    Calls Try.prog 103 #[.float .f64 x, .float .f64 x] w fun e w' => e = .returned (.bool true) ∧ w = w' := by
  have hs : FloatKind.f64.format.order x x = some .eq := by
    rw [show FloatKind.f64.format.order x x = some (compare (fval x) (fval x)) from order_val hx hx, Int.compare_eq_eq.2 rfl]
  clear hx
  by_cases hz : (FloatKind.f64.format.order x 0 == some .eq) = true
  · obtain ⟨t, j, hx⟩ := fl_order_zero (f := FloatKind.f64.format) (x := x) (z := 0) (s := false) (i := -1074) (by kernel_rfl) (by simpa using hz)
    obtain ⟨b, hr⟩ := fl_div_zero_inf (f := FloatKind.f64.format) (x := 4607182418800017408) (y := x) (s := false) (m := 4503599627370496) (i := -52) (by kernel_rfl) (by omega) hx
    have hi := inf_self b
    generalize FloatKind.f64.format.write (.infinity b) = r at *
    have hq := fun w => run_float_arith (P := Try.prog) w .quo 48 .f64 4607182418800017408 x r hr
    have hz2 : FloatKind.f64.format.order x 0 = some .eq := by simpa using hz
    clear hx hr
    go_enter Try.func103, Try.ntmps103
    go_wp2
    go_ret
    exact ⟨rfl, rfl⟩
  · have hz' : (FloatKind.f64.format.order x 0 == some .eq) = false := by simpa using hz
    have hz2 : ¬ FloatKind.f64.format.order x 0 = some .eq := by simpa using hz
    clear hz
    go_enter Try.func103, Try.ntmps103
    go_wp2
    go_ret
    exact ⟨rfl, rfl⟩
set_option maxHeartbeats 800000 in
theorem l_same32 (x : Nat) (w : World) (hx : x < 4294967296) (hn : S.isNum x) :
    Calls Try.prog 94 #[.float .f32 x, .float .f32 x] w fun e w' => e = .returned (.bool true) ∧ w = w' := by
  obtain ⟨c1, c2, _⟩ := wid_num hx hn
  have hcv := fun w => run_convert_float_float (P := Try.prog) w 31 48 .f32 .f64 x (wid x) (by rw [Try.underlying31]; rfl) Try.underlying48 c1
  have h64 := fun w => l_same64 (wid x) w c2
  clear c1 c2
  generalize wid x = y at *
  go_enter Try.func94, Try.ntmps94
  go_wp2_with fail
  refine (h64 _).mono ?_
  rintro e w1 ⟨rfl, rfl⟩
  go_wp2
  go_ret
  exact ⟨rfl, rfl⟩
set_option maxRecDepth 100000 in
set_option maxHeartbeats 2000000 in
theorem l_sameSingles (f : Nat → Nat) (A1 A2 : Option Addr) (n c1 c2 : Nat) (w : World) (h1 : RowF w A1 n f) (h2 : RowF w A2 n f) (hnum : ∀ j, j < n → S.isNum (f j)) :
    Calls Try.prog 58 #[.slice A1 n c1, .slice A2 n c2] w fun e w' => e = .returned (.bool true) ∧ Drawn w w' := by
  have hn := h1.2.1
  have HW := Lib.hid (And.intro h1.1 (And.intro h2.1 (And.intro h1.2.2 hnum)))
  clear h1 h2 hnum
  go_enter Try.func58, Try.ntmps58
  go_wp2
  go_loopw [5] (fun i wr => ∃ k : Nat, k ≤ n ∧ i = .int .i64 k ∧ Drawn w wr) (fun i _ => n - (intOf i).toNat)
  case atStart => exact ⟨0, Nat.zero_le _, rfl, Drawn.refl _⟩
  case round =>
    obtain ⟨k, hk, rfl, hd⟩ := hrel
    by_cases hlt : k < n
    · obtain ⟨g1, o1, rfl, r1⟩ := HW.out.1 (by omega)
      obtain ⟨g2, o2, rfl, r2⟩ := HW.out.2.1 (by omega)
      have hsm := fun w => l_same32 (f k) w (HW.out.2.2.1 k hlt) (HW.out.2.2.2 k hlt)
      have hk1 : (k : Int) < (n : Int) := by omega
      have d1 := hd.keeps.2 _ _ (r1 k hlt)
      have d2 := hd.keeps.2 _ _ (r2 k hlt)
      unfold fv at d1 d2
      dsimp only at d1 d2
      generalize f k = x at *
      have HD := Lib.hid hd
      clear r1 r2 hd
      go_wp2
      go_quiet ((go_at_call 94; exact Calls.quiet_of_same ((hsm _).mono fun _ _ h => ⟨h.1, h.2.symm⟩)))
      have HD2 := Lib.hid (HD.out.trans (Drawn.one wr nq))
      go_wp2
      go_roundw
      case rel => exact ⟨k + 1, by omega, by go_num, HD2.out⟩
      case measure => simp [intOf]; omega
    · obtain rfl : k = n := by omega
      have hk1 : ¬ ((k : Int) < (k : Int)) := by omega
      go_wp2
      go_ret
      exact ⟨rfl, hd⟩
set_option maxRecDepth 100000 in
set_option maxHeartbeats 2000000 in
theorem l_sameInts (f : Nat → Int) (A1 A2 : Option Addr) (n c1 c2 : Nat) (w : World) (h1 : RowI w A1 n f) (h2 : RowI w A2 n f) :
    Calls Try.prog 59 #[.slice A1 n c1, .slice A2 n c2] w fun e w' => e = .returned (.bool true) ∧ Drawn w w' := by
  have hn := h1.2.1
  have HW := Lib.hid (And.intro h1.1 h2.1)
  clear h1 h2
  go_enter Try.func59, Try.ntmps59
  go_wp2
  go_loopw [5] (fun i wr => ∃ k : Nat, k ≤ n ∧ i = .int .i64 k ∧ Drawn w wr) (fun i _ => n - (intOf i).toNat)
  case atStart => exact ⟨0, Nat.zero_le _, rfl, Drawn.refl _⟩
  case round =>
    obtain ⟨k, hk, rfl, hd⟩ := hrel
    by_cases hlt : k < n
    · obtain ⟨g1, o1, rfl, r1⟩ := HW.out.1 (by omega)
      obtain ⟨g2, o2, rfl, r2⟩ := HW.out.2 (by omega)
      have hk1 : (k : Int) < (n : Int) := by omega
      have d1 := r1 k hlt
      have d2 := r2 k hlt
      unfold iv at d1 d2
      dsimp only at d1 d2
      generalize f k = x at *
      clear r1 r2
      have c1 := hd.keeps.2 _ _ d1
      have c2 := hd.keeps.2 _ _ d2
      have HD := Lib.hid hd
      clear d1 d2 hd
      go_wp2
      first
        | (go_quiet (fail)
           have HD2 := Lib.hid (HD.out.trans (Drawn.one wr nq)))
        | (have HD2 := Lib.hid HD.out)
      go_wp2
      go_roundw
      case rel => exact ⟨k + 1, by omega, by go_num, HD2.out⟩
      case measure => simp [intOf]; omega
    · obtain rfl : k = n := by omega
      have hk1 : ¬ ((k : Int) < (k : Int)) := by omega
      go_wp2
      go_ret
      exact ⟨rfl, hd⟩
set_option maxRecDepth 100000 in
set_option maxHeartbeats 4000000 in
theorem l_samePolar (P Q : Pol) (w : World) (hP : PolIn w P) (hQ : PolIn w Q) (hs : Same4 P Q) (hok : PolOk P) :
    Calls Try.prog 25 #[.agg #[.slice P.W P.nw P.cw, .slice P.A P.na P.ca, .slice P.S P.ns P.cs], .agg #[.slice Q.W Q.nw Q.cw, .slice Q.A Q.na Q.ca, .slice Q.S Q.ns Q.cs]] w fun e w' => e = .returned (.bool true) ∧ Below w.heap.size w w' := by
  obtain ⟨W, nw, cw, ws, A, na, ca, av, Z, ns, cs, R, rn, rc, sp⟩ := P
  obtain ⟨W', nw', cw', ws', A', na', ca', av', Z', ns', cs', R', rn', rc', sp'⟩ := Q
  obtain ⟨rfl, rfl, rfl, rfl, rfl, rfl, rfl⟩ := hs
  obtain ⟨p1, p2, p3, p4⟩ := hP
  obtain ⟨q1, q2, q3, q4⟩ := hQ
  obtain ⟨k1, k2, k3, k4⟩ := hok
  dsimp only at *
  have e1 := Lib.hid (fun w' (k : Keeps w w') => l_sameSingles ws W W' nw cw cw' w' (p1.keeps k) (q1.keeps k) (fun j hj => (k1.2.1 j hj).1.2.1))
  have e2 := Lib.hid (fun w' (k : Keeps w w') => l_sameInts av A A' na ca ca' w' (p2.keeps k) (q2.keeps k))
  have e3 := Lib.hid (fun i (hi : i < ns) w' (k : Keeps w w') => l_sameSingles (sp i) (R i) (R' i) (rn i) (rc i) (rc' i) w' ((p4 i hi).keeps k) ((q4 i hi).keeps k) (fun j hj => ((k4 i hi).2 j (by have := (k4 i hi).1; omega)).2.1))
  have HZ := Lib.hid (And.intro p3 q3)
  have hns : ns ≤ 1048576 := p3.2
  clear p1 p2 p3 p4 q1 q2 q3 q4 k1 k2 k3 k4
  have hk2 : ∀ o1 o2 n, Keeps w (((w.alloc o1).alloc o2).drewN n) := fun o1 o2 n => ((keeps_alloc w o1).trans (keeps_alloc _ o2)).trans (keeps_drewN _ n)
  have hb2 : ∀ o1 o2 n, Below w.heap.size w (((w.alloc o1).alloc o2).drewN n) := fun o1 o2 n => below_drewN (((Below.refl _ w).alloc (Nat.le_refl _) o1).alloc (by simp) o2) n
  have HK := Lib.hid hk2
  have HB := Lib.hid hb2
  clear hk2 hb2
  go_enter Try.func25, Try.ntmps25
  go_wp2_with fail
  with_reducible refine (e1.out _ ((keeps_alloc w _).trans (keeps_alloc _ _))).mono ?_
  rintro e w1 ⟨rfl, m1, rfl⟩
  go_wp2_with fail
  with_reducible refine (e2.out _ (HK.out _ _ _)).mono ?_
  rintro e w2 ⟨rfl, m2, rfl⟩
  rw [World.drewN_drewN]
  clear e1 e2
  generalize m1 + m2 = m3 at *
  have hs1 : (w.alloc (.cells #[.slice W nw cw, .slice A na ca, .slice Z ns cs] 28)).heap.size = w.heap.size + 1 := by simp
  have hx1 : (((w.alloc (.cells #[.slice W nw cw, .slice A na ca, .slice Z ns cs] 28)).alloc (.cells #[.slice W' nw cw', .slice A' na ca', .slice Z' ns cs'] 28)).drewN m3).heap[w.heap.size]? = some (.cells #[.slice W nw cw, .slice A na ca, .slice Z ns cs] 28) := by
    show ((w.alloc _).alloc _).heap[w.heap.size]? = _
    rw [Below.heap_alloc _ _ _ (by omega)]; exact heap_alloc_new _ _
  have hx2 : (((w.alloc (.cells #[.slice W nw cw, .slice A na ca, .slice Z ns cs] 28)).alloc (.cells #[.slice W' nw cw', .slice A' na ca', .slice Z' ns cs'] 28)).drewN m3).heap[w.heap.size + 1]? = some (.cells #[.slice W' nw cw', .slice A' na ca', .slice Z' ns cs'] 28) := by
    show ((w.alloc _).alloc _).heap[w.heap.size + 1]? = _
    rw [← hs1]; exact heap_alloc_new _ _
  have c1 := cell_of_row _ _ 2 _ _ _ hx1
  have c2 := cell_of_row _ _ 2 _ _ _ hx2
  have HC := Lib.hid (And.intro c1 c2)
  have HKE := Lib.hid (HK.out (.cells #[.slice W nw cw, .slice A na ca, .slice Z ns cs] 28) (.cells #[.slice W' nw cw', .slice A' na ca', .slice Z' ns cs'] 28) m3)
  have HBE := Lib.hid (HB.out (.cells #[.slice W nw cw, .slice A na ca, .slice Z ns cs] 28) (.cells #[.slice W' nw cw', .slice A' na ca', .slice Z' ns cs'] 28) m3)
  clear hs1 hx1 hx2 c1 c2 HK HB
  go_wp2_with fail
  generalize (((w.alloc (.cells #[.slice W nw cw, .slice A na ca, .slice Z ns cs] 28)).alloc (.cells #[.slice W' nw cw', .slice A' na ca', .slice Z' ns cs'] 28)).drewN m3) = w0 at *
  go_loopw [5] (fun i wr => ∃ k : Nat, k ≤ ns ∧ i = .int .i64 k ∧ Drawn w0 wr) (fun i _ => ns - (intOf i).toNat)
  case atStart => exact ⟨0, Nat.zero_le _, rfl, Drawn.refl _⟩
  case round =>
    obtain ⟨k, hk, rfl, hd⟩ := hrel
    have c1 := hd.keeps.2 _ _ HC.out.1
    have c2 := hd.keeps.2 _ _ HC.out.2
    by_cases hlt : k < ns
    · obtain ⟨g1, o1, rfl, r1⟩ := HZ.out.1.1 (by omega)
      obtain ⟨g2, o2, rfl, r2⟩ := HZ.out.2.1 (by omega)
      have hk3 : (k : Int) < (ns : Int) := by omega
      have c3 := (HKE.out.trans hd.keeps).2 _ _ (r1 k hlt)
      have c4 := (HKE.out.trans hd.keeps).2 _ _ (r2 k hlt)
      have heq := fun m => e3.out k hlt (wr.drewN m) ((HKE.out.trans hd.keeps).trans (keeps_drewN _ m))
      dsimp only at c3 c4
      generalize R k = B1 at *
      generalize R' k = B2 at *
      generalize rn k = rk at *
      generalize rc k = a1 at *
      generalize rc' k = a2 at *
      have HD := Lib.hid hd
      clear r1 r2 hd
      go_wp2
      go_quiet ((go_at_call 58; exact Calls.quiet_of (heq _)))
      have HD2 := Lib.hid (HD.out.trans (Drawn.one wr nq))
      go_wp2
      go_roundw
      case rel => exact ⟨k + 1, by omega, by go_num, HD2.out⟩
      case measure => simp [intOf]; omega
    · obtain rfl : k = ns := by omega
      have hk1 : ¬ ((k : Int) < (k : Int)) := by omega
      have HF := Lib.hid (show Below w.heap.size w wr from by
        obtain ⟨n, rfl⟩ := hd
        exact below_drewN HBE.out n)
      go_wp2
      go_ret
      exact ⟨rfl, HF.out⟩
/-- A polar scaled by one holds the same. -/
def oneQ (P : Pol) (gW cW gA cA gS cS : Nat) (b c : Nat → Nat) : Pol := ⟨some ⟨gW, 0, none⟩, P.nw, cW, P.ws, some ⟨gA, 0, none⟩, P.na, cA, P.av, some ⟨gS, 0, none⟩, P.ns, cS, fun i => some ⟨b i, 0, none⟩, P.rn, c, P.sp⟩
theorem mulS_one {x : Nat} (h : okS x) : floatBits .mul .f32 x 1065353216 = some (mulS x 1065353216) ∧ mulS x 1065353216 = x := by
  have h1 := mul_one h.1 h.2.1
  unfold mulS
  rw [h1]
  exact ⟨rfl, rfl⟩
theorem scale_one {P : Pol} (h : PolOk P) : ScaleOk P 1065353216 := ⟨h, fun i hi j hj => by
  have hs : okS (P.sp i j) := (h.2.2.2 i hi).2 j hj
  have h1 := mulS_one hs
  exact ⟨h1.1, by rw [h1.2]; exact hs⟩⟩
theorem OwnPol.one {w w0 : World} {B gW cW gA cA gS cS : Nat} {P : Pol} {b c : Nat → Nat} (hP : PolIn w0 P) (hok : PolOk P) (h : OwnPol w B P 1065353216 gW cW gA cA gS cS b c) : PolIn w (oneQ P gW cW gA cA gS cS b c) := by
  obtain ⟨a1, a2, a3, a4, _⟩ := h
  refine ⟨⟨a1.row, hP.1.2⟩, ⟨a2.row, hP.2.1.2⟩, ⟨?_, hP.2.2.1.2⟩, fun i hi => ⟨?_, (hP.2.2.2 i hi).2⟩⟩
  · obtain ⟨cs, c1, c2, c3⟩ := a3
    exact OwnB.row ⟨cs, c1, c2, fun j hj => by rw [c3 j hj]; show some (Value.slice _ P.na _) = some (Value.slice _ (P.rn j) _); rw [(hok.2.2.2 j hj).1]; rfl⟩
  · obtain ⟨cs, c1, c2, c3⟩ := (a4 i hi).1
    have hrn : P.rn i = P.na := (hok.2.2.2 i hi).1
    show Row w _ (P.rn i) _
    rw [hrn]
    refine OwnB.row ⟨cs, c1, c2, fun j hj => ?_⟩
    have := c3 j hj
    dsimp only at this
    rw [this, (mulS_one ((hok.2.2.2 i hi).2 j hj)).2]
    rfl
end Go.Proofs.Ytdhdefhllleeiaa

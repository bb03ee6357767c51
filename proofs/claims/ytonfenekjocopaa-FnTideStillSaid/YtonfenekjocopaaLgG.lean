/- Same positions; some legs and then some more; the walk of the law FnLegsJoin. -/
import Derived.Test.YtonfenekjocopaaLgF
namespace Go.Proofs.Ytonfenekjocopaa
open Go.RowKit Ieee
set_option linter.unusedVariables false
set_option linter.unusedSimpArgs false
attribute [local go_sem] st_cplx

theorem fl_div_zero_inf {f : Format} {x y : Nat} {s t : Bool} {m : Nat} {i j : Int} (hx : f.read x = .number s m i) (hm : m ≠ 0) (hy : f.read y = .number t 0 j) : ∃ b, f.div x y = some (f.write (.infinity b)) := by
  unfold Format.div
  rw [hx, hy]
  simp only [Datum.quotient, if_pos, if_neg hm, Option.map_some]
  exact ⟨_, rfl⟩
theorem inf_self (b : Bool) : FloatKind.f64.format.order (FloatKind.f64.format.write (.infinity b)) (FloatKind.f64.format.write (.infinity b)) = some .eq := by cases b <;> kernel_rfl
set_option maxHeartbeats 800000 in
theorem l_same64 (x : Nat) (w : World) (hx : isNum x) :
    Calls Try.prog 45 #[.float .f64 x, .float .f64 x] w fun e w' => e = .returned (.bool true) ∧ w = w' := by
  have hs : FloatKind.f64.format.order x x = some .eq := by
    rw [show FloatKind.f64.format.order x x = some (compare (fval x) (fval x)) from order_val hx hx, Int.compare_eq_eq.2 rfl]
  clear hx
  by_cases hz : (FloatKind.f64.format.order x 0 == some .eq) = true
  · obtain ⟨t, j, hx⟩ := fl_order_zero (f := FloatKind.f64.format) (x := x) (z := 0) (s := false) (i := -1074) (by kernel_rfl) (by simpa using hz)
    obtain ⟨b, hr⟩ := fl_div_zero_inf (f := FloatKind.f64.format) (x := 4607182418800017408) (y := x) (s := false) (m := 4503599627370496) (i := -52) (by kernel_rfl) (by omega) hx
    have hi := inf_self b
    generalize FloatKind.f64.format.write (.infinity b) = r at *
    have hq := fun w => run_float_arith (P := Try.prog) w .quo 34 .f64 4607182418800017408 x r hr
    have hz2 : FloatKind.f64.format.order x 0 = some .eq := by simpa using hz
    clear hx hr
    go_enter Try.func45, Try.ntmps45
    go_wp2
    go_ret
    exact ⟨rfl, rfl⟩
  · have hz' : (FloatKind.f64.format.order x 0 == some .eq) = false := by simpa using hz
    have hz2 : ¬ FloatKind.f64.format.order x 0 = some .eq := by simpa using hz
    clear hz
    go_enter Try.func45, Try.ntmps45
    go_wp2
    go_ret
    exact ⟨rfl, rfl⟩

theorem same_order {x : Nat} (hx : isNum x) : (FloatKind.f64.format.order x x == some .eq) = true := by
  rw [show FloatKind.f64.format.order x x = some (compare (fval x) (fval x)) from order_val hx hx, Int.compare_eq_eq.2 rfl]; rfl
set_option maxHeartbeats 800000 in
theorem l_same (x y : Nat) (w : World) (hx : isNum x) (hy : isNum y) :
    Calls Try.prog 13 #[.complex .f64 x y, .complex .f64 x y] w fun e w' => e = .returned (.bool true) ∧ w = w' := by
  have s1 := fun w => l_same64 x w hx
  have s2 := fun w => l_same64 y w hy
  clear hx hy
  go_enter Try.func13, Try.ntmps13
  go_wp2_with (go_at_call 45; (first | ((with_reducible refine (s1 _).mono ?_); rintro e w' ⟨rfl, rfl⟩) | ((with_reducible refine (s2 _).mono ?_); rintro e w' ⟨rfl, rfl⟩)))
  go_ret
  exact ⟨rfl, rfl⟩

/-- Where legs lead is a position. -/
theorem runW_inv {q p : Nat × Nat} {ls : Nat → Int × Nat × Int} {n : Nat} (hls : ∀ j, j < n → lgB (ls j).2.1 (ls j).2.2 = true) (oq : okV q.1 q.2) (hp : W64 p ∧ vcB p = true) : ∀ k, k ≤ n → ∀ m, runW q ls p k = some m → W64 m ∧ vcB m = true
  | 0, _, m, h => by cases h; exact hp
  | k + 1, hk, m, h => by
    cases hr : runW q ls p k with
    | none => rw [runW_none hr (k + 1) (by omega)] at h; cases h
    | some r =>
      have hi := runW_inv hls oq hp k (by omega) r hr
      rw [runW_step hr] at h
      split at h
      · rename_i hb
        cases h
        have hlg := lgB_iff.1 (hls k (by omega))
        have G := grd_ok hlg.1 (dg_lt (ls k).1) oq
        unfold stepB at hb
        simp only [Bool.and_eq_true] at hb
        exact ⟨(stp_ok (vcB_iff.1 hb.1.1.1) ⟨G.l1, G.l2⟩ (vlB_iff.1 hb.1.1.2) (secB_iff.1 hb.1.2)).lt, hb.2⟩
      · cases h
/-- Some legs and then some more. -/
theorem runW_join {q p m : Nat × Nat} {ls : Nat → Int × Nat × Int} {k : Nat} (h : runW q ls p k = some m) : ∀ j, runW q (fun i => ls (k + i)) m j = runW q ls p (k + j)
  | 0 => h.symm
  | j + 1 => by
    have ih := runW_join h j
    cases hr : runW q ls p (k + j) with
    | none =>
      rw [hr] at ih
      rw [runW_none ih (j + 1) (by omega), runW_none hr (k + (j + 1)) (by omega)]
    | some r =>
      rw [hr] at ih
      rw [runW_step ih, show k + (j + 1) = (k + j) + 1 by omega, runW_step hr]
theorem runO_some {p q r : Nat × Nat} {n : Nat} {ls : Nat → Int × Nat × Int} (h : runO p n ls q = some r) : vcB p = true ∧ LegsOk n ls ∧ vlB q = true ∧ runW q ls p n = some r := by
  unfold runO at h
  split at h
  · rename_i hb
    simp only [Bool.and_eq_true] at hb
    exact ⟨hb.1.1, lsB_iff.1 hb.1.2, hb.2, h⟩
  · cases h
theorem runO_of {p q : Nat × Nat} {n : Nat} {ls : Nat → Int × Nat × Int} (h1 : vcB p = true) (h2 : LegsOk n ls) (h3 : vlB q = true) : runO p n ls q = runW q ls p n := by
  unfold runO; rw [h1, lsB_iff.2 h2, h3]; rfl
theorem runO_join {p q r : Nat × Nat} {n k : Nat} {ls : Nat → Int × Nat × Int} (h : runO p n ls q = some r) (hp : W64 p) (hq : W32 q) (hk : k ≤ n) :
    ∃ m, W64 m ∧ runO p k ls q = some m ∧ runO m (n - k) (fun i => ls (k + i)) q = some r := by
  obtain ⟨h1, h2, h3, h4⟩ := runO_some h
  have hpre : LegsOk k ls := ⟨by have := h2.1; omega, fun j hj => h2.2 j (by omega)⟩
  have hsuf : LegsOk (n - k) (fun i => ls (k + i)) := ⟨by have := h2.1; omega, fun j hj => h2.2 (k + j) (by omega)⟩
  cases hm : runW q ls p k with
  | none => rw [runW_none hm n hk] at h4; cases h4
  | some m =>
    obtain ⟨hm1, hm2⟩ := runW_inv h2.2 ⟨hq, vlB_iff.1 h3⟩ ⟨hp, h1⟩ k hk m hm
    refine ⟨m, hm1, by rw [runO_of h1 hpre h3, hm], ?_⟩
    rw [runO_of hm2 hsuf h3, runW_join hm, show k + (n - k) = n by omega]
    exact h4
/-- A drawn list of legs, read. -/
theorem legs_of {w : World} {B n : Nat} {v : Value} (h : OwnL w B v n) : ∃ (A : Option Addr) (g cap : Nat) (ls : Nat → Int × Nat × Int), v = .slice A n cap ∧ n ≤ cap ∧ cap ≤ maxLen ∧ (0 < n → A = some ⟨g, 0, none⟩) ∧ LegsIn w g 0 n ls := by
  rcases Nat.eq_zero_or_pos n with rfl | hn
  · obtain ⟨xs, hp, hl, ⟨rfl, h0⟩ | ⟨g, cap, cur, rfl, hb, hg, hc, hm, hs, ht⟩⟩ := h
    · exact ⟨none, 0, 0, fun _ => (0, 0, 0), rfl, by omega, by simp [maxLen], fun h => by omega, fun j hj => by omega⟩
    · exact ⟨_, g, cap, fun _ => (0, 0, 0), rfl, hc, hm, fun h => by omega, fun j hj => by omega⟩
  · obtain ⟨g, cap, cs, rfl, h1, h2, h3, h4, h5, h6⟩ := h.form hn
    have ex : ∀ j, ∃ x : Int × Nat × Int, j < n → cs[j * 3]? = some (.int .i64 x.1) ∧ cs[j * 3 + 1]? = some (.float .f32 x.2.1) ∧ cs[j * 3 + 2]? = some (.int .i64 x.2.2) ∧ x.2.1 < 4294967296 := fun j => by
      by_cases hj : j < n
      · obtain ⟨x0, e0, p0⟩ := h6 (j * 3) (by omega)
        obtain ⟨x1, e1, p1⟩ := h6 (j * 3 + 1) (by omega)
        obtain ⟨x2, e2, p2⟩ := h6 (j * 3 + 2) (by omega)
        obtain ⟨a, rfl⟩ := p0.1 (by omega)
        obtain ⟨s, hs, rfl⟩ := p1.2.1 (by omega)
        obtain ⟨b, rfl⟩ := p2.2.2 (by omega)
        exact ⟨(a, s, b), fun _ => ⟨e0, e1, e2, hs⟩⟩
      · exact ⟨(0, 0, 0), fun h => absurd h hj⟩
    refine ⟨_, g, cap, fun j => (ex j).choose, rfl, h1, h2, fun _ => rfl, fun j hj => ?_⟩
    obtain ⟨a, b, c, d⟩ := (ex j).choose_spec hj
    refine ⟨?_, ?_, ?_, d⟩
    · rw [Nat.zero_add, cell_of_row _ _ _ _ _ _ h4]; exact a
    · rw [Nat.zero_add, cell_of_row _ _ _ _ _ _ h4]; exact b
    · rw [Nat.zero_add, cell_of_row _ _ _ _ _ _ h4]; exact c
theorem LegsIn.pre {w : World} {g n k : Nat} {ls : Nat → Int × Nat × Int} (h : LegsIn w g 0 n ls) (hk : k ≤ n) : LegsIn w g 0 k ls := fun j hj => h j (by omega)
theorem LegsIn.suf {w : World} {g n k : Nat} {ls : Nat → Int × Nat × Int} (h : LegsIn w g 0 n ls) (hk : k ≤ n) : LegsIn w g (k * 3) (n - k) (fun i => ls (k + i)) := fun j hj => by
  have := h (k + j) (by omega)
  rw [show 0 + (k + j) * 3 = k * 3 + j * 3 by omega] at this
  exact this

set_option maxRecDepth 100000 in
set_option maxHeartbeats 4000000 in
theorem w_FnLegsJoin (a0 : Option Addr) (len cap : Nat) (zs : List Int) (w : World) (hr : IsRow .u8 w a0 len cap zs) :
    Calls Try.prog 3 #[.slice a0 len cap] w fun e w' => e = .returned (.bool true) ∧ Below w.heap.size w w' := by
  by_cases hbig : len ≤ 1048576
  · have hcode := code_of_row hr hbig
    go_enter Try.func3, Try.ntmps3
    go_wp2_with (go_at_call 9; go_in)
    go_wp2_with fail
    refine (d_runlegs _ len cap a0 hcode).mono ?_
    rintro e w1 ⟨p, q, n, v, hp, hq, hn, rfl, hown, b1⟩
    obtain ⟨A, g, c, ls, rfl, hc, hcm, hA, hls⟩ := legs_of hown
    have HLS := Lib.hid hls
    have c1 := i_run ls A g 0 n c p q w1 (by omega) hA hls hp hq
    clear hown hls
    cases ho : runO p n ls q with
    | none =>
      rw [ho] at c1
      have cs := fun w' (hb : Below w1.heap.size w1 w') => s_run ls A g 0 n c p q w' (by omega) hA (HLS.out.below hb (Nat.le_refl _)) hp hq
      rw [ho] at cs
      have CS := Lib.hid cs
      clear cs ho hp hq
      go_wp2_with fail
      refine c1.mono ?_
      rintro e w2 ⟨rfl, b2⟩
      go_wp2_with fail
      refine (CS.out _ b2).mono ?_
      rintro e w3 ⟨rfl, b3⟩
      have b13 := b1.trans ((b2.trans (b3.mono b2.size)).mono b1.size)
      clear b2 b3 b1 CS c1
      go_wp2
      go_ret
      exact ⟨rfl, b13⟩
    | some r =>
      rw [ho] at c1
      have cs := fun w' (hb : Below w1.heap.size w1 w') => s_run ls A g 0 n c p q w' (by omega) hA (HLS.out.below hb (Nat.le_refl _)) hp hq
      rw [ho] at cs
      have CS := Lib.hid cs
      have hj := fun k (hk : k ≤ n) => runO_join (k := k) ho hp hq hk
      have HJ := Lib.hid hj
      have hrn : isNum r.1 ∧ isNum r.2 := by
        obtain ⟨h1, h2, h3, h4⟩ := runO_some ho
        have := vcB_iff.1 (runW_inv h2.2 ⟨hq, vlB_iff.1 h3⟩ ⟨hp, h1⟩ n (Nat.le_refl _) r h4).2
        exact ⟨this.1.1, this.2.1⟩
      have HRN := Lib.hid hrn
      have HPQ := Lib.hid (And.intro hp hq)
      have HAA := Lib.hid hA
      clear cs ho hp hq hj hrn hA
      go_wp2_with fail
      refine c1.mono ?_
      rintro e w2 ⟨rfl, b2⟩
      go_wp2_with fail
      refine (CS.out _ b2).mono ?_
      rintro e w3 ⟨rfl, b3⟩
      have HB := Lib.hid (b2.trans (b3.mono b2.size))
      have HB1 := Lib.hid b1
      clear b2 b3 b1 CS c1
      go_wp2_with fail
      go_loopw [10] (fun i wr => ∃ k : Nat, k ≤ 6 ∧ k ≤ n + 1 ∧ i = .int .i64 k ∧ Below w1.heap.size w1 wr) (fun i _ => 7 - (intOf i).toNat)
      case atStart => exact ⟨0, by omega, by omega, rfl, HB.out⟩
      case round =>
        clear HB
        obtain ⟨k, hk6, hkn, rfl, hbel⟩ := hrel
        have HBel := Lib.hid hbel
        clear hbel
        by_cases hlt : k ≤ n ∧ k < 6
        · obtain ⟨hk, h6⟩ := hlt
          obtain ⟨m, hm, e1, e2⟩ := HJ.out k hk
          have cA := fun cap' => i_run ls A g 0 k cap' p q wr (by omega) (fun h => HAA.out (by omega)) ((HLS.out.pre hk).below HBel.out (Nat.le_refl _)) HPQ.out.1 HPQ.out.2
          rw [e1] at cA
          have cB := fun w' (hb : Below w1.heap.size w1 w') A' cap' (hA' : 0 < n - k → A' = some ⟨g, k * 3, none⟩) => i_run (fun i => ls (k + i)) A' g (k * 3) (n - k) cap' m q w' (by omega) hA' ((HLS.out.suf hk).below hb (Nat.le_refl _)) hm HPQ.out.2
          rw [e2] at cB
          have CB := Lib.hid cB
          have z1 : (k : Int) ≤ (n : Int) := by omega
          have z2 : (k : Int) < 6 := by omega
          have z3 : (n : Int) ≤ (c : Int) := by omega
          clear cB e1 e2 hm
          obtain ⟨p1, p2⟩ := p
          obtain ⟨q1, q2⟩ := q
          obtain ⟨m1, m2⟩ := m
          obtain ⟨r1, r2⟩ := r
          dsimp only [Option.getD_some, Option.isSome_some] at *
          go_wp2_with fail
          refine (cA c).mono ?_
          rintro e w4 ⟨rfl, b4⟩
          have hb4 := HBel.out.trans (b4.mono HBel.out.size)
          have HB4 := Lib.hid hb4
          have cB := CB.out w4 hb4
          clear cA b4 hb4
          have ce := fun w => l_same r1 r2 w HRN.out.1 HRN.out.2
          go_wp2_with fail
          all_goals
            try (have hkc : k = c := (by omega); subst hkc)
            obtain ⟨A2, hA2⟩ : ∃ A2, A2 = Option.map (fun x => Addr.add x (k * 3)) A := ⟨_, rfl⟩
            try rw [← hA2]
            have HA2 := Lib.hid hA2
            clear hA2
            refine (cB _ _ ?_).mono ?_
            · intro h9
              first
                | (exfalso; omega)
                | (rw [HA2.out, HAA.out (by omega)]; show some (Addr.add _ _) = _; unfold Addr.add; split <;> simp_all)
            rintro e w5 ⟨rfl, b5⟩
            have HB5 := Lib.hid (HB4.out.trans (b5.mono HB4.out.size))
            clear b5 cB
            go_wp2_with (go_at_call 13; ((with_reducible refine (ce _).mono ?_); rintro e w' ⟨rfl, rfl⟩))
            have hx : (∃ k_1 : Nat, k_1 ≤ 6 ∧ k_1 ≤ n + 1 ∧ Value.int IntKind.i64 (↑k + 1) = Value.int IntKind.i64 ↑k_1 ∧ Below w1.heap.size w1 w5) ∧ 7 - (intOf (Value.int IntKind.i64 (↑k + 1))).toNat < 7 - (intOf (Value.int IntKind.i64 ↑k)).toNat := ⟨⟨k + 1, by omega, by omega, by go_num, HB5.out⟩, by simp [intOf]; omega⟩
            first
              | exact hx
              | (go_roundw
                 case rel => exact hx.1
                 case measure => exact hx.2)
        · have b9 := HB1.out.trans (HBel.out.mono HB1.out.size)
          by_cases hk : k ≤ n
          · have z1 : (k : Int) ≤ (n : Int) := by omega
            have z2 : ¬ (k : Int) < 6 := by omega
            go_wp2
            go_ret
            exact ⟨rfl, b9⟩
          · have z1 : ¬ (k : Int) ≤ (n : Int) := by omega
            go_wp2
            go_ret
            exact ⟨rfl, b9⟩
  · go_enter Try.func3, Try.ntmps3
    go_wp2
    go_ret
    exact ⟨rfl, Below.refl _ _⟩
end Go.Proofs.Ytonfenekjocopaa

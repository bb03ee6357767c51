/- The law FnStartLater: a start is not ahead of the gun; with a gun a second behind it, it is another, later one. -/
import Derived.Test.YtnpgppenkpkfnaaLjH
import Derived.Test.YtnpgppenkpkfnaaLjK
import Derived.Test.YtnpgppenkpkfnaaLiK
namespace Go.Proofs.Ytnpgppenkpkfnaa
open Go.RowKit
set_option linter.unusedVariables false
set_option linter.unusedSimpArgs false

theorem ct_time {l : Ln} {s t : Sg} (h : ctB l s t = true) : s.2 ≤ ctW l s t ∧ ctW l s t ≤ t.2 ∧ 0 ≤ ctW l s t ∧ ctW l s t ≤ 10000000 := by
  obtain ⟨h1, h2⟩ := ctB_iff.1 h
  obtain ⟨_, _, _, hs⟩ := cr_sides h1
  obtain ⟨_, _, bs, bt, lt⟩ := tk2_iff.1 h2
  have q := ct_quo (T := t.2 - s.2) (by omega) (hs.imp (fun ⟨a, b, _⟩ => ⟨a, b⟩) (fun ⟨a, b, _⟩ => ⟨a, b⟩))
  have e : ctW l s t = s.2 + ctD (t.2 - s.2) (hgt l s.1) (hgt l t.1) := by unfold ctW; rw [h]; rfl
  rw [e]
  omega
theorem stFrom_ok (l : Ln) (f : Nat → Sg) (gun : Int) : ∀ (m k : Nat), ((stFrom l f gun m k).2 = true ∧ gun ≤ (stFrom l f gun m k).1 ∧ 0 ≤ (stFrom l f gun m k).1 ∧ (stFrom l f gun m k).1 ≤ 10000000) ∨ ((stFrom l f gun m k).2 = false ∧ (stFrom l f gun m k).1 = 0)
  | 0, k => .inr ⟨rfl, rfl⟩
  | m + 1, k => by
    have ih := stFrom_ok l f gun m (k + 1)
    have e : stFrom l f gun (m + 1) k = if hitB l f gun k = true then (ctW l (f k) (f (k + 1)), true) else stFrom l f gun m (k + 1) := rfl
    rw [e]
    by_cases h : hitB l f gun k = true
    · rw [if_pos h]
      unfold hitB at h
      simp only [Bool.and_eq_true, decide_eq_true_eq] at h
      obtain ⟨⟨h1, h2⟩, _⟩ := h
      have := ct_time h1
      exact .inl ⟨rfl, h2, this.2.2⟩
    · rw [if_neg h]; exact ih
theorem st_ok (l : Ln) (n : Nat) (f : Nat → Sg) (gun : Int) : ((stR l n f gun).2 = true ∧ gun ≤ (stR l n f gun).1 ∧ 0 ≤ (stR l n f gun).1 ∧ (stR l n f gun).1 ≤ 10000000) ∨ ((stR l n f gun).2 = false ∧ (stR l n f gun).1 = 0) := by
  unfold stR
  split
  · exact stFrom_ok l f gun _ _
  · exact .inr ⟨rfl, rfl⟩
set_option maxRecDepth 100000 in
set_option maxHeartbeats 4000000 in
theorem w_FnStartLater (a0 : Option Addr) (len cap : Nat) (zs : List Int) (w : World) (hr : IsRow .u8 w a0 len cap zs) :
    Calls Try.prog 6 #[.slice a0 len cap] w fun e w' => e = .returned (.bool true) ∧ Below w.heap.size w w' := by
  by_cases hbig : len ≤ 1048576
  · have hcode := code_of_row hr hbig
    go_enter Try.func6, Try.ntmps6
    go_wp2_with (first
      | (go_at_call 16; go_in)
      | (go_at_call 29; ((with_reducible refine (d_startTime _ len cap a0 hcode).mono ?_); rintro e w1 ⟨l, n, TA, g, tc, f, gun, rfl, hn, hA, hw, b1⟩)))
    have H1 := Lib.hid (fun w' (h : SigsIn w' g 0 n f) => i_start l f TA g 0 n tc gun w' (by omega) (fun h => (hA h).1) h)
    have H2 := Lib.hid (fun w' (h : SigsIn w' g 0 n f) => s_start l f TA g 0 n tc gun w' (by omega) (fun h => (hA h).1) h)
    have H3 := Lib.hid (fun w' (h : SigsIn w' g 0 n f) => i_start l f TA g 0 n tc ((stR l n f gun).1 + 1) w' (by omega) (fun h => (hA h).1) h)
    have k1 := st_ok l n f gun
    have k2 := st_ok l n f ((stR l n f gun).1 + 1)
    generalize stR l n f ((stR l n f gun).1 + 1) = R2 at *
    generalize stR l n f gun = R1 at *
    obtain ⟨r1, t1⟩ := R1
    obtain ⟨r2, t2⟩ := R2
    obtain ⟨⟨x1, x2⟩, x3, x4⟩ := l
    dsimp only at *
    have hs := Lib.hid (LtS.new (c := #[.int .i64 x1, .int .i64 x2, .int .i64 x3, .int .i64 x4]) (ty := 27) hw)
    have HB := Lib.hid b1
    clear b1 hcode hr hbig hA hw hn
    rcases k1 with ⟨rfl, g1, g2, g3⟩ | ⟨rfl, rfl⟩
    · rcases k2 with ⟨rfl, g4, _, _⟩ | ⟨rfl, rfl⟩
      · have g5 : r1 < r2 := by omega
        have y1 : decide (r1 ≥ 0) = true := decide_eq_true g2
        have y2 : decide (0 ≤ r1) = true := decide_eq_true g2
        have y3 : decide (r1 ≤ 10000000) = true := decide_eq_true g3
        have y4 : decide (r2 > r1) = true := decide_eq_true g5
        have y5 : decide (r1 < r2) = true := decide_eq_true g5
        obtain ⟨c0, c1, c2, c3⟩ := cells4 hs.out.1.1
        go_wp2_with fail
        refine (H1.out _ hs.out.2).mono ?_
        rintro e w2 ⟨rfl, b⟩
        have hs' := Lib.hid (hs.out.step b)
        clear hs b c0 c1 c2 c3
        have hs := hs'
        clear hs'
        obtain ⟨c0, c1, c2, c3⟩ := cells4 hs.out.1.1
        go_wp2_with fail
        refine (H2.out _ hs.out.2).mono ?_
        rintro e w3 ⟨rfl, b⟩
        have hs' := Lib.hid (hs.out.step b)
        clear hs b c0 c1 c2 c3
        have hs := hs'
        clear hs'
        obtain ⟨c0, c1, c2, c3⟩ := cells4 hs.out.1.1
        go_wp2_with fail
        refine (H3.out _ hs.out.2).mono ?_
        rintro e w4 ⟨rfl, b⟩
        have hs' := Lib.hid (hs.out.step b)
        clear hs b c0 c1 c2 c3
        have hs := hs'
        clear hs'
        go_wp2
        go_ret
        exact ⟨rfl, HB.out.trans (hs.out.below.mono HB.out.size)⟩
      · have y1 : decide (r1 ≥ 0) = true := decide_eq_true g2
        have y2 : decide (0 ≤ r1) = true := decide_eq_true g2
        have y3 : decide (r1 ≤ 10000000) = true := decide_eq_true g3
        obtain ⟨c0, c1, c2, c3⟩ := cells4 hs.out.1.1
        go_wp2_with fail
        refine (H1.out _ hs.out.2).mono ?_
        rintro e w2 ⟨rfl, b⟩
        have hs' := Lib.hid (hs.out.step b)
        clear hs b c0 c1 c2 c3
        have hs := hs'
        clear hs'
        obtain ⟨c0, c1, c2, c3⟩ := cells4 hs.out.1.1
        go_wp2_with fail
        refine (H2.out _ hs.out.2).mono ?_
        rintro e w3 ⟨rfl, b⟩
        have hs' := Lib.hid (hs.out.step b)
        clear hs b c0 c1 c2 c3
        have hs := hs'
        clear hs'
        obtain ⟨c0, c1, c2, c3⟩ := cells4 hs.out.1.1
        go_wp2_with fail
        refine (H3.out _ hs.out.2).mono ?_
        rintro e w4 ⟨rfl, b⟩
        have hs' := Lib.hid (hs.out.step b)
        clear hs b c0 c1 c2 c3
        have hs := hs'
        clear hs'
        go_wp2
        go_ret
        exact ⟨rfl, HB.out.trans (hs.out.below.mono HB.out.size)⟩
    · clear k2 H3
      obtain ⟨c0, c1, c2, c3⟩ := cells4 hs.out.1.1
      go_wp2_with fail
      refine (H1.out _ hs.out.2).mono ?_
      rintro e w2 ⟨rfl, b⟩
      have hs' := Lib.hid (hs.out.step b)
      clear hs b c0 c1 c2 c3
      have hs := hs'
      clear hs'
      obtain ⟨c0, c1, c2, c3⟩ := cells4 hs.out.1.1
      go_wp2_with fail
      refine (H2.out _ hs.out.2).mono ?_
      rintro e w3 ⟨rfl, b⟩
      have hs' := Lib.hid (hs.out.step b)
      clear hs b c0 c1 c2 c3
      have hs := hs'
      clear hs'
      go_wp2
      go_ret
      exact ⟨rfl, HB.out.trans (hs.out.below.mono HB.out.size)⟩
  · have h1 : (1048576 : Int) < (len : Int) := by omega
    go_enter Try.func6, Try.ntmps6
    go_wp2_with (go_at_call 16; go_in)
    go_ret
    exact ⟨rfl, Below.refl _ _⟩
end Go.Proofs.Ytnpgppenkpkfnaa

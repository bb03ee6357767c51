/- The law FnEarlySights: at the time of a sight a boat is early exactly if she is ahead. -/
import Derived.Test.YtnpgppenkpkfnaaLjI
import Derived.Test.YtnpgppenkpkfnaaLjK
import Derived.Test.YtnpgppenkpkfnaaLiL
namespace Go.Proofs.Ytnpgppenkpkfnaa
open Go.RowKit
set_option linter.unusedVariables false
set_option linter.unusedSimpArgs false

theorem eaFrom_iff (l : Ln) (f : Nat → Sg) (gun : Int) : ∀ (m k : Nat), eaFrom l f gun m k = true ↔ ∃ j, k ≤ j ∧ j < k + m ∧ eaHit l f gun j = true
  | 0, k => by
    constructor
    · intro h; exact absurd h (by simp [eaFrom])
    · rintro ⟨j, h1, h2, _⟩; omega
  | m + 1, k => by
    have ih := eaFrom_iff l f gun m (k + 1)
    show (if eaHit l f gun k = true then true else eaFrom l f gun m (k + 1)) = true ↔ _
    by_cases h : eaHit l f gun k = true
    · rw [if_pos h]
      exact ⟨fun _ => ⟨k, by omega, by omega, h⟩, fun _ => rfl⟩
    · rw [if_neg h, ih]
      constructor
      · rintro ⟨j, h1, h2, h3⟩; exact ⟨j, by omega, by omega, h3⟩
      · rintro ⟨j, h1, h2, h3⟩
        refine ⟨j, ?_, by omega, h3⟩
        rcases Nat.lt_or_ge k j with h4 | h4
        · omega
        · obtain rfl : j = k := by omega
          exact absurd h3 h
theorem tk_mono {n : Nat} {f : Nat → Sg} (h : TkOk n f) : ∀ (d i : Nat), i + d + 1 < n → (f i).2 < (f (i + d + 1)).2
  | 0, i, hi => by have := (h.2 (i + 1) (by omega)).2.2 (by omega); simpa using this
  | d + 1, i, hi => by
    have h1 := tk_mono h d i (by omega)
    have h2 := (h.2 (i + (d + 1) + 1) hi).2.2 (by omega)
    rw [show i + (d + 1) + 1 - 1 = i + d + 1 by omega] at h2
    omega
theorem tk_lt {n : Nat} {f : Nat → Sg} (h : TkOk n f) {i j : Nat} (hij : i < j) (hj : j < n) : (f i).2 < (f j).2 := by
  have := tk_mono h (j - i - 1) i (by omega)
  rwa [show i + (j - i - 1) + 1 = j by omega] at this
theorem mul_neg_iff {h d : Int} (hd : 0 < d) : h * d < 0 ↔ h < 0 := by
  constructor
  · intro k
    rcases Int.lt_or_le h 0 with h' | h'
    · exact h'
    · have := Int.mul_nonneg h' (by omega : 0 ≤ d); omega
  · intro k
    exact Int.mul_neg_of_neg_of_pos k hd
/-- At the time of a sight a boat is early exactly if she is ahead. -/
theorem ea_sight {l : Ln} {n : Nat} {f : Nat → Sg} (hl : liB l = true) (ht : tkB n f = true) (h2 : 2 ≤ n) {i : Nat} (hi : i < n) : eaR l n f (f i).2 = (sdW l (f i).1 == 1) := by
  have hT := tkB_iff.1 ht
  have hp := (hT.2 i hi).1
  have hs : (sdW l (f i).1 == 1) = decide (hgt l (f i).1 < 0) := by
    rcases sd_ways l (f i).1 with ⟨a, _⟩ | ⟨_, a, _⟩ | ⟨_, _, a, b⟩ | ⟨_, _, a, _, b⟩ | ⟨_, _, a, _, b⟩
    · rw [hl] at a; cases a
    · rw [hp] at a; cases a
    · rw [b, decide_eq_true a]; rfl
    · rw [b, decide_eq_false a]; rfl
    · rw [b, decide_eq_false a]; rfl
  rw [hs]
  have key : eaR l n f (f i).2 = true ↔ hgt l (f i).1 < 0 := by
    unfold eaR
    rw [hl, ht]
    show eaFrom l f (f i).2 (n - 1) 0 = true ↔ _
    rw [eaFrom_iff]
    have hit : ∀ k, k + 1 < n → (eaHit l f (f i).2 k = true ↔ (k = i ∨ k + 1 = i) ∧ hgt l (f i).1 < 0) := fun k hk => by
      unfold eaHit
      rw [Bool.and_eq_true, decide_eq_true_eq, decide_eq_true_eq]
      have s0 := tk_lt hT (show k < k + 1 by omega) hk
      constructor
      · rintro ⟨⟨a, b⟩, c⟩
        have k1 : k ≤ i := by
          rcases Nat.lt_or_ge i k with h | h
          · have := tk_lt hT h (by omega); omega
          · exact h
        have k2 : i ≤ k + 1 := by
          rcases Nat.lt_or_ge (k + 1) i with h | h
          · have := tk_lt hT h hi; omega
          · exact h
        rcases (show k = i ∨ k + 1 = i by omega) with rfl | rfl
        · refine ⟨.inl rfl, ?_⟩
          unfold eaV at c
          rw [Int.sub_self, Int.mul_zero, Int.add_zero] at c
          exact (mul_neg_iff (by omega)).1 c
        · refine ⟨.inr rfl, ?_⟩
          unfold eaV at c
          rw [Int.sub_self, Int.mul_zero, Int.zero_add] at c
          exact (mul_neg_iff (by omega)).1 c
      · rintro ⟨rfl | rfl, c⟩
        · refine ⟨by omega, ?_⟩
          unfold eaV
          rw [Int.sub_self, Int.mul_zero, Int.add_zero]
          exact (mul_neg_iff (by omega)).2 c
        · refine ⟨by omega, ?_⟩
          unfold eaV
          rw [Int.sub_self, Int.mul_zero, Int.zero_add]
          exact (mul_neg_iff (by omega)).2 c
    constructor
    · rintro ⟨j, _, h3, h4⟩
      exact ((hit j (by omega)).1 h4).2
    · intro h3
      by_cases h4 : i + 1 < n
      · exact ⟨i, by omega, by omega, (hit i h4).2 ⟨.inl rfl, h3⟩⟩
      · exact ⟨i - 1, by omega, by omega, (hit (i - 1) (by omega)).2 ⟨.inr (by omega), h3⟩⟩
  by_cases h : hgt l (f i).1 < 0
  · rw [decide_eq_true h]; exact key.2 h
  · rw [decide_eq_false h]
    cases e : eaR l n f (f i).2
    · rfl
    · exact absurd (key.1 e) h
set_option maxRecDepth 100000 in
set_option maxHeartbeats 4000000 in
theorem w_FnEarlySights (a0 : Option Addr) (len cap : Nat) (zs : List Int) (w : World) (hr : IsRow .u8 w a0 len cap zs) :
    Calls Try.prog 5 #[.slice a0 len cap] w fun e w' => e = .returned (.bool true) ∧ Below w.heap.size w w' := by
  by_cases hbig : len ≤ 1048576
  · have hcode := code_of_row hr hbig
    go_enter Try.func5, Try.ntmps5
    go_wp2_with (first
      | (go_at_call 16; go_in)
      | (go_at_call 28; ((with_reducible refine (d_earlyAt _ len cap a0 hcode).mono ?_); rintro e w1 ⟨l, n, TA, g, tc, f, gun, rfl, hn, hA, hw, b1⟩)))
    have HT := Lib.hid (fun w' (h : SigsIn w' g 0 n f) => s_tk f TA g 0 n tc w' (by omega) (fun h => (hA h).1) h)
    have HL := Lib.hid (fun w => s_liB l w)
    have HE := Lib.hid (fun gun w' (h : SigsIn w' g 0 n f) => i_early l f TA g 0 n tc gun w' (by omega) (fun h => (hA h).1) h)
    have HS := Lib.hid (fun p w => s_side l p w)
    have HK := Lib.hid (fun h1 h2 h3 i hi => ea_sight (l := l) (n := n) (f := f) h1 h2 h3 (i := i) hi)
    have HP := Lib.hid hA
    obtain ⟨⟨x1, x2⟩, x3, x4⟩ := l
    dsimp only at *
    have hst := Lib.hid (LtS.new (c := #[.int .i64 x1, .int .i64 x2, .int .i64 x3, .int .i64 x4]) (ty := 27) hw)
    have HB := Lib.hid b1
    clear b1 hcode hr hbig hA hw
    obtain ⟨c0, c1, c2, c3⟩ := cells4 hst.out.1.1
    cases ht : tkB n f
    · rw [ht] at HT
      clear ht HK
      go_wp2_with fail
      refine (HT.out _ hst.out.2).mono ?_
      rintro e w2 ⟨rfl, b⟩
      have hs2 := Lib.hid (hst.out.step b)
      clear hst b c0 c1 c2 c3
      go_wp2
      go_ret
      exact ⟨rfl, HB.out.trans (hs2.out.below.mono HB.out.size)⟩
    · rw [ht] at HT
      cases hl : liB ((x1, x2), x3, x4)
      · rw [hl] at HL
        clear ht hl HK
        go_wp2_with fail
        refine (HT.out _ hst.out.2).mono ?_
        rintro e w2 ⟨rfl, b⟩
        have hs2 := Lib.hid (hst.out.step b)
        clear hst b c0 c1 c2 c3
        obtain ⟨c0, c1, c2, c3⟩ := cells4 hs2.out.1.1
        go_wp2_with fail
        refine (HL.out _).mono ?_
        rintro e w3 ⟨rfl, b⟩
        have hs3 := Lib.hid (hs2.out.step b)
        clear hs2 b c0 c1 c2 c3
        go_wp2
        go_ret
        exact ⟨rfl, HB.out.trans (hs3.out.below.mono HB.out.size)⟩
      · rw [hl] at HL
        by_cases h2 : 2 ≤ n
        · have HK2 := Lib.hid (fun i hi => HK.out hl ht h2 i hi)
          obtain ⟨rfl, _⟩ := HP.out (by omega)
          have h3 : ¬ (n : Int) < 2 := by omega
          clear ht hl HK HP
          go_wp2_with fail
          refine (HT.out _ hst.out.2).mono ?_
          rintro e w2 ⟨rfl, b⟩
          have hs2 := Lib.hid (hst.out.step b)
          clear hst b c0 c1 c2 c3
          obtain ⟨c0, c1, c2, c3⟩ := cells4 hs2.out.1.1
          go_wp2_with fail
          refine (HL.out _).mono ?_
          rintro e w3 ⟨rfl, b⟩
          have hs3 := Lib.hid (hs2.out.step b)
          clear hs2 b c0 c1 c2 c3 HT HL
          go_wp2
          go_loopw [6] (fun i wr => ∃ k : Nat, k ≤ n ∧ i = .int .i64 k ∧ LtS w1 #[.int .i64 x1, .int .i64 x2, .int .i64 x3, .int .i64 x4] 27 g 0 n f wr) (fun i _ => n - (intOf i).toNat)
          case atStart => exact ⟨0, Nat.zero_le _, rfl, hs3.out⟩
          case round =>
            obtain ⟨k, hk, rfl, hst⟩ := hrel
            have HF := Lib.hid (HB.out.trans (hst.below.mono HB.out.size))
            by_cases hlt : k < n
            · have z1 : (k : Int) < (n : Int) := by omega
              have z0 : (0 : Int) ≤ (k : Int) := by omega
              by_cases h12 : k < 12
              · have z2 : (k : Int) < 12 := by omega
                have z3 : decide ((k : Int) < 12) = true := decide_eq_true z2
                have hkk2 := HK2.out k hlt
                obtain ⟨⟨⟨x, y⟩, z⟩, hkk⟩ : ∃ s, f k = s := ⟨_, rfl⟩
                rw [hkk] at hkk2
                have HQ := Lib.hid hkk
                clear hkk
                dsimp only at hkk2
                have HE2 := Lib.hid (fun s : Held (fun wx => LtS w1 #[.int .i64 x1, .int .i64 x2, .int .i64 x3, .int .i64 x4] 27 g 0 n f wx) => HE.out z s.w s.h.2)
                have HS2 := Lib.hid (fun w => HS.out (x, y) w)
                generalize eaR ((x1, x2), x3, x4) n f z = b at *
                dsimp only at HS2
                generalize sdW ((x1, x2), x3, x4) (x, y) = t at *
                have d0 : ∀ s : Held (fun wx => LtS w1 #[.int .i64 x1, .int .i64 x2, .int .i64 x3, .int .i64 x4] 27 g 0 n f wx), s.w.cell? ⟨g, 0 + k * 3, none⟩ = some (.int .i64 x) := fun s => by have := (s.h.2 k hlt).1; rw [HQ.out] at this; exact this
                have d1 : ∀ s : Held (fun wx => LtS w1 #[.int .i64 x1, .int .i64 x2, .int .i64 x3, .int .i64 x4] 27 g 0 n f wx), s.w.cell? ⟨g, 0 + k * 3 + 1, none⟩ = some (.int .i64 y) := fun s => by have := (s.h.2 k hlt).2.1; rw [HQ.out] at this; exact this
                have d2 : ∀ s : Held (fun wx => LtS w1 #[.int .i64 x1, .int .i64 x2, .int .i64 x3, .int .i64 x4] 27 g 0 n f wx), s.w.cell? ⟨g, 0 + k * 3 + 2, none⟩ = some (.int .i64 z) := fun s => by have := (s.h.2 k hlt).2.2; rw [HQ.out] at this; exact this
                have l0 := fun s : Held (fun wx => LtS w1 #[.int .i64 x1, .int .i64 x2, .int .i64 x3, .int .i64 x4] 27 g 0 n f wx) => (cells4 s.h.1.1).1
                have l1 := fun s : Held (fun wx => LtS w1 #[.int .i64 x1, .int .i64 x2, .int .i64 x3, .int .i64 x4] 27 g 0 n f wx) => (cells4 s.h.1.1).2.1
                have l2 := fun s : Held (fun wx => LtS w1 #[.int .i64 x1, .int .i64 x2, .int .i64 x3, .int .i64 x4] 27 g 0 n f wx) => (cells4 s.h.1.1).2.2.1
                have l3 := fun s : Held (fun wx => LtS w1 #[.int .i64 x1, .int .i64 x2, .int .i64 x3, .int .i64 x4] 27 g 0 n f wx) => (cells4 s.h.1.1).2.2.2
                simp only [Nat.zero_add] at d0 d1 d2
                rw [eq_comm] at hkk2
                clear HE HS HF
                cases b
                all_goals
                  go_wp2
                  haveI hne : Nonempty (Held (fun wx => LtS w1 #[.int .i64 x1, .int .i64 x2, .int .i64 x3, .int .i64 x4] 27 g 0 n f wx)) := ⟨⟨_, hst⟩⟩
                  refine wp_region_class (fun wx => LtS w1 #[.int .i64 x1, .int .i64 x2, .int .i64 x3, .int .i64 x4] 27 g 0 n f wx) (by kernel_rfl) (by kernel_rfl) (LtS.drew hst) ?_
                  repeat (go_big_quiet_step (first
                    | (go_at_call 24; with_reducible exact held_call LtS.step (HE2.out _))
                    | (go_at_call 27; with_reducible exact held_call LtS.step (HS2.out _))))
                  refine wpQuiet_nil ?_
                  intro _ hw'
                  obtain ⟨⟨wq, hst6⟩, rfl⟩ := hw'
                  (try dsimp only)
                  all_goals
                    go_wp2_with fail
                    go_roundw
                    case rel => exact ⟨k + 1, by omega, by go_num, hst6⟩
                    case measure => simp [intOf]; omega
              · have z2 : ¬ (k : Int) < 12 := by omega
                have z3 : decide ((k : Int) < 12) = false := decide_eq_false z2
                go_wp2
                go_ret
                exact ⟨rfl, HF.out⟩
            · have z1 : ¬ (k : Int) < (n : Int) := by omega
              go_wp2
              go_ret
              exact ⟨rfl, HF.out⟩
        · have h3 : (n : Int) < 2 := by omega
          clear ht hl HK
          go_wp2_with fail
          refine (HT.out _ hst.out.2).mono ?_
          rintro e w2 ⟨rfl, b⟩
          have hs2 := Lib.hid (hst.out.step b)
          clear hst b c0 c1 c2 c3
          obtain ⟨c0, c1, c2, c3⟩ := cells4 hs2.out.1.1
          go_wp2_with fail
          refine (HL.out _).mono ?_
          rintro e w3 ⟨rfl, b⟩
          have hs3 := Lib.hid (hs2.out.step b)
          clear hs2 b c0 c1 c2 c3
          go_wp2
          go_ret
          exact ⟨rfl, HB.out.trans (hs3.out.below.mono HB.out.size)⟩
  · have h1 : (1048576 : Int) < (len : Int) := by omega
    go_enter Try.func5, Try.ntmps5
    go_wp2_with (go_at_call 16; go_in)
    go_ret
    exact ⟨rfl, Below.refl _ _⟩
end Go.Proofs.Ytnpgppenkpkfnaa

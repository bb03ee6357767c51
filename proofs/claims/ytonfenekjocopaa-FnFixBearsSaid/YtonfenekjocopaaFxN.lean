/- FixOf (impl) in full; the walk of the law FnFixBears. -/
import Derived.Test.YtonfenekjocopaaFxJ
import Derived.Test.YtonfenekjocopaaFxK
import Derived.Test.YtonfenekjocopaaFxL
namespace Go.Proofs.Ytonfenekjocopaa
open Go.RowKit Ieee
set_option linter.unusedVariables false
set_option linter.unusedSimpArgs false

theorem i_fix (a b : Nat × Nat) (ka kb : Int) (w : World) (ha : W64 a) (hb : W64 b) :
    Calls Try.prog 22 #[.complex .f64 a.1 a.2, .int .i64 ka, .complex .f64 b.1 b.2, .int .i64 kb] w fun e w' => e = .returned (.tuple #[.complex .f64 (fxF a b ka kb).1 (fxF a b ka kb).2, .bool (fxB a b ka kb)]) ∧ Below w.heap.size w w' := by
  cases h : (vcB a && vcB b && spanB ka kb)
  · have e1 : fxB a b ka kb = false := by unfold fxB; rw [h]; rfl
    have e2 : fxF a b ka kb = (0, 0) := by unfold fxF; rw [e1]; rfl
    rw [e1, e2]
    exact i_fix_no a b ka kb w ha hb h
  · simp only [Bool.and_eq_true] at h
    cases h4 : geB (fxM a b (dgn ka) (dgn kb))
    · exact i_fix_m a b ka kb w ha hb h.1.1 h.1.2 h.2 h4
    · cases h5 : geB (fxN a b (dgn ka) (dgn kb))
      · exact i_fix_n a b ka kb w ha hb h.1.1 h.1.2 h.2 h4 h5
      · exact i_fix_r a b ka kb w ha hb h.1.1 h.1.2 h.2 h4 h5
theorem ge_one {m : Nat} (h : isNum m) : (FloatKind.f64.format.order m 4607182418800017408 == some .gt || FloatKind.f64.format.order m 4607182418800017408 == some .eq) = decide ((oneV : Int) ≤ fval m) ∧ (FloatKind.f64.format.order m 4607182418800017408 == some .lt) = !decide ((oneV : Int) ≤ fval m) := by
  have e : FloatKind.f64.format.order m 4607182418800017408 = some (compare (fval m) (oneV : Int)) := by
    have := order_val h (isNum_of one_num)
    rw [one_val] at this
    exact this
  rw [e]
  rcases Int.lt_trichotomy (fval m) (oneV : Int) with g | g | g
  · rw [Int.compare_eq_lt.2 g, decide_eq_false (by omega)]; exact ⟨rfl, rfl⟩
  · rw [Int.compare_eq_eq.2 g, decide_eq_true (by omega)]; exact ⟨rfl, rfl⟩
  · rw [Int.compare_eq_gt.2 g, decide_eq_true (by omega)]; exact ⟨rfl, rfl⟩
theorem points_of {v : Nat × Nat} (h1 : okP v.1) (h2 : okP v.2) (h : 98 / 100 ≤ rv v.1 * rv v.1 + rv v.2 * rv v.2) : Points v := by
  refine ⟨h1, h2, ?_⟩
  cases e1 : (f64.order v.1 0 == some .eq)
  · rfl
  · cases e2 : (f64.order v.2 0 == some .eq)
    · rfl
    · exfalso
      have z1 := order_zero_val h1.1 (by simpa using e1)
      have z2 := order_zero_val h2.1 (by simpa using e2)
      have r1 : rv v.1 = 0 := by unfold rv; rw [z1]; grind
      have r2 : rv v.2 = 0 := by unfold rv; rw [z2]; grind
      rw [r1, r2] at h
      grind
/-- A mark that lies a metre away bears as said. -/
theorem b_mark {v : Nat × Nat} {k : Int} (hl : decide ((oneV : Int) ≤ fval (lenW v)) = true) (hw : W64 v)
    (h : 1 ≤ rv (lenW v) → okP v.1 ∧ okP v.2 ∧ 98 / 100 ≤ rv v.1 * rv v.1 + rv v.2 * rv v.2 ∧ (bst v 359).1 = dgn k) (w : World) :
    Calls Try.prog 25 #[.complex .f64 v.1 v.2] w fun e w' => e = .returned (.int .i64 (k % 360)) ∧ Below w.heap.size w w' := by
  have h1 : 1 ≤ rv (lenW v) := by
    have h2 : (oneV : Int) ≤ fval (lenW v) := of_decide_eq_true hl
    have := rv_le (x := 4607182418800017408) (y := lenW v) (by rw [one_val]; exact h2)
    rw [rv_one] at this
    exact this
  obtain ⟨o1, o2, o3, o4⟩ := h h1
  have hb := i_bear v w hw.1 hw.2 (points_of o1 o2 o3)
  rw [o4, show ((dgn k : Nat) : Int) = k % 360 by unfold dgn; omega] at hb
  exact hb
set_option maxRecDepth 100000 in
set_option maxHeartbeats 4000000 in
theorem w_FnFixBears (a0 : Option Addr) (len cap : Nat) (zs : List Int) (w : World) (hr : IsRow .u8 w a0 len cap zs) :
    Calls Try.prog 6 #[.slice a0 len cap] w fun e w' => e = .returned (.bool true) ∧ Below w.heap.size w w' := by
  by_cases hbig : len ≤ 1048576
  · have hcode := code_of_row hr hbig
    go_enter Try.func6, Try.ntmps6
    go_wp2_with (go_at_call 9; go_in)
    go_wp2_with fail
    refine (d_fix _ len cap a0 hcode).mono ?_
    rintro e w1 ⟨a, b, ka, kb, ha, hb, rfl, b1⟩
    have F1 := fun w => i_fix a b ka kb w ha hb
    have F2 := fun w => s_fix a b ka kb w ha hb
    cases hB : fxB a b ka kb
    · have hF : fxF a b ka kb = (0, 0) := by unfold fxF; rw [hB]; rfl
      rw [hB, hF] at F1 F2
      have o : FloatKind.f64.format.order 0 0 = some .eq := by kernel_rfl
      clear hB hF ha hb hcode
      obtain ⟨a1, a2⟩ := a
      obtain ⟨c1, c2⟩ := b
      dsimp only at F1 F2
      go_wp2_with fail
      refine (F1 _).mono ?_
      rintro e w2 ⟨rfl, k2⟩
      have b2 := b1.trans (k2.mono b1.size)
      clear b1 k2 F1
      go_wp2_with (go_at_call 23; ((with_reducible refine (F2 _).mono ?_); rintro e w' ⟨rfl, rfl⟩))
      go_ret
      exact ⟨rfl, b2⟩
    · have hF : fxF a b ka kb = fxP a b (dgn ka) (dgn kb) := by unfold fxF; rw [hB]; rfl
      obtain ⟨p1, p2, q1, q2, r1, r2, ga, gb⟩ := fix_bears hB
      rw [hB, hF] at F1 F2
      clear hB hF
      generalize fxP a b (dgn ka) (dgn kb) = p at *
      obtain ⟨s1, s2, s3⟩ := subW_ok ⟨q1, q2⟩ ⟨p1, p2⟩
      obtain ⟨t1, t2, t3⟩ := subW_ok ⟨r1, r2⟩ ⟨p1, p2⟩
      have f1 := fun w => run_complex_sum (P := Try.prog) w .sub (Or.inr rfl) 24 .f64 a.1 a.2 p.1 p.2 _ _ (by unfold cSumBits; rw [s1, s2]; rfl)
      have f2 := fun w => run_complex_sum (P := Try.prog) w .sub (Or.inr rfl) 24 .f64 b.1 b.2 p.1 p.2 _ _ (by unfold cSumBits; rw [t1, t2]; rfl)
      have ca := fun w => i_len (subW a p) _ w s3.1 s3.2 (lenW_is _)
      have cb := fun w => i_len (subW b p) _ w t3.1 t3.2 (lenW_is _)
      obtain ⟨o1, o2⟩ := ge_one (len_num (subW a p)).1
      obtain ⟨o3, o4⟩ := ge_one (len_num (subW b p)).1
      have ba := fun hl w => b_mark (v := subW a p) (k := ka) hl s3 ga w
      have bb := fun hl w => b_mark (v := subW b p) (k := kb) hl t3 gb w
      have da := fun w => l_deg ka w
      have db := fun w => l_deg kb w
      clear s1 s2 s3 t1 t2 t3 ga gb p1 p2 q1 q2 r1 r2 ha hb hcode
      generalize lenW (subW a p) = la at *
      generalize lenW (subW b p) = lb at *
      generalize subW a p = va at *
      generalize subW b p = vb at *
      generalize hla : decide ((oneV : Int) ≤ fval la) = ta at *
      generalize hlb : decide ((oneV : Int) ≤ fval lb) = tb at *
      clear hla hlb
      obtain ⟨a1, a2⟩ := a
      obtain ⟨c1, c2⟩ := b
      obtain ⟨p1, p2⟩ := p
      obtain ⟨va1, va2⟩ := va
      obtain ⟨vb1, vb2⟩ := vb
      dsimp only at *
      go_wp2_with fail
      refine (F1 _).mono ?_
      rintro e w2 ⟨rfl, k2⟩
      have b2 := b1.trans (k2.mono b1.size)
      clear b1 k2 F1
      cases ta <;> cases tb
      · clear ba bb
        go_wp2_with (first
          | (go_at_call 23; ((with_reducible refine (F2 _).mono ?_); rintro e w' ⟨rfl, rfl⟩))
          | (go_at_call 26; ((with_reducible refine (da _).mono ?_); rintro e w' ⟨rfl, rfl⟩))
          | (go_at_call 26; ((with_reducible refine (db _).mono ?_); rintro e w' ⟨rfl, rfl⟩))
          | (go_at_call 24; ((with_reducible refine (ca _).mono ?_); rintro e w' ⟨rfl, rfl⟩))
          | (go_at_call 24; ((with_reducible refine (cb _).mono ?_); rintro e w' ⟨rfl, rfl⟩)))
        go_ret
        exact ⟨rfl, b2⟩
      · have bb' := bb rfl
        clear ba bb
        go_wp2_with (first
          | (go_at_call 23; ((with_reducible refine (F2 _).mono ?_); rintro e w' ⟨rfl, rfl⟩))
          | (go_at_call 26; ((with_reducible refine (da _).mono ?_); rintro e w' ⟨rfl, rfl⟩))
          | (go_at_call 26; ((with_reducible refine (db _).mono ?_); rintro e w' ⟨rfl, rfl⟩))
          | (go_at_call 24; ((with_reducible refine (ca _).mono ?_); rintro e w' ⟨rfl, rfl⟩))
          | (go_at_call 24; ((with_reducible refine (cb _).mono ?_); rintro e w' ⟨rfl, rfl⟩)))
        refine (bb' _).mono ?_
        rintro e w4 ⟨rfl, k4⟩
        have b4 := b2.trans (k4.mono b2.size)
        clear b2 k4 bb'
        go_wp2_with (first
          | (go_at_call 23; ((with_reducible refine (F2 _).mono ?_); rintro e w' ⟨rfl, rfl⟩))
          | (go_at_call 26; ((with_reducible refine (da _).mono ?_); rintro e w' ⟨rfl, rfl⟩))
          | (go_at_call 26; ((with_reducible refine (db _).mono ?_); rintro e w' ⟨rfl, rfl⟩))
          | (go_at_call 24; ((with_reducible refine (ca _).mono ?_); rintro e w' ⟨rfl, rfl⟩))
          | (go_at_call 24; ((with_reducible refine (cb _).mono ?_); rintro e w' ⟨rfl, rfl⟩)))
        go_ret
        exact ⟨rfl, b4⟩
      · have ba' := ba rfl
        clear ba bb
        go_wp2_with (first
          | (go_at_call 23; ((with_reducible refine (F2 _).mono ?_); rintro e w' ⟨rfl, rfl⟩))
          | (go_at_call 26; ((with_reducible refine (da _).mono ?_); rintro e w' ⟨rfl, rfl⟩))
          | (go_at_call 26; ((with_reducible refine (db _).mono ?_); rintro e w' ⟨rfl, rfl⟩))
          | (go_at_call 24; ((with_reducible refine (ca _).mono ?_); rintro e w' ⟨rfl, rfl⟩))
          | (go_at_call 24; ((with_reducible refine (cb _).mono ?_); rintro e w' ⟨rfl, rfl⟩)))
        refine (ba' _).mono ?_
        rintro e w3 ⟨rfl, k3⟩
        have b3 := b2.trans (k3.mono b2.size)
        clear b2 k3 ba'
        go_wp2_with (first
          | (go_at_call 23; ((with_reducible refine (F2 _).mono ?_); rintro e w' ⟨rfl, rfl⟩))
          | (go_at_call 26; ((with_reducible refine (da _).mono ?_); rintro e w' ⟨rfl, rfl⟩))
          | (go_at_call 26; ((with_reducible refine (db _).mono ?_); rintro e w' ⟨rfl, rfl⟩))
          | (go_at_call 24; ((with_reducible refine (ca _).mono ?_); rintro e w' ⟨rfl, rfl⟩))
          | (go_at_call 24; ((with_reducible refine (cb _).mono ?_); rintro e w' ⟨rfl, rfl⟩)))
        go_ret
        exact ⟨rfl, b3⟩
      · have ba' := ba rfl
        have bb' := bb rfl
        clear ba bb
        go_wp2_with (first
          | (go_at_call 23; ((with_reducible refine (F2 _).mono ?_); rintro e w' ⟨rfl, rfl⟩))
          | (go_at_call 26; ((with_reducible refine (da _).mono ?_); rintro e w' ⟨rfl, rfl⟩))
          | (go_at_call 26; ((with_reducible refine (db _).mono ?_); rintro e w' ⟨rfl, rfl⟩))
          | (go_at_call 24; ((with_reducible refine (ca _).mono ?_); rintro e w' ⟨rfl, rfl⟩))
          | (go_at_call 24; ((with_reducible refine (cb _).mono ?_); rintro e w' ⟨rfl, rfl⟩)))
        refine (ba' _).mono ?_
        rintro e w3 ⟨rfl, k3⟩
        have b3 := b2.trans (k3.mono b2.size)
        clear b2 k3 ba'
        go_wp2_with (first
          | (go_at_call 23; ((with_reducible refine (F2 _).mono ?_); rintro e w' ⟨rfl, rfl⟩))
          | (go_at_call 26; ((with_reducible refine (da _).mono ?_); rintro e w' ⟨rfl, rfl⟩))
          | (go_at_call 26; ((with_reducible refine (db _).mono ?_); rintro e w' ⟨rfl, rfl⟩))
          | (go_at_call 24; ((with_reducible refine (ca _).mono ?_); rintro e w' ⟨rfl, rfl⟩))
          | (go_at_call 24; ((with_reducible refine (cb _).mono ?_); rintro e w' ⟨rfl, rfl⟩)))
        refine (bb' _).mono ?_
        rintro e w4 ⟨rfl, k4⟩
        have b4 := b3.trans (k4.mono b3.size)
        clear b3 k4 bb'
        go_wp2_with (first
          | (go_at_call 23; ((with_reducible refine (F2 _).mono ?_); rintro e w' ⟨rfl, rfl⟩))
          | (go_at_call 26; ((with_reducible refine (da _).mono ?_); rintro e w' ⟨rfl, rfl⟩))
          | (go_at_call 26; ((with_reducible refine (db _).mono ?_); rintro e w' ⟨rfl, rfl⟩))
          | (go_at_call 24; ((with_reducible refine (ca _).mono ?_); rintro e w' ⟨rfl, rfl⟩))
          | (go_at_call 24; ((with_reducible refine (cb _).mono ?_); rintro e w' ⟨rfl, rfl⟩)))
        go_ret
        exact ⟨rfl, b4⟩
  · go_enter Try.func6, Try.ntmps6
    go_wp2
    go_ret
    exact ⟨rfl, Below.refl _ _⟩
end Go.Proofs.Ytonfenekjocopaa

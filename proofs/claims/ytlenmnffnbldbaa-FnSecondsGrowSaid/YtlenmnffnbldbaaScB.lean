/- The walks of l01Fine, SecondsFor of spec, the law FnExactSecondsFor, and the drawing of both arguments. -/
import Derived.Test.YtlenmnffnbldbaaScA
import Derived.Test.YtlenmnffnbldbaaDrR
namespace Go.Proofs.Ytlenmnffnbldbaa
open Go.RowKit Ieee
set_option linter.unusedVariables false
set_option linter.unusedSimpArgs false

set_option maxHeartbeats 400000 in
theorem s_fine_yes (a z : Nat) (w : World) (h : floatBits .sub .f64 a a = some z) (ho : FloatKind.f64.format.order z 0 = some .eq) :
    Calls Try.prog 64 #[.float .f64 a] w fun e w' => e = .returned (.bool true) ∧ w' = w := by
  have q := fun w => run_float_arith (P := Try.prog) w .sub 33 .f64 _ _ _ h
  clear h
  go_enter Try.func64, Try.ntmps64
  go_wp2
  go_ret
  exact ⟨rfl, rfl⟩
set_option maxHeartbeats 400000 in
theorem s_fine_no (a : Nat) (w : World) (h : floatBits .sub .f64 a a = none) :
    Calls Try.prog 64 #[.float .f64 a] w fun e w' => e = .returned (.bool false) ∧ w' = w.drew := by
  obtain ⟨nb, hq, hn⟩ := run_nan .sub (by simp) a a h
  have o1 := fun w => (hn w).2.2.1 0
  clear hn h
  go_enter Try.func64, Try.ntmps64
  go_wp2
  go_ret
  exact ⟨rfl, rfl⟩

theorem tdiv_ediv {v : Int} (h : 0 ≤ v) : v.tdiv (oneV : Int) = v / (oneV : Int) := Int.tdiv_eq_ediv_of_nonneg h

set_option maxRecDepth 100000 in
set_option maxHeartbeats 2000000 in
theorem s_sec (m a : Nat) (w : World) (hm : m < 18446744073709551616) (ha : a < 18446744073709551616) :
    Calls Try.prog 27 #[.float .f64 m, .float .f64 a] w fun e w' => SecEnd m a e ∧ Below w.heap.size w w' := by
  obtain ⟨t1, t2, ht, _, f1, f2⟩ := m_flag m hm
  obtain ⟨u1, u2, hu, _, g1, _, hf⟩ := a_flag a ha
  by_cases hok : okM m ∧ okA a
  · obtain ⟨h1, h2⟩ := hok
    have e1 := ht.2 h1
    have e2 := hu.2 h2
    rw [Bool.and_eq_true] at e1 e2
    obtain ⟨rfl, rfl⟩ := e1
    obtain ⟨rfl, rfl⟩ := e2
    obtain ⟨z, z1, z2⟩ : ∃ z, floatBits .sub .f64 a a = some z ∧ FloatKind.f64.format.order z 0 = some .eq := by
      rcases hf rfl with ⟨_, h⟩ | ⟨h, _⟩
      · exact h
      · cases h
    have cf := fun w => s_fine_yes a z w z1 z2
    obtain ⟨q, hq, hql, hcase⟩ := quo_any h1 h2
    have qq := fun w => run_float_arith (P := Try.prog) w .quo 33 .f64 _ _ _ hq
    have HQ := Lib.hid (And.intro h1 (And.intro h2 hq))
    clear ht hu hq h1 h2 hf z1 z2
    rcases hcase with ⟨o1, hno⟩ | ⟨o1, hyes⟩
    · go_enter Try.func27, Try.ntmps27
      go_wp2_with (go_at_call 64; ((with_reducible refine (cf _).mono ?_); rintro e w' ⟨rfl, rfl⟩))
      go_ret2
      exact ⟨⟨0, false, .inr ⟨rfl, rfl, fun _ _ => ⟨q, HQ.out.2.2, hno⟩⟩, rfl⟩, Below.refl _ _⟩
    · obtain ⟨k, hk⟩ : ∃ k, fval q / (oneV : Int) = k := ⟨_, rfl⟩
      have hpos := oneV_posI
      have hk0 : 0 ≤ k := by rw [← hk]; exact Int.ediv_nonneg hyes.2.1 (by omega)
      have hk1 : k ≤ 10000000 := by
        rw [← hk]
        have := Int.ediv_le_ediv hpos hyes.2.2
        rw [Int.mul_ediv_cancel _ (by omega)] at this
        exact this
      have hv := fun w => run_convert_float_int (P := Try.prog) w 33 3 .f64 .i64 q k (by rw [Try.underlying33]; rfl) Try.underlying3 (conv_val hyes.1 _ (by rw [tdiv_ediv hyes.2.1]; exact hk) (by omega) (by omega))
      obtain ⟨kn, kv⟩ := ofInt_val k (by omega) (by omega)
      have ho := order_val kn hyes.1
      rw [kv] at ho
      have hle := Int.ediv_mul_le (fval q) (b := (oneV : Int)) (by omega)
      rw [hk] at hle
      have HY := Lib.hid hyes
      by_cases hw : k * (oneV : Int) = fval q
      · have hc : clI (fval q) = k := by rw [clI_whole (by rw [hk]; exact hw), hk]
        have o2 : FloatKind.f64.format.order (floatOfInt .f64 k) q = some .eq := by
          rw [Int.compare_eq_eq.2 hw] at ho; exact ho
        have HC := Lib.hid hc
        clear ho hle hw hc kv kn hyes hk
        go_enter Try.func27, Try.ntmps27
        go_wp2_with (go_at_call 64; ((with_reducible refine (cf _).mono ?_); rintro e w' ⟨rfl, rfl⟩))
        go_ret2
        exact ⟨⟨_, true, .inl ⟨rfl, HQ.out.1, HQ.out.2.1, q, HQ.out.2.2, HY.out, HC.out.symm⟩, rfl⟩, Below.refl _ _⟩
      · have hc : clI (fval q) = k + 1 := by rw [clI_more (by rw [hk]; exact hw), hk]
        have o2 : FloatKind.f64.format.order (floatOfInt .f64 k) q = some .lt := by
          rw [Int.compare_eq_lt.2 (show k * (oneV : Int) < fval q by omega)] at ho; exact ho
        have HC := Lib.hid hc
        clear ho hle hw hc kv kn hyes hk
        go_enter Try.func27, Try.ntmps27
        go_wp2_with (go_at_call 64; ((with_reducible refine (cf _).mono ?_); rintro e w' ⟨rfl, rfl⟩))
        go_ret2
        exact ⟨⟨_, true, .inl ⟨rfl, HQ.out.1, HQ.out.2.1, q, HQ.out.2.2, HY.out, HC.out.symm⟩, rfl⟩, Below.refl _ _⟩
  · have HN := Lib.hid (fun h1 h2 => hok ⟨h1, h2⟩ : okM m → okA a → False)
    have hb : ((t1 && t2) && (u1 && u2)) = false := by
      cases h : ((t1 && t2) && (u1 && u2))
      · rfl
      · rw [Bool.and_eq_true] at h; exact absurd ⟨ht.1 h.1, hu.1 h.2⟩ hok
    clear ht hu hok
    by_cases hz : u1 = true ∧ u2 = false
    · obtain ⟨rfl, rfl⟩ := hz
      have hs : floatBits .sub .f64 a a = none := by
        rcases hf rfl with ⟨h, _⟩ | ⟨_, h⟩
        · cases h
        · exact h
      have cf := fun w => s_fine_no a w hs
      clear hf hs hb
      cases t1 <;> cases t2
      all_goals
        go_enter Try.func27, Try.ntmps27
        go_wp2_with (go_at_call 64; ((with_reducible refine (cf _).mono ?_); rintro e w' ⟨rfl, rfl⟩))
        go_ret2
        exact ⟨⟨0, false, .inr ⟨rfl, rfl, fun h1 h2 => (HN.out h1 h2).elim⟩, rfl⟩, ⟨rfl, rfl, rfl, Nat.le_refl _, fun _ _ => rfl⟩⟩
    · have hzz : u1 = true → ∃ z, floatBits .sub .f64 a a = some z ∧ FloatKind.f64.format.order z 0 = some .eq := fun h => by
        rcases hf h with ⟨_, h2⟩ | ⟨h2, _⟩
        · exact h2
        · exact absurd ⟨h, h2⟩ hz
      clear hf
      cases u1
      · clear hzz hz hb
        cases t1 <;> cases t2
        all_goals
          go_enter Try.func27, Try.ntmps27
          go_wp2
          go_ret2
          exact ⟨⟨0, false, .inr ⟨rfl, rfl, fun h1 h2 => (HN.out h1 h2).elim⟩, rfl⟩, Below.refl _ _⟩
      · obtain ⟨z, z1, z2⟩ := hzz rfl
        have cf := fun w => s_fine_yes a z w z1 z2
        have hu2 : u2 = true := by cases u2; exact absurd ⟨rfl, rfl⟩ hz; rfl
        subst hu2
        clear hz z1 z2 hzz
        cases t1 <;> cases t2
        all_goals first
          | (cases hb; done)
          | (clear hb
             go_enter Try.func27, Try.ntmps27
             go_wp2_with (go_at_call 64; ((with_reducible refine (cf _).mono ?_); rintro e w' ⟨rfl, rfl⟩))
             go_ret2
             exact ⟨⟨0, false, .inr ⟨rfl, rfl, fun h1 h2 => (HN.out h1 h2).elim⟩, rfl⟩, Below.refl _ _⟩)

theorem f64_wd {x : Nat} (h : (Lit.float .f64 x).wf = true) : x < 18446744073709551616 := by
  simpa [Lit.wf] using h
set_option maxRecDepth 100000 in
set_option maxHeartbeats 2000000 in
theorem w_FnExactSecondsFor (m a : Nat) (w : World) (hm : (Lit.float .f64 m).wf = true) (ha : (Lit.float .f64 a).wf = true) :
    Calls Try.prog 11 #[.float .f64 m, .float .f64 a] w fun e w' => e = .returned (.bool true) ∧ Below w.heap.size w w' := by
  have hm9 := f64_wd hm
  have ha9 := f64_wd ha
  go_enter Try.func11, Try.ntmps11
  go_wp2_with fail
  refine (s_sec m a _ hm9 ha9).mono ?_
  rintro e w1 ⟨⟨n, t, h1, rfl⟩, b1⟩
  go_wp2_with fail
  refine (i_sec m a _ hm9 ha9).mono ?_
  rintro e w2 ⟨⟨n', t', h2, rfl⟩, rfl⟩
  obtain ⟨rfl, rfl⟩ := h1.same h2
  cases t
  all_goals
    go_wp2
    go_ret
    exact ⟨rfl, b1⟩
end Go.Proofs.Ytlenmnffnbldbaa

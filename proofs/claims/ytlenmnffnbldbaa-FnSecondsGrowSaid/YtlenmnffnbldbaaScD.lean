/- The drawing of metres and speeds along; the walk of the law FnSecondsGrow. -/
import Derived.Test.YtlenmnffnbldbaaScC
import Derived.Test.YtlenmnffnbldbaaDrW
namespace Go.Proofs.Ytlenmnffnbldbaa
open Go.RowKit Ieee
set_option linter.unusedVariables false
set_option linter.unusedSimpArgs false

set_option maxRecDepth 100000 in
set_option maxHeartbeats 2000000 in
theorem d_seconds (w : World) (len cap : Nat) (A : Option Addr) (hcode : Code w w.heap.size A len) :
    Calls Try.prog 25 #[.slice A len cap] w fun e w' => ∃ m a : Nat, m < 18446744073709551616 ∧ a < 18446744073709551616 ∧ e = .returned (.tuple #[.float .f64 m, .float .f64 a]) ∧ Below w.heap.size w w' := by
  have hs : (Try.prog.underlying 3).isSome = true := by rw [Try.underlying3]; rfl
  go_enter Try.func25, Try.ntmps25
  go_wp2_with fail
  refine (d_new w w.heap.size len cap A (Nat.le_refl _) hcode).mono ?_
  rintro e w1 ⟨g, rfl, cur1, b1⟩
  go_wp2_with fail
  refine (d_real 30000 _ _ g len cap A cur1 (by omega) (by omega)).mono ?_
  rintro e w2 ⟨m, m0, rfl, cur2, gr2⟩
  have b2 := below_cur b1 (Nat.le_refl _) gr2 cur1.1
  go_wp2_with fail
  refine (d_real 12 _ _ g len cap A cur2 (by omega) (by omega)).mono ?_
  rintro e w3 ⟨a, a0, rfl, cur3, gr3⟩
  have b3 := below_cur b2 (Nat.le_refl _) gr3 cur1.1
  go_wp2_with fail
  refine (d_below 8 _ _ g len cap A cur3 (by omega)).mono ?_
  rintro e w4 ⟨k, k0, k1, k2, rfl, cur4, gr4⟩
  have b4 := below_cur b3 (Nat.le_refl _) gr4 cur1.1
  have k3 := k1 (by omega)
  clear k1 k2
  have hcase : k = 0 ∨ k = 1 ∨ k = 2 ∨ k = 3 ∨ (4 ≤ k) := by omega
  rcases hcase with rfl | rfl | rfl | rfl | h4
  · go_wp2
    go_ret2
    exact ⟨_, a, by decide, a0, rfl, b4⟩
  · go_wp2_with fail
    refine (d_below 1000 _ _ g len cap A cur4 (by omega)).mono ?_
    rintro e w5 ⟨i, i0, i1, i2, rfl, cur5, gr5⟩
    have b5 := below_cur b4 (Nat.le_refl _) gr5 cur1.1
    clear i1 i2
    cases hp : floatBits .mul .f64 a (floatOfInt .f64 i) with
    | none =>
      obtain ⟨nb, hq, hn⟩ := run_nan .mul (by simp) a _ hp
      have hnl := fun w => (hn w).1
      clear hn hp
      go_wp2
      go_ret2
      exact ⟨_, a, hnl _, a0, rfl, b5.trans ⟨rfl, rfl, rfl, Nat.le_refl _, fun _ _ => rfl⟩⟩
    | some p =>
      have qq := fun w => run_float_arith (P := Try.prog) w .mul 33 .f64 _ _ _ hp
      have hl := mul_lt hp
      clear hp
      go_wp2
      go_ret2
      exact ⟨p, a, hl, a0, rfl, b5⟩
  · cases hp : floatBits .quo .f64 m 4711630319722168320 with
    | none =>
      obtain ⟨nb, hq, hn⟩ := run_nan .quo (by simp) m _ hp
      have hnl := fun w => (hn w).1
      clear hn hp
      go_wp2
      go_ret2
      exact ⟨m, _, m0, hnl _, rfl, b4.trans ⟨rfl, rfl, rfl, Nat.le_refl _, fun _ _ => rfl⟩⟩
    | some p =>
      have qq := fun w => run_float_arith (P := Try.prog) w .quo 33 .f64 _ _ _ hp
      have hl : p < 18446744073709551616 := FloatKind.f64.format.div_lt hp
      clear hp
      go_wp2
      go_ret2
      exact ⟨m, p, m0, hl, rfl, b4⟩
  · go_wp2_with fail
    refine (d_odd _ _ g len cap A cur4).mono ?_
    rintro e w5 ⟨i, i0, rfl, cur5, gr5⟩
    have b5 := below_cur b4 (Nat.le_refl _) gr5 cur1.1
    go_wp2
    go_ret2
    exact ⟨m, i, m0, i0, rfl, b5⟩
  · have e0 : (k == 0) = false := by simp; omega
    have e1 : (k == 1) = false := by simp; omega
    have e2 : (k == 2) = false := by simp; omega
    have e3 : (k == 3) = false := by simp; omega
    go_wp2
    go_ret2
    exact ⟨m, a, m0, a0, rfl, b4⟩

theorem sec_order {m a : Nat} {n : Int} (h : SecIs m a n true) : ∃ q, floatBits .quo .f64 m a = some q ∧ (FloatKind.f64.format.order (floatOfInt .f64 n) q == some .gt || FloatKind.f64.format.order (floatOfInt .f64 n) q == some .eq) = true ∧ FloatKind.f64.format.order (floatOfInt .f64 (n - 1)) q = some .lt := by
  have hb := h.bd
  rcases h with ⟨_, _, _, q, h3, h4, rfl⟩ | ⟨h, _⟩
  · obtain ⟨s1, s2⟩ := clI_sides (fval q)
    obtain ⟨n1, v1⟩ := ofInt_val (clI (fval q)) (by omega) (by omega)
    obtain ⟨n2, v2⟩ := ofInt_val (clI (fval q) - 1) (by omega) (by omega)
    have o1 := order_val n1 h4.1
    have o2 := order_val n2 h4.1
    rw [v1] at o1
    rw [v2, Int.compare_eq_lt.2 s2] at o2
    refine ⟨q, h3, ?_, o2⟩
    have o1' : FloatKind.f64.format.order (floatOfInt .f64 (clI (fval q))) q = some (compare (clI (fval q) * (oneV : Int)) (fval q)) := o1
    rw [o1']
    rcases Int.lt_or_eq_of_le s1 with h | h
    · rw [Int.compare_eq_gt.2 h]; rfl
    · rw [Int.compare_eq_eq.2 h.symm]; rfl
  · cases h

set_option maxRecDepth 100000 in
set_option maxHeartbeats 4000000 in
theorem w_FnSecondsGrow (a0 : Option Addr) (len cap : Nat) (zs : List Int) (w : World) (hr : IsRow .u8 w a0 len cap zs) :
    Calls Try.prog 6 #[.slice a0 len cap] w fun e w' => e = .returned (.bool true) ∧ Below w.heap.size w w' := by
  by_cases hbig : len ≤ 1048576
  · have hcode := code_of_row hr hbig
    go_enter Try.func6, Try.ntmps6
    go_wp2_with (first
      | (go_at_call 12; go_in)
      | fail)
    refine (d_seconds _ len cap a0 hcode).mono ?_
    rintro e w1 ⟨m, a, ml, al, rfl, b1⟩
    go_wp2_with fail
    refine (i_sec m a _ ml al).mono ?_
    rintro e w2 ⟨⟨n, t, h1, rfl⟩, rfl⟩
    have hsz := b1.size
    cases hh : floatBits .quo .f64 m 4611686018427387904 with
    | none =>
      have ht : t = false := by
        rcases h1 with ⟨_, hm, _⟩ | ⟨h, _⟩
        · obtain ⟨h, _, _, e1, _⟩ := hlf_op ml hm
          rw [hh] at e1; cases e1
        · exact h
      subst ht
      have hn0 : n = 0 := by
        rcases h1 with ⟨h, _⟩ | ⟨_, h, _⟩
        · cases h
        · exact h
      subst hn0
      obtain ⟨nb, hq, hn⟩ := run_nan .quo (by simp) m _ hh
      have hnl := fun w => (hn w).1
      clear hn hh
      go_wp2_with fail
      refine (i_sec _ a _ (hnl _) al).mono ?_
      rintro e w2 ⟨⟨n', t', h2, rfl⟩, rfl⟩
      go_wp2_with fail
      refine (s_sec m a _ ml al).mono ?_
      rintro e w3 ⟨⟨n2, t2, h3, rfl⟩, b3⟩
      obtain ⟨rfl, rfl⟩ := h1.same h3
      have b4 : Below w.heap.size w w3 := b1.trans (Below.trans (b := w1.drew) ⟨rfl, rfl, rfl, Nat.le_refl _, fun _ _ => rfl⟩ (b3.mono hsz))
      clear b3 h1 h2 h3
      go_wp2
      go_ret
      exact ⟨rfl, b4⟩
    | some h =>
      have qq := fun w => run_float_arith (P := Try.prog) w .quo 33 .f64 _ _ _ hh
      have hl : h < 18446744073709551616 := FloatKind.f64.format.div_lt hh
      go_wp2_with fail
      refine (i_sec h a _ hl al).mono ?_
      rintro e w2 ⟨⟨n', t', h2, rfl⟩, rfl⟩
      go_wp2_with fail
      refine (s_sec m a _ ml al).mono ?_
      rintro e w3 ⟨⟨n2, t2, h3, rfl⟩, b3⟩
      obtain ⟨rfl, rfl⟩ := h1.same h3
      have b4 : Below w.heap.size w w3 := b1.trans (b3.mono hsz)
      clear b3
      cases t
      · have hn0 : n = 0 := by
          rcases h1 with ⟨h, _⟩ | ⟨_, h, _⟩
          · cases h
          · exact h
        subst hn0
        clear h1 h2 h3 hh
        go_wp2
        go_ret
        exact ⟨rfl, b4⟩
      · obtain ⟨rfl, hle⟩ := sec_half ml h1 hh h2
        obtain ⟨q, hq, o1, o2⟩ := sec_order h1
        have q9 := fun w => run_float_arith (P := Try.prog) w .quo 33 .f64 _ _ _ hq
        have hb := h1.bd
        have hb' := h2.bd
        clear h1 h2 h3 hh hq
        go_wp2
        go_ret
        exact ⟨rfl, b4⟩
  · go_enter Try.func6, Try.ntmps6
    go_wp2
    go_ret
    exact ⟨rfl, Below.refl _ _⟩
end Go.Proofs.Ytlenmnffnbldbaa

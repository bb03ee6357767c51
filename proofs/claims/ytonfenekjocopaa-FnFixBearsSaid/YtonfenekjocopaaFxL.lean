/- FixOf (impl) in full; its drawing. -/
import Derived.Test.YtonfenekjocopaaFxM
namespace Go.Proofs.Ytonfenekjocopaa
open Go.RowKit Ieee
set_option linter.unusedVariables false
set_option linter.unusedSimpArgs false

/-- Four results. -/
theorem results_fx {P : Program} {fn : Func} {t u v x : Tmp} (h : fn.results = #[.tmp t, .tmp u, .tmp v, .tmp x]) (tmps : Array Value) (w : World) :
    (results fn tmps).run P w = .ok (.tuple #[tmps.getD t undef, tmps.getD u undef, tmps.getD v undef, tmps.getD x undef]) w := by
  simp [results, h]
/-- An operation on a part of a complex number, whatever the words. -/
theorem carith_any (P : Program) (x y : Nat) : ∃ f : World → Nat, (∀ w, f w < 18446744073709551616) ∧ ((∀ w, (Op.Complex.arith .sub .f64 x y).run P w = .ok (f w) w) ∨ (∀ w, (Op.Complex.arith .sub .f64 x y).run P w = .ok (f w) w.drew)) := by
  cases h : floatBits .sub .f64 x y with
  | some r => exact ⟨fun _ => r, fun _ => FloatKind.f64.format.sub_lt h, .inl fun w => run_carith w h⟩
  | none =>
    refine ⟨fun w => (Question.nanBits .f64 x y).cut (w.tape w.drawn (.nanBits .f64 x y)), fun w => (nan_cut x y _ _ rfl).1, .inr fun w => ?_⟩
    unfold floatBits at h
    simp only at h
    simp [Op.Complex.arith, Op.floatArith, h, Question.forced]
/-- A difference of complex numbers, whatever the words. -/
theorem csub_any (P : Program) (t : TypeId) (a b c d : Nat) : ∃ f : World → Nat × Nat, (∀ w, W64 (f w)) ∧ ((∀ w, (binOp .sub t (.complex .f64 a b) (.complex .f64 c d)).run P w = .ok (.complex .f64 (f w).1 (f w).2) w) ∨ (∀ w, (binOp .sub t (.complex .f64 a b) (.complex .f64 c d)).run P w = .ok (.complex .f64 (f w).1 (f w).2) w.drew) ∨ (∀ w, (binOp .sub t (.complex .f64 a b) (.complex .f64 c d)).run P w = .ok (.complex .f64 (f w).1 (f w).2) w.drew.drew)) := by
  obtain ⟨f, hf, h1⟩ := carith_any P a c
  obtain ⟨g, hg, h2⟩ := carith_any P b d
  rcases h1 with h1 | h1 <;> rcases h2 with h2 | h2
  · exact ⟨fun w => (f w, g w), fun w => ⟨hf _, hg _⟩, .inl fun w => by simp [binOp, Op.complexOp, h1, h2]⟩
  · exact ⟨fun w => (f w, g w), fun w => ⟨hf _, hg _⟩, .inr (.inl fun w => by simp [binOp, Op.complexOp, h1, h2])⟩
  · exact ⟨fun w => (f w, g w.drew), fun w => ⟨hf _, hg _⟩, .inr (.inl fun w => by simp [binOp, Op.complexOp, h1, h2])⟩
  · exact ⟨fun w => (f w, g w.drew), fun w => ⟨hf _, hg _⟩, .inr (.inr fun w => by simp [binOp, Op.complexOp, h1, h2])⟩
set_option maxRecDepth 100000 in
set_option maxHeartbeats 1000000 in
theorem s_bear_no (a b : Nat) (w : World) (ha : a < 18446744073709551616) (hb : b < 18446744073709551616) (hn : ¬ Points (a, b)) :
    Calls Try.prog 59 #[.complex .f64 a b] w fun e w' => e = .returned (.int .i64 (-1)) ∧ w = w' := by
  obtain ⟨za, hza⟩ : ∃ za, (FloatKind.f64.format.order a 0 == some .eq) = za := ⟨_, rfl⟩
  obtain ⟨zb, hzb⟩ : ∃ zb, (FloatKind.f64.format.order b 0 == some .eq) = zb := ⟨_, rfl⟩
  have HN := Lib.hid hn
  have HZ := Lib.hid (And.intro hza hzb)
  clear hn
  go_enter Try.func59, Try.ntmps59
  go_wp2_with fail
  refine (s_vok a b _ ha hb).mono ?_
  rintro e w1 ⟨t, ht, rfl, rfl⟩
  have HT := Lib.hid ht
  clear ht
  cases t
  · go_wp2
    go_ret
    exact ⟨rfl, rfl⟩
  · cases za
    · exfalso
      exact HN.out ⟨(HT.out.1 rfl).1, (HT.out.1 rfl).2, by rw [show (f64.order a 0 == some .eq) = false from HZ.out.1]; rfl⟩
    · cases zb
      · exfalso
        exact HN.out ⟨(HT.out.1 rfl).1, (HT.out.1 rfl).2, by rw [show (f64.order b 0 == some .eq) = false from HZ.out.2, Bool.and_false]⟩
      · go_wp2
        go_ret
        exact ⟨rfl, rfl⟩
theorem s_bearA (z : Nat × Nat) (w : World) (h : W64 z) : Calls Try.prog 59 #[.complex .f64 z.1 z.2] w fun e w' => ∃ k : Int, e = .returned (.int .i64 k) ∧ w = w' := by
  by_cases hp : Points z
  · exact (s_bear z w h.1 h.2 hp).mono fun e w' ⟨a, b⟩ => ⟨_, a, b⟩
  · exact (s_bear_no z.1 z.2 w h.1 h.2 hp).mono fun e w' ⟨a, b⟩ => ⟨_, a, b⟩
set_option maxRecDepth 100000 in
set_option maxHeartbeats 2000000 in
theorem d_fix (w : World) (len cap : Nat) (A : Option Addr) (hcode : Code w w.heap.size A len) :
    Calls Try.prog 21 #[.slice A len cap] w fun e w' => ∃ (a b : Nat × Nat) (ka kb : Int), W64 a ∧ W64 b ∧ e = .returned (.tuple #[.complex .f64 a.1 a.2, .int .i64 ka, .complex .f64 b.1 b.2, .int .i64 kb]) ∧ Below w.heap.size w w' := by
  go_enter Try.func21, Try.ntmps21
  go_wp2_with fail
  refine (d_new w w.heap.size len cap A (Nat.le_refl _) hcode).mono ?_
  rintro e w1 ⟨g, rfl, cur1, b1⟩
  go_wp2_with fail
  refine (d_vector 3000 _ _ g len cap A cur1 (by omega) (by omega)).mono ?_
  rintro e w2 ⟨a1, a2, al1, al2, rfl, cur2, gr2⟩
  have b2 := below_cur b1 (Nat.le_refl _) gr2 cur1.1
  clear b1 gr2 cur1
  go_wp2_with fail
  refine (d_vector 3000 _ _ g len cap A cur2 (by omega) (by omega)).mono ?_
  rintro e w3 ⟨c1, c2, cl1, cl2, rfl, cur3, gr3⟩
  have b3 := below_cur b2 (Nat.le_refl _) gr3 cur2.1
  clear b2 gr3 cur2
  go_wp2_with fail
  refine (d_vector 3000 _ _ g len cap A cur3 (by omega) (by omega)).mono ?_
  rintro e w4 ⟨p1, p2, pl1, pl2, rfl, cur4, gr4⟩
  have b4 := below_cur b3 (Nat.le_refl _) gr4 cur3.1
  clear b3 gr4 cur3
  go_wp2_with fail
  refine (d_once 3 _ _ g len cap A cur4 (by omega)).mono ?_
  rintro e w5 ⟨t, rfl, cur5, gr5⟩
  have b5 := below_cur b4 (Nat.le_refl _) gr5 cur4.1
  clear b4 gr5 cur4
  cases t
  · clear cur5
    obtain ⟨f, hf, h1⟩ := csub_any Try.prog 24 a1 a2 p1 p2
    obtain ⟨g', hg, h2⟩ := csub_any Try.prog 24 c1 c2 p1 p2
    rcases h1 with h1 | h1 | h1 <;> rcases h2 with h2 | h2 | h2
    all_goals
      go_wp2_with fail
      refine (s_bearA _ _ (hf _)).mono ?_
      rintro e w6 ⟨ka, rfl, rfl⟩
      go_wp2_with fail
      refine (s_bearA _ _ (hg _)).mono ?_
      rintro e w7 ⟨kb, rfl, rfl⟩
      clear h1 h2
      go_wp2
      (try simp only [Exit.inBlock, Exit.then])
      refine bodyPost_ret (results_fx rfl _ _) rfl ?_
      exact ⟨(a1, a2), (c1, c2), ka, kb, ⟨al1, al2⟩, ⟨cl1, cl2⟩, rfl, by first | exact b5 | exact b5.drew | exact b5.drew.drew | exact b5.drew.drew.drew | exact b5.drew.drew.drew.drew⟩
  · go_wp2_with fail
    refine (d_degrees _ _ g len cap A cur5).mono ?_
    rintro e w6 ⟨ka, _, _, rfl, cur6, gr6⟩
    have b6 := below_cur b5 (Nat.le_refl _) gr6 cur5.1
    clear b5 gr6 cur5
    go_wp2_with fail
    refine (d_degrees _ _ g len cap A cur6).mono ?_
    rintro e w7 ⟨kb, _, _, rfl, cur7, gr7⟩
    have b7 := below_cur b6 (Nat.le_refl _) gr7 cur6.1
    clear b6 gr7 cur6
    go_wp2
    (try simp only [Exit.inBlock, Exit.then])
    refine bodyPost_ret (results_fx rfl _ _) rfl ?_
    exact ⟨(a1, a2), (c1, c2), ka, kb, ⟨al1, al2⟩, ⟨cl1, cl2⟩, rfl, b7⟩
end Go.Proofs.Ytonfenekjocopaa

/- What fits (spec): Fits, FitsWide. -/
import Derived.Test.YtlliiecdadiagaaLpC
namespace Go.Proofs.Ytlliiecdadiagaa
open Go.RowKit Ieee
set_option linter.unusedVariables false
set_option linter.unusedSimpArgs false

theorem order_no {u : Nat} {a : Bool} {b : Nat} (h : FloatKind.f32.format.read u = .nan a b) (z : Nat) : FloatKind.f32.format.order u z = none ∧ FloatKind.f32.format.order z u = none := by
  have h1 : FloatKind.f32.format.order u z = none := S.order_nan h z
  refine ⟨h1, ?_⟩
  rw [order_swap, h1]
  rfl
theorem nanS (x k t u : Nat) (hu : (Question.nanBits .f32 x k).cut t = u) : u < 4294967296 ∧ ∀ z, FloatKind.f32.format.order u z = none ∧ FloatKind.f32.format.order z u = none := by
  simp only [Question.cut, Nat.reducePow, Nat.reduceSub] at hu
  have hs : t % 2 = 0 ∨ t % 2 = 1 := by omega
  have hd : t / 2 % 8388607 < 8388607 := Nat.mod_lt _ (by omega)
  generalize t / 2 % 8388607 = d at *
  generalize t % 2 = sg at *
  have hf : ∃ z, (z = 0 ∨ z = 1) ∧ u = z * 2147483648 + (2139095040 + (1 + d)) := ⟨sg, hs, by omega⟩
  clear hu hs
  obtain ⟨z, hz, hu⟩ := hf
  have h1 : u < 4294967296 := by omega
  have he : S.expo u = 255 := by unfold S.expo; rcases hz with rfl | rfl <;> omega
  have hr : 2139095040 < S.rung u := by unfold S.rung; rcases hz with rfl | rfl <;> omega
  have hl : S.rung u < S.f32.signWeight := by rw [S.sgn64]; unfold S.rung; omega
  have e := fl_read_word S.f32 (S.sneg u) (S.rung u) hl
  rw [S.word_self u h1, S.bin64, S.inf64, if_neg (by omega), if_neg (by omega), if_neg (by omega)] at e
  exact ⟨h1, fun z => order_no e z⟩
/-- A sum or a difference of any words. -/
theorem ar_any (op : BinOp) (hop : op = .add ∨ op = .sub) (x k : Nat) : (∃ r, floatBits op .f32 x k = some r ∧ ∀ w, (binOp op 38 (.float .f32 x) (.float .f32 k)).run Try.prog w = .ok (.float .f32 r) w) ∨
    (floatBits op .f32 x k = none ∧ ∃ nb : World → Nat, (∀ w z, FloatKind.f32.format.order (nb w) z = none ∧ FloatKind.f32.format.order z (nb w) = none) ∧ ∀ w, (binOp op 38 (.float .f32 x) (.float .f32 k)).run Try.prog w = .ok (.float .f32 (nb w)) w.drew) := by
  cases h : floatBits op .f32 x k with
  | some r => exact .inl ⟨r, rfl, fun w => run_float_arith (P := Try.prog) w op 38 .f32 _ _ _ h⟩
  | none =>
    refine .inr ⟨rfl, fun w => (Question.nanBits .f32 x k).cut (w.tape w.drawn (.nanBits .f32 x k)), fun w z => ?_, fun w => ?_⟩
    · exact (nanS x k _ _ rfl).2 z
    · unfold floatBits at h
      rcases hop with rfl | rfl
      all_goals
        simp only at h
        simp [binOp, Op.floatArith, h, Question.forced]
set_option maxRecDepth 100000 in
set_option maxHeartbeats 2000000 in
theorem s_fit (s : Sl) (m : Mm) (w : World) :
    Calls Try.prog 33 #[.agg #[.string s.nm, .float .f32 s.lo, .float .f32 s.hi, .int .i64 s.fr, .int .i64 s.to], .agg #[.float .f32 m.1, .int .i64 m.2]] w fun e w' => e = .returned (.bool (fitB s m)) ∧ Below w.heap.size w w' := by
  have hs := Lib.hid (Bx2.new w #[.string s.nm, .float .f32 s.lo, .float .f32 s.hi, .int .i64 s.fr, .int .i64 s.to] 40 #[.float .f32 m.1, .int .i64 m.2] 42)
  obtain ⟨t1, h1⟩ : ∃ t, geW m.1 s.lo = t := ⟨_, rfl⟩
  obtain ⟨t2, h2⟩ : ∃ t, leW m.1 s.hi = t := ⟨_, rfl⟩
  have HB := Lib.hid (show fitB s m = (t1 && t2 && decide (s.fr ≤ m.2) && decide (m.2 ≤ s.to)) by unfold fitB; rw [h1, h2])
  unfold geW at h1
  unfold leW at h2
  obtain ⟨c0, c1, c2, c3, c4⟩ := cells5 hs.out.1
  obtain ⟨k0, k1⟩ : _ ∧ _ := ⟨cell_of_row _ _ 0 _ _ _ hs.out.2.1, cell_of_row _ _ 1 _ _ _ hs.out.2.1⟩
  cases t1
  · have HN := Lib.hid (show fitB s m = false by rw [HB.out]; rfl)
    go_enter Try.func33, Try.ntmps33
    go_wp2
    go_ret
    exact ⟨by rw [HN.out]; rfl, hs.out.2.2⟩
  cases t2
  · have HN := Lib.hid (show fitB s m = false by rw [HB.out]; rfl)
    go_enter Try.func33, Try.ntmps33
    go_wp2
    go_ret
    exact ⟨by rw [HN.out]; rfl, hs.out.2.2⟩
  by_cases h3 : s.fr ≤ m.2
  · by_cases h4 : m.2 ≤ s.to
    · have HN := Lib.hid (show fitB s m = true by rw [HB.out, decide_eq_true h3, decide_eq_true h4]; rfl)
      go_enter Try.func33, Try.ntmps33
      go_wp2
      go_ret
      exact ⟨by rw [HN.out]; rfl, hs.out.2.2⟩
    · have HN := Lib.hid (show fitB s m = false by rw [HB.out, decide_eq_true h3, decide_eq_false h4]; rfl)
      go_enter Try.func33, Try.ntmps33
      go_wp2
      go_ret
      exact ⟨by rw [HN.out]; rfl, hs.out.2.2⟩
  · have HN := Lib.hid (show fitB s m = false by rw [HB.out, decide_eq_false h3]; rfl)
    go_enter Try.func33, Try.ntmps33
    go_wp2
    go_ret
    exact ⟨by rw [HN.out]; rfl, hs.out.2.2⟩
theorem wrap_five {a b : Int} (ha : -9223372036854775808 ≤ a ∧ a ≤ 9223372036854775807) (hb : -9223372036854775808 ≤ b ∧ b ≤ 9223372036854775807) (h : a < b) : decide (0 ≤ wrap64 (b - a) ∧ wrap64 (b - a) ≤ 5) = decide (b - 5 ≤ a) := by
  unfold wrap64
  by_cases h5 : b - 5 ≤ a
  · rw [decide_eq_true h5, decide_eq_true]; omega
  · rw [decide_eq_false h5, decide_eq_false]; omega
/-- What stands behind the winds of FitsWide: the angles. -/
def angB (s : Sl) (m : Mm) : Bool := decide (s.fr - 5 ≤ m.2) && decide (m.2 ≤ s.to + 5)
theorem wide_eq (s : Sl) (m : Mm) : wideB s m = (wloB m.1 s.lo && whiB m.1 s.hi && angB s m) := by
  unfold wideB angB
  cases wloB m.1 s.lo <;> cases whiB m.1 s.hi <;> simp
set_option maxRecDepth 100000 in
set_option maxHeartbeats 4000000 in
theorem s_wide (s : Sl) (m : Mm) (w : World) (hs1 : SlWf s) (hm1 : MmWf m) :
    Calls Try.prog 36 #[.agg #[.string s.nm, .float .f32 s.lo, .float .f32 s.hi, .int .i64 s.fr, .int .i64 s.to], .agg #[.float .f32 m.1, .int .i64 m.2]] w fun e w' => e = .returned (.bool (wideB s m)) ∧ Below w.heap.size w w' := by
  have hs := Lib.hid (Bx2.new w #[.string s.nm, .float .f32 s.lo, .float .f32 s.hi, .int .i64 s.fr, .int .i64 s.to] 40 #[.float .f32 m.1, .int .i64 m.2] 42)
  rw [wide_eq]
  obtain ⟨_, _, _, wf1, wf2⟩ := hs1
  obtain ⟨_, wf3⟩ := hm1
  have HI1 := Lib.hid (fun w => s_inS (wrap64 (s.fr - m.2)) 0 5 (decide (0 ≤ wrap64 (s.fr - m.2) ∧ wrap64 (s.fr - m.2) ≤ 5)) w rfl)
  have HI2 := Lib.hid (fun w => s_inS (wrap64 (m.2 - s.to)) 0 5 (decide (0 ≤ wrap64 (m.2 - s.to) ∧ wrap64 (m.2 - s.to) ≤ 5)) w rfl)
  -- the four ways of the winds
  have hq : ((wloB m.1 s.lo = false ∧ ((∃ r, (∀ w, (binOp .sub 38 (.float .f32 s.lo) (.float .f32 1065353216)).run Try.prog w = .ok (.float .f32 r) w) ∧ geW m.1 r = false) ∨ ∃ nb : World → Nat, (∀ w, (binOp .sub 38 (.float .f32 s.lo) (.float .f32 1065353216)).run Try.prog w = .ok (.float .f32 (nb w)) w.drew) ∧ ∀ w, geW m.1 (nb w) = false)) ∨
      (wloB m.1 s.lo = true ∧ ∃ r, (∀ w, (binOp .sub 38 (.float .f32 s.lo) (.float .f32 1065353216)).run Try.prog w = .ok (.float .f32 r) w) ∧ geW m.1 r = true)) := by
    unfold wloB
    rcases ar_any .sub (.inr rfl) s.lo 1065353216 with ⟨r, h1, h2⟩ | ⟨h1, nb, h2, h3⟩
    · rw [h1]
      cases hg : geW m.1 r
      · exact .inl ⟨hg, .inl ⟨r, h2, hg⟩⟩
      · exact .inr ⟨hg, r, h2, hg⟩
    · rw [h1]
      exact .inl ⟨rfl, .inr ⟨nb, h3, fun w => by unfold geW; rw [(h2 w m.1).2]; rfl⟩⟩
  have hq2 : ((whiB m.1 s.hi = false ∧ ((∃ r, (∀ w, (binOp .add 38 (.float .f32 s.hi) (.float .f32 1065353216)).run Try.prog w = .ok (.float .f32 r) w) ∧ leW m.1 r = false) ∨ ∃ nb : World → Nat, (∀ w, (binOp .add 38 (.float .f32 s.hi) (.float .f32 1065353216)).run Try.prog w = .ok (.float .f32 (nb w)) w.drew) ∧ ∀ w, leW m.1 (nb w) = false)) ∨
      (whiB m.1 s.hi = true ∧ ∃ r, (∀ w, (binOp .add 38 (.float .f32 s.hi) (.float .f32 1065353216)).run Try.prog w = .ok (.float .f32 r) w) ∧ leW m.1 r = true)) := by
    unfold whiB
    rcases ar_any .add (.inl rfl) s.hi 1065353216 with ⟨r, h1, h2⟩ | ⟨h1, nb, h2, h3⟩
    · rw [h1]
      cases hg : leW m.1 r
      · exact .inl ⟨hg, .inl ⟨r, h2, hg⟩⟩
      · exact .inr ⟨hg, r, h2, hg⟩
    · rw [h1]
      exact .inl ⟨rfl, .inr ⟨nb, h3, fun w => by unfold leW; rw [(h2 w m.1).2]; rfl⟩⟩
  unfold geW at hq
  unfold leW at hq2
  obtain ⟨c0, c1, c2, c3, c4⟩ := cells5 hs.out.1
  obtain ⟨k0, k1⟩ : _ ∧ _ := ⟨cell_of_row _ _ 0 _ _ _ hs.out.2.1, cell_of_row _ _ 1 _ _ _ hs.out.2.1⟩
  rcases hq with ⟨e1, ⟨r, a1, a2⟩ | ⟨nb, a1, a2⟩⟩ | ⟨e1, r, a1, a2⟩
  · have HN := Lib.hid (show (wloB m.1 s.lo && whiB m.1 s.hi && angB s m) = false by rw [e1]; rfl)
    clear hq2 e1
    go_enter Try.func36, Try.ntmps36
    go_wp2
    go_ret
    exact ⟨by rw [HN.out]; rfl, hs.out.2.2⟩
  · have HN := Lib.hid (show (wloB m.1 s.lo && whiB m.1 s.hi && angB s m) = false by rw [e1]; rfl)
    clear hq2 e1
    go_enter Try.func36, Try.ntmps36
    go_wp2
    go_ret
    exact ⟨by rw [HN.out]; rfl, hs.out.2.2.drew⟩
  rcases hq2 with ⟨e2, ⟨r2, b1, b2⟩ | ⟨nb, b1, b2⟩⟩ | ⟨e2, r2, b1, b2⟩
  · have HN := Lib.hid (show (wloB m.1 s.lo && whiB m.1 s.hi && angB s m) = false by rw [e1, e2]; rfl)
    clear e1 e2
    go_enter Try.func36, Try.ntmps36
    go_wp2
    go_ret
    exact ⟨by rw [HN.out]; rfl, hs.out.2.2⟩
  · have HN := Lib.hid (show (wloB m.1 s.lo && whiB m.1 s.hi && angB s m) = false by rw [e1, e2]; rfl)
    clear e1 e2
    go_enter Try.func36, Try.ntmps36
    go_wp2
    go_ret
    exact ⟨by rw [HN.out]; rfl, hs.out.2.2.drew⟩
  rw [e1, e2, Bool.and_self, Bool.true_and]
  unfold angB
  clear e1 e2
  have v1 := fun h => wrap_five (a := m.2) (b := s.fr) wf3 wf1 h
  have v2 := fun h => wrap_five (a := s.to) (b := m.2) wf2 wf3 h
  by_cases h1 : m.2 < s.fr
  · rw [v1 h1] at HI1
    have v3 := v2
    clear v1 v2
    by_cases h2 : s.fr - 5 ≤ m.2
    · rw [decide_eq_true h2] at HI1 ⊢
      by_cases h3 : m.2 ≤ s.to
      · rw [show (true && decide (m.2 ≤ s.to + 5)) = true by rw [decide_eq_true (show m.2 ≤ s.to + 5 by omega)]; rfl]
        clear v3 h2
        go_enter Try.func36, Try.ntmps36
        go_wp2_with fail
        refine (HI1.out _).mono ?_
        rintro e w1 ⟨rfl, rfl⟩
        go_wp2
        go_ret
        exact ⟨rfl, hs.out.2.2⟩
      · rw [v3 (by omega)] at HI2
        rw [show decide (m.2 - 5 ≤ s.to) = decide (m.2 ≤ s.to + 5) from by
          by_cases h : m.2 - 5 ≤ s.to
          · rw [decide_eq_true h, decide_eq_true (by omega)]
          · rw [decide_eq_false h, decide_eq_false (by omega)]] at HI2
        rw [Bool.true_and]
        clear v3 h2
        generalize decide (m.2 ≤ s.to + 5) = t at *
        have h3d : decide (m.2 ≤ s.to) = false := decide_eq_false h3
        cases t
        all_goals
          go_enter Try.func36, Try.ntmps36
          go_wp2_with fail
          refine (HI1.out _).mono ?_
          rintro e w1 ⟨rfl, rfl⟩
          go_wp2_with fail
          refine (HI2.out _).mono ?_
          rintro e w2 ⟨rfl, rfl⟩
          go_wp2
          go_ret
          exact ⟨rfl, hs.out.2.2⟩
    · rw [decide_eq_false h2] at HI1 ⊢
      rw [show (false && decide (m.2 ≤ s.to + 5)) = false from rfl]
      clear v3 h2
      go_enter Try.func36, Try.ntmps36
      go_wp2_with fail
      refine (HI1.out _).mono ?_
      rintro e w1 ⟨rfl, rfl⟩
      go_wp2
      go_ret
      exact ⟨rfl, hs.out.2.2⟩
  · rw [decide_eq_true (show s.fr - 5 ≤ m.2 by omega)]
    have v3 := v2
    clear v1 v2
    by_cases h3 : m.2 ≤ s.to
    · rw [show (true && decide (m.2 ≤ s.to + 5)) = true by rw [decide_eq_true (show m.2 ≤ s.to + 5 by omega)]; rfl]
      clear v3
      go_enter Try.func36, Try.ntmps36
      go_wp2
      go_ret
      exact ⟨rfl, hs.out.2.2⟩
    · rw [v3 (by omega)] at HI2
      rw [show decide (m.2 - 5 ≤ s.to) = decide (m.2 ≤ s.to + 5) from by
        by_cases h : m.2 - 5 ≤ s.to
        · rw [decide_eq_true h, decide_eq_true (by omega)]
        · rw [decide_eq_false h, decide_eq_false (by omega)]] at HI2
      rw [Bool.true_and]
      clear v3
      generalize decide (m.2 ≤ s.to + 5) = t at *
      have h3d : decide (m.2 ≤ s.to) = false := decide_eq_false h3
      cases t
      all_goals
        go_enter Try.func36, Try.ntmps36
        go_wp2_with fail
        refine (HI2.out _).mono ?_
        rintro e w2 ⟨rfl, rfl⟩
        go_wp2
        go_ret
        exact ⟨rfl, hs.out.2.2⟩
end Go.Proofs.Ytlliiecdadiagaa

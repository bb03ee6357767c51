/- The law FnNodesNear. The contracts of the impl's functions are arguments. -/
import Derived.Test.YtibkhmdnfloemaaMaS
namespace Go.Proofs.Ytibkhmdnfloemaa
open Go.RowKit
set_option linter.unusedVariables false
set_option linter.unusedSimpArgs false

/-- What WindAt tells. -/
noncomputable def winV (F : Fd) (n t : Int) : Value := if (fdB F && thB F n && decide (0 ≤ t ∧ t ≤ 10000000)) = true then .tuple #[.complex .f32 (F.c (min (t.toNat / 3600) (F.n - 1)) n.toNat).1 (F.c (min (t.toNat / 3600) (F.n - 1)) n.toNat).2, .bool true] else .tuple #[.complex .f32 0 0, .bool false]
theorem th_row {F : Fd} {k : Nat} (h : FdP F) (ht : thB F k = true) (j : Nat) (hj : j < F.n) : k < F.len j ∧ v12B (F.c j k) = true := by
  unfold thB at ht
  have h1 := of_decide_eq_true ht
  have h2 := h.2 j hj
  have h3 : k < F.len j := by omega
  exact ⟨h3, h2.2 k h3⟩
theorem okV_of12 {F : Fd} {k j : Nat} (hw : FdWf F) (hj : j < F.n) (h : k < F.len j ∧ v12B (F.c j k) = true) : okV (F.c j k).1 (F.c j k).2 := ⟨hw.2.2.2.2.2 j hj k h.1, v12B_iff.1 h.2⟩
set_option maxRecDepth 100000 in
set_option maxHeartbeats 4000000 in
theorem wo_FnNodesNear
    (hIn : ∀ (F : Fd) (n : Int) (w : World), FdWf F → FdIn w F → In64 n → Calls Try.prog 6 #[.agg #[.int .i64 F.wd, .int .i64 F.hi, .int .i64 F.me, .slice F.A F.n F.cap], .int .i64 n] w fun e w' => e = .returned (natV F n) ∧ Below w.heap.size w w')
    (hIw : ∀ (F : Fd) (n t : Int) (w : World), FdWf F → FdIn w F → In64 n → In64 t → Calls Try.prog 7 #[.agg #[.int .i64 F.wd, .int .i64 F.hi, .int .i64 F.me, .slice F.A F.n F.cap], .int .i64 n, .int .i64 t] w fun e w' => e = .returned (winV F n t) ∧ Below w.heap.size w w')
    (hIr : ∀ (F : Fd) (k : Nat) (w : World), FdWf F → FdIn w F → FdP F → thB F k = true → Calls Try.prog 9 #[.agg #[.int .i64 F.wd, .int .i64 F.hi, .int .i64 F.me, .slice F.A F.n F.cap], .complex .f64 (nodeP F k).1 (nodeP F k).2] w fun e w' => e = .returned (.int .i64 k) ∧ Below w.heap.size w w')
    (a0 : Option Addr) (len cap : Nat) (zs : List Int) (w : World) (hr : IsRow .u8 w a0 len cap zs) :
    Calls Try.prog 3 #[.slice a0 len cap] w fun e w' => e = .returned (.bool true) ∧ Below w.heap.size w w' := by
  by_cases hbig : len ≤ 1048576
  · have hcode := code_of_row hr hbig
    have HIn := Lib.hid hIn
    have HIw := Lib.hid hIw
    have HIr := Lib.hid hIr
    clear hIn hIw hIr
    go_enter Try.func3, Try.ntmps3
    go_wp2_with (first
      | (go_at_call 4; go_in)
      | (go_at_call 5; ((with_reducible refine (d_windat _ len cap a0 hcode).mono ?_); rintro e w1 ⟨F, n, t, rfl, hn, ht, o1, b1⟩)))
    have hs := Lib.hid (FdQ.new o1.2.1 b1 26)
    have HW := Lib.hid o1.1
    have HN := Lib.hid hn
    have HT := Lib.hid ht
    clear o1 b1 hn ht hcode hr hbig
    generalize w1.heap.size = q at *
    obtain ⟨k0, k1, k2, k3⟩ := cells4f hs.out.2
    have C1 := Lib.hid (HIn.out F n _ HW.out hs.out.1.1 HN.out)
    have C2 := Lib.hid (fun w h => HIw.out F n t w HW.out h HN.out HT.out)
    have C3 := Lib.hid (fun w h => s_nat F n w HW.out h)
    by_cases hv : (fdB F && thB F n) = true
    case neg =>
      have hv2 : (fdB F && thB F n) = false := by simpa using hv
      have z1 : natV F n = .tuple #[.complex .f64 0 0, .bool false] := by unfold natV; rw [hv2, if_neg (by decide)]
      have z2 : winV F n t = .tuple #[.complex .f32 0 0, .bool false] := by unfold winV; rw [hv2, Bool.false_and, if_neg (by decide)]
      rw [z1] at C1 C3
      rw [z2] at C2
      clear z1 z2 hv hv2 HIn HIw HIr
      go_wp2_with fail
      refine C1.out.mono ?_
      rintro e w2 ⟨rfl, b⟩
      have H2 := Lib.hid (hs.out.step b)
      clear hs b k0 k1 k2 k3 C1
      obtain ⟨k0, k1, k2, k3⟩ := cells4f H2.out.2
      go_wp2_with fail
      refine (C2.out _ H2.out.1.1).mono ?_
      rintro e w3 ⟨rfl, b⟩
      have H3 := Lib.hid (H2.out.step b)
      clear H2 b k0 k1 k2 k3 C2
      obtain ⟨k0, k1, k2, k3⟩ := cells4f H3.out.2
      go_wp2_with fail
      refine (C3.out _ H3.out.1.1).mono ?_
      rintro e w4 ⟨rfl, b⟩
      have H4 := Lib.hid (H3.out.step b)
      clear H3 b k0 k1 k2 k3 C3
      go_wp2
      go_ret
      exact ⟨rfl, H4.out.1.2⟩
    obtain ⟨hf, hth⟩ : fdB F = true ∧ thB F n = true := by simpa using hv
    obtain ⟨k, rfl⟩ : ∃ k : Nat, n = k := ⟨n.toNat, by have := of_decide_eq_true hth; omega⟩
    have z1 : natV F (k : Int) = .tuple #[.complex .f64 (nodeP F k).1 (nodeP F k).2, .bool true] := by unfold natV; rw [if_pos hv]; rfl
    have HP := Lib.hid (fdB_iff.1 hf)
    have HR := Lib.hid (fun j hj => th_row HP.out hth j hj)
    have C4 := Lib.hid (fun w h => HIr.out F k w HW.out h HP.out hth)
    rw [z1] at C1 C3
    have x1 : 1 ≤ F.n ∧ F.n ≤ 24 := HP.out.1.2.2.2
    generalize nodeP F k = pos at *
    obtain ⟨px, py⟩ := pos
    dsimp only at *
    have HTT := HT.out
    unfold In64 at HTT
    by_cases hr : 0 ≤ t ∧ t ≤ 10000000
    case neg =>
      have z2 : winV F (k : Int) t = .tuple #[.complex .f32 0 0, .bool false] := by unfold winV; rw [decide_eq_false hr, Bool.and_false, if_neg (by decide)]
      rw [z2] at C2
      have HQ := Lib.hid hr
      clear z2 z1 hv hf hth HIn HIw HIr hr
      go_wp2_with fail
      refine C1.out.mono ?_
      rintro e w2 ⟨rfl, b⟩
      have H2 := Lib.hid (hs.out.step b)
      clear hs b k0 k1 k2 k3 C1
      obtain ⟨k0, k1, k2, k3⟩ := cells4f H2.out.2
      go_wp2_with fail
      refine (C2.out _ H2.out.1.1).mono ?_
      rintro e w3 ⟨rfl, b⟩
      have H3 := Lib.hid (H2.out.step b)
      clear H2 b k0 k1 k2 k3 C2
      obtain ⟨k0, k1, k2, k3⟩ := cells4f H3.out.2
      go_wp2_with fail
      refine (C3.out _ H3.out.1.1).mono ?_
      rintro e w4 ⟨rfl, b⟩
      have H4 := Lib.hid (H3.out.step b)
      clear H3 b k0 k1 k2 k3 C3
      obtain ⟨k0, k1, k2, k3⟩ := cells4f H4.out.2
      go_wp2_with fail
      refine (C4.out _ H4.out.1.1).mono ?_
      rintro e w5 ⟨rfl, b⟩
      have H5 := Lib.hid (H4.out.step b)
      clear H4 b k0 k1 k2 k3 C4
      obtain ⟨k0, k1, k2, k3⟩ := cells4f H5.out.2
      have zk : ((k : Int) == (k : Int)) = true := by simp
      go_wp2_with fail
      all_goals first
        | exact absurd (And.intro (by assumption) (by assumption)) HQ.out
        | (go_ret; exact ⟨rfl, H5.out.1.2⟩)
        | (have h9 : ¬ t ≤ 10000000 := fun h9 => HQ.out ⟨by assumption, h9⟩; go_ret; exact ⟨by simp [h9], H5.out.1.2⟩)
    obtain ⟨T, rfl⟩ : ∃ T : Nat, t = T := ⟨t.toNat, by omega⟩
    obtain ⟨h, hh⟩ : ∃ h : Nat, T / 3600 = h := ⟨_, rfl⟩
    have z2 : winV F (k : Int) (T : Int) = .tuple #[.complex .f32 (F.c (min h (F.n - 1)) k).1 (F.c (min h (F.n - 1)) k).2, .bool true] := by
      unfold winV; rw [hv, decide_eq_true hr, Bool.true_and, if_pos rfl, Int.toNat_natCast, Int.toNat_natCast, hh]
    rw [z2] at C2
    have y0 : (0 : Int) ≤ (T : Int) := by omega
    have y1 : (T : Int) ≤ 10000000 := hr.2
    have y2 : ((T : Int).tdiv 3600) = (h : Int) := by rw [← hh]; rfl
    have y3 : h ≤ 10000000 := by rw [← hh]; exact Nat.le_trans (Nat.div_le_self T 3600) (by omega)
    clear z2 z1 hv hf hth HIn HIw HIr hr hh HTT
    obtain ⟨j, hj⟩ : ∃ j : Nat, min h (F.n - 1) = j := ⟨_, rfl⟩
    rw [hj] at C2
    have hjn : j < F.n := by omega
    have HA := Lib.hid (HW.out.2.2.2.1 (by omega))
    have hlk := (HR.out j hjn).1
    have HB := Lib.hid (HW.out.2.2.2.2.1 j hjn (by omega))
    have HOK := Lib.hid (okV_of12 HW.out hjn (HR.out j hjn))
    have x2 : (k : Int) < ((F.len j : Nat) : Int) := by omega
    have x3 : (0 : Int) ≤ (k : Int) := by omega
    have x4 : (j : Int) < (F.n : Int) := by omega
    have x5 : (0 : Int) ≤ (j : Int) := by omega
    have hcs : ((j : Int) < (h : Int) ∧ (F.n : Int) - 1 = (j : Int)) ∨ (h = j ∧ ¬ (F.n : Int) - 1 < (h : Int)) := by omega
    have x8 : wrap64 (j : Int) = (j : Int) := by unfold wrap64; omega
    have x9 : ((j : Int)).toNat = j := by omega
    have x10 : wrap64 (h : Int) = (h : Int) := by unfold wrap64; omega
    have x11 : wrap64 ((F.n : Int) - 1) = (F.n : Int) - 1 := by unfold wrap64; omega
    have HC := Lib.hid (fun w => l_sameAir12 (F.c j k).1 (F.c j k).2 w HOK.out)
    have hD : ∀ wx, FdQ w F q 26 wx → wx.cell? ⟨q, 3, none⟩ = some (.slice (some ⟨F.g, F.o, none⟩) F.n F.cap) ∧ wx.cell? ⟨F.g, F.o + j, none⟩ = some (.slice (some ⟨F.hg j, F.ho j, none⟩) (F.len j) (F.cp j)) ∧ wx.cell? ⟨F.hg j, F.ho j + k, none⟩ = some (.complex .f32 (F.c j k).1 (F.c j k).2) := by
      intro wx hx
      obtain ⟨_, _, _, k3⟩ := cells4f hx.2
      obtain ⟨e0, e1⟩ := hx.1.1 j hjn
      rw [HA.out] at k3
      rw [HB.out] at e0
      exact ⟨k3, e0, e1 k hlk⟩
    have HD := Lib.hid hD
    clear hD
    obtain ⟨a, ha⟩ : ∃ a : Nat × Nat, F.c j k = a := ⟨_, rfl⟩
    rw [ha] at C2 HC HD HOK
    clear ha
    rcases hcs with ⟨x6, x7⟩ | ⟨rfl, x6⟩
    · clear hj y3 x1
      go_wp2_with fail
      refine C1.out.mono ?_
      rintro e w2 ⟨rfl, b⟩
      have H2 := Lib.hid (hs.out.step b)
      clear hs b k0 k1 k2 k3 C1
      obtain ⟨k0, k1, k2, k3⟩ := cells4f H2.out.2
      go_wp2_with fail
      refine (C2.out _ H2.out.1.1).mono ?_
      rintro e w3 ⟨rfl, b⟩
      have H3 := Lib.hid (H2.out.step b)
      clear H2 b k0 k1 k2 k3 C2
      obtain ⟨k0, k1, k2, k3⟩ := cells4f H3.out.2
      go_wp2_with fail
      refine (C3.out _ H3.out.1.1).mono ?_
      rintro e w4 ⟨rfl, b⟩
      have H4 := Lib.hid (H3.out.step b)
      clear H3 b k0 k1 k2 k3 C3
      obtain ⟨k0, k1, k2, k3⟩ := cells4f H4.out.2
      go_wp2_with fail
      refine (C4.out _ H4.out.1.1).mono ?_
      rintro e w5 ⟨rfl, b⟩
      have H5 := Lib.hid (H4.out.step b)
      clear H4 b k0 k1 k2 k3 C4
      obtain ⟨k0, k1, k2, k3⟩ := cells4f H5.out.2
      have zk : ((k : Int) == (k : Int)) = true := by simp
      clear k0 k1 k2 k3
      obtain ⟨k3, e0, e1⟩ := HD.out _ H5.out
      go_wp2_with (go_at_call 10; (with_reducible refine (HC.out _).mono ?_); rintro e w6 ⟨rfl, rfl⟩)
      go_ret
      exact ⟨rfl, H5.out.1.2⟩
    · clear hj y3 x1
      go_wp2_with fail
      refine C1.out.mono ?_
      rintro e w2 ⟨rfl, b⟩
      have H2 := Lib.hid (hs.out.step b)
      clear hs b k0 k1 k2 k3 C1
      obtain ⟨k0, k1, k2, k3⟩ := cells4f H2.out.2
      go_wp2_with fail
      refine (C2.out _ H2.out.1.1).mono ?_
      rintro e w3 ⟨rfl, b⟩
      have H3 := Lib.hid (H2.out.step b)
      clear H2 b k0 k1 k2 k3 C2
      obtain ⟨k0, k1, k2, k3⟩ := cells4f H3.out.2
      go_wp2_with fail
      refine (C3.out _ H3.out.1.1).mono ?_
      rintro e w4 ⟨rfl, b⟩
      have H4 := Lib.hid (H3.out.step b)
      clear H3 b k0 k1 k2 k3 C3
      obtain ⟨k0, k1, k2, k3⟩ := cells4f H4.out.2
      go_wp2_with fail
      refine (C4.out _ H4.out.1.1).mono ?_
      rintro e w5 ⟨rfl, b⟩
      have H5 := Lib.hid (H4.out.step b)
      clear H4 b k0 k1 k2 k3 C4
      obtain ⟨k0, k1, k2, k3⟩ := cells4f H5.out.2
      have zk : ((k : Int) == (k : Int)) = true := by simp
      clear k0 k1 k2 k3
      obtain ⟨k3, e0, e1⟩ := HD.out _ H5.out
      go_wp2_with (go_at_call 10; (with_reducible refine (HC.out _).mono ?_); rintro e w6 ⟨rfl, rfl⟩)
      go_ret
      exact ⟨rfl, H5.out.1.2⟩
  · go_enter Try.func3, Try.ntmps3
    go_wp2_with (go_at_call 4; go_in)
    go_ret
    exact ⟨rfl, Below.refl _ _⟩
end Go.Proofs.Ytibkhmdnfloemaa

/- TideOk (spec). -/
import Derived.Test.YtbklmfchbojboaaTdM
import Derived.BigQuiet
namespace Go.Proofs.Ytbklmfchbojboaa
open Go.RowKit Ieee
set_option linter.unusedSimpArgs false
set_option linter.unusedVariables false
attribute [local go_sem] st_cplx

theorem s_inT (n a b : Int) (t : Bool) (ht : t = true ↔ a ≤ n ∧ n ≤ b) (w : World) : Calls Try.prog 42 #[.int .i64 n, .int .i64 a, .int .i64 b] w fun e w' => e = .returned (.bool t) ∧ w = w' := by
  have HT := Lib.hid ht
  clear ht
  by_cases h1 : a ≤ n
  · by_cases h2 : n ≤ b
    · obtain rfl : t = true := HT.out.2 ⟨h1, h2⟩
      go_enter Try.func42, Try.ntmps42
      go_wp2
      go_ret
      exact ⟨rfl, rfl⟩
    · obtain rfl : t = false := by cases t; rfl; exact absurd (HT.out.1 rfl).2 h2
      go_enter Try.func42, Try.ntmps42
      go_wp2
      go_ret
      exact ⟨rfl, rfl⟩
  · obtain rfl : t = false := by cases t; rfl; exact absurd (HT.out.1 rfl).1 h1
    go_enter Try.func42, Try.ntmps42
    go_wp2
    go_ret
    exact ⟨rfl, rfl⟩
/-- A tide in a box, nothing old turned. -/
def BoxT (w : World) (B : Nat) (T : Tid) (q : Nat) (wx : World) : Prop := wx.heap[q]? = some (.cells #[.slice T.S T.ns T.cs, .slice T.H T.nh T.ch] 37 (0, 0)) ∧ TidIn B wx T ∧ Below w.heap.size w wx
theorem BoxT.new {w : World} {B : Nat} {T : Tid} (h : TidIn B w T) : BoxT w B T w.heap.size (w.alloc (.cells #[.slice T.S T.ns T.cs, .slice T.H T.nh T.ch] 37)) :=
  ⟨heap_alloc_new w _, h.same (HiSame.grown (World.grownBy_alloc w _ none) (fun k e => by cases e)), (Below.refl w.heap.size w).alloc (Nat.le_refl _) _⟩
theorem BoxT.step {w : World} {B : Nat} {T : Tid} {q : Nat} {wx wy : World} (h : BoxT w B T q wx) (b : Below wx.heap.size wx wy) : BoxT w B T q wy :=
  ⟨(b.block q (block_lt h.1)).trans h.1, h.2.1.same (HiSame.below b), h.2.2.trans (b.mono h.2.2.size)⟩
theorem BoxT.drewN {w : World} {B : Nat} {T : Tid} {q : Nat} {wx : World} (h : BoxT w B T q wx) (n : Nat) : BoxT w B T q (wx.drewN n) :=
  ⟨h.1, h.2.1.same (HiSame.drewN B wx n), ⟨h.2.2.os, h.2.2.tape, h.2.2.output, h.2.2.size, h.2.2.block⟩⟩
theorem BoxT.k0 {w : World} {B : Nat} {T : Tid} {q : Nat} {wx : World} (h : BoxT w B T q wx) : wx.cell? ⟨q, 0, none⟩ = some (.slice T.S T.ns T.cs) := cell_of_row _ _ 0 _ _ _ h.1
theorem BoxT.k1 {w : World} {B : Nat} {T : Tid} {q : Nat} {wx : World} (h : BoxT w B T q wx) : wx.cell? ⟨q, 1, none⟩ = some (.slice T.H T.nh T.ch) := cell_of_row _ _ 1 _ _ _ h.1
theorem TidIn.atH {B : Nat} {w : World} {T : Tid} (h : TidIn B w T) {g : Nat} (hg : T.H = some ⟨g, 0, none⟩) {k : Nat} (hk : k < T.nh) : w.cell? ⟨g, k, none⟩ = some (.int .i64 (T.hi k)) := by
  obtain ⟨g', e, _, hr⟩ := h.2.2 (by omega)
  rw [hg] at e
  cases e
  exact hr k hk
set_option maxRecDepth 100000 in
set_option maxHeartbeats 8000000 in
theorem s_TideOk (B : Nat) (T : Tid) (w : World) (hT : TidIn B w T) :
    Calls Try.prog 40 #[.agg #[.slice T.S T.ns T.cs, .slice T.H T.nh T.ch]] w fun e w' => SaysW (TidOk T) w e w' := by
  have HB := Lib.hid (BoxT.new hT)
  have k0 := HB.out.k0
  have k1 := HB.out.k1
  have hn9 := hT.1.2.2
  have HI := Lib.hid hT
  clear hT
  go_enter Try.func40, Try.ntmps40
  go_wp2_with fail
  generalize w.alloc (.cells #[.slice T.S T.ns T.cs, .slice T.H T.nh T.ch] 37) = w1 at *
  generalize w.heap.size = q at *
  by_cases h1 : 1 ≤ T.ns ∧ T.ns ≤ 20
  case neg =>
    have f1 := s_inT (T.ns : Int) 1 20 false ⟨fun h => (by cases h), fun h => absurd (by omega) h1⟩
    have HN := Lib.hid (show ¬ TidOk T from fun h => h1 h.1.1)
    clear h1
    go_wp2_with (go_at_call 42; ((with_reducible refine (f1 _).mono ?_); rintro e w' ⟨rfl, rfl⟩))
    go_ret
    exact SaysW.no HN.out rfl HB.out.2.2
  have f1 := s_inT (T.ns : Int) 1 20 true ⟨fun _ => (by omega), fun _ => rfl⟩
  by_cases h2 : 1 ≤ T.nh ∧ T.nh ≤ 60
  case neg =>
    have f2 := s_inT (T.nh : Int) 1 60 false ⟨fun h => (by cases h), fun h => absurd (by omega) h2⟩
    have HN := Lib.hid (show ¬ TidOk T from fun h => h2 h.2.1)
    clear h1 h2
    go_wp2_with (go_at_call 42; ((first | (with_reducible refine (f1 _).mono ?_) | (with_reducible refine (f2 _).mono ?_)); rintro e w' ⟨rfl, rfl⟩))
    go_ret
    exact SaysW.no HN.out rfl HB.out.2.2
  have f2 := s_inT (T.nh : Int) 1 60 true ⟨fun _ => (by omega), fun _ => rfl⟩
  obtain ⟨gS, eS, _, _⟩ := HI.out.2.1 (by omega)
  obtain ⟨gH, eH, _, _⟩ := HI.out.2.2 (by omega)
  have HG := Lib.hid (And.intro eS eH)
  clear eS eH
  have HE := Lib.hid (show TidOk T ↔ (∀ i, i < T.ns → StOne (T.st i)) ∧ ∀ i, i < T.nh → HiOne T i from ⟨fun h => ⟨h.1.2, h.2.2⟩, fun h => ⟨⟨h1, h.1⟩, h2, h.2⟩⟩)
  go_wp2_with (go_at_call 42; ((first | (with_reducible refine (f1 _).mono ?_) | (with_reducible refine (f2 _).mono ?_)); rintro e w' ⟨rfl, rfl⟩))
  clear k0 k1 f1 f2
  go_loopw [3] (fun i wr => ∃ k : Nat, k ≤ T.ns ∧ i = .int .i64 k ∧ (∀ j, j < k → StOne (T.st j)) ∧ BoxT w B T q wr) (fun i _ => T.ns - (intOf i).toNat)
  case atStart => exact ⟨0, by omega, rfl, fun j hj => by omega, HB.out⟩
  case round =>
    obtain ⟨k, hk, rfl, hall, hb⟩ := hrel
    have HA := Lib.hid hall
    have HT := Lib.hid hb
    have k0 := hb.k0
    clear hall hb
    by_cases hlt : k < T.ns
    · rw [HG.out.1] at k0
      have z1 : (k : Int) < (T.ns : Int) := by omega
      have z0 : (0 : Int) ≤ (k : Int) := by omega
      have hr := HT.out.2.1.st HG.out.1 hlt
      have hso := HT.out.2.1.1.1 k hlt
      have hvk := fun w => s_vok (T.st k).a (T.st k).b w hso.1.1 hso.1.2
      have hfl := fun w => s_flowOk (litS (T.st k)) (T.st k) w (lit_is hso)
      obtain ⟨c0, c1, c2, c3, c4, c5, c6, c7, c8, c9, c10, c11, c12, c13⟩ := cellsR hr
      unfold litS at hfl
      clear hso hr
      generalize hz : T.st k = Z at *
      have HK := Lib.hid hz
      clear hz
      go_wp2_with fail
      refine (hvk _).mono ?_
      rintro e w6 ⟨t, ht, rfl, rfl⟩
      have HV := Lib.hid ht
      clear ht
      cases t
      · have HN := Lib.hid (show ¬ TidOk T from fun h => by
          have h1 := (h.1.2 k hlt).1
          rw [HK.out] at h1
          cases HV.out.2 h1)
        go_wp2_with fail
        go_ret
        exact SaysW.no HN.out rfl HT.out.2.2
      · go_wp2_with fail
        refine (hfl _).mono ?_
        rintro e w7 ⟨t, ht, rfl, b7⟩
        have HF := Lib.hid (And.intro ht (HT.out.step b7))
        clear ht b7
        cases t
        · have HN := Lib.hid (show ¬ TidOk T from fun h => by
            have h1 := (h.1.2 k hlt).2
            rw [HK.out] at h1
            cases HF.out.1.2 h1)
          go_wp2_with fail
          go_ret
          exact SaysW.no HN.out rfl HF.out.2.2.2
        · have HO := Lib.hid (show StOne (T.st k) from by rw [HK.out]; exact ⟨HV.out.1 rfl, HF.out.1.1 rfl⟩)
          go_wp2_with fail
          go_roundw
          case rel => exact ⟨k + 1, by omega, by go_num, (fun j hj => by
            rcases Nat.lt_or_ge j k with h' | h'
            · exact HA.out j h'
            · rw [show j = k by omega]; exact HO.out), HF.out.2⟩
          case measure => simp [intOf]; omega
    · obtain rfl : k = T.ns := by omega
      go_wp2_with fail
      clear k0
      go_loopw [4] (fun i wr => ∃ k : Nat, k ≤ T.nh ∧ i = .int .i64 k ∧ (∀ j, j < k → HiOne T j) ∧ BoxT w B T q wr) (fun i _ => T.nh - (intOf i).toNat)
      case atStart => exact ⟨0, by omega, rfl, fun j hj => by omega, HT.out⟩
      case round =>
        obtain ⟨k, hk, rfl, hall, hb⟩ := hrel
        have HA2 := Lib.hid hall
        have HT2 := Lib.hid hb
        have k1 := hb.k1
        clear hall hb
        by_cases hlt : k < T.nh
        · rw [HG.out.2] at k1
          have z1 : (k : Int) < (T.nh : Int) := by omega
          have z0 : (0 : Int) ≤ (k : Int) := by omega
          have ck := HT2.out.2.1.atH HG.out.2 hlt
          by_cases ht : 0 ≤ T.hi k ∧ T.hi k ≤ 10000000
          · have f3 := s_inT (T.hi k) 0 10000000 true (by simp [ht])
            have HTT := Lib.hid ht
            clear ht
            by_cases hk0 : k = 0
            · subst hk0
              have HO := Lib.hid (show HiOne T 0 from ⟨HTT.out, fun h => by omega⟩)
              generalize T.hi 0 = z at *
              go_wp2
              go_quiet ((go_at_call 42; exact Calls.quiet_of_same ((f3 _).mono fun _ _ h => ⟨h.1, h.2.symm⟩)))
              go_wp2
              go_roundw
              case rel => exact ⟨1, by omega, by go_num, (fun j hj => by rw [show j = 0 by omega]; exact HO.out), HT2.out.drewN _⟩
              case measure => simp [intOf]; omega
            · have hp := (HA2.out (k - 1) (by omega)).1
              have ck1 := HT2.out.2.1.atH HG.out.2 (show k - 1 < T.nh by omega)
              have hidx : (k : Int) - 1 = ((k - 1 : Nat) : Int) := by omega
              have hidx2 : ((k - 1 : Nat) : Int) < (T.nh : Int) := by omega
              have hidx3 : IntKind.i64.wrap ((k - 1 : Nat) : Int) = ((k - 1 : Nat) : Int) := IntWalk.i64_in _ (by omega)
              have hidx4 : (0 : Int) ≤ ((k - 1 : Nat) : Int) := by omega
              have hkp : (0 : Int) < (k : Int) := by omega
              have hkd : decide ((0 : Int) < (k : Int)) = true := decide_eq_true hkp
              have hkn : 0 < k := by omega
              have hknd : decide (0 < k) = true := decide_eq_true hkn
              have hsum : IntKind.i64.wrap (T.hi (k - 1) + 21600) = T.hi (k - 1) + 21600 := IntWalk.i64_in _ (by omega)
              obtain ⟨s0, s1⟩ := hp
              by_cases hd : T.hi k < T.hi (k - 1) + 21600
              · have HO := Lib.hid (show ¬ TidOk T from fun h => by have := (h.2.2 k hlt).2 (by omega); omega)
                have hdd : decide (T.hi k < T.hi (k - 1) + 21600) = true := decide_eq_true hd
                generalize T.hi (k - 1) = y at *
                generalize T.hi k = z at *
                go_wp2
                go_quiet ((go_at_call 42; exact Calls.quiet_of_same ((f3 _).mono fun _ _ h => ⟨h.1, h.2.symm⟩)))
                go_wp2
                go_ret
                exact SaysW.no HO.out rfl (HT2.out.drewN nq).2.2
              · have HO := Lib.hid (show HiOne T k from ⟨HTT.out, fun h => by omega⟩)
                have hdd : decide (T.hi k < T.hi (k - 1) + 21600) = false := decide_eq_false hd
                generalize T.hi (k - 1) = y at *
                generalize T.hi k = z at *
                go_wp2
                go_quiet ((go_at_call 42; exact Calls.quiet_of_same ((f3 _).mono fun _ _ h => ⟨h.1, h.2.symm⟩)))
                go_wp2
                go_roundw
                case rel => exact ⟨k + 1, by omega, by go_num, (fun j hj => by
                  rcases Nat.lt_or_ge j k with h' | h'
                  · exact HA2.out j h'
                  · rw [show j = k by omega]; exact HO.out), HT2.out.drewN _⟩
                case measure => simp [intOf]; omega
          · have f3 := s_inT (T.hi k) 0 10000000 false (by simpa using ht)
            have HO := Lib.hid (show ¬ TidOk T from fun h => ht (h.2.2 k hlt).1)
            clear ht
            generalize T.hi k = z at *
            go_wp2
            go_quiet ((go_at_call 42; exact Calls.quiet_of_same ((f3 _).mono fun _ _ h => ⟨h.1, h.2.symm⟩)))
            go_wp2
            go_ret
            exact SaysW.no HO.out rfl (HT2.out.drewN nq).2.2
        · obtain rfl : k = T.nh := by omega
          go_wp2_with fail
          go_ret
          exact SaysW.yes (HE.out.2 ⟨HA.out, HA2.out⟩) rfl HT2.out.2.2
end Go.Proofs.Ytbklmfchbojboaa

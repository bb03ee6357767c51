/- SlackFrom (impl). -/
import Derived.Test.YtbklmfchbojboaaTdQ
namespace Go.Proofs.Ytbklmfchbojboaa
open Go.RowKit Ieee
set_option linter.unusedSimpArgs false
set_option linter.unusedVariables false
attribute [local go_sem] st_cplx

set_option maxRecDepth 100000 in
set_option maxHeartbeats 4000000 in
theorem i_SlackFrom (B : Nat) (T : Tid) (a b : Nat) (ds : Nat → Nat) (f : Int → Nat × Nat) (m : Nat) (time : Int) (w : World) (hT : TidIn B w T) (ha : a < 18446744073709551616) (hb : b < 18446744073709551616) (hm : m < 4294967296) (nm : S.isNum m)
    (t0 : -9223372036854775808 ≤ time) (t1 : time ≤ 9223372036854775807) (hds : TidOk T ∧ okP a ∧ okP b → NrOk T a b ds) (hf : TidOk T ∧ okP a ∧ okP b → StrmIs T ds f) :
    Calls Try.prog 15 #[.agg #[.slice T.S T.ns T.cs, .slice T.H T.nh T.ch], .complex .f64 a b, .int .i64 time, .float .f32 m] w fun e w' => ∃ n ok, SlkRes (Hit T a b f m) time n ok ∧ e = .returned (.tuple #[.int .i64 n, .bool ok]) ∧ Below w.heap.size w w' := by
  have HB := Lib.hid (BoxT.new hT)
  have HY := Lib.hid (And.intro hds hf)
  clear hT hds hf
  go_enter Try.func15, Try.ntmps15
  go_wp2_with fail
  generalize w.alloc (.cells #[.slice T.S T.ns T.cs, .slice T.H T.nh T.ch] 37) = w1 at *
  generalize w.heap.size = q at *
  go_loopw [10, 11, 12, 13, 14] (fun _ _ _ _ i wr => ∃ k : Nat, k ≤ 721 ∧ i = .int .i64 k ∧ (∀ j, j < k → ¬ Hit T a b f m (time + 60 * (j : Int))) ∧ BoxT w B T q wr) (fun _ _ _ _ i _ => 721 - (intOf i).toNat)
  case atStart => exact ⟨0, by omega, rfl, fun j hj => by omega, HB.out⟩
  case round =>
    obtain ⟨k, hk, rfl, hall, hb1⟩ := hrel
    have HA := Lib.hid hall
    have HB1 := Lib.hid hb1
    have k0 := hb1.k0
    have k1 := hb1.k1
    clear hall hb1
    by_cases hlt : k < 721
    · have z1 : (k : Int) < 721 := by omega
      go_upto_region 5 with fail
      have hzz : wrap64 (time + (k : Int) * 60) = IntKind.i64.wrap (time + 60 * (k : Int)) := by rw [Int.mul_comm, IntWalk.i64_left]
      generalize hz : wrap64 (time + (k : Int) * 60) = z at *
      have HW := Lib.hid (hit_wrap (T := T) (a := a) (b := b) (f := f) (m := m) (n := time + 60 * (k : Int)) (z := z) (by omega) (by omega) hzz.symm)
      clear hz hzz
      by_cases hg : (TidOk T ∧ okP a ∧ okP b) ∧ 0 ≤ z ∧ z ≤ 10000000
      · obtain ⟨f1, ⟨u1, v1⟩, nu, nv⟩ := HY.out.2 hg.1 z hg.2.1 hg.2.2
        have hS := i_StreamAt_yes B T a b ds (f z).1 (f z).2 z wr HB1.out.2.1 hg.1.1 ha hb hg.1.2 (HY.out.1 hg.1) hg.2 f1
        have hK := fun w => i_slack (f z).1 (f z).2 m w u1 nu v1 nv hm nm
        have HG := Lib.hid hg
        clear f1 hg
        generalize hfu : (f z).1 = u at *
        generalize hfv : (f z).2 = v at *
        have HV := Lib.hid (And.intro hfu hfv)
        clear hfu hfv
        go_wp2_with fail
        refine hS.mono ?_
        rintro e w2 ⟨rfl, b2⟩
        have HB2 := Lib.hid (HB1.out.step b2)
        clear b2 hS
        go_wp2_with fail
        refine (hK _).mono ?_
        rintro e w3 ⟨t, ht, rfl, rfl⟩
        have HT := Lib.hid ht
        clear ht hK
        cases t
        · have HN := Lib.hid (show ¬ Hit T a b f m (time + 60 * (k : Int)) from fun h => by
            have h1 := (HW.out.2 h).2
            rw [HV.out.1, HV.out.2] at h1
            cases HT.out.2 h1)
          go_wp2_with fail
          go_roundw
          case rel => exact ⟨k + 1, by omega, by go_num, (fun j hj => by
            rcases Nat.lt_or_ge j k with h' | h'
            · exact HA.out j h'
            · rw [show j = k by omega]; exact HN.out), HB2.out⟩
          case measure => simp [intOf]; omega
        · have HH := Lib.hid (HW.out.1 ⟨HG.out, by rw [HV.out.1, HV.out.2]; exact HT.out.1 (by first | rfl | trivial)⟩)
          go_wp2_with fail
          go_ret2
          exact ⟨z, true, ⟨fun _ => ⟨k, hlt, HH.out.1, by rw [HH.out.1]; exact HH.out.2, HA.out⟩, fun h => (by cases h)⟩, rfl, HB2.out.2.2⟩
      · have hS := i_StreamAt_no B T a b ds z wr HB1.out.2.1 ha hb HY.out.1 hg
        have HN := Lib.hid (show ¬ Hit T a b f m (time + 60 * (k : Int)) from fun h => hg (HW.out.2 h).1)
        clear hg
        go_wp2_with fail
        refine hS.mono ?_
        rintro e w2 ⟨rfl, b2⟩
        have HB2 := Lib.hid (HB1.out.step b2)
        clear b2 hS
        go_wp2_with fail
        go_roundw
        case rel => exact ⟨k + 1, by omega, by go_num, (fun j hj => by
          rcases Nat.lt_or_ge j k with h' | h'
          · exact HA.out j h'
          · rw [show j = k by omega]; exact HN.out), HB2.out⟩
        case measure => simp [intOf]; omega
    · obtain rfl : k = 721 := by omega
      go_wp2_with fail
      go_ret2
      exact ⟨0, false, ⟨fun h => (by cases h), fun _ => ⟨rfl, HA.out⟩⟩, rfl, HB1.out.2.2⟩
end Go.Proofs.Ytbklmfchbojboaa

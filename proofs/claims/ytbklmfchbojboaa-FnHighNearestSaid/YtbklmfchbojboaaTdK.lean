/- The walk of the law FnHighNearest. -/
import Derived.Test.YtbklmfchbojboaaTdJ
namespace Go.Proofs.Ytbklmfchbojboaa
open Go.RowKit Ieee
set_option linter.unusedSimpArgs false
set_option linter.unusedVariables false

set_option maxRecDepth 100000 in
set_option maxHeartbeats 2000000 in
theorem w_FnHighNearest (a0 : Option Addr) (len cap : Nat) (zs : List Int) (w : World) (hr : IsRow .u8 w a0 len cap zs) :
    Calls Try.prog 4 #[.slice a0 len cap] w fun e w' => e = .returned (.bool true) ∧ Below w.heap.size w w' := by
  by_cases hbig : len ≤ 1048576
  case neg =>
    go_enter Try.func4, Try.ntmps4
    have hb2 : (1048576 : Int) < (len : Int) := by omega
    go_wp2_with (go_at_call 6; go_in)
    go_ret
    exact ⟨rfl, Below.refl _ _⟩
  case pos =>
  have hcode := code_of_row hr hbig
  go_enter Try.func4, Try.ntmps4
  go_wp2_with (go_at_call 6; go_in)
  refine (d_highat w len cap a0 hcode).mono ?_
  rintro e w1 ⟨T, t, rfl, hT, ht, b1⟩
  have ga := World.grownBy_alloc w1 (.cells #[.slice T.S T.ns T.cs, .slice T.H T.nh T.ch] 37) none
  have HT := Lib.hid (And.intro (hT.same (HiSame.grown ga (fun k e => by cases e))) (b1.alloc b1.size (.cells #[.slice T.S T.ns T.cs, .slice T.H T.nh T.ch] 37)))
  have HX := Lib.hid (heap_alloc_new w1 (.cells #[.slice T.S T.ns T.cs, .slice T.H T.nh T.ch] 37))
  obtain ⟨tl, th⟩ := ht
  have hn9 := hT.1.2.2.2
  clear hT b1 ga
  go_wp2_with fail
  generalize w1.alloc (.cells #[.slice T.S T.ns T.cs, .slice T.H T.nh T.ch] 37) = w2 at *
  generalize w1.heap.size = q at *
  by_cases hok : TidOk T ∧ 0 ≤ t ∧ t ≤ 10000000
  · obtain ⟨ho, t0, t1⟩ := hok
    refine (i_HighAt_yes 0 T t w2 HT.out.1 ho ⟨t0, t1⟩).mono ?_
    rintro e w3 ⟨rfl, b3⟩
    have hx3 := (b3.block q (block_lt HX.out)).trans HX.out
    have k1 := cell_of_row w3 _ 1 _ _ _ hx3
    have HB := Lib.hid (HT.out.2.trans (b3.mono HT.out.2.size))
    obtain ⟨gH, eH, _, hcH⟩ := (HT.out.1.same (HiSame.below b3)).2.2 (by have := ho.2.1.1; omega)
    have HC := Lib.hid hcH
    have hbl := fst_lt (far T t) (n := T.nh) (by have := ho.2.1.1; omega)
    have hfst : ∀ i, i < T.nh → far T t (fst (far T t) T.nh) ≤ far T t i ∧ (i < fst (far T t) T.nh → far T t (fst (far T t) T.nh) < far T t i) := by
      obtain ⟨m, hm⟩ : ∃ m, T.nh = m + 1 := ⟨T.nh - 1, by have := ho.2.1.1; omega⟩
      rw [hm]
      exact (fst_is (far T t) m).2
    have HF := Lib.hid hfst
    have HO := Lib.hid ho.2.2
    clear hfst ho hcH b3 hx3 HT HX
    rw [eH] at k1
    clear eH
    generalize hbest : fst (far T t) T.nh = b at *
    have kb := HC.out b hbl
    obtain ⟨z0, z1⟩ := (HO.out b hbl).1
    have b0 : (0 : Int) ≤ (b : Int) := by omega
    have b1 : (b : Int) < (T.nh : Int) := by omega
    have hfar := far_is T t b
    have HFB := Lib.hid hfar
    clear hfar hbest
    generalize hz : T.hi b = z at *
    go_upto_if 45 with fail
    go_cut [6] (fun s6 wx => s6 = .int .i64 (far T t b) ∧ wx = w3)
    case first =>
      by_cases hlt : z < t
      · have hneg : z - t < 0 := by omega
        have HV := Lib.hid (HFB.out.1 hlt)
        go_wp2_with fail
        go_meet
        exact ⟨by rw [HV.out]; congr 1; omega, rfl⟩
      · have hneg : ¬ z - t < 0 := by omega
        have HV := Lib.hid (HFB.out.2 (by omega))
        go_wp2_with fail
        go_meet
        exact ⟨by rw [HV.out], rfl⟩
    case rest =>
    obtain ⟨rfl, rfl⟩ := hcut
    clear HFB kb
    have hfb : 0 ≤ far T t b ∧ far T t b ≤ 10000000 := by
      have := far_is T t b
      by_cases h : T.hi b < t
      · have := this.1 h; omega
      · have := this.2 h; omega
    obtain ⟨fb0, fb1⟩ := hfb
    generalize far T t b = x at *
    go_wp2_with fail
    go_loopw [7, 8] (fun i _ wr => ∃ k : Nat, k ≤ T.nh ∧ i = .int .i64 k ∧ wr = wc) (fun i _ _ => T.nh - (intOf i).toNat)
    case atStart => exact ⟨0, by omega, rfl, rfl⟩
    case round =>
      obtain ⟨k, hk, rfl, rfl⟩ := hrel
      by_cases hlt : k < T.nh
      · have k2 : (k : Int) < (T.nh : Int) := by omega
        have k0 : (0 : Int) ≤ (k : Int) := by omega
        have ck := HC.out k hlt
        obtain ⟨y0, y1⟩ := (HO.out k hlt).1
        have HFK := Lib.hid (far_is T t k)
        have hff := HF.out k hlt
        have HFF := Lib.hid hff
        clear hff
        generalize hy : T.hi k = y at *
        go_upto_if 63 with fail
        go_cut [8] (fun s8 wx => s8 = .int .i64 (far T t k) ∧ wx = wr)
        case first =>
          by_cases hl : y < t
          · have hneg : y - t < 0 := by omega
            have HV := Lib.hid (HFK.out.1 hl)
            go_wp2_with fail
            go_meet
            exact ⟨by rw [HV.out]; congr 1; omega, rfl⟩
          · have hneg : ¬ y - t < 0 := by omega
            have HV := Lib.hid (HFK.out.2 (by omega))
            go_wp2_with fail
            go_meet
            exact ⟨by rw [HV.out], rfl⟩
        case rest =>
        obtain ⟨rfl, rfl⟩ := hcut
        have hff := HFF.out
        have c1 : x ≤ far T t k := hff.1
        generalize far T t k = m at *
        have hcase : x < m ∨ (m = x ∧ b ≤ k) := by
          rcases Int.lt_or_le x m with h | h
          · exact .inl h
          · refine .inr ⟨by omega, ?_⟩
            rcases Nat.lt_or_ge k b with h' | h'
            · have := hff.2 h'; omega
            · exact h'
        clear hff HFF
        rcases hcase with h | ⟨h, h'⟩
        · have hne : ¬ m = x := by omega
          go_wp2_with fail
          go_roundw
          case rel => exact ⟨k + 1, by omega, by go_num, by trivial⟩
          case measure => simp [intOf]; omega
        · subst h
          have hbk : (b : Int) ≤ (k : Int) := by omega
          go_wp2_with fail
          go_roundw
          case rel => exact ⟨k + 1, by omega, by go_num, by trivial⟩
          case measure => simp [intOf]; omega
      · obtain rfl : k = T.nh := by omega
        go_wp2_with fail
        go_ret
        exact ⟨rfl, HB.out⟩
  · refine (i_HighAt_no 0 T t w2 HT.out.1 hok).mono ?_
    rintro e w3 ⟨rfl, b3⟩
    have hx3 := (b3.block q (block_lt HX.out)).trans HX.out
    have k0 := cell_of_row w3 _ 0 _ _ _ hx3
    have k1 := cell_of_row w3 _ 1 _ _ _ hx3
    have HB := Lib.hid (And.intro (HT.out.1.same (HiSame.below b3)) (HT.out.2.trans (b3.mono HT.out.2.size)))
    have HN := Lib.hid hok
    clear hok b3 hx3 HT HX
    go_wp2_with fail
    refine (i_TideOk 0 T w3 HB.out.1).mono ?_
    rintro e w4 ⟨tt, htt, rfl, b4⟩
    have HE := Lib.hid (And.intro htt (HB.out.2.trans (b4.mono HB.out.2.size)))
    clear htt b4
    cases tt
    · go_wp2_with fail
      go_ret
      exact ⟨rfl, HE.out.2⟩
    · have hcase : t < 0 ∨ (¬ t < 0 ∧ 10000000 < t) := by
        have h1 := HE.out.1.1 rfl
        rcases Int.lt_or_le t 0 with h | h
        · exact .inl h
        · refine .inr ⟨by omega, ?_⟩
          rcases Int.lt_or_le 10000000 t with h' | h'
          · exact h'
          · exact absurd ⟨h1, h, h'⟩ HN.out
      rcases hcase with h | ⟨h, h'⟩
      · go_wp2_with fail
        go_ret
        exact ⟨rfl, HE.out.2⟩
      · go_wp2_with fail
        go_ret
        exact ⟨rfl, HE.out.2⟩
end Go.Proofs.Ytbklmfchbojboaa

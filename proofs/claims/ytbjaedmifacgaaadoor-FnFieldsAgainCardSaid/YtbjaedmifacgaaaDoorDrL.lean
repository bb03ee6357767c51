/- The drawing of lines: DrawSplitFields. -/
import Derived.Test.YtbjaedmifacgaaaDoorDrS
namespace Go.Proofs.YtbjaedmifacgaaaDoor
open Go.RowKit

theorem one_own (w : World) (t : TypeId) (v : Int) : (w.alloc (.cells #[.int .u8 v] t)).ownsRow w.heap.size t 1 (.slice (some ⟨w.heap.size, 0, none⟩) 1 1) 1 ([v].map (Value.int .u8)) :=
  ⟨by simp, .inr ⟨w.heap.size, 1, #[.int .u8 v], rfl, Nat.le_refl _, heap_alloc_new w _, Nat.le_refl _, by simp [maxLen], by simp, by simp⟩⟩

set_option maxRecDepth 100000 in
set_option maxHeartbeats 2000000 in
theorem d_line (w : World) (len cap : Nat) (A : Option Addr) (hcode : Code w w.heap.size A len) :
    Calls Tryd.prog 5 #[.slice A len cap] w fun e w' => ∃ s : ByteArray, s.size ≤ 3000 ∧ e = .returned (.string s) ∧ Below w.heap.size w w' := by
  go_enter Tryd.func5, Tryd.ntmps5
  go_wp2_with fail
  refine (d_new w w.heap.size len cap A (Nat.le_refl _) hcode).mono ?_
  rintro e w1 ⟨g, rfl, cur1, b1⟩
  have hBg := cur1.1
  have hs1 := b1.size
  go_wp2_with fail
  refine (d_below _ _ _ g len cap A cur1 (by omega)).mono ?_
  rintro e w2 ⟨n0, n00, n01, n02, rfl, cur2, gr2⟩
  have n03 := n01 (by omega)
  clear n01 n02 cur1
  go_wp2_with fail
  refine (d_once _ _ _ g len cap A cur2 (by omega)).mono ?_
  rintro e w3 ⟨t, rfl, cur3, gr3⟩
  have gr13 := grown_trans gr2 gr3
  clear cur2 gr2 gr3
  cases t
  · obtain ⟨N, hN⟩ : ∃ N : Nat, n0 = N := ⟨n0.toNat, by omega⟩
    subst hN
    have hN25 : N ≤ 25 := by omega
    have hgl := cur3.lt
    have HC := Lib.hid (And.intro cur3 gr13)
    have hsz := gr13.size
    clear cur3 gr13
    go_wp2
    go_loopw [5, 6, 7] (fun v i _ wr => ∃ (m : Nat) (t : ByteArray), m ≤ N ∧ i = .int .i64 m ∧ v = .string t ∧ t.size ≤ 8 * m ∧ Cur wr w.heap.size g A len cap ∧ w1.grownBy wr (some g)) (fun _ i _ _ => N - (intOf i).toNat)
    case atStart => exact ⟨0, ⟨#[]⟩, by omega, rfl, rfl, by simp [ByteArray.size], HC.out.1, HC.out.2⟩
    case round =>
      obtain ⟨m, t, hm, rfl, rfl, ht, cur, hgr⟩ := hrel
      by_cases hlt : m < N
      · have m1 : (m : Int) < (N : Int) := by omega
        by_cases h0 : m = 0
        · have m0 : (m : Int) = 0 := by omega
          have m00 : ¬ ((0 : Int) < (m : Int)) := by omega
          go_wp2_with fail
          refine (d_once _ _ _ g len cap A cur (by omega)).mono ?_
          rintro e w5 ⟨b, rfl, cur5, gr5⟩
          have g5 := grown_trans hgr gr5
          cases b
          · go_wp2
            go_loopw [5, 7] (fun v k wr => ∃ (j : Nat) (t' : ByteArray), j ≤ 5 ∧ k = .int .i64 j ∧ v = .string t' ∧ t'.size ≤ 8 * m + 3 + j ∧ Cur wr w.heap.size g A len cap ∧ w1.grownBy wr (some g)) (fun _ k _ => 6 - (intOf k).toNat)
            case atStart => exact ⟨0, _, by omega, rfl, rfl, by omega, cur5, g5⟩
            case round =>
              obtain ⟨j, t', hj, rfl, rfl, ht', cur', hgr'⟩ := hrel
              go_wp2_with fail
              refine (d_below _ _ _ g len cap A cur' (by omega)).mono ?_
              rintro e we ⟨x, x0, x1, x2, rfl, cure, gre⟩
              have x3 := x1 (by omega)
              have ge := grown_trans hgr' gre
              clear x1 x2 cur' hgr' gre
              by_cases hle : (j : Int) ≤ x
              · go_wp2_with fail
                refine (d_below _ _ _ g len cap A cure (by omega)).mono ?_
                rintro e wf ⟨y, y0, y1, y2, rfl, curf, grf⟩
                have y3 := y1 (by omega)
                have gf := grown_trans ge grf
                clear y1 y2 cure ge grf
                have own := one_own wf 5 (33 + y)
                have hv := conv_owned Tryd.underlying22 Tryd.underlying5 Tryd.underlying9 own
                have hs1' : (strOfNums [33 + y]).size = 1 := by rw [strOfNums_size]; rfl
                have hsum : (t' ++ strOfNums [33 + y]).size ≤ 8 * m + 3 + (j + 1) := by rw [ByteArray.size_append]; omega
                have curf2 := curf.alloc (.cells #[.int .u8 (33 + y)] 5)
                have gf2 := grown_trans gf (grown_any (World.grownBy_alloc wf (.cells #[.int .u8 (33 + y)] 5) none) (some g))
                have HF := Lib.hid (And.intro hsum (And.intro curf2 gf2))
                clear own hsum curf2 gf2 curf gf
                generalize strOfNums [33 + y] = sy at *
                go_wp2
                go_roundw
                case rel => exact ⟨j + 1, _, by omega, by go_num, rfl, HF.out.1, HF.out.2.1, HF.out.2.2⟩
                case measure => simp [intOf]; omega
              · go_wp2
                go_roundw
                case rel => exact ⟨m + 1, t', by omega, by go_num, rfl, by omega, cure, ge⟩
                case measure => simp [intOf]; omega
          · go_wp2_with fail
            refine (d_below _ _ _ g len cap A cur5 (by omega)).mono ?_
            rintro e wa ⟨a, a0, a1, a2, rfl, cura, gra⟩
            have a3 := a1 (by omega)
            have ga := grown_trans g5 gra
            clear a1 a2
            go_wp2_with fail
            refine (d_below _ _ _ g len cap A cura (by omega)).mono ?_
            rintro e wb ⟨b, c0, c1, c2, rfl, curb, grb⟩
            have c3 := c1 (by omega)
            have gb := grown_trans ga grb
            clear c1 c2
            obtain ⟨q, hq, hq3⟩ : ∃ q : Nat, a * b = q ∧ q ≤ 2 := by
              have h1 : 0 ≤ a * b := Int.mul_nonneg a0 c0
              have h2 : a * b ≤ 1 * 2 := Int.mul_le_mul (by omega) (by omega) c0 (by omega)
              exact ⟨(a * b).toNat, by omega, by omega⟩
            go_wp2_with fail
            rw [show (1 + (q : Int)) = ((1 + q : Nat) : Int) by omega]
            refine (d_long (1 + q) 32 _ (by omega)).mono ?_
            rintro e wc ⟨sp, hsp, rfl, grc⟩
            have curc : Cur wc w.heap.size g A len cap := curb.grown_far grc (by simp) (fun _ h => by cases h)
            have gc := grown_trans gb (grown_any grc (some g))
            have hts : (t ++ sp).size ≤ 8 * m + 3 + 0 := by rw [ByteArray.size_append]; omega
            clear cura ga gra curb gb grb grc hq
            go_wp2
            go_loopw [5, 7] (fun v k wr => ∃ (j : Nat) (t' : ByteArray), j ≤ 5 ∧ k = .int .i64 j ∧ v = .string t' ∧ t'.size ≤ 8 * m + 3 + j ∧ Cur wr w.heap.size g A len cap ∧ w1.grownBy wr (some g)) (fun _ k _ => 6 - (intOf k).toNat)
            case atStart => exact ⟨0, _, by omega, rfl, rfl, hts, curc, gc⟩
            case round =>
              obtain ⟨j, t', hj, rfl, rfl, ht', cur', hgr'⟩ := hrel
              go_wp2_with fail
              refine (d_below _ _ _ g len cap A cur' (by omega)).mono ?_
              rintro e we ⟨x, x0, x1, x2, rfl, cure, gre⟩
              have x3 := x1 (by omega)
              have ge := grown_trans hgr' gre
              clear x1 x2 cur' hgr' gre
              by_cases hle : (j : Int) ≤ x
              · go_wp2_with fail
                refine (d_below _ _ _ g len cap A cure (by omega)).mono ?_
                rintro e wf ⟨y, y0, y1, y2, rfl, curf, grf⟩
                have y3 := y1 (by omega)
                have gf := grown_trans ge grf
                clear y1 y2 cure ge grf
                have own := one_own wf 5 (33 + y)
                have hv := conv_owned Tryd.underlying22 Tryd.underlying5 Tryd.underlying9 own
                have hs1' : (strOfNums [33 + y]).size = 1 := by rw [strOfNums_size]; rfl
                have hsum : (t' ++ strOfNums [33 + y]).size ≤ 8 * m + 3 + (j + 1) := by rw [ByteArray.size_append]; omega
                have curf2 := curf.alloc (.cells #[.int .u8 (33 + y)] 5)
                have gf2 := grown_trans gf (grown_any (World.grownBy_alloc wf (.cells #[.int .u8 (33 + y)] 5) none) (some g))
                have HF := Lib.hid (And.intro hsum (And.intro curf2 gf2))
                clear own hsum curf2 gf2 curf gf
                generalize strOfNums [33 + y] = sy at *
                go_wp2
                go_roundw
                case rel => exact ⟨j + 1, _, by omega, by go_num, rfl, HF.out.1, HF.out.2.1, HF.out.2.2⟩
                case measure => simp [intOf]; omega
              · go_wp2
                go_roundw
                case rel => exact ⟨m + 1, t', by omega, by go_num, rfl, by omega, cure, ge⟩
                case measure => simp [intOf]; omega
        · have m0 : (0 : Int) < (m : Int) := by omega
          go_wp2_with fail
          refine (d_below _ _ _ g len cap A cur (by omega)).mono ?_
          rintro e wa ⟨a, a0, a1, a2, rfl, cura, gra⟩
          have a3 := a1 (by omega)
          have ga := grown_trans hgr gra
          clear a1 a2
          go_wp2_with fail
          refine (d_below _ _ _ g len cap A cura (by omega)).mono ?_
          rintro e wb ⟨b, c0, c1, c2, rfl, curb, grb⟩
          have c3 := c1 (by omega)
          have gb := grown_trans ga grb
          clear c1 c2
          obtain ⟨q, hq, hq3⟩ : ∃ q : Nat, a * b = q ∧ q ≤ 2 := by
            have h1 : 0 ≤ a * b := Int.mul_nonneg a0 c0
            have h2 : a * b ≤ 1 * 2 := Int.mul_le_mul (by omega) (by omega) c0 (by omega)
            exact ⟨(a * b).toNat, by omega, by omega⟩
          go_wp2_with fail
          rw [show (1 + (q : Int)) = ((1 + q : Nat) : Int) by omega]
          refine (d_long (1 + q) 32 _ (by omega)).mono ?_
          rintro e wc ⟨sp, hsp, rfl, grc⟩
          have curc : Cur wc w.heap.size g A len cap := curb.grown_far grc (by simp) (fun _ h => by cases h)
          have gc := grown_trans gb (grown_any grc (some g))
          have hts : (t ++ sp).size ≤ 8 * m + 3 + 0 := by rw [ByteArray.size_append]; omega
          clear cura ga gra curb gb grb grc hq
          go_wp2
          go_loopw [5, 7] (fun v k wr => ∃ (j : Nat) (t' : ByteArray), j ≤ 5 ∧ k = .int .i64 j ∧ v = .string t' ∧ t'.size ≤ 8 * m + 3 + j ∧ Cur wr w.heap.size g A len cap ∧ w1.grownBy wr (some g)) (fun _ k _ => 6 - (intOf k).toNat)
          case atStart => exact ⟨0, _, by omega, rfl, rfl, hts, curc, gc⟩
          case round =>
            obtain ⟨j, t', hj, rfl, rfl, ht', cur', hgr'⟩ := hrel
            go_wp2_with fail
            refine (d_below _ _ _ g len cap A cur' (by omega)).mono ?_
            rintro e we ⟨x, x0, x1, x2, rfl, cure, gre⟩
            have x3 := x1 (by omega)
            have ge := grown_trans hgr' gre
            clear x1 x2 cur' hgr' gre
            by_cases hle : (j : Int) ≤ x
            · go_wp2_with fail
              refine (d_below _ _ _ g len cap A cure (by omega)).mono ?_
              rintro e wf ⟨y, y0, y1, y2, rfl, curf, grf⟩
              have y3 := y1 (by omega)
              have gf := grown_trans ge grf
              clear y1 y2 cure ge grf
              have own := one_own wf 5 (33 + y)
              have hv := conv_owned Tryd.underlying22 Tryd.underlying5 Tryd.underlying9 own
              have hs1' : (strOfNums [33 + y]).size = 1 := by rw [strOfNums_size]; rfl
              have hsum : (t' ++ strOfNums [33 + y]).size ≤ 8 * m + 3 + (j + 1) := by rw [ByteArray.size_append]; omega
              have curf2 := curf.alloc (.cells #[.int .u8 (33 + y)] 5)
              have gf2 := grown_trans gf (grown_any (World.grownBy_alloc wf (.cells #[.int .u8 (33 + y)] 5) none) (some g))
              have HF := Lib.hid (And.intro hsum (And.intro curf2 gf2))
              clear own hsum curf2 gf2 curf gf
              generalize strOfNums [33 + y] = sy at *
              go_wp2
              go_roundw
              case rel => exact ⟨j + 1, _, by omega, by go_num, rfl, HF.out.1, HF.out.2.1, HF.out.2.2⟩
              case measure => simp [intOf]; omega
            · go_wp2
              go_roundw
              case rel => exact ⟨m + 1, t', by omega, by go_num, rfl, by omega, cure, ge⟩
              case measure => simp [intOf]; omega
      · obtain rfl : m = N := by omega
        go_wp2_with fail
        refine (d_below _ _ _ g len cap A cur (by omega)).mono ?_
        rintro e wa ⟨y, y0, y1, y2, rfl, cura, gra⟩
        have y3 := y1 (by omega)
        have ga := grown_trans hgr gra
        clear y1 y2
        have hB := fun (wz : World) (h : w1.grownBy wz (some g)) => below_cur b1 (Nat.le_refl _) h hBg
        by_cases c0 : y = 0
        · subst c0
          have hgl := cura.lt
          go_wp2_with fail
          refine (d_pick _ w.heap.size g len cap wa.heap.size 6 6 A [⟨#[32]⟩, ⟨#[32, 32]⟩, ⟨#[9]⟩, ⟨#[10]⟩, ⟨#[127]⟩, ⟨#[233]⟩] (cura.alloc _) rfl (by omega) (by omega) (by omega) (fun x hx => by simp at hx; rcases hx with rfl | rfl | rfl | rfl | rfl | rfl <;> simp [ByteArray.size]) (by unfold StrBlock; rw [heap_alloc_new]; rfl)).mono ?_
          rintro e wb ⟨x, hx, rfl, curb, grb⟩
          have gb := grown_trans (grown_trans ga (grown_any (World.grownBy_alloc wa _ none) (some g))) grb
          have hsum : (t ++ x).size ≤ 3000 := by rw [ByteArray.size_append]; omega
          have HF := Lib.hid (And.intro hsum (hB _ gb))
          clear hsum gb grb ga hB
          go_wp2
          go_ret
          exact ⟨_, HF.out.1, rfl, HF.out.2⟩
        · by_cases c1 : y = 1
          · subst c1
            have hl6 : (t.size : Int) < 600 := by omega
            go_wp2_with fail
            refine (d_below _ _ _ g len cap A cura (by omega)).mono ?_
            rintro e wb ⟨z, z0, z1, z2, rfl, curb, grb⟩
            have z3 := z1 (by omega)
            have gb := grown_trans ga grb
            clear z1 z2
            obtain ⟨K, hK⟩ : ∃ K : Nat, 600 - (t.size : Int) + z = K := ⟨(600 - (t.size : Int) + z).toNat, by omega⟩
            have hK3 : K ≤ 601 := by omega
            go_wp2_with fail
            refine (d_long K 32 _ (by omega)).mono ?_
            rintro e wc ⟨sp, hsp, rfl, grc⟩
            have gc := grown_trans gb (grown_any grc (some g))
            have hsum : (t ++ sp).size ≤ 3000 := by rw [ByteArray.size_append]; omega
            have HF := Lib.hid (And.intro hsum (hB _ gc))
            clear hsum gb grb ga hB gc grc hK
            go_wp2
            go_ret
            exact ⟨_, HF.out.1, rfl, HF.out.2⟩
          · go_wp2
            go_ret
            exact ⟨t, by omega, rfl, hB _ ga⟩
  · go_wp2_with fail
    refine (d_below _ _ _ g len cap A cur3 (by omega)).mono ?_
    rintro e w4 ⟨n1, n10, n11, n12, rfl, cur4, gr4⟩
    have n13 := n11 (by omega)
    have gr14 := grown_trans gr13 gr4
    clear n11 n12 cur3 gr13 gr4
    obtain ⟨N, hN⟩ : ∃ N : Nat, 24 + n1 = N := ⟨(24 + n1).toNat, by omega⟩
    have hN25 : N ≤ 25 := by omega
    have hgl := cur4.lt
    have HC := Lib.hid (And.intro cur4 gr14)
    have hsz := gr14.size
    clear cur4 gr14
    go_wp2
    go_loopw [5, 6, 7] (fun v i _ wr => ∃ (m : Nat) (t : ByteArray), m ≤ N ∧ i = .int .i64 m ∧ v = .string t ∧ t.size ≤ 8 * m ∧ Cur wr w.heap.size g A len cap ∧ w1.grownBy wr (some g)) (fun _ i _ _ => N - (intOf i).toNat)
    case atStart => exact ⟨0, ⟨#[]⟩, by omega, rfl, rfl, by simp [ByteArray.size], HC.out.1, HC.out.2⟩
    case round =>
      obtain ⟨m, t, hm, rfl, rfl, ht, cur, hgr⟩ := hrel
      by_cases hlt : m < N
      · have m1 : (m : Int) < (N : Int) := by omega
        by_cases h0 : m = 0
        · have m0 : (m : Int) = 0 := by omega
          have m00 : ¬ ((0 : Int) < (m : Int)) := by omega
          go_wp2_with fail
          refine (d_once _ _ _ g len cap A cur (by omega)).mono ?_
          rintro e w5 ⟨b, rfl, cur5, gr5⟩
          have g5 := grown_trans hgr gr5
          cases b
          · go_wp2
            go_loopw [5, 7] (fun v k wr => ∃ (j : Nat) (t' : ByteArray), j ≤ 5 ∧ k = .int .i64 j ∧ v = .string t' ∧ t'.size ≤ 8 * m + 3 + j ∧ Cur wr w.heap.size g A len cap ∧ w1.grownBy wr (some g)) (fun _ k _ => 6 - (intOf k).toNat)
            case atStart => exact ⟨0, _, by omega, rfl, rfl, by omega, cur5, g5⟩
            case round =>
              obtain ⟨j, t', hj, rfl, rfl, ht', cur', hgr'⟩ := hrel
              go_wp2_with fail
              refine (d_below _ _ _ g len cap A cur' (by omega)).mono ?_
              rintro e we ⟨x, x0, x1, x2, rfl, cure, gre⟩
              have x3 := x1 (by omega)
              have ge := grown_trans hgr' gre
              clear x1 x2 cur' hgr' gre
              by_cases hle : (j : Int) ≤ x
              · go_wp2_with fail
                refine (d_below _ _ _ g len cap A cure (by omega)).mono ?_
                rintro e wf ⟨y, y0, y1, y2, rfl, curf, grf⟩
                have y3 := y1 (by omega)
                have gf := grown_trans ge grf
                clear y1 y2 cure ge grf
                have own := one_own wf 5 (33 + y)
                have hv := conv_owned Tryd.underlying22 Tryd.underlying5 Tryd.underlying9 own
                have hs1' : (strOfNums [33 + y]).size = 1 := by rw [strOfNums_size]; rfl
                have hsum : (t' ++ strOfNums [33 + y]).size ≤ 8 * m + 3 + (j + 1) := by rw [ByteArray.size_append]; omega
                have curf2 := curf.alloc (.cells #[.int .u8 (33 + y)] 5)
                have gf2 := grown_trans gf (grown_any (World.grownBy_alloc wf (.cells #[.int .u8 (33 + y)] 5) none) (some g))
                have HF := Lib.hid (And.intro hsum (And.intro curf2 gf2))
                clear own hsum curf2 gf2 curf gf
                generalize strOfNums [33 + y] = sy at *
                go_wp2
                go_roundw
                case rel => exact ⟨j + 1, _, by omega, by go_num, rfl, HF.out.1, HF.out.2.1, HF.out.2.2⟩
                case measure => simp [intOf]; omega
              · go_wp2
                go_roundw
                case rel => exact ⟨m + 1, t', by omega, by go_num, rfl, by omega, cure, ge⟩
                case measure => simp [intOf]; omega
          · go_wp2_with fail
            refine (d_below _ _ _ g len cap A cur5 (by omega)).mono ?_
            rintro e wa ⟨a, a0, a1, a2, rfl, cura, gra⟩
            have a3 := a1 (by omega)
            have ga := grown_trans g5 gra
            clear a1 a2
            go_wp2_with fail
            refine (d_below _ _ _ g len cap A cura (by omega)).mono ?_
            rintro e wb ⟨b, c0, c1, c2, rfl, curb, grb⟩
            have c3 := c1 (by omega)
            have gb := grown_trans ga grb
            clear c1 c2
            obtain ⟨q, hq, hq3⟩ : ∃ q : Nat, a * b = q ∧ q ≤ 2 := by
              have h1 : 0 ≤ a * b := Int.mul_nonneg a0 c0
              have h2 : a * b ≤ 1 * 2 := Int.mul_le_mul (by omega) (by omega) c0 (by omega)
              exact ⟨(a * b).toNat, by omega, by omega⟩
            go_wp2_with fail
            rw [show (1 + (q : Int)) = ((1 + q : Nat) : Int) by omega]
            refine (d_long (1 + q) 32 _ (by omega)).mono ?_
            rintro e wc ⟨sp, hsp, rfl, grc⟩
            have curc : Cur wc w.heap.size g A len cap := curb.grown_far grc (by simp) (fun _ h => by cases h)
            have gc := grown_trans gb (grown_any grc (some g))
            have hts : (t ++ sp).size ≤ 8 * m + 3 + 0 := by rw [ByteArray.size_append]; omega
            clear cura ga gra curb gb grb grc hq
            go_wp2
            go_loopw [5, 7] (fun v k wr => ∃ (j : Nat) (t' : ByteArray), j ≤ 5 ∧ k = .int .i64 j ∧ v = .string t' ∧ t'.size ≤ 8 * m + 3 + j ∧ Cur wr w.heap.size g A len cap ∧ w1.grownBy wr (some g)) (fun _ k _ => 6 - (intOf k).toNat)
            case atStart => exact ⟨0, _, by omega, rfl, rfl, hts, curc, gc⟩
            case round =>
              obtain ⟨j, t', hj, rfl, rfl, ht', cur', hgr'⟩ := hrel
              go_wp2_with fail
              refine (d_below _ _ _ g len cap A cur' (by omega)).mono ?_
              rintro e we ⟨x, x0, x1, x2, rfl, cure, gre⟩
              have x3 := x1 (by omega)
              have ge := grown_trans hgr' gre
              clear x1 x2 cur' hgr' gre
              by_cases hle : (j : Int) ≤ x
              · go_wp2_with fail
                refine (d_below _ _ _ g len cap A cure (by omega)).mono ?_
                rintro e wf ⟨y, y0, y1, y2, rfl, curf, grf⟩
                have y3 := y1 (by omega)
                have gf := grown_trans ge grf
                clear y1 y2 cure ge grf
                have own := one_own wf 5 (33 + y)
                have hv := conv_owned Tryd.underlying22 Tryd.underlying5 Tryd.underlying9 own
                have hs1' : (strOfNums [33 + y]).size = 1 := by rw [strOfNums_size]; rfl
                have hsum : (t' ++ strOfNums [33 + y]).size ≤ 8 * m + 3 + (j + 1) := by rw [ByteArray.size_append]; omega
                have curf2 := curf.alloc (.cells #[.int .u8 (33 + y)] 5)
                have gf2 := grown_trans gf (grown_any (World.grownBy_alloc wf (.cells #[.int .u8 (33 + y)] 5) none) (some g))
                have HF := Lib.hid (And.intro hsum (And.intro curf2 gf2))
                clear own hsum curf2 gf2 curf gf
                generalize strOfNums [33 + y] = sy at *
                go_wp2
                go_roundw
                case rel => exact ⟨j + 1, _, by omega, by go_num, rfl, HF.out.1, HF.out.2.1, HF.out.2.2⟩
                case measure => simp [intOf]; omega
              · go_wp2
                go_roundw
                case rel => exact ⟨m + 1, t', by omega, by go_num, rfl, by omega, cure, ge⟩
                case measure => simp [intOf]; omega
        · have m0 : (0 : Int) < (m : Int) := by omega
          go_wp2_with fail
          refine (d_below _ _ _ g len cap A cur (by omega)).mono ?_
          rintro e wa ⟨a, a0, a1, a2, rfl, cura, gra⟩
          have a3 := a1 (by omega)
          have ga := grown_trans hgr gra
          clear a1 a2
          go_wp2_with fail
          refine (d_below _ _ _ g len cap A cura (by omega)).mono ?_
          rintro e wb ⟨b, c0, c1, c2, rfl, curb, grb⟩
          have c3 := c1 (by omega)
          have gb := grown_trans ga grb
          clear c1 c2
          obtain ⟨q, hq, hq3⟩ : ∃ q : Nat, a * b = q ∧ q ≤ 2 := by
            have h1 : 0 ≤ a * b := Int.mul_nonneg a0 c0
            have h2 : a * b ≤ 1 * 2 := Int.mul_le_mul (by omega) (by omega) c0 (by omega)
            exact ⟨(a * b).toNat, by omega, by omega⟩
          go_wp2_with fail
          rw [show (1 + (q : Int)) = ((1 + q : Nat) : Int) by omega]
          refine (d_long (1 + q) 32 _ (by omega)).mono ?_
          rintro e wc ⟨sp, hsp, rfl, grc⟩
          have curc : Cur wc w.heap.size g A len cap := curb.grown_far grc (by simp) (fun _ h => by cases h)
          have gc := grown_trans gb (grown_any grc (some g))
          have hts : (t ++ sp).size ≤ 8 * m + 3 + 0 := by rw [ByteArray.size_append]; omega
          clear cura ga gra curb gb grb grc hq
          go_wp2
          go_loopw [5, 7] (fun v k wr => ∃ (j : Nat) (t' : ByteArray), j ≤ 5 ∧ k = .int .i64 j ∧ v = .string t' ∧ t'.size ≤ 8 * m + 3 + j ∧ Cur wr w.heap.size g A len cap ∧ w1.grownBy wr (some g)) (fun _ k _ => 6 - (intOf k).toNat)
          case atStart => exact ⟨0, _, by omega, rfl, rfl, hts, curc, gc⟩
          case round =>
            obtain ⟨j, t', hj, rfl, rfl, ht', cur', hgr'⟩ := hrel
            go_wp2_with fail
            refine (d_below _ _ _ g len cap A cur' (by omega)).mono ?_
            rintro e we ⟨x, x0, x1, x2, rfl, cure, gre⟩
            have x3 := x1 (by omega)
            have ge := grown_trans hgr' gre
            clear x1 x2 cur' hgr' gre
            by_cases hle : (j : Int) ≤ x
            · go_wp2_with fail
              refine (d_below _ _ _ g len cap A cure (by omega)).mono ?_
              rintro e wf ⟨y, y0, y1, y2, rfl, curf, grf⟩
              have y3 := y1 (by omega)
              have gf := grown_trans ge grf
              clear y1 y2 cure ge grf
              have own := one_own wf 5 (33 + y)
              have hv := conv_owned Tryd.underlying22 Tryd.underlying5 Tryd.underlying9 own
              have hs1' : (strOfNums [33 + y]).size = 1 := by rw [strOfNums_size]; rfl
              have hsum : (t' ++ strOfNums [33 + y]).size ≤ 8 * m + 3 + (j + 1) := by rw [ByteArray.size_append]; omega
              have curf2 := curf.alloc (.cells #[.int .u8 (33 + y)] 5)
              have gf2 := grown_trans gf (grown_any (World.grownBy_alloc wf (.cells #[.int .u8 (33 + y)] 5) none) (some g))
              have HF := Lib.hid (And.intro hsum (And.intro curf2 gf2))
              clear own hsum curf2 gf2 curf gf
              generalize strOfNums [33 + y] = sy at *
              go_wp2
              go_roundw
              case rel => exact ⟨j + 1, _, by omega, by go_num, rfl, HF.out.1, HF.out.2.1, HF.out.2.2⟩
              case measure => simp [intOf]; omega
            · go_wp2
              go_roundw
              case rel => exact ⟨m + 1, t', by omega, by go_num, rfl, by omega, cure, ge⟩
              case measure => simp [intOf]; omega
      · obtain rfl : m = N := by omega
        go_wp2_with fail
        refine (d_below _ _ _ g len cap A cur (by omega)).mono ?_
        rintro e wa ⟨y, y0, y1, y2, rfl, cura, gra⟩
        have y3 := y1 (by omega)
        have ga := grown_trans hgr gra
        clear y1 y2
        have hB := fun (wz : World) (h : w1.grownBy wz (some g)) => below_cur b1 (Nat.le_refl _) h hBg
        by_cases c0 : y = 0
        · subst c0
          have hgl := cura.lt
          go_wp2_with fail
          refine (d_pick _ w.heap.size g len cap wa.heap.size 6 6 A [⟨#[32]⟩, ⟨#[32, 32]⟩, ⟨#[9]⟩, ⟨#[10]⟩, ⟨#[127]⟩, ⟨#[233]⟩] (cura.alloc _) rfl (by omega) (by omega) (by omega) (fun x hx => by simp at hx; rcases hx with rfl | rfl | rfl | rfl | rfl | rfl <;> simp [ByteArray.size]) (by unfold StrBlock; rw [heap_alloc_new]; rfl)).mono ?_
          rintro e wb ⟨x, hx, rfl, curb, grb⟩
          have gb := grown_trans (grown_trans ga (grown_any (World.grownBy_alloc wa _ none) (some g))) grb
          have hsum : (t ++ x).size ≤ 3000 := by rw [ByteArray.size_append]; omega
          have HF := Lib.hid (And.intro hsum (hB _ gb))
          clear hsum gb grb ga hB
          go_wp2
          go_ret
          exact ⟨_, HF.out.1, rfl, HF.out.2⟩
        · by_cases c1 : y = 1
          · subst c1
            have hl6 : (t.size : Int) < 600 := by omega
            go_wp2_with fail
            refine (d_below _ _ _ g len cap A cura (by omega)).mono ?_
            rintro e wb ⟨z, z0, z1, z2, rfl, curb, grb⟩
            have z3 := z1 (by omega)
            have gb := grown_trans ga grb
            clear z1 z2
            obtain ⟨K, hK⟩ : ∃ K : Nat, 600 - (t.size : Int) + z = K := ⟨(600 - (t.size : Int) + z).toNat, by omega⟩
            have hK3 : K ≤ 601 := by omega
            go_wp2_with fail
            refine (d_long K 32 _ (by omega)).mono ?_
            rintro e wc ⟨sp, hsp, rfl, grc⟩
            have gc := grown_trans gb (grown_any grc (some g))
            have hsum : (t ++ sp).size ≤ 3000 := by rw [ByteArray.size_append]; omega
            have HF := Lib.hid (And.intro hsum (hB _ gc))
            clear hsum gb grb ga hB gc grc hK
            go_wp2
            go_ret
            exact ⟨_, HF.out.1, rfl, HF.out.2⟩
          · go_wp2
            go_ret
            exact ⟨t, by omega, rfl, hB _ ga⟩
end Go.Proofs.YtbjaedmifacgaaaDoor

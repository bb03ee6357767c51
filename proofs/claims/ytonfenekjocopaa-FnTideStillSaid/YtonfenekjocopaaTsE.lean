/- The walk of the law FnTideStill. -/
import Derived.Test.YtonfenekjocopaaTsA
import Derived.Test.YtonfenekjocopaaTsD
namespace Go.Proofs.Ytonfenekjocopaa
open Go.RowKit Ieee
set_option linter.unusedVariables false
set_option linter.unusedSimpArgs false
attribute [local go_sem] st_cplx

/-- A drawn list of legs, read; its block. -/
theorem legs_of2 {w : World} {B n : Nat} {v : Value} (h : OwnL w B v n) : ∃ (A : Option Addr) (g cap : Nat) (ls : Nat → Int × Nat × Int), v = .slice A n cap ∧ n ≤ cap ∧ (0 < n → A = some ⟨g, 0, none⟩) ∧ LegsIn w g 0 n ls ∧ (0 < n → B ≤ g ∧ ∃ cs, w.heap[g]? = some (.cells cs 45 (0, 0)) ∧ n * 3 ≤ cs.size) := by
  rcases Nat.eq_zero_or_pos n with rfl | hn
  · obtain ⟨A, g, cap, ls, h1, h2, _, h3, h4⟩ := legs_of h
    exact ⟨A, g, cap, ls, h1, h2, h3, h4, fun h => by omega⟩
  · obtain ⟨A, g, cap, ls, h1, h2, _, h3, h4⟩ := legs_of h
    obtain ⟨g', cap', cs, e, k1, k2, k3, k4, k5, k6⟩ := h.form hn
    rw [h1, h3 hn] at e
    simp only [Value.slice.injEq, Option.some.injEq, Addr.mk.injEq, and_true, true_and] at e
    obtain ⟨rfl, rfl⟩ := e
    exact ⟨A, g, cap, ls, h1, h2, h3, h4, fun _ => ⟨k3, cs, k4, by rw [k5]; omega⟩⟩
/-- The first legs of no seconds. -/
def lz (ls : Nat → Int × Nat × Int) (k : Nat) (j : Nat) : Int × Nat × Int := ((ls j).1, (ls j).2.1, if j < k then 0 else (ls j).2.2)
theorem lz_zero (ls : Nat → Int × Nat × Int) : lz ls 0 = ls := by funext j; simp [lz]
theorem lz_all {ls : Nat → Int × Nat × Int} {n j : Nat} (h : j < n) : (lz ls n j).2.2 = 0 := by simp [lz, h]
theorem lz_set {w : World} {g n k : Nat} {ls : Nat → Int × Nat × Int} (h : LegsIn w g 0 n (lz ls k)) (hk : k < n) : LegsIn (w.setCell ⟨g, k * 3 + 2, none⟩ (.int .i64 0)) g 0 n (lz ls (k + 1)) := fun j hj => by
  obtain ⟨a, b, c, d⟩ := h j hj
  obtain ⟨_, _, ck, _⟩ := h k hk
  have oth : ∀ m, m ≠ k * 3 + 2 → (w.setCell ⟨g, k * 3 + 2, none⟩ (.int .i64 0)).cell? ⟨g, m, none⟩ = w.cell? ⟨g, m, none⟩ := fun m hm =>
    World.cell?_setCell_other _ ⟨g, k * 3 + 2, none⟩ ⟨g, m, none⟩ _ (by simp [hm])
  refine ⟨(oth _ (by omega)).trans a, (oth _ (by omega)).trans b, ?_, d⟩
  by_cases e : j = k
  · subst e
    have : (lz ls (j + 1) j).2.2 = 0 := lz_all (Nat.lt_succ_self j)
    rw [this, Nat.zero_add]
    rw [Nat.zero_add] at ck
    exact World.cell?_setCell_same w ⟨g, j * 3 + 2, none⟩ (.int .i64 0) ck
  · have : (lz ls (k + 1) j).2.2 = (lz ls k j).2.2 := by
      show (if j < k + 1 then (0 : Int) else (ls j).2.2) = if j < k then 0 else (ls j).2.2
      by_cases h' : j < k
      · rw [if_pos h', if_pos (by omega)]
      · rw [if_neg h', if_neg (by omega)]
    rw [this]
    exact (oth _ (by omega)).trans c

/-- What stands while the seconds are struck. -/
def TzSt (w : World) (g n q : Nat) (ls : Nat → Int × Nat × Int) (T : Tid) (k : Nat) (wr : World) : Prop :=
  LegsIn wr g 0 n (lz ls k) ∧ (0 < n → w.heap.size ≤ g ∧ g < q ∧ ∃ cs, wr.heap[g]? = some (.cells cs 45 (0, 0)) ∧ n * 3 ≤ cs.size) ∧
  wr.heap[q]? = some (.cells #[.slice T.S T.ns T.cs, .slice T.H T.nh T.ch] 41 (0, 0)) ∧ Below w.heap.size w wr
theorem TzSt.cell {w : World} {g n q : Nat} {ls : Nat → Int × Nat × Int} {T : Tid} {k : Nat} {wr : World} (h : TzSt w g n q ls T k wr) (hk : k < n) : ∃ v, wr.cell? ⟨g, k * 3 + 2, none⟩ = some v ∧ wr.frozen? ⟨g, k * 3 + 2, none⟩ = false := by
  obtain ⟨_, _, cs, h1, h2⟩ := h.2.1 (by omega)
  exact cell_at h1 rfl (by omega)
theorem TzSt.set {w : World} {g n q : Nat} {ls : Nat → Int × Nat × Int} {T : Tid} {k : Nat} {wr : World} (h : TzSt w g n q ls T k wr) (hk : k < n) : TzSt w g n q ls T (k + 1) (wr.setCell ⟨g, k * 3 + 2, none⟩ (.int .i64 0)) := by
  obtain ⟨h1, h2, h3, h4⟩ := h
  obtain ⟨a, b, cs, c, d⟩ := h2 (by omega)
  exact ⟨lz_set h1 hk, fun _ => ⟨a, b, _, heap_set_self (k := k * 3 + 2) c (.int .i64 0), by simpa using d⟩, (Below.heap_setCell _ _ _ _ (show q ≠ g by omega)).trans h3, h4.setCell (p := ⟨g, k * 3 + 2, none⟩) a _⟩

set_option maxRecDepth 100000 in
set_option maxHeartbeats 4000000 in
theorem w_FnTideStill (a0 : Option Addr) (len cap : Nat) (zs : List Int) (w : World) (hr : IsRow .u8 w a0 len cap zs) :
    Calls Try.prog 5 #[.slice a0 len cap] w fun e w' => e = .returned (.bool true) ∧ Below w.heap.size w w' := by
  by_cases hbig : len ≤ 1048576
  · have hcode := code_of_row hr hbig
    go_enter Try.func5, Try.ntmps5
    go_wp2_with (go_at_call 9; go_in)
    go_wp2_with fail
    refine (d_runtide _ len cap a0 hcode).mono ?_
    rintro e w1 ⟨p, t, n, v, T, hp, hn, rfl, hown, b1⟩
    obtain ⟨A, g, c, ls, rfl, hc, hA, hls, hg⟩ := legs_of2 hown
    have hT0 : TzSt w g n w1.heap.size ls T 0 (w1.alloc (.cells #[.slice T.S T.ns T.cs, .slice T.H T.nh T.ch] 41)) := by
      refine ⟨?_, fun h => ?_, heap_alloc_new _ _, b1.alloc b1.size _⟩
      · rw [lz_zero]
        exact hls.below ((Below.refl _ w1).alloc (Nat.le_refl _) _) (Nat.le_refl _)
      · obtain ⟨h1, cs, h2, h3⟩ := hg h
        exact ⟨h1, block_lt h2, cs, (Below.heap_alloc w1 _ _ (block_lt h2)).trans h2, h3⟩
    have HT := Lib.hid hT0
    clear hT0 hg hown hls b1
    go_wp2_with fail
    generalize w1.alloc (.cells #[.slice T.S T.ns T.cs, .slice T.H T.nh T.ch] 41) = w2 at *
    generalize w1.heap.size = q at *
    go_loopw [7] (fun i wr => ∃ k : Nat, k ≤ n ∧ i = .int .i64 k ∧ TzSt w g n q ls T k wr) (fun i _ => n - (intOf i).toNat)
    case atStart => exact ⟨0, Nat.zero_le _, rfl, HT.out⟩
    case round =>
      clear HT
      obtain ⟨k, hk, rfl, hts⟩ := hrel
      by_cases hlt : k < n
      · obtain rfl := hA (by omega)
        obtain ⟨_, x9, f9⟩ := hts.cell hlt
        have HN := Lib.hid (hts.set hlt)
        clear hts
        go_wp2
        go_roundw
        case rel => exact ⟨k + 1, by omega, by go_num, HN.out⟩
        case measure => simp [intOf]; omega
      · obtain rfl : k = n := by omega
        obtain ⟨hls2, _, htd, hb⟩ := hts
        have k0 := cell_of_row _ _ 0 _ _ _ htd
        have k1 := cell_of_row _ _ 1 _ _ _ htd
        have hz0 : ∀ j, j < k → (lz ls k j).2.2 = 0 := fun j hj => lz_all hj
        have HB := Lib.hid hb
        have HLS := Lib.hid hls2
        have cvp := fun w => s_vecB p w hp
        generalize lz ls k = lx at *
        obtain ⟨r, hr, ct⟩ : ∃ r : Nat × Nat, (((vcB p && lsB k lx) = false → r = (0, 0)) ∧ ((vcB p && lsB k lx) = true → r = p)) ∧ Calls Try.prog 18 #[.complex .f64 p.1 p.2, .int .i64 t, .slice A k c, .agg #[.slice T.S T.ns T.cs, .slice T.H T.nh T.ch]] wr fun e w' =>
            e = .returned (.tuple #[.complex .f64 r.1 r.2, .bool (vcB p && lsB k lx)]) ∧ Below wr.heap.size wr w' := by
          cases hok : (vcB p && lsB k lx)
          · exact ⟨(0, 0), ⟨fun _ => rfl, fun h => (by cases h)⟩, i_tide_no lx A g 0 k c p t (.slice T.S T.ns T.cs) (.slice T.H T.nh T.ch) wr (by omega) hA hls2 hp hok⟩
          · refine ⟨p, ⟨fun h => (by cases h), fun _ => rfl⟩, ?_⟩
            simp only [Bool.and_eq_true] at hok
            exact i_tide_yes lx A g 0 k c p t (.slice T.S T.ns T.cs) (.slice T.H T.nh T.ch) wr (by omega) hA hls2 hp hok.1 hok.2 hz0
        have hls9 : lsB k lx = true ↔ LegsOk k lx := lsB_iff
        have hv9 : vcB p = true → okP p.1 ∧ okP p.2 := fun h => vcB_iff.1 h
        have HH := Lib.hid (And.intro hls9 (And.intro hv9 hr))
        clear hls9 hv9 hr hls2 hz0 htd hb hp
        generalize htv : vcB p = vv at *
        have HTV := Lib.hid htv
        clear htv
        generalize lsB k lx = tl at *
        obtain ⟨p1, p2⟩ := p
        obtain ⟨r1, r2⟩ := r
        dsimp only at *
        go_wp2_with fail
        refine ct.mono ?_
        rintro e w5 ⟨rfl, c5⟩
        have H5 := Lib.hid (And.intro (HB.out.trans (c5.mono HB.out.size)) (HLS.out.below c5 (Nat.le_refl _)))
        clear ct c5 HB HLS k0 k1
        have key : ∃ b0 : Bool, (b0 = true ↔ (k ≤ 50 ∧ vv = true)) ∧ ((k ≤ 50 ∧ vv = b0) ∨ (¬ k ≤ 50 ∧ false = b0)) := by
          by_cases h50 : k ≤ 50
          · exact ⟨vv, ⟨fun h => ⟨h50, h⟩, fun h => h.2⟩, .inl ⟨h50, rfl⟩⟩
          · exact ⟨false, ⟨fun h => (by cases h), fun h => absurd h.1 h50⟩, .inr ⟨h50, rfl⟩⟩
        obtain ⟨b0, hb0, hcase⟩ := key
        have HB0 := Lib.hid hb0
        clear hb0
        rcases hcase with ⟨h50, rfl⟩ | ⟨h50, rfl⟩
        all_goals
          have z50 : (k : Int) ≤ 50 ∨ ¬ (k : Int) ≤ 50 := by omega
          go_wp2_with (go_at_call 19; ((with_reducible refine (cvp _).mono ?_); rintro e w' ⟨rfl, rfl⟩))
          go_loopw [10, 11] (fun a i wr => ∃ (j : Nat) (b : Bool), j ≤ k ∧ i = .int .i64 j ∧ a = .bool b ∧ (b = true ↔ ((k ≤ 50 ∧ vv = true) ∧ ∀ m, m < j → lgB (lx m).2.1 (lx m).2.2 = true)) ∧ Below w.heap.size w wr ∧ LegsIn wr g 0 k lx) (fun _ i _ => k - (intOf i).toNat)
          case atStart => exact ⟨0, _, Nat.zero_le _, rfl, rfl, HB0.out.trans ⟨fun h => ⟨h, fun m hm => by omega⟩, fun h => h.1⟩, H5.out.1, H5.out.2⟩
          case round =>
            clear H5
            obtain ⟨j, b, hj, rfl, rfl, hbi, hbel, hlsr⟩ := hrel
            have HBI := Lib.hid hbi
            have HBel := Lib.hid (And.intro hbel hlsr)
            clear hbi
            by_cases hlt : j < k
            · obtain rfl := hA (by omega)
              cases b
              · have HN := Lib.hid (show (false = true ↔ ((k ≤ 50 ∧ vv = true) ∧ ∀ m, m < j + 1 → lgB (lx m).2.1 (lx m).2.2 = true)) from ⟨fun h => (by cases h), fun h => HBI.out.2 ⟨h.1, fun m hm => h.2 m (by omega)⟩⟩)
                clear hbel hlsr
                go_wp2_with fail
                go_roundw
                case rel => exact ⟨j + 1, false, by omega, by go_num, rfl, HN.out, HBel.out.1, HBel.out.2⟩
                case measure => simp [intOf]; omega
              · obtain ⟨c0, c1, c2, hs⟩ := hlsr j hlt
                rw [Nat.zero_add] at c0 c1 c2
                have cl := fun w => s_legOk (lx j).1 (lx j).2.1 (lx j).2.2 w hs
                have HN := Lib.hid (show (lgB (lx j).2.1 (lx j).2.2 = true ↔ ((k ≤ 50 ∧ vv = true) ∧ ∀ m, m < j + 1 → lgB (lx m).2.1 (lx m).2.2 = true)) from ⟨fun h => ⟨(HBI.out.1 rfl).1, fun m hm => by
                  rcases Nat.lt_or_ge m j with h' | h'
                  · exact (HBI.out.1 rfl).2 m h'
                  · obtain rfl : m = j := by omega
                    exact h⟩, fun h => h.2 j (by omega)⟩)
                have hsz := hbel.size
                clear hbel hlsr hs
                generalize lgB (lx j).2.1 (lx j).2.2 = tt at *
                generalize (lx j).1 = hd at *
                generalize (lx j).2.1 = s at *
                generalize (lx j).2.2 = m at *
                go_wp2_with fail
                refine (cl _).mono ?_
                rintro e w6 ⟨rfl, c6⟩
                have H6 := Lib.hid (And.intro (HBel.out.1.trans (c6.mono hsz)) (HBel.out.2.below c6 (Nat.le_refl _)))
                clear c6 cl
                go_wp2_with fail
                go_roundw
                case rel => exact ⟨j + 1, tt, by omega, by go_num, rfl, HN.out, H6.out.1, H6.out.2⟩
                case measure => simp [intOf]; omega
            · obtain rfl : j = k := by omega
              have hbt : b = (vv && tl) := by
                obtain ⟨q1, q2, q3⟩ := HH.out
                rw [Bool.eq_iff_iff, HBI.out, Bool.and_eq_true, q1]
                exact ⟨fun h => ⟨h.1.2, h.1.1, h.2⟩, fun h => ⟨⟨h.2.1, h.1⟩, h.2.2⟩⟩
              subst hbt
              obtain ⟨q1, q2, q3, q4⟩ := HH.out
              clear q1
              cases hok : (vv && tl)
              · have h9 := q3 hok
                simp only [Prod.mk.injEq] at h9
                obtain ⟨rfl, rfl⟩ := h9
                clear q2 q3 q4 hbel hlsr
                go_wp2_with fail
                go_ret
                exact ⟨rfl, HBel.out.1⟩
              · have h9 := q4 hok
                simp only [Prod.mk.injEq] at h9
                obtain ⟨rfl, rfl⟩ := h9
                have hnn : okP r1 ∧ okP r2 := q2 (by simp only [Bool.and_eq_true] at hok; exact hok.1)
                have ce := fun w => l_same r1 r2 w hnn.1.1 hnn.2.1
                clear q2 q3 q4 hbel hlsr hnn
                go_wp2_with (go_at_call 13; ((with_reducible refine (ce _).mono ?_); rintro e w' ⟨rfl, rfl⟩))
                go_ret
                exact ⟨rfl, HBel.out.1⟩
  · go_enter Try.func5, Try.ntmps5
    go_wp2
    go_ret
    exact ⟨rfl, Below.refl _ _⟩
end Go.Proofs.Ytonfenekjocopaa

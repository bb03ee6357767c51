/- HeightAt: its mathematics, and the walks of impl.HeightAt and spec.HeightAt. -/
import Derived.Test.YtbklmfchbojboaaDoorClamp
import Derived.Test.YtbklmfchbojboaaDoorDr2
import Derived.Lib.LaidTab
import Derived.Deep.WholeRow
import Derived.BigQuiet
namespace Go.Proofs.YtbklmfchbojboaaDoor
open Go.RowKit
set_option linter.unusedVariables false
set_option linter.unusedSimpArgs false

/-- The twelfths of an hour. -/
def prt (k : Nat) : Int := ([1, 2, 3, 3, 2, 1] : List Int).getD k 0
/-- The minutes of hour k that are over. -/
def mnt (m : Int) (k : Nat) : Int := clampOf (m - 60 * k) 0 60
/-- What is over after k hours were looked at. -/
def ovr (m : Int) : Nat → Int
  | 0 => 0
  | k + 1 => ovr m k + prt k * mnt m k
theorem prt_le (k : Nat) : 0 ≤ prt k ∧ prt k ≤ 3 := by
  match k with
  | 0 => exact ⟨by decide, by decide⟩
  | 1 => exact ⟨by decide, by decide⟩
  | 2 => exact ⟨by decide, by decide⟩
  | 3 => exact ⟨by decide, by decide⟩
  | 4 => exact ⟨by decide, by decide⟩
  | 5 => exact ⟨by decide, by decide⟩
  | k + 6 => simp [prt]
theorem mnt_le (m : Int) (k : Nat) : 0 ≤ mnt m k ∧ mnt m k ≤ 60 := by
  unfold mnt clampOf
  split
  · omega
  · split <;> omega
theorem pm_le (m : Int) (k : Nat) : 0 ≤ prt k * mnt m k ∧ prt k * mnt m k ≤ 180 := by
  have h1 := prt_le k
  have h2 := mnt_le m k
  exact ⟨Int.mul_nonneg h1.1 h2.1, by have := Int.mul_le_mul h1.2 h2.2 h2.1 (by omega); omega⟩
theorem ovr_le (m : Int) (k : Nat) : 0 ≤ ovr m k ∧ ovr m k ≤ 180 * k := by
  induction k with
  | zero => exact ⟨Int.le_refl _, Int.le_refl _⟩
  | succ k ih =>
    have h := pm_le m k
    rw [ovr.eq_def]
    simp only
    omega
theorem ovr_all (m : Int) : ovr m 6 = mnt m 0 + 2 * mnt m 1 + 3 * mnt m 2 + 3 * mnt m 3 + 2 * mnt m 4 + mnt m 5 := by
  simp only [ovr, prt, List.getD_cons_zero, List.getD_cons_succ]
  omega
theorem ovr_six (m : Int) : 0 ≤ ovr m 6 ∧ ovr m 6 ≤ 720 := by
  have h0 := mnt_le m 0
  have h1 := mnt_le m 1
  have h2 := mnt_le m 2
  have h3 := mnt_le m 3
  have h4 := mnt_le m 4
  have h5 := mnt_le m 5
  rw [ovr_all]
  omega
/-- What a height has changed by. -/
def fell (high low m : Int) : Int := ((high - low) * ovr m 6).tdiv 720
def hgt (high low m : Int) : Int := high - fell high low m
/-- What is asked of the arguments. -/
def InF (n : Int) : Prop := -1000000000 ≤ n ∧ n ≤ 1000000000
def HtOk (high low m : Int) : Prop := InF high ∧ InF low ∧ 0 ≤ m ∧ m ≤ 360
theorem mul_bound {d o : Int} (h0 : -2000000000 ≤ d) (h1 : d ≤ 2000000000) (o0 : 0 ≤ o) (o1 : o ≤ 720) : -1440000000000 ≤ d * o ∧ d * o ≤ 1440000000000 := by
  rcases Int.le_total 0 d with h | h
  · have a := Int.mul_nonneg h o0
    have b := Int.mul_le_mul h1 o1 o0 (by omega)
    omega
  · have a := Int.mul_nonneg (show 0 ≤ -d by omega) o0
    have b := Int.mul_le_mul (show -d ≤ 2000000000 by omega) o1 o0 (by omega)
    rw [Int.neg_mul] at a b
    omega
theorem tdiv_bound {n : Int} (h0 : -1440000000000 ≤ n) (h1 : n ≤ 1440000000000) : -2000000000 ≤ n.tdiv 720 ∧ n.tdiv 720 ≤ 2000000000 := by
  rcases Int.le_total 0 n with h | h
  · rw [Int.tdiv_eq_ediv_of_nonneg h]; omega
  · obtain ⟨k, rfl⟩ : ∃ k, n = -k := ⟨-n, by omega⟩
    rw [Int.neg_tdiv, Int.tdiv_eq_ediv_of_nonneg (by omega)]; omega

set_option maxHeartbeats 400000 in
theorem i_fixedOk (n : Int) (t : Bool) (ht : t = true ↔ InF n) (w : World) :
    Calls Tryd.prog 13 #[.int .i64 n] w fun e w' => e = .returned (.bool t) ∧ w = w' := by
  have HT := Lib.hid ht
  clear ht
  by_cases h1 : -1000000000 ≤ n
  · by_cases h2 : n ≤ 1000000000
    · obtain rfl : t = true := HT.out.2 ⟨h1, h2⟩
      go_enter Tryd.func13, Tryd.ntmps13
      go_wp2
      go_ret
      exact ⟨rfl, rfl⟩
    · obtain rfl : t = false := by cases t; rfl; exact absurd (HT.out.1 rfl).2 h2
      go_enter Tryd.func13, Tryd.ntmps13
      go_wp2
      go_ret
      exact ⟨rfl, rfl⟩
  · obtain rfl : t = false := by cases t; rfl; exact absurd (HT.out.1 rfl).1 h1
    go_enter Tryd.func13, Tryd.ntmps13
    go_wp2
    go_ret
    exact ⟨rfl, rfl⟩
set_option maxHeartbeats 400000 in
theorem s_in (n a b : Int) (t : Bool) (ht : t = true ↔ a ≤ n ∧ n ≤ b) (w : World) :
    Calls Tryd.prog 15 #[.int .i64 n, .int .i64 a, .int .i64 b] w fun e w' => e = .returned (.bool t) ∧ w = w' := by
  have HT := Lib.hid ht
  clear ht
  by_cases h1 : a ≤ n
  · by_cases h2 : n ≤ b
    · obtain rfl : t = true := HT.out.2 ⟨h1, h2⟩
      go_enter Tryd.func15, Tryd.ntmps15
      go_wp2
      go_ret
      exact ⟨rfl, rfl⟩
    · obtain rfl : t = false := by cases t; rfl; exact absurd (HT.out.1 rfl).2 h2
      go_enter Tryd.func15, Tryd.ntmps15
      go_wp2
      go_ret
      exact ⟨rfl, rfl⟩
  · obtain rfl : t = false := by cases t; rfl; exact absurd (HT.out.1 rfl).1 h1
    go_enter Tryd.func15, Tryd.ntmps15
    go_wp2
    go_ret
    exact ⟨rfl, rfl⟩

/-- The table of twelfths. -/
abbrev TabT (w : World) : Prop := Lib.TabIs Tryd.prog w "loop.example/g03321/impl.twelfths" .i64 [1, 2, 3, 3, 2, 1]
def tabV : Array Value := #[.int .i64 1, .int .i64 2, .int .i64 3, .int .i64 3, .int .i64 2, .int .i64 1]
theorem var_keep {P : Program} {w w' : World} {n : String} {cs : Array Value} (h : w.var? P n = some cs) (hb : Below w.heap.size w w') : w'.var? P n = some cs := by
  unfold World.var? at *
  cases e : P.globalNamed n with
  | none => rw [e] at h; cases h
  | some g =>
    rw [e] at h
    simp only [Option.bind_some] at h ⊢
    have hg : g < w.heap.size := by
      rcases Nat.lt_or_ge g w.heap.size with hlt | hge
      · exact hlt
      · rw [Array.getElem?_eq_none hge] at h; cases h
    rw [hb.block g hg]; exact h
theorem TabT.below {w w' : World} (h : TabT w) (hb : Below w.heap.size w w') : TabT w' := var_keep h hb
theorem TabT.at {w : World} (h : TabT w) (k : Nat) (hk : k < 6) : w.cell? ⟨0, k, none⟩ = some (.int .i64 (prt k)) :=
  Lib.TabIs.cell h (by kernel_rfl) k hk
theorem Tryd.infoI1 : (Tryd.prog.info? 3).map (·.size) = some 1 := by kernel_rfl
theorem run_index6 (w : World) (k : Nat) (hk : k < 6) : (Instr.index 35 (.agg #[.int .i64 1, .int .i64 2, .int .i64 3, .int .i64 3, .int .i64 2, .int .i64 1]) (.int .i64 k)).run Tryd.prog w = .ok (.int .i64 (prt k)) w := by
  have hsz : (sizeOf 3).run Tryd.prog w = .ok 1 w := by
    have h := Tryd.infoI1
    cases hq : Tryd.prog.info? 3 with
    | none => rw [hq] at h; cases h
    | some i =>
      rw [hq] at h
      have hs : i.size = 1 := by simpa using h
      simp [sizeOf, typeInfo, hq, hs]
  have hv : tabV[k]? = some (.int .i64 (prt k)) := by
    match k, hk with
    | 0, _ => rfl
    | 1, _ => rfl
    | 2, _ => rfl
    | 3, _ => rfl
    | 4, _ => rfl
    | 5, _ => rfl
  rw [show (#[.int .i64 1, .int .i64 2, .int .i64 3, .int .i64 3, .int .i64 2, .int .i64 1] : Array Value) = tabV from rfl]
  simp [Instr.index, asIntOf, run_underlying Tryd.underlying35, hk, hsz, part, hv]

set_option maxHeartbeats 1000000 in
theorem i_ht_no (high low m : Int) (w : World) (hn : ¬ HtOk high low m) :
    Calls Tryd.prog 7 #[.int .i64 high, .int .i64 low, .int .i64 m] w fun e w' => e = .returned (.tuple #[.int .i64 0, .bool false]) ∧ w = w' := by
  have HN := Lib.hid hn
  clear hn
  by_cases h1 : InF high
  · have f1 := i_fixedOk high true (by simp [h1])
    by_cases h2 : InF low
    · have f2 := i_fixedOk low true (by simp [h2])
      by_cases h3 : m < 0
      · go_enter Tryd.func7, Tryd.ntmps7
        go_wp2_with (go_at_call 13; (first | ((with_reducible refine (f1 _).mono ?_); rintro e w' ⟨rfl, rfl⟩) | ((with_reducible refine (f2 _).mono ?_); rintro e w' ⟨rfl, rfl⟩)))
        go_ret2
        exact ⟨rfl, rfl⟩
      · have h4 : m > 360 := by
          rcases Int.lt_or_le 360 m with h | h
          · exact h
          · exact absurd ⟨h1, h2, by omega, h⟩ HN.out
        go_enter Tryd.func7, Tryd.ntmps7
        go_wp2_with (go_at_call 13; (first | ((with_reducible refine (f1 _).mono ?_); rintro e w' ⟨rfl, rfl⟩) | ((with_reducible refine (f2 _).mono ?_); rintro e w' ⟨rfl, rfl⟩)))
        go_ret2
        exact ⟨rfl, rfl⟩
    · have f2 := i_fixedOk low false (by simp [h2])
      go_enter Tryd.func7, Tryd.ntmps7
      go_wp2_with (go_at_call 13; (first | ((with_reducible refine (f1 _).mono ?_); rintro e w' ⟨rfl, rfl⟩) | ((with_reducible refine (f2 _).mono ?_); rintro e w' ⟨rfl, rfl⟩)))
      go_ret2
      exact ⟨rfl, rfl⟩
  · have f1 := i_fixedOk high false (by simp [h1])
    go_enter Tryd.func7, Tryd.ntmps7
    go_wp2_with (go_at_call 13; ((with_reducible refine (f1 _).mono ?_); rintro e w' ⟨rfl, rfl⟩))
    go_ret2
    exact ⟨rfl, rfl⟩

set_option maxRecDepth 100000 in
set_option maxHeartbeats 2000000 in
theorem i_ht (high low m : Int) (w : World) (h : HtOk high low m) (ht : TabT w) :
    Calls Tryd.prog 7 #[.int .i64 high, .int .i64 low, .int .i64 m] w fun e w' => e = .returned (.tuple #[.int .i64 (hgt high low m), .bool true]) ∧ w = w' := by
  obtain ⟨⟨a0, a1⟩, ⟨b0, b1⟩, m0, m1⟩ := id h
  have f1 := i_fixedOk high true (by simp [h.1])
  have f2 := i_fixedOk low true (by simp [h.2.1])
  have c0 : w.cell? ⟨0, 0, none⟩ = some (.int .i64 1) := ht.at 0 (by decide)
  have c1 : w.cell? ⟨0, 1, none⟩ = some (.int .i64 2) := ht.at 1 (by decide)
  have c2 : w.cell? ⟨0, 2, none⟩ = some (.int .i64 3) := ht.at 2 (by decide)
  have c3 : w.cell? ⟨0, 3, none⟩ = some (.int .i64 3) := ht.at 3 (by decide)
  have c4 : w.cell? ⟨0, 4, none⟩ = some (.int .i64 2) := ht.at 4 (by decide)
  have c5 : w.cell? ⟨0, 5, none⟩ = some (.int .i64 1) := ht.at 5 (by decide)
  have n0 : ¬ m < 0 := by omega
  have n1 : ¬ m > 360 := by omega
  have HM := Lib.hid (show 0 ≤ m ∧ m ≤ 360 from ⟨m0, m1⟩)
  clear h ht
  go_enter Tryd.func7, Tryd.ntmps7
  go_wp2_with (go_at_call 13; (first | ((with_reducible refine (f1 _).mono ?_); rintro e w' ⟨rfl, rfl⟩) | ((with_reducible refine (f2 _).mono ?_); rintro e w' ⟨rfl, rfl⟩)))
  go_loop [8, 9, 10, 28] (fun ov hr pt i => ∃ k : Nat, k ≤ 6 ∧ i = .int .i64 k ∧ ov = .int .i64 (ovr m k)) (fun _ _ _ i => 6 - (intOf i).toNat)
  case atStart => exact ⟨0, by omega, rfl, rfl⟩
  case round =>
    obtain ⟨k, hk, rfl, rfl⟩ := hrel
    by_cases hlt : k < 6
    · have hix := fun w => run_index6 w k hlt
      have k1 : (k : Int) < 6 := by omega
      have k2 : (60 : Int) * (k : Int) ≤ 360 := by omega
      have k3 : (0 : Int) ≤ 60 * (k : Int) := by omega
      have hc : ∀ w, Calls Tryd.prog 14 #[.int .i64 (m - 60 * (k : Int)), .int .i64 0, .int .i64 60] w fun e w' => e = .returned (.int .i64 (mnt m k)) ∧ w = w' := fun w => i_clamp _ _ _ w
      obtain ⟨p0, p1⟩ := pm_le m k
      obtain ⟨o0, o1⟩ := ovr_le m k
      have HS := Lib.hid (show ovr m (k + 1) = ovr m k + prt k * mnt m k from rfl)
      have o2 : ovr m k ≤ 1080 := by omega
      generalize ovr m k = o at *
      generalize hpc : prt k * mnt m k = z at *
      generalize prt k = x at *
      generalize mnt m k = y at *
      go_wp2_with (go_at_call 14; ((with_reducible refine (hc _).mono ?_); rintro e w' ⟨rfl, rfl⟩))
      go_round
      case rel => exact ⟨k + 1, by omega, by go_num, by rw [HS.out]⟩
      case measure => simp [intOf]; omega
    · obtain rfl : k = 6 := by omega
      obtain ⟨o0, o1⟩ := ovr_six m
      obtain ⟨q0, q1⟩ := mul_bound (d := high - low) (by omega) (by omega) o0 o1
      obtain ⟨t0, t1⟩ := tdiv_bound q0 q1
      have HE := Lib.hid (show hgt high low m = high - ((high - low) * ovr m 6).tdiv 720 from rfl)
      generalize ovr m 6 = o at *
      go_wp2
      go_ret2
      rw [HE.out]
      exact ⟨rfl, rfl⟩

set_option maxHeartbeats 1000000 in
theorem s_ht_no (high low m : Int) (w : World) (hn : ¬ HtOk high low m) :
    Calls Tryd.prog 8 #[.int .i64 high, .int .i64 low, .int .i64 m] w fun e w' => e = .returned (.tuple #[.int .i64 0, .bool false]) ∧ w = w' := by
  have HN := Lib.hid hn
  clear hn
  by_cases h1 : InF high
  · have f1 := s_in high (-1000000000) 1000000000 true (by simpa [InF] using h1)
    by_cases h2 : InF low
    · have f2 := s_in low (-1000000000) 1000000000 true (by simpa [InF] using h2)
      have f3 := s_in m 0 360 false (by
        have := HN.out
        simp only [Bool.false_eq_true, false_iff]
        exact fun h => this ⟨h1, h2, h⟩)
      go_enter Tryd.func8, Tryd.ntmps8
      go_wp2_with (go_at_call 15; (first | ((with_reducible refine (f1 _).mono ?_); rintro e w' ⟨rfl, rfl⟩) | ((with_reducible refine (f2 _).mono ?_); rintro e w' ⟨rfl, rfl⟩) | ((with_reducible refine (f3 _).mono ?_); rintro e w' ⟨rfl, rfl⟩)))
      go_ret2
      exact ⟨rfl, rfl⟩
    · have f2 := s_in low (-1000000000) 1000000000 false (by simpa [InF] using h2)
      have f3 := f2
      go_enter Tryd.func8, Tryd.ntmps8
      go_wp2_with (go_at_call 15; (first | ((with_reducible refine (f1 _).mono ?_); rintro e w' ⟨rfl, rfl⟩) | ((with_reducible refine (f2 _).mono ?_); rintro e w' ⟨rfl, rfl⟩) | ((with_reducible refine (f3 _).mono ?_); rintro e w' ⟨rfl, rfl⟩)))
      go_ret2
      exact ⟨rfl, rfl⟩
  · have f1 := s_in high (-1000000000) 1000000000 false (by simpa [InF] using h1)
    have f2 := f1
    have f3 := f1
    go_enter Tryd.func8, Tryd.ntmps8
    go_wp2_with (go_at_call 15; (first | ((with_reducible refine (f1 _).mono ?_); rintro e w' ⟨rfl, rfl⟩) | ((with_reducible refine (f2 _).mono ?_); rintro e w' ⟨rfl, rfl⟩) | ((with_reducible refine (f3 _).mono ?_); rintro e w' ⟨rfl, rfl⟩)))
    go_ret2
    exact ⟨rfl, rfl⟩

theorem below_drew {B : Nat} {a w : World} (h : Below B a w) (n : Nat) : Below B a (w.drewN n) := ⟨h.os, h.tape, h.output, h.size, h.block⟩
set_option maxRecDepth 100000 in
set_option maxHeartbeats 2000000 in
theorem s_ht (high low m : Int) (w : World) (h : HtOk high low m) :
    Calls Tryd.prog 8 #[.int .i64 high, .int .i64 low, .int .i64 m] w fun e w' => e = .returned (.tuple #[.int .i64 (hgt high low m), .bool true]) ∧ Below w.heap.size w w' := by
  obtain ⟨⟨a0, a1⟩, ⟨b0, b1⟩, m0, m1⟩ := id h
  have f1 := s_in high (-1000000000) 1000000000 true (by simpa [InF] using h.1)
  have f2 := s_in low (-1000000000) 1000000000 true (by simpa [InF] using h.2.1)
  have f3 := s_in m 0 360 true (by simpa using h.2.2)
  clear h
  go_enter Tryd.func8, Tryd.ntmps8
  go_wp2_with (go_at_call 15; (first | ((with_reducible refine (f1 _).mono ?_); rintro e w' ⟨rfl, rfl⟩) | ((with_reducible refine (f2 _).mono ?_); rintro e w' ⟨rfl, rfl⟩) | ((with_reducible refine (f3 _).mono ?_); rintro e w' ⟨rfl, rfl⟩)))
  go_loopw [9, 10] (fun n i wr => ∃ k : Nat, k ≤ 6 ∧ i = .int .i64 k ∧ n = .int .i64 (ovr m k) ∧ Below w.heap.size w wr ∧ ∀ j, j < 6 → wr.cell? ⟨w.heap.size, j, none⟩ = some (.int .i64 (prt j))) (fun _ i _ => 6 - (intOf i).toNat)
  case atStart =>
    refine ⟨0, by omega, rfl, rfl, (Below.refl w.heap.size w).alloc (Nat.le_refl _) _, fun j hj => ?_⟩
    rw [cell_of_row _ _ j _ _ _ (heap_alloc_new w _)]
    match j, hj with
    | 0, _ => rfl
    | 1, _ => rfl
    | 2, _ => rfl
    | 3, _ => rfl
    | 4, _ => rfl
    | 5, _ => rfl
  case round =>
    obtain ⟨k, hk, rfl, rfl, hB, hcs⟩ := hrel
    have HB := Lib.hid (And.intro hB hcs)
    clear hB hcs
    by_cases hlt : k < 6
    · have hcell : wr.cell? ⟨w.heap.size, k, none⟩ = some (.int .i64 (prt k)) := HB.out.2 k hlt
      have k1 : (k : Int) < 6 := by omega
      have k2 : (60 : Int) * (k : Int) ≤ 360 := by omega
      have k3 : (0 : Int) ≤ 60 * (k : Int) := by omega
      have hc : ∀ w, Calls Tryd.prog 16 #[.int .i64 (m - 60 * (k : Int)), .int .i64 0, .int .i64 60] w fun e w' => e = .returned (.int .i64 (mnt m k)) ∧ w = w' := fun w => s_clamp _ _ _ w
      obtain ⟨p0, p1⟩ := pm_le m k
      obtain ⟨o0, o1⟩ := ovr_le m k
      have HS := Lib.hid (show ovr m (k + 1) = ovr m k + prt k * mnt m k from rfl)
      have o2 : ovr m k ≤ 1080 := by omega
      generalize ovr m k = o at *
      generalize hpc : prt k * mnt m k = z at *
      generalize prt k = x at *
      generalize mnt m k = y at *
      go_wp2
      go_quiet ((go_at_call 16; exact Calls.quiet_of_same ((hc _).mono fun _ _ h => ⟨h.1, h.2.symm⟩)))
      go_wp2
      go_roundw
      case rel => exact ⟨k + 1, by omega, by go_num, by rw [HS.out], below_drew HB.out.1 _, HB.out.2⟩
      case measure => simp [intOf]; omega
    · obtain rfl : k = 6 := by omega
      obtain ⟨o0, o1⟩ := ovr_six m
      obtain ⟨q0, q1⟩ := mul_bound (d := high - low) (by omega) (by omega) o0 o1
      obtain ⟨t0, t1⟩ := tdiv_bound q0 q1
      have HE := Lib.hid (show hgt high low m = high - ((high - low) * ovr m 6).tdiv 720 from rfl)
      generalize ovr m 6 = o at *
      go_wp2
      go_ret2
      rw [HE.out]
      exact ⟨rfl, HB.out.1⟩
end Go.Proofs.YtbklmfchbojboaaDoor

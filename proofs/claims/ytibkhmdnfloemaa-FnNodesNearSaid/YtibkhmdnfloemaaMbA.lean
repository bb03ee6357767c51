/- Fields (impl): gridOk, nodes, has, row, column, place, winds that are not valid, FieldOk. -/
import Derived.Test.YtibkhmdnfloemaaMaB
import Derived.Test.YtibkhmdnfloemaaMaG
import Derived.Test.YtibkhmdnfloemaaWk
namespace Go.Proofs.Ytibkhmdnfloemaa
open Go.RowKit
set_option linter.unusedVariables false
set_option linter.unusedSimpArgs false

theorem FdQ.belowQ {w w1 : World} {F : Fd} {q : Nat} {ty : TypeId} (h : FdQ w F q ty w1) : Below w.heap.size w w1 := h.1.2
theorem i_grid12 (n : Int) (t : Bool) (w : World) (ht : t = decide (2 ≤ n ∧ n ≤ 12)) :
    Calls Try.prog 34 #[.int .i64 n] w fun e w' => e = .returned (.bool t) ∧ w' = w := by
  by_cases h1 : 2 ≤ n
  · by_cases h2 : n ≤ 12
    · rw [ht, decide_eq_true (And.intro h1 h2)]
      go_enter Try.func34, Try.ntmps34
      go_wp2
      go_ret
      exact ⟨rfl, rfl⟩
    · rw [ht, decide_eq_false (fun h => h2 h.2)]
      go_enter Try.func34, Try.ntmps34
      go_wp2
      go_ret
      exact ⟨rfl, rfl⟩
  · rw [ht, decide_eq_false (fun h => h1 h.1)]
    go_enter Try.func34, Try.ntmps34
    go_wp2
    go_ret
    exact ⟨rfl, rfl⟩
theorem i_time12 (n : Int) (t : Bool) (w : World) (ht : t = decide (0 ≤ n ∧ n ≤ 10000000)) :
    Calls Try.prog 18 #[.int .i64 n] w fun e w' => e = .returned (.bool t) ∧ w' = w := by
  by_cases h1 : 0 ≤ n
  · by_cases h2 : n ≤ 10000000
    · rw [ht, decide_eq_true (And.intro h1 h2)]
      go_enter Try.func18, Try.ntmps18
      go_wp2
      go_ret
      exact ⟨rfl, rfl⟩
    · rw [ht, decide_eq_false (fun h => h2 h.2)]
      go_enter Try.func18, Try.ntmps18
      go_wp2
      go_ret
      exact ⟨rfl, rfl⟩
  · rw [ht, decide_eq_false (fun h => h1 h.1)]
    go_enter Try.func18, Try.ntmps18
    go_wp2
    go_ret
    exact ⟨rfl, rfl⟩
theorem i_nodes (F : Fd) (P : Nat) (w : World) (hP : F.wd * F.hi = (P : Int)) (hP2 : P ≤ 144) (h : FdIn w F) :
    Calls Try.prog 24 #[.agg #[.int .i64 F.wd, .int .i64 F.hi, .int .i64 F.me, .slice F.A F.n F.cap]] w fun e w' => e = .returned (.int .i64 P) ∧ Below w.heap.size w w' := by
  have hs := Lib.hid (FdQ.new h (Below.refl _ _) 26)
  obtain ⟨k0, k1, k2, k3⟩ := cells4f hs.out.2
  have E := Lib.hid (show wrap64 (F.wd * F.hi) = (P : Int) by rw [hP]; unfold wrap64; omega)
  clear h hP hP2
  go_enter Try.func24, Try.ntmps24
  go_wp2
  rw [E.out]
  go_ret
  exact ⟨rfl, hs.out.1.2⟩
set_option maxHeartbeats 1000000 in
theorem i_has (F : Fd) (P : Nat) (n : Int) (t : Bool) (w : World) (hP : F.wd * F.hi = (P : Int)) (hP2 : P ≤ 144) (h : FdIn w F) (ht : t = decide (0 ≤ n ∧ n < P)) :
    Calls Try.prog 16 #[.agg #[.int .i64 F.wd, .int .i64 F.hi, .int .i64 F.me, .slice F.A F.n F.cap], .int .i64 n] w fun e w' => e = .returned (.bool t) ∧ Below w.heap.size w w' := by
  have hs := Lib.hid (FdQ.new h (Below.refl _ _) 26)
  obtain ⟨k0, k1, k2, k3⟩ := cells4f hs.out.2
  have HN := Lib.hid (fun w h => i_nodes F P w hP hP2 h)
  clear h hP hP2
  by_cases h1 : 0 ≤ n
  · by_cases h2 : n < P
    · rw [ht, decide_eq_true (And.intro h1 h2)]
      clear ht
      go_enter Try.func16, Try.ntmps16
      go_wp2_with fail
      refine (HN.out _ hs.out.1.1).mono ?_
      rintro e w1 ⟨rfl, b⟩
      have H1 := Lib.hid (hs.out.step b)
      clear hs b k0 k1 k2 k3
      go_wp2
      go_ret
      exact ⟨rfl, H1.out.1.2⟩
    · rw [ht, decide_eq_false (fun h => h2 h.2)]
      clear ht
      go_enter Try.func16, Try.ntmps16
      go_wp2_with fail
      refine (HN.out _ hs.out.1.1).mono ?_
      rintro e w1 ⟨rfl, b⟩
      have H1 := Lib.hid (hs.out.step b)
      clear hs b k0 k1 k2 k3
      go_wp2
      go_ret
      exact ⟨by rw [decide_eq_false (Int.not_lt.2 h2)]; rfl, H1.out.1.2⟩
  · rw [ht, decide_eq_false (fun h => h1 h.1)]
    clear ht
    go_enter Try.func16, Try.ntmps16
    go_wp2
    go_ret
    exact ⟨rfl, hs.out.1.2⟩
theorem i_row12 (F : Fd) (a n : Nat) (w : World) (ha : F.wd = a) (h1 : 2 ≤ a) (hn : n ≤ 144) (h : FdIn w F) :
    Calls Try.prog 38 #[.agg #[.int .i64 F.wd, .int .i64 F.hi, .int .i64 F.me, .slice F.A F.n F.cap], .int .i64 n] w fun e w' => e = .returned (.int .i64 ((n / a : Nat) : Int)) ∧ Below w.heap.size w w' := by
  have hs := Lib.hid (FdQ.new h (Below.refl _ _) 26)
  obtain ⟨k0, k1, k2, k3⟩ := cells4f hs.out.2
  have E := Lib.hid (show wrap64 ((n : Int) / F.wd) = ((n / a : Nat) : Int) by
    rw [ha, show (n : Int) / (a : Int) = ((n / a : Nat) : Int) from rfl]
    have := Nat.div_le_self n a
    generalize n / a = q at *
    unfold wrap64; omega)
  have a0 : ¬ F.wd = 0 := by omega
  clear h ha
  go_enter Try.func38, Try.ntmps38
  go_wp2
  rw [E.out]
  go_ret
  exact ⟨rfl, hs.out.1.2⟩
theorem i_col12 (F : Fd) (a n : Nat) (w : World) (ha : F.wd = a) (h1 : 2 ≤ a) (hn : n ≤ 144) (h : FdIn w F) :
    Calls Try.prog 39 #[.agg #[.int .i64 F.wd, .int .i64 F.hi, .int .i64 F.me, .slice F.A F.n F.cap], .int .i64 n] w fun e w' => e = .returned (.int .i64 ((n % a : Nat) : Int)) ∧ Below w.heap.size w w' := by
  have hs := Lib.hid (FdQ.new h (Below.refl _ _) 26)
  obtain ⟨k0, k1, k2, k3⟩ := cells4f hs.out.2
  have E := Lib.hid (show (n : Int) % F.wd = ((n % a : Nat) : Int) by
    rw [ha]; rfl)
  have a0 : ¬ F.wd = 0 := by omega
  clear h ha
  go_enter Try.func39, Try.ntmps39
  go_wp2
  rw [E.out]
  go_ret
  exact ⟨rfl, hs.out.1.2⟩
set_option maxRecDepth 100000 in
set_option maxHeartbeats 4000000 in
theorem i_place12 (F : Fd) (n : Nat) (w : World) (hF : FdP F) (hn : n ≤ 144) (h : FdIn w F) :
    Calls Try.prog 17 #[.agg #[.int .i64 F.wd, .int .i64 F.hi, .int .i64 F.me, .slice F.A F.n F.cap], .int .i64 n] w fun e w' => e = .returned (.complex .f64 (nodeP F n).1 (nodeP F n).2) ∧ Below w.heap.size w w' := by
  obtain ⟨a, b, m, ha, hb, hm, h1, h2, h3, _, _⟩ := fd_nums hF
  have hs := Lib.hid (FdQ.new h (Below.refl _ _) 26)
  have HR := Lib.hid (fun wx (hx : FdQ w F w.heap.size 26 wx) => i_row12 F a n wx ha h1.1 hn hx.1.1)
  have HC := Lib.hid (fun wx (hx : FdQ w F w.heap.size 26 wx) => i_col12 F a n wx ha h1.1 hn hx.1.1)
  obtain ⟨k0, k1, k2, k3⟩ := cells4f hs.out.2
  unfold nodeP
  clear h hF
  obtain ⟨q, hq⟩ : ∃ q : Nat, n / a = q := ⟨_, rfl⟩
  obtain ⟨r, hr⟩ : ∃ r : Nat, n % a = r := ⟨_, rfl⟩
  have q9 : q ≤ 144 := by rw [← hq]; exact Nat.le_trans (Nat.div_le_self n a) hn
  have r9 : r ≤ 144 := by rw [← hr]; exact Nat.le_trans (Nat.mod_le n a) hn
  have hq2 : (n : Int) / (a : Int) = (q : Int) := by rw [← hq]; rfl
  have hr2 : (n : Int) % (a : Int) = (r : Int) := by rw [← hr]; rfl
  have hqm : q * m ≤ 144 * 100000 := Nat.mul_le_mul q9 h3.2
  have hrm : r * m ≤ 144 * 100000 := Nat.mul_le_mul r9 h3.2
  have E := Lib.hid (show (IntKind.i64.wrap ((q : Int) * F.me) = (q : Int) * F.me ∧ IntKind.i64.wrap ((r : Int) * F.me) = (r : Int) * F.me) ∧ ((n : Int) / F.wd * F.me = (q : Int) * F.me ∧ (n : Int) % F.wd * F.me = (r : Int) * F.me) by
    rw [ha, hm, hq2, hr2, show (q : Int) * (m : Int) = ((q * m : Nat) : Int) from rfl, show (r : Int) * (m : Int) = ((r * m : Nat) : Int) from rfl]
    generalize q * m = x at *
    generalize r * m = y at *
    exact ⟨⟨IntWalk.i64_in _ (by omega), IntWalk.i64_in _ (by omega)⟩, rfl, rfl⟩)
  rw [hq] at HR
  rw [hr] at HC
  rw [E.out.2.1, E.out.2.2]
  clear hq hr hq2 hr2 hqm hrm q9 r9 ha hb hm
  clear k0 k1 k2 k3
  have k0 : ∀ wx, FdQ w F w.heap.size 26 wx → wx.cell? ⟨w.heap.size, 0, none⟩ = some (.int .i64 F.wd) := fun wx h => (cells4f h.2).1
  have k1 : ∀ wx, FdQ w F w.heap.size 26 wx → wx.cell? ⟨w.heap.size, 1, none⟩ = some (.int .i64 F.hi) := fun wx h => (cells4f h.2).2.1
  have k2 : ∀ wx, FdQ w F w.heap.size 26 wx → wx.cell? ⟨w.heap.size, 2, none⟩ = some (.int .i64 F.me) := fun wx h => (cells4f h.2).2.2.1
  have k3 : ∀ wx, FdQ w F w.heap.size 26 wx → wx.cell? ⟨w.heap.size, 3, none⟩ = some (.slice F.A F.n F.cap) := fun wx h => (cells4f h.2).2.2.2
  have hF0 := hs.out
  go_enter Try.func17, Try.ntmps17
  go_upto_region 1 with fail
  generalize hW : w.alloc _ = W at *
  clear hW
  go_region_held3 (fun wx => FdQ w F w.heap.size 26 wx)
    (first | assumption | exact FdQ.drew (by assumption) | exact FdQ.step (by assumption) (by assumption))
    (first
      | (go_at_call 38; with_reducible refine (HR.out _ (by assumption)).mono ?_; rintro e w6 ⟨rfl, b6⟩)
      | (go_at_call 39; with_reducible refine (HC.out _ (by assumption)).mono ?_; rintro e w6 ⟨rfl, b6⟩))
  all_goals
    go_wp2
    rw [E.out.1.1, E.out.1.2]
    go_ret
    exact ⟨rfl, FdQ.belowQ (by assumption)⟩
end Go.Proofs.Ytibkhmdnfloemaa

/- Sails and moments written over by marks. -/
import Derived.Test.YtlliiecdadiagaaLpM
namespace Go.Proofs.Ytlliiecdadiagaa
open Go.RowKit
set_option linter.unusedVariables false
set_option linter.unusedSimpArgs false

theorem Blk.below {w w' : World} {g m : Nat} (h : Blk w g m) (b : Below w.heap.size w w') : Blk w' g m := by
  obtain ⟨cs, t, h1, h2⟩ := h
  exact ⟨cs, t, (b.block _ (block_lt h1)).trans h1, h2⟩
theorem Blk.store {P : Program} {w : World} {g m : Nat} (h : Blk w g m) {k : Nat} (hk : k < m) (v : Value) (hv : v.oneCell' = true) : (store ⟨g, k, none⟩ v).run P w = .ok () (w.setCell ⟨g, k, none⟩ v) := by
  obtain ⟨cs, t, h1, h2⟩ := h
  exact store_at h1 (n := cs.size) rfl (by omega) v hv
theorem grI_below {w wr w' : World} {n g : Nat} (h : GrI w n g wr) (b : Below wr.heap.size wr w') : GrI w n g w' := grown_trans h (gr_of_bel b _)
theorem grI_set {w wr : World} {n g : Nat} (h : GrI w n g wr) (hn : 0 < n) (a : Nat) (v : Value) : GrI w n g (wr.setCell ⟨g, a, none⟩ v) := by
  unfold GrI at *
  rw [if_pos hn] at *
  exact grown_trans h (grown_set wr g a v)
set_option maxRecDepth 100000 in
set_option maxHeartbeats 4000000 in
theorem l_mkSl (A : Option Addr) (n cap g : Nat) (k : Int) (w : World) (hA : 0 < n → A = some ⟨g, 0, none⟩ ∧ Blk w g (n * 5)) (hn : n ≤ 1048576) (h0 : 0 ≤ k) (h1 : k ≤ 1099511627776) :
    Calls Try.prog 45 #[.slice A n cap, .int .i64 k] w fun e w' => e = .returned (.int .i64 (k + 5 * n)) ∧ GrI w n g w' := by
  have HA := Lib.hid hA
  clear hA
  go_enter Try.func45, Try.ntmps45
  go_wp2_with fail
  go_loopw [1, 5] (fun kk ii wr => ∃ j : Nat, j ≤ n ∧ ii = .int .i64 j ∧ kk = .int .i64 (k + 5 * j) ∧ (0 < n → Blk wr g (n * 5)) ∧ GrI w n g wr) (fun _ ii _ => n - (intOf ii).toNat)
  case atStart => exact ⟨0, Nat.zero_le _, rfl, by simp, fun h => (HA.out h).2, ⟨rfl, rfl, rfl, Nat.le_refl _, fun _ _ _ => rfl⟩⟩
  case round =>
    obtain ⟨j, hj, rfl, rfl, hc, hs⟩ := hrel
    by_cases hlt : j < n
    · have hlt1 : (j : Int) < (n : Int) := by omega
      have hm : Calls Try.prog 72 #[.int .i64 (k + 5 * j)] wr fun e w' => (∃ t, e = .returned (.string t)) ∧ Below wr.heap.size wr w' := by
        have := l_mkT (k + 5 * j).toNat wr (by omega)
        rwa [show (((k + 5 * j).toNat : Nat) : Int) = k + 5 * j by omega] at this
      have HM := Lib.hid hm
      have HS := Lib.hid (And.intro (hc (by omega)) hs)
      obtain ⟨rfl, _⟩ := HA.out (by omega)
      clear hc hs hm
      go_wp2_with fail
      refine (HM.out).mono ?_
      rintro e w2 ⟨⟨t, rfl⟩, bl⟩
      have b0 := HS.out.1.below bl
      have hs := grI_below HS.out.2 bl
      clear HM HS bl
      obtain ⟨_, x0, y0⟩ := b0.at (show j * 5 < n * 5 by omega)
      have st0 := fun s => Blk.store (P := Try.prog) b0 (show j * 5 < n * 5 by omega) (.string s) rfl
      have b1 := fun v => b0.set (j * 5) v
      have x1 := fun v => (b1 v).cell (show j * 5 + 1 < n * 5 by omega)
      have y1 := fun v => (b1 v).soft (j * 5 + 1)
      have st1 := fun v f => Blk.store (P := Try.prog) (b1 v) (show j * 5 + 1 < n * 5 by omega) (.float .f32 f) rfl
      have b2 := fun v u => (b1 v).set (j * 5 + 1) u
      have x2 := fun v u => (b2 v u).cell (show j * 5 + 2 < n * 5 by omega)
      have y2 := fun v u => (b2 v u).soft (j * 5 + 2)
      have st2 := fun v u f => Blk.store (P := Try.prog) (b2 v u) (show j * 5 + 2 < n * 5 by omega) (.float .f32 f) rfl
      have b3 := fun v u x => (b2 v u).set (j * 5 + 2) x
      have x3 := fun v u x => (b3 v u x).cell (show j * 5 + 3 < n * 5 by omega)
      have y3 := fun v u x => (b3 v u x).soft (j * 5 + 3)
      have b4 := fun v u x y => (b3 v u x).set (j * 5 + 3) y
      have x4 := fun v u x y => (b4 v u x y).cell (show j * 5 + 4 < n * 5 by omega)
      have y4 := fun v u x y => (b4 v u x y).soft (j * 5 + 4)
      have HN := Lib.hid (fun v u x y z => And.intro ((b4 v u x y).set (j * 5 + 4) z) (grI_set (grI_set (grI_set (grI_set (grI_set hs (show 0 < n by omega) (j * 5) v) (by omega) (j * 5 + 1) u) (by omega) (j * 5 + 2) x) (by omega) (j * 5 + 3) y) (by omega) (j * 5 + 4) z))
      clear hs b0 b1 b2 b3 b4
      go_wp2
      go_roundw
      case rel => exact ⟨j + 1, by omega, by go_num, by go_num, fun _ => (HN.out _ _ _ _ _).1, (HN.out _ _ _ _ _).2⟩
      case measure => simp [intOf]; omega
    · obtain rfl : j = n := by omega
      have hlt1 : ¬ (j : Int) < (j : Int) := by omega
      clear hc
      go_wp2
      go_ret
      exact ⟨rfl, hs⟩
set_option maxRecDepth 100000 in
set_option maxHeartbeats 2000000 in
theorem l_mkMm (A : Option Addr) (n cap g : Nat) (k : Int) (w : World) (hA : 0 < n → A = some ⟨g, 0, none⟩ ∧ Blk w g (n * 2)) (hn : n ≤ 1048576) (h0 : 0 ≤ k) (h1 : k ≤ 1099511627776) :
    Calls Try.prog 46 #[.slice A n cap, .int .i64 k] w fun e w' => e = .returned (.int .i64 (k + 2 * n)) ∧ GrI w n g w' := by
  have HA := Lib.hid hA
  clear hA
  go_enter Try.func46, Try.ntmps46
  go_wp2_with fail
  go_loopw [1, 5] (fun kk ii wr => ∃ j : Nat, j ≤ n ∧ ii = .int .i64 j ∧ kk = .int .i64 (k + 2 * j) ∧ (0 < n → Blk wr g (n * 2)) ∧ GrI w n g wr) (fun _ ii _ => n - (intOf ii).toNat)
  case atStart => exact ⟨0, Nat.zero_le _, rfl, by simp, fun h => (HA.out h).2, ⟨rfl, rfl, rfl, Nat.le_refl _, fun _ _ _ => rfl⟩⟩
  case round =>
    obtain ⟨j, hj, rfl, rfl, hc, hs⟩ := hrel
    by_cases hlt : j < n
    · have hlt1 : (j : Int) < (n : Int) := by omega
      have b0 := hc (by omega)
      obtain ⟨rfl, _⟩ := HA.out (by omega)
      obtain ⟨_, x0, y0⟩ := b0.at (show j * 2 < n * 2 by omega)
      have st0 := fun f => Blk.store (P := Try.prog) b0 (show j * 2 < n * 2 by omega) (.float .f32 f) rfl
      have b1 := fun v => b0.set (j * 2) v
      have x1 := fun v => (b1 v).cell (show j * 2 + 1 < n * 2 by omega)
      have y1 := fun v => (b1 v).soft (j * 2 + 1)
      have HN := Lib.hid (fun v u => And.intro ((b1 v).set (j * 2 + 1) u) (grI_set (grI_set hs (show 0 < n by omega) (j * 2) v) (by omega) (j * 2 + 1) u))
      clear hc hs b0 b1
      go_wp2
      go_roundw
      case rel => exact ⟨j + 1, by omega, by go_num, by go_num, fun _ => (HN.out _ _).1, (HN.out _ _).2⟩
      case measure => simp [intOf]; omega
    · obtain rfl : j = n := by omega
      have hlt1 : ¬ (j : Int) < (j : Int) := by omega
      clear hc
      go_wp2
      go_ret
      exact ⟨rfl, hs⟩
end Go.Proofs.Ytlliiecdadiagaa

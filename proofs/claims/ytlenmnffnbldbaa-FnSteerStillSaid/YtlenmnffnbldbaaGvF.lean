/- The walk of Steer (impl). -/
import Derived.Test.YtlenmnffnbldbaaGvE
import Derived.Deep.WholeRow
namespace Go.Proofs.Ytlenmnffnbldbaa
open Go.RowKit Ieee
set_option linter.unusedVariables false
set_option linter.unusedSimpArgs false
theorem st_func (P : Program) (w : World) (a : Addr) (m : Mode) (fn : Fn) (first cap : Array Value) : (store a (.func fn first cap) m).run P w = stored P w a (.func fn first cap) m := run_store P w a _ m rfl
attribute [local go_sem] st_cplx st_func

set_option maxRecDepth 100000 in
set_option maxHeartbeats 4000000 in
theorem i_steer (t : Int) (s u v : Nat) (w : World) (hs : okBs s) (hv : okV u v) :
    Calls Try.prog 14 #[.int .i64 t, .float .f32 s, .complex .f32 u v] w fun e w' => e = .returned (.tuple #[.int .i64 (stN s u v (dg t)), .bool (stB s u v (dg t))]) ∧ Below w.heap.size w w' := by
  obtain ⟨hz, hi⟩ := zero_of_info Try.infoTurns
  have cb := fun w => i_boat_is s true w hs.1 ⟨fun _ => hs, fun _ => rfl⟩
  have cdg := fun w => i_deg t w
  obtain ⟨m, hm⟩ : ∃ m : Nat, m = dg t := ⟨_, rfl⟩
  have hm2 : t % 360 = (m : Int) := by unfold dg at hm; omega
  have hm3 : m < 360 := by omega
  rw [← hm]
  rw [hm2] at cdg
  clear hm hm2
  have m1 : (m : Int) < 360 := by omega
  have m0 : (0 : Int) ≤ (m : Int) := by omega
  obtain ⟨w1, hw1⟩ : ∃ w1, w1 = (w.alloc (.cells #[.float .f32 s] 24)).alloc (.cells #[.complex .f32 u v] 25) := ⟨_, rfl⟩
  have b1 : Below w.heap.size w w1 := by rw [hw1]; exact ((Below.refl _ _).alloc (Nat.le_refl _) _).alloc (by simp) _
  have ks : w1.cell? ⟨w.heap.size, 0, none⟩ = some (.float .f32 s) := by
    rw [hw1]
    exact (((Below.refl (w.heap.size + 1) (w.alloc (.cells #[.float .f32 s] 24))).alloc (by simp) (.cells #[.complex .f32 u v] 25)).cell (p := ⟨w.heap.size, 0, none⟩) (by simp)).trans (cell_of_row _ _ 0 _ _ _ (heap_alloc_new w _))
  have ku : w1.cell? ⟨w.heap.size + 1, 0, none⟩ = some (.complex .f32 u v) := by
    rw [hw1]
    have h := heap_alloc_new (w.alloc (.cells #[.float .f32 s] 24)) (.cells #[.complex .f32 u v] 25)
    rw [show (w.alloc (.cells #[.float .f32 s] 24)).heap.size = w.heap.size + 1 by simp] at h
    exact cell_of_row _ _ 0 _ _ _ h
  have s1 : w1.heap.size = w.heap.size + 2 := by rw [hw1]; simp
  go_enter Try.func14, Try.ntmps14
  go_wp2_with (first
    | (go_at_call 36; ((with_reducible refine (cb _).mono ?_); rintro e w' ⟨rfl, rfl⟩))
    | (go_at_call 37; ((with_reducible refine (i_velok_yes u v _ hv).mono ?_); rintro e w' ⟨rfl, rfl⟩))
    | fail)
  rw [← hw1]
  clear hw1 cb
  refine (i_turns w1).mono ?_
  rintro e w2 ⟨cs, ht, rfl, b2⟩
  have hst := run_storeCells_new (P := Try.prog) w2 57 zeroT cs (by rw [ht.1]; exact hi) (by rw [ht.1]; exact size_zeroT) ht.2.2
  obtain ⟨w3, hw3⟩ : ∃ w3, w3 = w2.alloc (.cells cs 57) := ⟨_, rfl⟩
  have b3 : Below w1.heap.size w1 w3 := by rw [hw3]; exact b2.alloc b2.size _
  have hrow : w3.heap[w2.heap.size]? = some (.cells cs 57 (0, 0)) := by rw [hw3]; exact heap_alloc_last w2 _
  have hct : ∀ k, k < 360 → w3.cell? ⟨w2.heap.size, k, none⟩ = some (tv k) := fun k hk => by
    rw [cell_of_row _ _ k _ _ _ hrow]; exact ht.2.1 k hk
  have hc : w3.cell? ⟨w2.heap.size, m, none⟩ = some (.complex .f64 (trn m).1 (trn m).2) := hct m hm3
  have hsz := ht.1
  have s2 := b2.size
  have ks3 : w3.cell? ⟨w.heap.size, 0, none⟩ = some (.float .f32 s) := (b3.cell (p := ⟨w.heap.size, 0, none⟩) (by simp; omega)).trans ks
  have ku3 : w3.cell? ⟨w.heap.size + 1, 0, none⟩ = some (.complex .f32 u v) := (b3.cell (p := ⟨w.heap.size + 1, 0, none⟩) (by simp; omega)).trans ku
  have s3 : w3.heap.size = w2.heap.size + 1 := by rw [hw3]; simp
  have b4 : Below w.heap.size w w3 := b1.trans (b3.mono (by omega))
  have hmf : ∀ (fn : Fn) (first cap : Array Value) (w : World), (Instr.makeFunc fn first cap).run Try.prog w = .ok (.func fn first cap) w := fun _ _ _ _ => rfl
  have HCT := Lib.hid hct
  clear hi ht hrow hct
  go_wp2_with fail
  rw [← hw3]
  clear b1 ks ku b2 hsz s2 hst hw3
  refine (cdg _).mono ?_
  rintro e w4 ⟨rfl, rfl⟩
  go_wp2_with fail
  obtain ⟨w5, hw5⟩ : ∃ w5, w5 = w3.alloc (.cells #[.complex .f64 (trn m).1 (trn m).2] 50) := ⟨_, rfl⟩
  have ka : w5.cell? ⟨w2.heap.size + 1, 0, none⟩ = some (tv m) := by
    have h := heap_alloc_new w3 (.cells #[.complex .f64 (trn m).1 (trn m).2] 50)
    rw [s3, ← hw5] at h
    exact cell_of_row _ _ 0 _ _ _ h
  have b5 : Below w3.heap.size w3 w5 := by rw [hw5]; exact (Below.refl _ _).alloc (Nat.le_refl _) _
  have s5 : w5.heap.size = w3.heap.size + 1 := by rw [hw5]; simp
  have hB5 : StB w5 w2.heap.size w.heap.size (w.heap.size + 1) (w2.heap.size + 1) s u v m :=
    ⟨fun k hk => (b5.cell (p := ⟨w2.heap.size, k, none⟩) (by simp; omega)).trans (HCT.out k hk), (b5.cell (p := ⟨w.heap.size, 0, none⟩) (World.block_lt_of_cell? w3 _ ks3)).trans ks3, (b5.cell (p := ⟨w.heap.size + 1, 0, none⟩) (World.block_lt_of_cell? w3 _ ku3)).trans ku3, ka⟩
  have bw5 : Below w.heap.size w w5 := b4.trans (b5.mono b4.size)
  rw [← hw5]
  clear hw5 hc hmf ka b5 b3 b4 ks3 ku3 HCT
  obtain ⟨w6, hw6⟩ : ∃ w6, w6 = w5.alloc (.cells #[.func (Fn.func 40) #[] #[.pointer (some ⟨w2.heap.size, 0, none⟩), .pointer (some ⟨w.heap.size, 0, none⟩), .pointer (some ⟨w.heap.size + 1, 0, none⟩), .pointer (some ⟨w2.heap.size + 1, 0, none⟩)]] 65) := ⟨_, rfl⟩
  have b6 : Below w5.heap.size w5 w6 := by rw [hw6]; exact (Below.refl _ _).alloc (Nat.le_refl _) _
  have lt : ∀ g k v, w5.cell? ⟨g, k, none⟩ = some v → g < w5.heap.size := fun g k v h => World.block_lt_of_cell? w5 _ h
  have hB6 : StB w6 w2.heap.size w.heap.size (w.heap.size + 1) (w2.heap.size + 1) s u v m :=
    ⟨fun k hk => (b6.cell (lt _ _ _ (hB5.t k hk))).trans (hB5.t k hk), (b6.cell (lt _ _ _ hB5.s)).trans hB5.s, (b6.cell (lt _ _ _ hB5.u)).trans hB5.u, (b6.cell (lt _ _ _ hB5.a)).trans hB5.a⟩
  have bw6 : Below w.heap.size w w6 := bw5.trans (b6.mono bw5.size)
  rw [← hw6]
  clear hw6 b6 lt
  refine (i_best w2.heap.size w.heap.size (w.heap.size + 1) (w2.heap.size + 1) s u v m w6 hm3 hs hv hB6).mono ?_
  rintro e w7 ⟨rfl, b7⟩
  have bw7 : Below w.heap.size w w7 := bw6.trans (b7.mono bw6.size)
  go_wp2
  go_ret2
  exact ⟨rfl, bw7⟩

set_option maxRecDepth 100000 in
set_option maxHeartbeats 4000000 in
theorem i_steer_no (t : Int) (s u v : Nat) (w : World) (hl : s < 4294967296) (hu : u < 4294967296) (hvl : v < 4294967296) (hno : ¬ (okBs s ∧ okV u v)) :
    Calls Try.prog 14 #[.int .i64 t, .float .f32 s, .complex .f32 u v] w fun e w' => e = .returned (.tuple #[.int .i64 0, .bool false]) ∧ Below w.heap.size w w' := by
  have b1 : Below w.heap.size w ((w.alloc (.cells #[.float .f32 s] 24)).alloc (.cells #[.complex .f32 u v] 25)) := ((Below.refl _ _).alloc (Nat.le_refl _) _).alloc (by simp) _
  by_cases hs : okBs s
  · have hv : ¬ okV u v := fun h => hno ⟨hs, h⟩
    have cb := fun w => i_boat_is s true w hl ⟨fun _ => hs, fun _ => rfl⟩
    clear hno
    go_enter Try.func14, Try.ntmps14
    go_wp2_with (first
      | (go_at_call 36; ((with_reducible refine (cb _).mono ?_); rintro e w' ⟨rfl, rfl⟩))
      | fail)
    generalize (w.alloc (.cells #[.float .f32 s] 24)).alloc (.cells #[.complex .f32 u v] 25) = w1 at *
    refine (i_velok u v _ hu hvl).mono ?_
    rintro e w2 ⟨t', ht, rfl, _, g2⟩
    obtain rfl := velok_no hu hvl hv ht
    have b2 := b1.grown g2 b1.size (fun k e => by cases e)
    clear ht g2
    go_wp2
    go_ret2
    exact ⟨rfl, b2⟩
  · have cb := fun w => i_boat_is s false w hl ⟨fun h => (by cases h), fun h => absurd h hs⟩
    go_enter Try.func14, Try.ntmps14
    go_wp2_with (go_at_call 36; ((with_reducible refine (cb _).mono ?_); rintro e w' ⟨rfl, rfl⟩))
    go_ret2
    exact ⟨rfl, b1⟩
end Go.Proofs.Ytlenmnffnbldbaa

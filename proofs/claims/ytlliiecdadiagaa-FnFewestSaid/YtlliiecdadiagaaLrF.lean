/- slices.Repeat of one whole number. -/
import Derived.Test.YtlliiecdadiagaaLrE
import Derived.Laws.CopyOwn
import Derived.Laws.OwnMore
import Derived.Deep.OwnRows
import Derived.WalkSpells
import Derived.WalkLawsBesides
namespace Go.Proofs.Ytlliiecdadiagaa
open Go.RowKit
set_option linter.unusedVariables false
set_option linter.unusedSimpArgs false

set_option maxRecDepth 100000 in
set_option maxHeartbeats 1000000 in
theorem i_mul64 (k : Nat) (w : World) (hk : k ≤ 60) :
    Calls Try.prog 86 #[.int .u64 1, .int .u64 k] w fun e w' => e = .returned (.tuple #[.int .u64 0, .int .u64 k]) ∧ w' = w := by
  have h1 : bits .and .u64 (k : Int) 4294967295 = k := by
    have h := bits_and_u64_nat k 4294967295 (by omega) (by omega)
    rw [show k &&& 4294967295 = k by rw [show (4294967295 : Nat) = 2 ^ 32 - 1 from rfl, Nat.and_two_pow_sub_one_eq_mod]; omega] at h
    exact h
  have h2 : bits .and .u64 1 4294967295 = 1 := by kernel_rfl
  have h4 : bits .and .u64 0 4294967295 = 0 := by kernel_rfl
  have h3 : (k : Int) / 4294967296 = 0 := by omega
  have h5 : IntKind.u64.wrap (k : Int) = k := by rw [IntKind.wrap_u64]; omega
  go_enter Try.func86, Try.ntmps86
  go_wp2
  go_ret2
  exact ⟨rfl, rfl⟩
set_option maxRecDepth 100000 in
set_option maxHeartbeats 1000000 in
theorem i_mul (k : Nat) (w : World) (hk : k ≤ 60) :
    Calls Try.prog 80 #[.int .u64 1, .int .u64 k] w fun e w' => e = .returned (.tuple #[.int .u64 0, .int .u64 k]) ∧ w' = w := by
  go_enter Try.func80, Try.ntmps80
  go_wp2_with fail
  refine (i_mul64 k _ hk).mono ?_
  rintro e w1 ⟨rfl, rfl⟩
  go_wp2
  go_ret2
  exact ⟨rfl, rfl⟩
theorem splice_same (cur : List Value) (x : Value) (m c : Nat) (hm : ∀ j, j < m → cur[j]? = some x) (hc : m + c ≤ cur.length) : ∀ j, j < m + c → (splice cur m (List.replicate c x))[j]? = some x := fun j hj => by
  unfold splice
  rw [List.length_replicate]
  rcases Nat.lt_or_ge j m with h | h
  · rw [List.getElem?_append_left (by rw [List.length_take]; omega), List.getElem?_take, if_pos h]
    exact hm j h
  · rw [List.getElem?_append_right (by rw [List.length_take]; omega), List.getElem?_append_left (by rw [List.length_take, List.length_replicate]; omega), List.getElem?_replicate, if_pos (by rw [List.length_take]; omega)]
/-- A row of so many cells, the first ones all alike. -/
def RepS (w : World) (t : TypeId) (x : Value) (N m : Nat) (wr : World) : Prop := ∃ cur : List Value, wr.heap[w.heap.size]? = some (.cells cur.toArray t (0, 0)) ∧ cur.length = N ∧ (∀ j, j < m → cur[j]? = some x) ∧ Below w.heap.size w wr
set_option maxRecDepth 100000 in
set_option maxHeartbeats 2000000 in
theorem i_rep (v : Int) (b N : Nat) (w : World) (h0 : 1 ≤ N) (hN : N ≤ 60) (hc : w.cell? ⟨b, 0, none⟩ = some (.int .i64 v)) :
    Calls Try.prog 59 #[.slice (some ⟨b, 0, none⟩) 1 1, .int .i64 N] w fun e w' => e = .returned (.slice (some ⟨w.heap.size, 0, none⟩) N N) ∧ w'.heap[w.heap.size]? = some (.cells (List.replicate N (Value.int .i64 v)).toArray 3 (0, 0)) ∧ Below w.heap.size w w' := by
  have hmk := run_make_row' (P := Try.prog) 26 3 (.int .i64 0) 8 Try.underlying26 Try.infoInt11 rfl .i64 .i64 N (by omega) (by omega)
  obtain ⟨i0, hi, hz0, hz1, hz2⟩ := info_parts Try.infoInt11
  have hsz : (Try.prog.info? 3).map (·.size) = some 1 := by rw [hi]; simp [hz1]
  have e1 : IntKind.u64.wrap (N : Int) = N := by rw [IntKind.wrap_u64]; omega
  have e2 : IntKind.i64.wrap (N : Int) = N := IntWalk.i64_in _ (by omega)
  have hw1 : (w.alloc (.cells (madeCells #[Value.int .i64 0] N) 3)).heap[w.heap.size]? = some (.cells ((List.replicate N (Value.int .i64 0)).toArray) 3 (0, 0)) := by
    rw [heap_alloc_new w _, ← toList_madeCells_one]
  have hcA : (w.alloc (.cells (madeCells #[Value.int .i64 0] N) 3)).cell? ⟨b, 0, none⟩ = some (.int .i64 v) := Lib.cell?_alloc_some _ hc
  have hbA : Below w.heap.size w (w.alloc (.cells (madeCells #[Value.int .i64 0] N) 3)) := (Below.refl _ w).alloc (Nat.le_refl _) _
  have hbN : ¬ (N : Int) < 0 := by omega
  go_enter Try.func59, Try.ntmps59
  go_wp2_with fail
  refine (i_mul N _ hN).mono ?_
  rintro e w1 ⟨rfl, rfl⟩
  have q1 : [Value.int .i64 v].length = Nat.min 1 N := (Nat.min_eq_left h0).symm
  have q2 : ∀ (j : Nat) (x : Value), [Value.int .i64 v][j]? = some x → (w1.alloc (.cells (madeCells #[Value.int .i64 0] N) 3)).cell? ((⟨b, 0, none⟩ : Addr).add j) = some x := fun j x hx => by
    match j with
    | 0 => cases hx; exact hcA
    | j + 1 => simp at hx
  have q3 : 0 + [Value.int .i64 v].length ≤ (List.replicate N (Value.int .i64 0)).length := by simp; omega
  have q4 : ∀ x : Value, x ∈ [Value.int .i64 v] → x.oneCell' = true := fun x hx => by
    rw [List.mem_singleton.1 hx]; rfl
  have Q1 := Lib.hid q1
  have Q2 := Lib.hid q2
  have Q3 := Lib.hid q3
  have Q4 := Lib.hid q4
  clear q1 q2 q3 q4
  go_wp2_with (refine wpList_copy_splice rfl (.tmp 31) (.tmp 32) 26 26 rfl 3 Try.underlying26 hsz _ _ _ _ _ _ rfl rfl w1.heap.size 0 (List.replicate N (Value.int .i64 0)) 3 hw1 [.int .i64 v] Q1.out (fun _ => ⟨rfl, _, rfl, Q2.out⟩) Q3.out Q4.out w1.heap.size w1 hbA (Nat.le_refl _) ?_; intro w2 hg2 hb2)
  have H2 := Lib.hid (show RepS w1 3 (.int .i64 v) N 1 w2 from ⟨_, hg2.out, by rw [length_splice _ _ _ (by simp; omega)]; simp, fun j hj => splice_same _ _ 0 1 (fun j h => by omega) (by simp; omega) j (by omega), hb2⟩)
  clear hw1 hcA hbA hg2 hb2 hc hmk e1 hbN
  go_wp2_with fail
  go_loopw [8] (fun n wr => ∃ m : Nat, 1 ≤ m ∧ m ≤ N ∧ n = .int .i64 m ∧ RepS w1 3 (.int .i64 v) N m wr) (fun n _ => N - (intOf n).toNat)
  case atStart => exact ⟨1, Nat.le_refl _, h0, rfl, H2.out⟩
  case round =>
    obtain ⟨m, hm1, hmN, rfl, cur, hg, hl, hall, hb⟩ := hrel
    clear H2
    have HA := Lib.hid hall
    clear hall
    by_cases hlt : m < N
    · have z1 : (m : Int) < (N : Int) := by omega
      have z0 : (0 : Int) ≤ (m : Int) := by omega
      have z2 : (m : Int) ≤ (N : Int) := by omega
      have z3 : ¬ N = m := by omega
      have hgd : wr.drew.heap[w1.heap.size]? = some (.cells cur.toArray 3 (0, 0)) := hg
      have hbd : Below w1.heap.size w1 wr.drew := hb.drew
      have hcell : ∀ j, j < m → wr.drew.cell? ⟨w1.heap.size, j, none⟩ = some (.int .i64 v) := fun j hj => by
        rw [cell_of_row wr.drew _ j _ _ _ hgd]
        simpa using HA.out j hj
      have HC := Lib.hid hcell
      clear hcell
      obtain ⟨c, hc⟩ : ∃ c, Nat.min m (N - m) = c := ⟨_, rfl⟩
      have hc1 : c ≤ N - m := by rw [← hc]; exact Nat.min_le_right m (N - m)
      have hc2 : c ≤ m := by rw [← hc]; exact Nat.min_le_left m (N - m)
      have hc3 : 1 ≤ c := by rw [← hc]; exact Nat.le_min.2 ⟨hm1, by omega⟩
      have q1 : (List.replicate c (Value.int .i64 v)).length = Nat.min m (N - m) := by rw [hc]; exact List.length_replicate ..
      have q2 : ∀ (j : Nat) (x : Value), (List.replicate c (Value.int .i64 v))[j]? = some x → wr.drew.cell? ((⟨w1.heap.size, 0, none⟩ : Addr).add j) = some x := fun j x hx => by
        rw [List.getElem?_replicate] at hx
        split at hx
        · cases hx
          rename_i hj
          rw [Addr.add_lit, Nat.zero_add]
          exact HC.out j (Nat.lt_of_lt_of_le hj hc2)
        · cases hx
      have q3 : m + (List.replicate c (Value.int .i64 v)).length ≤ cur.length := by rw [List.length_replicate, hl]; omega
      have q4 : ∀ x : Value, x ∈ List.replicate c (Value.int .i64 v) → x.oneCell' = true := fun x hx => by rw [List.eq_of_mem_replicate hx]; rfl
      have Q1 := Lib.hid q1
      have Q2 := Lib.hid q2
      have Q3 := Lib.hid q3
      have Q4 := Lib.hid q4
      clear q1 q2 q3 q4 hc
      go_wp2
      go_region_held3 (fun _ => True) (trivial) ((refine step_copy_splice rfl (.tmp 41) (.tmp 44) 26 26 rfl 3 Try.underlying26 hsz (some ⟨w1.heap.size, m, none⟩) (some ⟨w1.heap.size, 0, none⟩) (N - m) (N - m) m N rfl rfl w1.heap.size m cur 3 hgd (List.replicate c (.int .i64 v)) Q1.out (fun _ => ⟨rfl, _, rfl, Q2.out⟩) Q3.out Q4.out w1.heap.size w1 hbd (Nat.le_refl _) ?_; intro w4 hg4 hb4))
      all_goals (
        have HN := Lib.hid (show RepS w1 3 (.int .i64 v) N (m + c) w4 from ⟨_, hg4.out, by rw [length_splice _ _ _ Q3.out, hl], fun j hj => splice_same cur _ m c HA.out (by omega) j hj, hb4⟩)
        have hlc : (List.replicate c (Value.int .i64 v)).length = c := List.length_replicate ..
        have hwr : IntKind.i64.wrap ((m : Int) + (c : Int)) = ((m + c : Nat) : Int) := by rw [IntWalk.i64_in _ (by omega)]; omega
        clear hg4 hb4 hgd hg hb
        go_wp2_with fail
        go_roundw
        case rel => exact ⟨m + c, by omega, by omega, by go_num, HN.out⟩
        case measure => simp [intOf]; omega)
    · obtain rfl : m = N := by omega
      have z1 : ¬ (m : Int) < (m : Int) := by omega
      have HN := Lib.hid (show wr.heap[w1.heap.size]? = some (.cells (List.replicate m (Value.int .i64 v)).toArray 3 (0, 0)) by
        rw [hg]
        congr 3
        refine List.ext_getElem? fun j => ?_
        rw [List.getElem?_replicate]
        split
        · exact HA.out j (by assumption)
        · exact List.getElem?_eq_none (by omega))
      clear hg hl
      go_wp2
      go_ret
      exact ⟨rfl, HN.out, hb⟩
end Go.Proofs.Ytlliiecdadiagaa

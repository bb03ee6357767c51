/- The walks of Bearing (impl and spec); the walk of the law FnTurnsBack. -/
import Derived.Test.YtonoknbangnleaaGreatTZ
import Derived.Test.YtonoknbangnleaaGreatTnA
import Derived.Test.YtonoknbangnleaaGreatDZ
namespace Go.Proofs.YtonoknbangnleaaGreat
open Go.RowKit Ieee

/-- The best turn of those by 0 to k degrees, and what it makes. -/
def bst (z : Nat × Nat) : Nat → Nat × Nat
  | 0 => (0, dotW z (trn 0))
  | k + 1 => if f64.order (dotW z (trn (k + 1))) (bst z k).2 = some .gt then (k + 1, dotW z (trn (k + 1))) else bst z k
/-- A valid vector other than nought. -/
def Points (z : Nat × Nat) : Prop := okP z.1 ∧ okP z.2 ∧ (f64.order z.1 0 == some .eq && f64.order z.2 0 == some .eq) = false
theorem dot_at {z : Nat × Nat} (h : Points z) (k : Nat) (hk : k < 360) : ∃ p q, floatBits .mul .f64 z.1 (trn k).1 = some p ∧ floatBits .mul .f64 z.2 (trn k).2 = some q ∧ floatBits .add .f64 p q = some (dotW z (trn k)) ∧ isNum (dotW z (trn k)) := by
  obtain ⟨⟨k1, k2⟩, k3, k4⟩ := turn_part hk
  obtain ⟨p, q, a, b, c, d, _⟩ := dot_ok h.1.part h.2.1.part k1 k3 k2 k4
  exact ⟨p, q, a, b, c, d⟩
theorem bst_num {z : Nat × Nat} (h : Points z) (k : Nat) (hk : k < 360) : isNum (bst z k).2 ∧ (bst z k).1 ≤ k := by
  induction k with
  | zero => obtain ⟨_, _, _, _, _, d⟩ := dot_at h 0 (by omega); exact ⟨d, Nat.le_refl _⟩
  | succ k ih =>
    obtain ⟨i1, i2⟩ := ih (by omega)
    rw [bst.eq_def]
    simp only
    split
    · obtain ⟨_, _, _, _, _, d⟩ := dot_at h (k + 1) hk; exact ⟨d, Nat.le_refl _⟩
    · exact ⟨i1, by omega⟩

theorem Tryz.infoCplx : (Tryz.prog.info? 30).map (·.size) = some 1 := by kernel_rfl
/-- An element of an array of complex numbers. -/
theorem run_index_cplx (w : World) (cs : Array Value) (k : Nat) (v : Value) (hk : k < 360) (hv : cs[k]? = some v) : (Instr.index 52 (.agg cs) (.int .i64 k)).run Tryz.prog w = .ok v w := by
  have hsz : (sizeOf 30).run Tryz.prog w = .ok 1 w := by
    have h := Tryz.infoCplx
    cases hq : Tryz.prog.info? 30 with
    | none => rw [hq] at h; cases h
    | some i =>
      rw [hq] at h
      have hs : i.size = 1 := by simpa using h
      simp [sizeOf, typeInfo, hq, hs]
  simp [Instr.index, asIntOf, run_underlying Tryz.underlying52, hk, hsz, part, hv]

set_option maxRecDepth 100000 in
set_option maxHeartbeats 1000000 in
theorem i_bear_no (a b : Nat) (w : World) (ha : a < 18446744073709551616) (hb : b < 18446744073709551616) (hn : ¬ Points (a, b)) :
    Calls Tryz.prog 29 #[.complex .f64 a b] w fun e w' => e = .returned (.int .i64 (-1)) ∧ w = w' := by
  obtain ⟨za, hza⟩ : ∃ za, (FloatKind.f64.format.order a 0 == some .eq) = za := ⟨_, rfl⟩
  obtain ⟨zb, hzb⟩ : ∃ zb, (FloatKind.f64.format.order b 0 == some .eq) = zb := ⟨_, rfl⟩
  have HN := Lib.hid hn
  have HZ := Lib.hid (And.intro hza hzb)
  clear hn
  go_enter Tryz.func29, Tryz.ntmps29
  go_wp2_with fail
  refine (i_vok a b _ ha hb).mono ?_
  rintro e w1 ⟨t, ht, rfl, rfl⟩
  have HT := Lib.hid ht
  clear ht
  cases t
  · go_wp2
    go_ret
    exact ⟨rfl, rfl⟩
  · cases za
    · exfalso
      exact HN.out ⟨(HT.out.1 rfl).1, (HT.out.1 rfl).2, by rw [show (f64.order a 0 == some .eq) = false from HZ.out.1]; rfl⟩
    · cases zb
      · exfalso
        exact HN.out ⟨(HT.out.1 rfl).1, (HT.out.1 rfl).2, by rw [show (f64.order b 0 == some .eq) = false from HZ.out.2, Bool.and_false]⟩
      · go_wp2
        go_ret
        exact ⟨rfl, rfl⟩

set_option maxRecDepth 100000 in
set_option maxHeartbeats 2000000 in
theorem i_bear (z : Nat × Nat) (w : World) (ha : z.1 < 18446744073709551616) (hb : z.2 < 18446744073709551616) (hp : Points z) :
    Calls Tryz.prog 29 #[.complex .f64 z.1 z.2] w fun e w' => e = .returned (.int .i64 (bst z 359).1) ∧ Below w.heap.size w w' := by
  obtain ⟨hz0, hi⟩ := zero_of_info Tryz.infoTurns
  have hzz : (FloatKind.f64.format.order z.1 0 == some .eq && FloatKind.f64.format.order z.2 0 == some .eq) = false := hp.2.2
  have HP := Lib.hid hp
  clear hp
  go_enter Tryz.func29, Tryz.ntmps29
  go_wp2_with fail
  refine (i_vok z.1 z.2 _ ha hb).mono ?_
  rintro e w1 ⟨t, ht, rfl, rfl⟩
  obtain rfl : t = true := ht.2 ⟨HP.out.1, HP.out.2.1⟩
  clear ht
  go_wp2_with fail
  refine (i_turns w).mono ?_
  rintro e w1 ⟨cs, ht, rfl, b1⟩
  have hst := run_storeCells_new (P := Tryz.prog) w1 52 zeroT cs (by rw [ht.1]; exact hi) (by rw [ht.1]; exact size_zeroT) ht.2.2
  have hc : (w1.alloc (.cells cs 52)).cell? ⟨w1.heap.size, 0, none⟩ = some (.complex .f64 (trn 0).1 (trn 0).2) := by
    rw [cell_of_row _ _ 0 _ _ _ (heap_alloc_last w1 _)]; exact ht.2.1 0 (by omega)
  have hb2 : Below w.heap.size w (w1.alloc (.cells cs 52)) := b1.alloc b1.size _
  have hsz := ht.1
  have hg := heap_alloc_last w1 (.cells cs 52)
  obtain ⟨p, q, o1, o2, o3, _⟩ := dot_at HP.out 0 (by omega)
  have hd0 := fun w => i_dot _ _ _ _ _ _ _ w o1 o2 o3
  have HT := Lib.hid ht
  have hi2 := Lib.hid hi
  clear hi ht o1 o2 o3
  go_wp2_with (go_at_call 41; ((with_reducible refine (hd0 _).mono ?_); rintro e w' ⟨rfl, rfl⟩))
  refine wp_load_row _ _ (by rfl) w1.heap.size (by rfl) _ cs (0, 0) _ hg Tryz.underlying52 rfl (by rw [hsz]; exact hi2.out) ?_
  have HB := Lib.hid hb2
  clear hst hc hb2 hg hz0 hd0 hzz b1
  go_wp2
  go_loop [4, 5, 6, 7, 8, 22] (fun bs ms _ _ _ i => ∃ k : Nat, k ≤ 360 ∧ i = .int .i64 k ∧ bs = .int .i64 ((bst z (k - 1)).1 : Nat) ∧ ms = .float .f64 (bst z (k - 1)).2) (fun _ _ _ _ _ i => 360 - (intOf i).toNat)
  case atStart => exact ⟨0, by omega, rfl, rfl, rfl⟩
  case round =>
    obtain ⟨k, hk, rfl, rfl, rfl⟩ := hrel
    by_cases hlt : k < 360
    · have hix := fun w => run_index_cplx w cs k (.complex .f64 (trn k).1 (trn k).2) hlt (HT.out.2.1 k hlt)
      obtain ⟨p, q, o1, o2, o3, dn⟩ := dot_at HP.out k hlt
      have hd0 := fun w => i_dot _ _ _ _ _ _ _ w o1 o2 o3
      have k1 : (k : Int) < 360 := by omega
      have hstep : (FloatKind.f64.format.order (dotW z (trn k)) (bst z (k - 1)).2 = some .gt ∧ bst z k = (k, dotW z (trn k))) ∨ ((FloatKind.f64.format.order (dotW z (trn k)) (bst z (k - 1)).2 == some .gt) = false ∧ bst z k = bst z (k - 1)) := by
        rcases Nat.eq_zero_or_pos k with h0 | h0
        · right
          subst h0
          refine ⟨?_, rfl⟩
          show (f64.order (dotW z (trn 0)) (dotW z (trn 0)) == some .gt) = false
          rw [order_val dn dn, Int.compare_eq_eq.2 rfl]; rfl
        · obtain ⟨m, rfl⟩ : ∃ m, k = m + 1 := ⟨k - 1, by omega⟩
          rw [show m + 1 - 1 = m by omega]
          by_cases hgt : f64.order (dotW z (trn (m + 1))) (bst z m).2 = some .gt
          · left; exact ⟨hgt, by rw [bst.eq_def]; simp only; rw [if_pos hgt]⟩
          · right; exact ⟨by simpa using hgt, by rw [bst.eq_def]; simp only; rw [if_neg hgt]⟩
      clear o1 o2 o3 dn
      rcases hstep with ⟨og, hs⟩ | ⟨og, hs⟩
      all_goals
        have HS := Lib.hid hs
        clear hs
        go_wp2_with (go_at_call 41; ((with_reducible refine (hd0 _).mono ?_); rintro e w' ⟨rfl, rfl⟩))
        go_round
        case rel => exact ⟨k + 1, by omega, by go_num, by rw [show k + 1 - 1 = k by omega, HS.out], by rw [show k + 1 - 1 = k by omega, HS.out]⟩
        case measure => simp [intOf]; omega
    · have hk60 : k = 360 := by omega
      subst hk60
      go_wp2
      go_ret
      exact ⟨rfl, HB.out⟩

/-- The words of the table fit. -/
theorem tab_lt : tabW.all (fun t => Nat.ble t.1 18446744073709551615 && Nat.ble t.2 18446744073709551615) = true := by kernel_rfl
theorem trn_lt {k : Nat} (hk : k < 360) : (trn k).1 < 18446744073709551616 ∧ (trn k).2 < 18446744073709551616 := by
  have h := List.all_eq_true.1 tab_lt _ (List.mem_of_getElem? (tab_at k hk).1)
  simp only [Bool.and_eq_true] at h
  have h1 := Nat.le_of_ble_eq_true h.1
  have h2 := Nat.le_of_ble_eq_true h.2
  omega
theorem order_zero_val {x : Nat} (hx : isNum x) (h : f64.order x 0 = some .eq) : fval x = 0 := by
  rw [order_val hx (isNum_of nought_num), nought_val] at h
  injection h with h
  exact Int.compare_eq_eq.1 h
theorem trn_points {m : Nat} (hm : m < 360) : Points (trn m) := by
  obtain ⟨⟨a1, a2⟩, b1, b2⟩ := turn_part hm
  refine ⟨⟨a1, by omega⟩, ⟨b1, by omega⟩, ?_⟩
  cases h : (f64.order (trn m).1 0 == some .eq && f64.order (trn m).2 0 == some .eq) with
  | false => rfl
  | true =>
    exfalso
    simp only [Bool.and_eq_true, beq_iff_eq] at h
    have x0 := order_zero_val a1 h.1
    have y0 := order_zero_val b1 h.2
    obtain ⟨n, _, _, ht⟩ := turn_at m hm
    generalize (n.1 : Int) - 5316911983139663491615228241121378304 = X at *
    generalize (n.2 : Int) - 5316911983139663491615228241121378304 = Y at *
    have hg := grain_big
    have hg0 : (grainV : Int) ≠ 0 := by omega
    have hX : X = 0 := by
      rcases Int.mul_eq_zero.1 (ht.v1.symm.trans x0) with h | h
      · exact h
      · exact absurd h hg0
    have hY : Y = 0 := by
      rcases Int.mul_eq_zero.1 (ht.v2.symm.trans y0) with h | h
      · exact h
      · exact absurd h hg0
    have hl := ht.lo
    rw [hX, hY] at hl
    simp at hl
/-- A turn's best turn is itself. -/
theorem bst_turn {m : Nat} (hm : m < 360) (k : Nat) (hk : k < 360) : (bst (trn m) k).2 = dotW (trn m) (trn (bst (trn m) k).1) ∧ (bst (trn m) k).1 ≤ k ∧ (m ≤ k → (bst (trn m) k).1 = m) := by
  induction k with
  | zero => exact ⟨rfl, Nat.le_refl _, fun h => by have : m = 0 := by omega
                                                   subst this; rfl⟩
  | succ k ih =>
    obtain ⟨i1, i2, i3⟩ := ih (by omega)
    by_cases hgt : f64.order (dotW (trn m) (trn (k + 1))) (bst (trn m) k).2 = some .gt
    · have e : bst (trn m) (k + 1) = (k + 1, dotW (trn m) (trn (k + 1))) := by rw [bst.eq_def]; simp only; rw [if_pos hgt]
      rw [e]
      refine ⟨rfl, Nat.le_refl _, fun h => ?_⟩
      rcases Nat.eq_or_lt_of_le h with h | h
      · exact h.symm
      · exfalso
        rw [i1, i3 (by omega)] at hgt
        obtain ⟨n1, n2, hl⟩ := turn_most hm hk (by omega)
        rw [order_val n2 n1, Int.compare_eq_lt.2 hl] at hgt
        cases hgt
    · have e : bst (trn m) (k + 1) = bst (trn m) k := by rw [bst.eq_def]; simp only; rw [if_neg hgt]
      rw [e]
      refine ⟨i1, by omega, fun h => ?_⟩
      rcases Nat.eq_or_lt_of_le h with h | h
      · exfalso
        subst h
        obtain ⟨n1, n2, hl⟩ := turn_most hm (show (bst (trn (k + 1)) k).1 < 360 by omega) (by omega)
        rw [← i1] at n2 hl
        exact hgt (by rw [order_val n1 n2, Int.compare_eq_gt.2 hl])
      · exact i3 (by omega)

end Go.Proofs.YtonoknbangnleaaGreat

/- The walks of product, l02Times, l02Step, allTurns, Turn (impl and spec). -/
import Derived.Test.YtnpgppenkpkfnaaRows
import Derived.Test.YtnpgppenkpkfnaaTn
import Derived.Test.YtnpgppenkpkfnaaDeg
import Derived.Test.YtnpgppenkpkfnaaFA
import Derived.WalkKit
import Derived.WalkSpells
import Derived.WalkLawsBesides
import Derived.Lib.Hide
import Derived.Deep.WholeRow
namespace Go.Proofs.Ytnpgppenkpkfnaa
open Go.RowKit Ieee

/-- A turn, as a value. -/
def tv (k : Nat) : Value := .complex .f64 (trn k).1 (trn k).2

set_option maxHeartbeats 400000 in
theorem i_product (a b c d ac bd ad bc re im : Nat) (w : World) (h1 : floatBits .mul .f64 a c = some ac) (h2 : floatBits .mul .f64 b d = some bd) (h3 : floatBits .mul .f64 a d = some ad) (h4 : floatBits .mul .f64 b c = some bc)
    (h5 : floatBits .sub .f64 ac bd = some re) (h6 : floatBits .add .f64 ad bc = some im) :
    Calls Try.prog 84 #[.complex .f64 a b, .complex .f64 c d] w fun e w' => e = .returned (.complex .f64 re im) ∧ w = w' := by
  have q1 := fun w => run_float_arith (P := Try.prog) w .mul 89 .f64 _ _ _ h1
  have q2 := fun w => run_float_arith (P := Try.prog) w .mul 89 .f64 _ _ _ h2
  have q3 := fun w => run_float_arith (P := Try.prog) w .mul 89 .f64 _ _ _ h3
  have q4 := fun w => run_float_arith (P := Try.prog) w .mul 89 .f64 _ _ _ h4
  have q5 := fun w => run_float_arith (P := Try.prog) w .sub 89 .f64 _ _ _ h5
  have q6 := fun w => run_float_arith (P := Try.prog) w .add 89 .f64 _ _ _ h6
  clear h1 h2 h3 h4 h5 h6
  go_enter Try.func84, Try.ntmps84
  go_wp2
  go_ret
  exact ⟨rfl, rfl⟩
set_option maxHeartbeats 400000 in
theorem s_times (a b c d ac bd ad bc re im : Nat) (w : World) (h1 : floatBits .mul .f64 a c = some ac) (h2 : floatBits .mul .f64 b d = some bd) (h3 : floatBits .mul .f64 a d = some ad) (h4 : floatBits .mul .f64 b c = some bc)
    (h5 : floatBits .sub .f64 ac bd = some re) (h6 : floatBits .add .f64 ad bc = some im) :
    Calls Try.prog 78 #[.complex .f64 a b, .complex .f64 c d] w fun e w' => e = .returned (.complex .f64 re im) ∧ w = w' := by
  have q1 := fun w => run_float_arith (P := Try.prog) w .mul 89 .f64 _ _ _ h1
  have q2 := fun w => run_float_arith (P := Try.prog) w .mul 89 .f64 _ _ _ h2
  have q3 := fun w => run_float_arith (P := Try.prog) w .mul 89 .f64 _ _ _ h3
  have q4 := fun w => run_float_arith (P := Try.prog) w .mul 89 .f64 _ _ _ h4
  have q5 := fun w => run_float_arith (P := Try.prog) w .sub 89 .f64 _ _ _ h5
  have q6 := fun w => run_float_arith (P := Try.prog) w .add 89 .f64 _ _ _ h6
  clear h1 h2 h3 h4 h5 h6
  go_enter Try.func78, Try.ntmps78
  go_wp2
  go_ret
  exact ⟨rfl, rfl⟩
/-- What the checks of the table say of each turn. -/
theorem chkW_at : ∀ (l : List (Nat × Nat)) (j : Nat), chkW l = true → (∀ t, l[0]? = some t → t = trn j) → ∀ i t, l[i]? = some t → t = trn (j + i) ∧ okT t = true
  | [], _, _, _, i, t, h => by simp at h
  | t0 :: ts, j, hc, h0, i, t, h => by
    rw [chkW.eq_def] at hc
    simp only [Bool.and_eq_true] at hc
    obtain ⟨⟨c1, c2⟩, c3⟩ := hc
    have e0 := h0 t0 rfl
    cases i with
    | zero =>
      have : t0 = t := by simpa using h
      subst this
      exact ⟨e0, c1⟩
    | succ i =>
      have h' : ts[i]? = some t := by simpa using h
      have hnext : ∀ u, ts[0]? = some u → u = trn (j + 1) := fun u hu => by
        cases ts with
        | nil => simp at hu
        | cons v vs =>
          have : v = u := by simpa using hu
          subst this
          simp only [Bool.and_eq_true] at c2
          have e1 := Nat.eq_of_beq_eq_true c2.1
          have e2 := Nat.eq_of_beq_eq_true c2.2
          rw [e0] at e1 e2
          exact (Prod.ext e1 e2).symm
      have := chkW_at ts (j + 1) c3 hnext i t h'
      rw [show j + 1 + i = j + (i + 1) by omega] at this
      exact this
set_option maxRecDepth 100000 in
theorem tab_at (k : Nat) (hk : k < 360) : tabW[k]? = some (trn k) ∧ okT (trn k) = true := by
  have hl := tab_len
  have h : tabW[k]? = some tabW[k] := List.getElem?_eq_getElem (by omega)
  have h0 : ∀ t, tabW[0]? = some t → t = trn 0 := fun t ht => by
    have e : tabW[0]? = some (trn 0) := by kernel_rfl
    rw [e] at ht
    exact (Option.some.inj ht).symm
  obtain ⟨e, o⟩ := chkW_at tabW 0 chkW_tab h0 k _ h
  rw [Nat.zero_add] at e
  rw [h, e]
  rw [e] at o
  exact ⟨rfl, o⟩
theorem some_getD {o : Option Nat} (h : o.isSome = true) : o = some (o.getD 0) := by cases o with
  | none => cases h
  | some a => rfl
/-- All that the walk asks of one degree more. -/
theorem trn_ops (k : Nat) (hk : k < 360) : ∃ ac bd ad' bc, floatBits .mul .f64 (trn k).1 4607181046959943561 = some ac ∧ floatBits .mul .f64 (trn k).2 4580687535080594718 = some bd ∧ floatBits .mul .f64 (trn k).1 4580687535080594718 = some ad' ∧
    floatBits .mul .f64 (trn k).2 4607181046959943561 = some bc ∧ floatBits .sub .f64 ac bd = some (trn (k + 1)).1 ∧ floatBits .add .f64 ad' bc = some (trn (k + 1)).2 := by
  have h := (tab_at k hk).2
  unfold okT at h
  simp only [Bool.and_eq_true] at h
  obtain ⟨⟨⟨⟨⟨h1, h2⟩, h3⟩, h4⟩, h5⟩, h6⟩ := h
  exact ⟨_, _, _, _, some_getD h1, some_getD h2, some_getD h3, some_getD h4, some_getD h5, some_getD h6⟩

theorem s_step (w : World) : Calls Try.prog 79 #[] w fun e w' => e = .returned (.complex .f64 4607181046959943561 4580687535080594718) ∧ w = w' := by
  go_enter Try.func79, Try.ntmps79
  go_wp2
  go_ret
  exact ⟨rfl, rfl⟩
set_option maxRecDepth 100000 in
set_option maxHeartbeats 1000000 in
theorem s_turn (n : Int) (w : World) :
    Calls Try.prog 66 #[.int .i64 n] w fun e w' => e = .returned (tv (n % 360).toNat) ∧ w = w' := by
  obtain ⟨m, hm⟩ : ∃ m : Nat, m = (n % 360).toNat := ⟨_, rfl⟩
  have hm2 : n % 360 = (m : Int) := by omega
  have hm3 : m < 360 := by omega
  rw [← hm]
  unfold tv
  clear hm
  go_enter Try.func66, Try.ntmps66
  go_wp2_with fail
  refine (s_deg n _).mono ?_
  rintro e w1 ⟨rfl, rfl⟩
  rw [hm2]
  clear hm2
  go_wp2
  go_loop [3, 4] (fun z i => ∃ k : Nat, k ≤ m ∧ i = .int .i64 ((m : Int) - (k : Int)) ∧ z = .complex .f64 (trn k).1 (trn k).2) (fun _ i => (intOf i).toNat)
  case atStart => exact ⟨0, by omega, by go_num, rfl⟩
  case round =>
    obtain ⟨k, hk, rfl, rfl⟩ := hrel
    by_cases hlt : k < m
    · obtain ⟨ac, bd, ad', bc, h1, h2, h3, h4, h5, h6⟩ := trn_ops k (by omega)
      have ht := fun w => s_times _ _ _ _ _ _ _ _ _ _ w h1 h2 h3 h4 h5 h6
      clear h1 h2 h3 h4 h5 h6
      generalize hz : trn (k + 1) = z at *
      generalize trn k = t at *
      have k1 : (k : Int) < (m : Int) := by omega
      go_wp2_with (first
        | (go_at_call 79; ((with_reducible refine (s_step _).mono ?_); rintro e w' ⟨rfl, rfl⟩))
        | (go_at_call 78; ((with_reducible refine (ht _).mono ?_); rintro e w' ⟨rfl, rfl⟩)))
      go_round
      case rel => exact ⟨k + 1, by omega, by go_num, by rw [hz]⟩
      case measure => simp [intOf]; omega
    · obtain rfl : k = m := by omega
      go_wp2
      go_ret
      exact ⟨rfl, rfl⟩
end Go.Proofs.Ytnpgppenkpkfnaa

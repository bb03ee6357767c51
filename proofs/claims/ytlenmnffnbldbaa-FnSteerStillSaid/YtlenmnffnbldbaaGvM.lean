/- The walk of the law FnSteerStill. -/
import Derived.Test.YtlenmnffnbldbaaGvL
import Derived.Test.YtlenmnffnbldbaaGvI
namespace Go.Proofs.Ytlenmnffnbldbaa
open Go.RowKit Ieee
set_option linter.unusedVariables false
set_option linter.unusedSimpArgs false

theorem hlfS_num : S.f32.read 1056964608 = .number false 8388608 (-24) := by kernel_rfl
theorem hlfS_val : 2 * S.fval 1056964608 = (S.oneV : Int) := by
  have hf := S.fixE_eq
  unfold S.fval; rw [hlfS_num]; show 2 * signed false 8388608 (-24 + 149 : Int).toNat = _
  rw [show (-24 + 149 : Int).toNat = S.fixE - 24 by omega, signed_eq]
  show 2 * ((8388608 * 2 ^ (S.fixE - 24) : Nat) : Int) = ((S.oneV : Nat) : Int)
  have h : S.oneV = 2 * (8388608 * 2 ^ (S.fixE - 24)) := by
    unfold S.oneV
    rw [show (8388608 : Nat) = 2 ^ 23 from rfl, ← Nat.pow_add, Nat.mul_comm, ← Nat.pow_succ]
    exact congrArg (fun z => 2 ^ z) (by omega)
  rw [h]
  omega
/-- Whether a speed is one half at least, and a boat's. -/
theorem half_flag (k : Nat) (hk : k < 4294967296) : ∃ t u : Bool, ((t && u) = true ↔ (okBs k ∧ (S.oneV : Int) ≤ 2 * S.fval k)) ∧
    (FloatKind.f32.format.order k 1056964608 == some .gt || FloatKind.f32.format.order k 1056964608 == some .eq) = t ∧
    (FloatKind.f32.format.order k 1112014848 == some .lt || FloatKind.f32.format.order k 1112014848 == some .eq) = u := by
  have h0 := S.isNum_of hlfS_num
  have h1 := S.isNum_of fifty_num
  have hv := hlfS_val
  by_cases hE : S.expo k < 255
  · have hn := S.num_of_expo hk hE
    rw [sord_num hn h0, sord_num hn h1, fifty_val]
    refine ⟨_, _, ?_, rfl, rfl⟩
    rw [Bool.and_eq_true, S.cmp_flag]
    have hg : ((some (compare (S.fval k) (S.fval 1056964608)) == some Ordering.gt || some (compare (S.fval k) (S.fval 1056964608)) == some .eq) = true) ↔ S.fval 1056964608 ≤ S.fval k := by
      rcases Int.lt_trichotomy (S.fval k) (S.fval 1056964608) with h | h | h
      · rw [Int.compare_eq_lt.2 h]; simp; omega
      · rw [Int.compare_eq_eq.2 h]; simp; omega
      · rw [Int.compare_eq_gt.2 h]; simp; omega
    rw [hg]
    have hO := oneS_pos
    unfold okBs
    constructor
    · rintro ⟨a, b⟩
      exact ⟨⟨hk, hn, by omega, b⟩, by omega⟩
    · rintro ⟨⟨_, _, _, b⟩, c⟩
      exact ⟨by omega, b⟩
  · have hE2 : S.expo k = 255 := by have := S.expo_le k; omega
    have hno : ¬ (okBs k ∧ (S.oneV : Int) ≤ 2 * S.fval k) := fun h => hE (S.expo_of_num hk h.1.2.1)
    rcases S.read_full hk hE2 with h | ⟨b, h⟩
    · have e2 : FloatKind.f32.format.order k 1056964608 = some (if S.sneg k then .lt else .gt) := S.order_inf h h0
      have e3 : FloatKind.f32.format.order k 1112014848 = some (if S.sneg k then .lt else .gt) := S.order_inf h h1
      rw [e2, e3]
      refine ⟨_, _, ?_, rfl, rfl⟩
      cases S.sneg k <;> simp [hno]
    · have e2 : ∀ z, FloatKind.f32.format.order k z = none := fun z => S.order_nan h z
      rw [e2, e2]
      exact ⟨false, false, by simp [hno], rfl, rfl⟩

set_option maxRecDepth 100000 in
set_option maxHeartbeats 4000000 in
theorem w_FnSteerStill (a0 : Option Addr) (len cap : Nat) (zs : List Int) (w : World) (hr : IsRow .u8 w a0 len cap zs) :
    Calls Try.prog 3 #[.slice a0 len cap] w fun e w' => e = .returned (.bool true) ∧ Below w.heap.size w w' := by
  by_cases hbig : len ≤ 1048576
  · have hcode := code_of_row hr hbig
    go_enter Try.func3, Try.ntmps3
    go_wp2_with (first
      | (go_at_call 12; go_in)
      | fail)
    refine (d_steer _ len cap a0 hcode).mono ?_
    rintro e w1 ⟨t, s, u, v, sl, ul, vl, rfl, b1⟩
    obtain ⟨f1, f2, hf, g1, g2⟩ := half_flag s sl
    by_cases hgood : okBs s ∧ (S.oneV : Int) ≤ 2 * S.fval s
    · have h2 := hf.2 hgood
      rw [Bool.and_eq_true] at h2
      obtain ⟨rfl, rfl⟩ := h2
      obtain ⟨hs, hh⟩ := hgood
      have hj := dg_lt t
      have hst := st_is hs hh hj
      have e1 : stN s 0 0 (dg t) = ((dg t : Nat) : Int) := by unfold stN; rw [hst]; rfl
      have e2 : stB s 0 0 (dg t) = true := by unfold stB; rw [hst]; rfl
      have ci := fun w => i_steer t s 0 0 w hs okV_zero
      rw [e1, e2] at ci
      have ld := fun w => l_deg t w
      have hdh : t % 360 = ((dg t : Nat) : Int) := by unfold dg; omega
      rw [hdh] at ld
      clear hf hst e1 e2 hdh hh
      go_wp2_with fail
      refine (ci _).mono ?_
      rintro e w2 ⟨rfl, c2⟩
      have b2 := b1.trans (c2.mono b1.size)
      clear c2
      go_wp2_with (go_at_call 15; ((with_reducible refine (ld _).mono ?_); rintro e w' ⟨rfl, rfl⟩))
      go_ret
      exact ⟨rfl, b2⟩
    · have hb : (f1 && f2) = false := by
        cases h : (f1 && f2)
        · rfl
        · exact absurd (hf.1 h) hgood
      clear hf hgood
      have fin : ∃ (n : Int) (o : Bool), (∀ w, Calls Try.prog 14 #[.int .i64 t, .float .f32 s, .complex .f32 0 0] w fun e w' => e = .returned (.tuple #[.int .i64 n, .bool o]) ∧ Below w.heap.size w w') ∧ (o = true ∨ n = 0) := by
        by_cases hs : okBs s
        · refine ⟨_, _, fun w => i_steer t s 0 0 w hs okV_zero, ?_⟩
          cases h : stB s 0 0 (dg t)
          · exact .inr (stB_false h).1
          · exact .inl rfl
        · exact ⟨0, false, fun w => i_steer_no t s 0 0 w sl (by decide) (by decide) (fun h => hs h.1), .inr rfl⟩
      obtain ⟨n, o, ci, ho⟩ := fin
      cases f1 <;> cases f2
      all_goals first
        | (cases hb; done)
        | (clear hb
           cases o
           · obtain rfl : n = 0 := by rcases ho with h | h; cases h; exact h
             clear ho
             go_wp2_with fail
             refine (ci _).mono ?_
             rintro e w2 ⟨rfl, c2⟩
             have b2 := b1.trans (c2.mono b1.size)
             clear c2
             go_wp2
             go_ret
             exact ⟨rfl, b2⟩
           · clear ho
             go_wp2_with fail
             refine (ci _).mono ?_
             rintro e w2 ⟨rfl, c2⟩
             have b2 := b1.trans (c2.mono b1.size)
             clear c2
             go_wp2
             go_ret
             exact ⟨rfl, b2⟩)
  · go_enter Try.func3, Try.ntmps3
    go_wp2
    go_ret
    exact ⟨rfl, Below.refl _ _⟩
end Go.Proofs.Ytlenmnffnbldbaa

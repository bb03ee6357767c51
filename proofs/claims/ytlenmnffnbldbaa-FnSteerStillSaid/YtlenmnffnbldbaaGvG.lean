/- The walk of Steer (spec). -/
import Derived.Test.YtlenmnffnbldbaaGvE
namespace Go.Proofs.Ytlenmnffnbldbaa
open Go.RowKit Ieee
set_option linter.unusedVariables false
set_option linter.unusedSimpArgs false

theorem amt_is {x : Nat} (hx : x < 18446744073709551616) (h : isNum x) : isNum (amtW x) ∧ fval (amtW x) = ((fval x).natAbs : Int) := by
  obtain ⟨an, av⟩ := abs_num hx h
  unfold amtW
  rw [order_val h (isNum_of nought_num), nought_val]
  rcases Int.lt_or_le (fval x) 0 with k | k
  · rw [if_pos (congrArg some (Int.compare_eq_lt.2 k))]; exact ⟨an, av⟩
  · rw [if_neg (fun he => by injection he with he; have := Int.compare_eq_lt.1 he; omega)]; exact ⟨h, by omega⟩
theorem amt_order {s u v j m k : Nat} (hs : okBs s) (hv : okV u v) (hj : j < 360) (hm : m < 360) (hk : k < 360) :
    FloatKind.f64.format.order (amtW (ofW s u v j k)) (amtW (ofW s u v j m)) = some (compare ((offX s u v j k : Nat) : Int) ((offX s u v j m : Nat) : Int)) := by
  have D := dc_grd hs hj hk hv
  have E := dc_grd hs hj hm hv
  obtain ⟨a1, a2⟩ := amt_is D.cl D.cn
  obtain ⟨b1, b2⟩ := amt_is E.cl E.cn
  have o := order_val a1 b1
  rw [a2, b2] at o
  exact o
theorem may_true {s u v j k : Nat} (h : mayP s u v j k = true) : FloatKind.f64.format.order (alW s u v j k) 0 = some .gt := by
  unfold mayP at h
  exact eq_of_beq h
theorem may_false {s u v j k : Nat} (hs : okBs s) (hv : okV u v) (hj : j < 360) (hk : k < 360) (h : mayP s u v j k = false) :
    (FloatKind.f64.format.order (alW s u v j k) 0 == some .lt || FloatKind.f64.format.order (alW s u v j k) 0 == some .eq) = true := by
  have D := dc_grd hs hj hk hv
  have o : FloatKind.f64.format.order (alW s u v j k) 0 = some (compare (fval (alW s u v j k)) 0) := by
    have := order_val D.dn (isNum_of nought_num)
    rw [nought_val] at this
    exact this
  have h2 : (FloatKind.f64.format.order (alW s u v j k) 0 == some .gt) = false := h
  rw [o] at h2 ⊢
  rcases Int.lt_trichotomy (fval (alW s u v j k)) 0 with h | h | h
  · rw [Int.compare_eq_lt.2 h]; rfl
  · rw [Int.compare_eq_eq.2 h]; rfl
  · rw [Int.compare_eq_gt.2 h] at h2; cases h2
/-- What the model keeps of the search. -/
def KeepS (s u v j : Nat) (o : Option Nat) (a b : Value) : Prop :=
  (o = none ∧ a = .int .i64 (-1) ∧ b = .float .f64 0) ∨ (∃ m, o = some m ∧ a = .int .i64 m ∧ b = .float .f64 (amtW (ofW s u v j m)))

set_option maxRecDepth 100000 in
set_option maxHeartbeats 4000000 in
theorem s_steer (t : Int) (s u v : Nat) (w : World) (hs : okBs s) (hv : okV u v) :
    Calls Try.prog 19 #[.int .i64 t, .float .f32 s, .complex .f32 u v] w fun e w' => e = .returned (.tuple #[.int .i64 (stN s u v (dg t)), .bool (stB s u v (dg t))]) ∧ w = w' := by
  have hj := dg_lt t
  have CA := Lib.hid (fun (k : Nat) (hk : k < 360) => (show ∀ w, Calls Try.prog 53 #[.int .i64 t, .int .i64 k, .float .f32 s, .complex .f32 u v] w fun e w' => e = .returned (.tuple #[.float .f64 (alW s u v (dg t) k), .bool true]) ∧ w = w' from fun w => by
    have := s_along t (k : Int) s u v w hs hv
    rw [show dg (k : Int) = k by unfold dg; omega] at this
    exact this))
  have CO := Lib.hid (fun (k : Nat) (hk : k < 360) => (show ∀ w, Calls Try.prog 54 #[.int .i64 t, .int .i64 k, .float .f32 s, .complex .f32 u v] w fun e w' => e = .returned (.tuple #[.float .f64 (ofW s u v (dg t) k), .bool true]) ∧ w = w' from fun w => by
    have := s_off t (k : Int) s u v w hs hv
    rw [show dg (k : Int) = k by unfold dg; omega] at this
    exact this))
  generalize dg t = j at *
  go_enter Try.func19, Try.ntmps19
  go_wp2_with fail
  go_loopw [8, 9, 10] (fun a b i wr => ∃ k : Nat, k ≤ 360 ∧ i = .int .i64 k ∧ KeepS s u v j (bsF (mayP s u v j) (offX s u v j) k) a b ∧ wr = w) (fun _ _ i _ => 360 - (intOf i).toNat)
  case atStart => exact ⟨0, by omega, rfl, .inl ⟨rfl, rfl, rfl⟩, rfl⟩
  case round =>
    obtain ⟨k, hk, rfl, hkeep, rfl⟩ := hrel
    by_cases hlt : k < 360
    · have k1 : (k : Int) < 360 := by omega
      have k0 : (0 : Int) ≤ (k : Int) := by omega
      have ca := CA.out k hlt
      have co := CO.out k hlt
      have cam := fun w => s_amount (ofW s u v j k) w (dc_grd hs hj hlt hv).cl
      cases hp : mayP s u v j k
      · have hle := may_false hs hv hj hlt hp
        have HS : Hid (bsF (mayP s u v j) (offX s u v j) (k + 1) = bsF (mayP s u v j) (offX s u v j) k) := Lib.hid (by
          cases ho : bsF (mayP s u v j) (offX s u v j) k with
          | none => rw [bsF_none_step ho, hp, if_neg (by decide)]
          | some b => rw [bsF_some_step ho, hp, Bool.false_and, if_neg (by decide)])
        have HK := Lib.hid hkeep
        clear hp
        rcases hkeep with ⟨ho, rfl, rfl⟩ | ⟨m, ho, rfl, rfl⟩
        all_goals
          clear ho
          go_wp2_with (go_at_call 53; ((with_reducible refine (ca _).mono ?_); rintro e w' ⟨rfl, rfl⟩))
          go_roundw
          case rel => exact ⟨k + 1, by omega, by go_num, by rw [HS.out]; exact HK.out, by trivial⟩
          case measure => simp [intOf]; omega
      · have hgt := may_true hp
        rcases hkeep with ⟨ho, rfl, rfl⟩ | ⟨m, ho, rfl, rfl⟩
        · have HS := Lib.hid (show bsF (mayP s u v j) (offX s u v j) (k + 1) = some k by rw [bsF_none_step ho, hp, if_pos rfl])
          clear ho hp
          go_wp2_with (first
            | (go_at_call 53; ((with_reducible refine (ca _).mono ?_); rintro e w' ⟨rfl, rfl⟩))
            | (go_at_call 54; ((with_reducible refine (co _).mono ?_); rintro e w' ⟨rfl, rfl⟩))
            | (go_at_call 55; ((with_reducible refine (cam _).mono ?_); rintro e w' ⟨rfl, rfl⟩)))
          go_roundw
          case rel => exact ⟨k + 1, by omega, by go_num, .inr ⟨k, HS.out, rfl, rfl⟩, by trivial⟩
          case measure => simp [intOf]; omega
        · have hm : m < 360 := by have := (bsF_some ho).1; omega
          have hor := amt_order hs hv hj hm hlt
          have m0 : (0 : Int) ≤ (m : Int) := by omega
          by_cases hc : offX s u v j k < offX s u v j m
          · have HS := Lib.hid (show bsF (mayP s u v j) (offX s u v j) (k + 1) = some k by rw [bsF_some_step ho, hp, decide_eq_true hc, Bool.true_and, if_pos rfl])
            rw [Int.compare_eq_lt.2 (by omega)] at hor
            clear ho hp hc
            generalize hfk : amtW (ofW s u v j k) = fk at *
            generalize amtW (ofW s u v j m) = fm at *
            have HF := Lib.hid hfk
            clear hfk
            go_wp2_with (first
              | (go_at_call 53; ((with_reducible refine (ca _).mono ?_); rintro e w' ⟨rfl, rfl⟩))
              | (go_at_call 54; ((with_reducible refine (co _).mono ?_); rintro e w' ⟨rfl, rfl⟩))
              | (go_at_call 55; ((with_reducible refine (cam _).mono ?_); rintro e w' ⟨rfl, rfl⟩)))
            go_roundw
            case rel => exact ⟨k + 1, by omega, by go_num, .inr ⟨k, HS.out, rfl, by rw [HF.out]⟩, by trivial⟩
            case measure => simp [intOf]; omega
          · have HS := Lib.hid (show bsF (mayP s u v j) (offX s u v j) (k + 1) = some m by rw [bsF_some_step ho, hp, decide_eq_false hc, Bool.true_and, if_neg (by decide)])
            have hor2 : (FloatKind.f64.format.order (amtW (ofW s u v j k)) (amtW (ofW s u v j m)) == some .lt) = false := by
              rw [hor]
              rcases Nat.lt_trichotomy (offX s u v j k) (offX s u v j m) with h | h | h
              · exact absurd h hc
              · rw [Int.compare_eq_eq.2 (by omega)]; rfl
              · rw [Int.compare_eq_gt.2 (by omega)]; rfl
            clear ho hp hc hor
            generalize amtW (ofW s u v j k) = fk at *
            generalize hfm : amtW (ofW s u v j m) = fm at *
            have HF := Lib.hid hfm
            clear hfm
            go_wp2_with (first
              | (go_at_call 53; ((with_reducible refine (ca _).mono ?_); rintro e w' ⟨rfl, rfl⟩))
              | (go_at_call 54; ((with_reducible refine (co _).mono ?_); rintro e w' ⟨rfl, rfl⟩))
              | (go_at_call 55; ((with_reducible refine (cam _).mono ?_); rintro e w' ⟨rfl, rfl⟩)))
            go_roundw
            case rel => exact ⟨k + 1, by omega, by go_num, .inr ⟨m, HS.out, rfl, by rw [HF.out]⟩, by trivial⟩
            case measure => simp [intOf]; omega
    · obtain rfl : k = 360 := by omega
      rcases hkeep with ⟨ho, rfl, rfl⟩ | ⟨m, ho, rfl, rfl⟩
      · have e1 : stN s u v j = 0 := by unfold stN stW; rw [ho]; rfl
        have e2 : stB s u v j = false := by unfold stB stW; rw [ho]; rfl
        go_wp2
        go_ret2
        exact ⟨by rw [e1, e2]; rfl, rfl⟩
      · have e1 : stN s u v j = (m : Int) := by unfold stN stW; rw [ho]; rfl
        have e2 : stB s u v j = true := by unfold stB stW; rw [ho]; rfl
        have m0 : (0 : Int) ≤ (m : Int) := by omega
        go_wp2
        go_ret2
        exact ⟨by rw [e1, e2]; rfl, rfl⟩

set_option maxRecDepth 100000 in
set_option maxHeartbeats 2000000 in
theorem s_steer_no (t : Int) (s u v : Nat) (w : World) (hl : s < 4294967296) (hu : u < 4294967296) (hvl : v < 4294967296) (hno : ¬ (okBs s ∧ okV u v)) :
    Calls Try.prog 19 #[.int .i64 t, .float .f32 s, .complex .f32 u v] w fun e w' => e = .returned (.tuple #[.int .i64 0, .bool false]) ∧ w = w' := by
  have CA := fun (k : Int) w => s_along_no t k s u v w hl hu hvl hno
  clear hno
  go_enter Try.func19, Try.ntmps19
  go_wp2_with fail
  go_loopw [8, 9, 10] (fun a b i wr => ∃ k : Nat, k ≤ 360 ∧ i = .int .i64 k ∧ a = .int .i64 (-1) ∧ b = .float .f64 0 ∧ wr = w) (fun _ _ i _ => 360 - (intOf i).toNat)
  case atStart => exact ⟨0, by omega, rfl, rfl, rfl, rfl⟩
  case round =>
    obtain ⟨k, hk, rfl, rfl, rfl, rfl⟩ := hrel
    by_cases hlt : k < 360
    · have k1 : (k : Int) < 360 := by omega
      have k0 : (0 : Int) ≤ (k : Int) := by omega
      go_wp2_with (go_at_call 53; ((with_reducible refine (CA _ _).mono ?_); rintro e w' ⟨rfl, rfl⟩))
      go_roundw
      case rel => exact ⟨k + 1, by omega, by go_num, rfl, rfl, by trivial⟩
      case measure => simp [intOf]; omega
    · obtain rfl : k = 360 := by omega
      go_wp2
      go_ret2
      exact ⟨rfl, rfl⟩
end Go.Proofs.Ytlenmnffnbldbaa

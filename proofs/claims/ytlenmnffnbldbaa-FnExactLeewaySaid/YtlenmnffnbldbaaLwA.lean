/- Wind sides and leeway: the walks of l01In, WindSide and Leeway (impl and spec), of the drawing, and of the laws FnExactWindSide, FnExactLeeway and FnLeeward. -/
import Derived.Test.YtlenmnffnbldbaaDrG
namespace Go.Proofs.Ytlenmnffnbldbaa
open Go.RowKit
set_option linter.unusedVariables false
set_option linter.unusedSimpArgs false

theorem s_in (n a b : Int) (t : Bool) (w : World) (ht : t = decide (a ≤ n ∧ n ≤ b)) :
    Calls Try.prog 68 #[.int .i64 n, .int .i64 a, .int .i64 b] w fun e w' => e = .returned (.bool t) ∧ w = w' := by
  by_cases h1 : a ≤ n
  · by_cases h2 : n ≤ b
    · obtain rfl : t = true := by rw [ht]; exact decide_eq_true ⟨h1, h2⟩
      clear ht
      go_enter Try.func68, Try.ntmps68
      go_wp2
      go_ret
      exact ⟨rfl, rfl⟩
    · obtain rfl : t = false := by rw [ht]; exact decide_eq_false (fun h => h2 h.2)
      clear ht
      go_enter Try.func68, Try.ntmps68
      go_wp2
      go_ret
      exact ⟨rfl, rfl⟩
  · obtain rfl : t = false := by rw [ht]; exact decide_eq_false (fun h => h1 h.1)
    clear ht
    go_enter Try.func68, Try.ntmps68
    go_wp2
    go_ret
    exact ⟨rfl, rfl⟩

/-- The side of the wind. -/
def wsd (h f : Int) : Int := if asd h f < 0 then -1 else if asd h f = 0 ∨ asd h f = 180 then 0 else 1
theorem asd_bd (a b : Int) : -179 ≤ asd a b ∧ asd a b ≤ 180 := by unfold asd; split <;> omega
theorem wsd_bd (a b : Int) : -1 ≤ wsd a b ∧ wsd a b ≤ 1 := by unfold wsd; split; omega; split <;> omega

set_option maxHeartbeats 800000 in
theorem i_wsd (h f : Int) (w : World) :
    Calls Try.prog 24 #[.int .i64 h, .int .i64 f] w fun e w' => e = .returned (.int .i64 (wsd h f)) ∧ w = w' := by
  obtain ⟨d, hd⟩ : ∃ d, asd h f = d := ⟨_, rfl⟩
  obtain ⟨s, hs⟩ : ∃ s, wsd h f = s := ⟨_, rfl⟩
  have ca := fun w => i_asd h f w
  have hb := asd_bd h f
  have hw : s = if d < 0 then -1 else if d = 0 ∨ d = 180 then 0 else 1 := by rw [← hs, ← hd]; rfl
  rw [hs]
  rw [hd] at ca hb
  clear hd hs
  by_cases h0 : d < 0
  · rw [if_pos h0] at hw
    subst hw
    go_enter Try.func24, Try.ntmps24
    go_wp2_with (go_at_call 60; ((with_reducible refine (ca _).mono ?_); rintro e w' ⟨rfl, rfl⟩))
    go_ret
    exact ⟨rfl, rfl⟩
  · rw [if_neg h0] at hw
    have h00 : 0 ≤ d := by omega
    by_cases h1 : d = 0
    · rw [if_pos (.inl h1)] at hw
      subst hw h1
      clear h0
      go_enter Try.func24, Try.ntmps24
      go_wp2_with (go_at_call 60; ((with_reducible refine (ca _).mono ?_); rintro e w' ⟨rfl, rfl⟩))
      go_ret
      exact ⟨rfl, rfl⟩
    · by_cases h2 : d = 180
      · rw [if_pos (.inr h2)] at hw
        subst hw h2
        clear h0 h1
        go_enter Try.func24, Try.ntmps24
        go_wp2_with (go_at_call 60; ((with_reducible refine (ca _).mono ?_); rintro e w' ⟨rfl, rfl⟩))
        go_ret
        exact ⟨rfl, rfl⟩
      · rw [if_neg (by omega)] at hw
        subst hw
        have e1 : (d == 0) = false := by simpa using h1
        have e2 : (d == 180) = false := by simpa using h2
        clear h0
        go_enter Try.func24, Try.ntmps24
        go_wp2_with (go_at_call 60; ((with_reducible refine (ca _).mono ?_); rintro e w' ⟨rfl, rfl⟩))
        go_ret
        exact ⟨rfl, rfl⟩

set_option maxHeartbeats 800000 in
theorem s_wsd (h f : Int) (w : World) :
    Calls Try.prog 33 #[.int .i64 h, .int .i64 f] w fun e w' => e = .returned (.int .i64 (wsd h f)) ∧ w = w' := by
  obtain ⟨d, hd⟩ : ∃ d, asd h f = d := ⟨_, rfl⟩
  obtain ⟨s, hs⟩ : ∃ s, wsd h f = s := ⟨_, rfl⟩
  have ca := fun w => s_asd h f w
  have hb := asd_bd h f
  have hw : s = if d < 0 then -1 else if d = 0 ∨ d = 180 then 0 else 1 := by rw [← hs, ← hd]; rfl
  rw [hs]
  rw [hd] at ca hb
  clear hd hs
  by_cases h0 : d < 0
  · rw [if_pos h0] at hw
    subst hw
    have ci := fun w => s_in d 1 179 false w (by rw [eq_comm]; exact decide_eq_false (by omega))
    go_enter Try.func33, Try.ntmps33
    go_wp2_with (first | (go_at_call 67; ((with_reducible refine (ca _).mono ?_); rintro e w' ⟨rfl, rfl⟩)) | (go_at_call 68; ((with_reducible refine (ci _).mono ?_); rintro e w' ⟨rfl, rfl⟩)))
    go_ret
    exact ⟨rfl, rfl⟩
  · rw [if_neg h0] at hw
    have h00 : 0 ≤ d := by omega
    by_cases h1 : d = 0 ∨ d = 180
    · rw [if_pos h1] at hw
      subst hw
      have ci := fun w => s_in d 1 179 false w (by rw [eq_comm]; exact decide_eq_false (by omega))
      clear h0 h1
      go_enter Try.func33, Try.ntmps33
      go_wp2_with (first | (go_at_call 67; ((with_reducible refine (ca _).mono ?_); rintro e w' ⟨rfl, rfl⟩)) | (go_at_call 68; ((with_reducible refine (ci _).mono ?_); rintro e w' ⟨rfl, rfl⟩)))
      go_ret
      exact ⟨rfl, rfl⟩
    · rw [if_neg h1] at hw
      subst hw
      have ci := fun w => s_in d 1 179 true w (by rw [eq_comm]; exact decide_eq_true (by omega))
      clear h0 h1
      go_enter Try.func33, Try.ntmps33
      go_wp2_with (first | (go_at_call 67; ((with_reducible refine (ca _).mono ?_); rintro e w' ⟨rfl, rfl⟩)) | (go_at_call 68; ((with_reducible refine (ci _).mono ?_); rintro e w' ⟨rfl, rfl⟩)))
      go_ret
      exact ⟨rfl, rfl⟩

/-- The heading that leeway makes. -/
def lwy (h f n : Int) : Int := (h % 360 - n * wsd h f) % 360
def LwOk (n : Int) : Prop := 0 ≤ n ∧ n ≤ 30
theorem lw_mul {n s : Int} (hn : LwOk n) (hs : -1 ≤ s ∧ s ≤ 1) : -30 ≤ n * s ∧ n * s ≤ 30 := by
  obtain ⟨n0, n1⟩ := hn
  obtain rfl | rfl | rfl : s = -1 ∨ s = 0 ∨ s = 1 := by omega
  all_goals omega

set_option maxHeartbeats 800000 in
theorem i_lwy (h f n : Int) (w : World) (hn : LwOk n) :
    Calls Try.prog 22 #[.int .i64 h, .int .i64 f, .int .i64 n] w fun e w' => e = .returned (.tuple #[.int .i64 (lwy h f n), .bool true]) ∧ w = w' := by
  have hm := lw_mul hn (wsd_bd h f)
  obtain ⟨n0, n1⟩ := hn
  have ca := fun w => i_wsd h f w
  have c1 := fun w => i_deg h w
  have c2 := fun w => i_deg (h % 360 - n * wsd h f) w
  have hx : 0 ≤ h % 360 ∧ h % 360 < 360 := by omega
  unfold lwy
  generalize wsd h f = s at *
  generalize h % 360 = x at *
  obtain ⟨r, hr⟩ : ∃ r, (x - n * s) % 360 = r := ⟨_, rfl⟩
  rw [hr] at c2 ⊢
  clear hr
  go_enter Try.func22, Try.ntmps22
  go_wp2_with (first
    | (go_at_call 24; ((with_reducible refine (ca _).mono ?_); rintro e w' ⟨rfl, rfl⟩))
    | (go_at_call 39; ((with_reducible refine (c1 _).mono ?_); rintro e w' ⟨rfl, rfl⟩))
    | (go_at_call 39; ((with_reducible refine (c2 _).mono ?_); rintro e w' ⟨rfl, rfl⟩)))
  go_ret2
  exact ⟨rfl, rfl⟩
set_option maxHeartbeats 800000 in
theorem i_lwy_no (h f n : Int) (w : World) (hn : ¬ LwOk n) :
    Calls Try.prog 22 #[.int .i64 h, .int .i64 f, .int .i64 n] w fun e w' => e = .returned (.tuple #[.int .i64 0, .bool false]) ∧ w = w' := by
  unfold LwOk at hn
  by_cases h0 : n < 0
  · clear hn
    go_enter Try.func22, Try.ntmps22
    go_wp2
    go_ret2
    exact ⟨rfl, rfl⟩
  · have h1 : 30 < n := by omega
    have h00 : 0 ≤ n := by omega
    clear hn
    go_enter Try.func22, Try.ntmps22
    go_wp2
    go_ret2
    exact ⟨rfl, rfl⟩
set_option maxHeartbeats 800000 in
theorem s_lwy (h f n : Int) (w : World) (hn : LwOk n) :
    Calls Try.prog 34 #[.int .i64 h, .int .i64 f, .int .i64 n] w fun e w' => e = .returned (.tuple #[.int .i64 (lwy h f n), .bool true]) ∧ w = w' := by
  have hm := lw_mul hn (wsd_bd h f)
  have ci := fun w => s_in n 0 30 true w (by rw [eq_comm]; exact decide_eq_true hn)
  obtain ⟨n0, n1⟩ := hn
  have ca := fun w => s_wsd h f w
  have c1 := fun w => s_deg h w
  have c2 := fun w => s_deg (h % 360 - n * wsd h f) w
  have hx : 0 ≤ h % 360 ∧ h % 360 < 360 := by omega
  unfold lwy
  generalize wsd h f = s at *
  generalize h % 360 = x at *
  obtain ⟨r, hr⟩ : ∃ r, (x - n * s) % 360 = r := ⟨_, rfl⟩
  rw [hr] at c2 ⊢
  clear hr
  go_enter Try.func34, Try.ntmps34
  go_wp2_with (first
    | (go_at_call 68; ((with_reducible refine (ci _).mono ?_); rintro e w' ⟨rfl, rfl⟩))
    | (go_at_call 33; ((with_reducible refine (ca _).mono ?_); rintro e w' ⟨rfl, rfl⟩))
    | (go_at_call 69; ((with_reducible refine (c1 _).mono ?_); rintro e w' ⟨rfl, rfl⟩))
    | (go_at_call 69; ((with_reducible refine (c2 _).mono ?_); rintro e w' ⟨rfl, rfl⟩)))
  go_ret2
  exact ⟨rfl, rfl⟩
set_option maxHeartbeats 800000 in
theorem s_lwy_no (h f n : Int) (w : World) (hn : ¬ LwOk n) :
    Calls Try.prog 34 #[.int .i64 h, .int .i64 f, .int .i64 n] w fun e w' => e = .returned (.tuple #[.int .i64 0, .bool false]) ∧ w = w' := by
  have ci := fun w => s_in n 0 30 false w (by rw [eq_comm]; exact decide_eq_false hn)
  clear hn
  go_enter Try.func34, Try.ntmps34
  go_wp2_with (go_at_call 68; ((with_reducible refine (ci _).mono ?_); rintro e w' ⟨rfl, rfl⟩))
  go_ret2
  exact ⟨rfl, rfl⟩

set_option maxHeartbeats 800000 in
theorem w_FnExactWindSide (h f : Int) (w : World) (_ : (Lit.int .i64 h).wf = true) (_ : (Lit.int .i64 f).wf = true) :
    Calls Try.prog 9 #[.int .i64 h, .int .i64 f] w fun e w' => e = .returned (.bool true) ∧ Below w.heap.size w w' := by
  go_enter Try.func9, Try.ntmps9
  go_wp2_with (first
    | (go_at_call 33; ((with_reducible refine (s_wsd _ _ _).mono ?_); rintro e w' ⟨rfl, rfl⟩))
    | (go_at_call 24; ((with_reducible refine (i_wsd _ _ _).mono ?_); rintro e w' ⟨rfl, rfl⟩)))
  go_ret
  exact ⟨rfl, Below.refl _ _⟩
set_option maxHeartbeats 800000 in
theorem w_FnExactLeeway (h f n : Int) (w : World) (_ : (Lit.int .i64 h).wf = true) (_ : (Lit.int .i64 f).wf = true) (_ : (Lit.int .i64 n).wf = true) :
    Calls Try.prog 10 #[.int .i64 h, .int .i64 f, .int .i64 n] w fun e w' => e = .returned (.bool true) ∧ Below w.heap.size w w' := by
  by_cases hok : LwOk n
  · go_enter Try.func10, Try.ntmps10
    go_wp2_with (first
      | (go_at_call 34; ((with_reducible refine (s_lwy _ _ _ _ hok).mono ?_); rintro e w' ⟨rfl, rfl⟩))
      | (go_at_call 22; ((with_reducible refine (i_lwy _ _ _ _ hok).mono ?_); rintro e w' ⟨rfl, rfl⟩)))
    go_ret
    exact ⟨rfl, Below.refl _ _⟩
  · go_enter Try.func10, Try.ntmps10
    go_wp2_with (first
      | (go_at_call 34; ((with_reducible refine (s_lwy_no _ _ _ _ hok).mono ?_); rintro e w' ⟨rfl, rfl⟩))
      | (go_at_call 22; ((with_reducible refine (i_lwy_no _ _ _ _ hok).mono ?_); rintro e w' ⟨rfl, rfl⟩)))
    go_ret
    exact ⟨rfl, Below.refl _ _⟩

set_option maxRecDepth 100000 in
set_option maxHeartbeats 1000000 in
theorem d_leeway (w : World) (len cap : Nat) (A : Option Addr) (hcode : Code w w.heap.size A len) :
    Calls Try.prog 21 #[.slice A len cap] w fun e w' => ∃ h f n : Int, e = .returned (.tuple #[.int .i64 h, .int .i64 f, .int .i64 n]) ∧ Below w.heap.size w w' := by
  go_enter Try.func21, Try.ntmps21
  go_wp2_with fail
  refine (d_new w w.heap.size len cap A (Nat.le_refl _) hcode).mono ?_
  rintro e w1 ⟨g, rfl, cur1, b1⟩
  go_wp2_with fail
  refine (d_degrees _ _ g len cap A cur1).mono ?_
  rintro e w2 ⟨a, a0, a1, rfl, cur2, gr2⟩
  have b2 := below_cur b1 (Nat.le_refl _) gr2 cur1.1
  go_wp2_with fail
  refine (d_degrees _ _ g len cap A cur2).mono ?_
  rintro e w3 ⟨b, c0, c1, rfl, cur3, gr3⟩
  have b3 := below_cur b2 (Nat.le_refl _) gr3 cur1.1
  go_wp2_with fail
  refine (d_once _ _ _ g len cap A cur3 (by omega)).mono ?_
  rintro e w4 ⟨t, rfl, cur4, gr4⟩
  have b4 := below_cur b3 (Nat.le_refl _) gr4 cur1.1
  cases t
  all_goals
    go_wp2_with fail
    refine (d_once _ _ _ g len cap A cur4 (by omega)).mono ?_
    rintro e w5 ⟨u, rfl, cur5, gr5⟩
    have b5 := below_cur b4 (Nat.le_refl _) gr5 cur1.1
    cases u
    · go_wp2_with fail
      refine (d_below _ _ _ g len cap A cur5 (by omega)).mono ?_
      rintro e w6 ⟨k, k0, k1, k2, rfl, cur6, gr6⟩
      have b6 := below_cur b5 (Nat.le_refl _) gr6 cur1.1
      clear k1 k2
      go_wp2
      go_ret3
      exact ⟨_, _, _, rfl, b6⟩
    · go_wp2_with fail
      refine (d_number _ _ g len cap A cur5).mono ?_
      rintro e w6 ⟨z, z0, z1, rfl, cur6, gr6⟩
      have b6 := below_cur b5 (Nat.le_refl _) gr6 cur1.1
      go_wp2
      go_ret3
      exact ⟨_, _, _, rfl, b6⟩

set_option maxRecDepth 100000 in
set_option maxHeartbeats 2000000 in
theorem w_FnLeeward (a0 : Option Addr) (len cap : Nat) (zs : List Int) (w : World) (hr : IsRow .u8 w a0 len cap zs) :
    Calls Try.prog 5 #[.slice a0 len cap] w fun e w' => e = .returned (.bool true) ∧ Below w.heap.size w w' := by
  by_cases hbig : len ≤ 1048576
  · have hcode := code_of_row hr hbig
    go_enter Try.func5, Try.ntmps5
    go_wp2_with (first
      | (go_at_call 12; go_in)
      | (go_at_call 21; ((with_reducible refine (d_leeway _ len cap a0 hcode).mono ?_); rintro e w1 ⟨h, f, n, rfl, b1⟩))
      | fail)
    by_cases hok : LwOk n
    · have hm := lw_mul hok (wsd_bd h f)
      obtain ⟨n0, n1⟩ := hok
      obtain ⟨k, hk⟩ : ∃ k, lwy h f n = k := ⟨_, rfl⟩
      obtain ⟨d, hd⟩ : ∃ d, btw h f = d := ⟨_, rfl⟩
      obtain ⟨m, hm9⟩ : ∃ m, btw k f = m := ⟨_, rfl⟩
      obtain ⟨s, hs⟩ : ∃ s, wsd h f = s := ⟨_, rfl⟩
      have hd0 : 0 ≤ d ∧ d ≤ 180 := by rw [← hd]; unfold btw; split <;> omega
      have hk0 : 0 ≤ k ∧ k < 360 := by rw [← hk]; unfold lwy; omega
      have key : (s = 0 ∧ k = h % 360 ∧ (d = 0 ∨ d = 180)) ∨ (s ≠ 0 ∧ ((d + n ≤ 180 ∧ m = d + n) ∨ (180 < d + n ∧ m = 360 - (d + n)))) := by
        have hs' := hs
        unfold wsd asd at hs'
        unfold lwy at hk
        rw [hs] at hk hm
        unfold btw at hd hm9
        obtain rfl | rfl | rfl : s = -1 ∨ s = 0 ∨ s = 1 := by have := wsd_bd h f; omega
        · right
          refine ⟨by omega, ?_⟩
          split at hd <;> split at hm9 <;> split at hs' <;> omega
        · left
          refine ⟨rfl, by omega, ?_⟩
          split at hd <;> split at hs' <;> omega
        · right
          refine ⟨by omega, ?_⟩
          split at hd <;> split at hm9 <;> split at hs' <;> omega
      have cl := fun w => i_lwy h f n w ⟨n0, n1⟩
      have cb := fun w => i_btw h f w
      have cc := fun w => i_btw k f w
      have cs := fun w => i_wsd h f w
      have cm := fun w => l_deg h w
      rw [hk] at cl
      rw [hd] at cb
      rw [hm9] at cc
      rw [hs] at cs
      clear hk hd hm9 hs hm
      generalize h % 360 = x at *
      rcases key with ⟨rfl, rfl, hd1⟩ | ⟨hs1, ⟨hd1, rfl⟩ | ⟨hd1, rfl⟩⟩
      · rcases hd1 with rfl | rfl
        all_goals
          go_wp2_with (first
            | (go_at_call 22; ((with_reducible refine (cl _).mono ?_); rintro e w' ⟨rfl, rfl⟩))
            | (go_at_call 23; ((with_reducible refine (cb _).mono ?_); rintro e w' ⟨rfl, rfl⟩))
            | (go_at_call 23; ((with_reducible refine (cc _).mono ?_); rintro e w' ⟨rfl, rfl⟩))
            | (go_at_call 24; ((with_reducible refine (cs _).mono ?_); rintro e w' ⟨rfl, rfl⟩))
            | (go_at_call 15; ((with_reducible refine (cm _).mono ?_); rintro e w' ⟨rfl, rfl⟩)))
          go_ret
          exact ⟨rfl, b1⟩
      all_goals
        have e0 : (s == 0) = false := by simpa using hs1
        go_wp2_with (first
          | (go_at_call 22; ((with_reducible refine (cl _).mono ?_); rintro e w' ⟨rfl, rfl⟩))
          | (go_at_call 23; ((with_reducible refine (cb _).mono ?_); rintro e w' ⟨rfl, rfl⟩))
          | (go_at_call 23; ((with_reducible refine (cc _).mono ?_); rintro e w' ⟨rfl, rfl⟩))
          | (go_at_call 24; ((with_reducible refine (cs _).mono ?_); rintro e w' ⟨rfl, rfl⟩))
          | (go_at_call 15; ((with_reducible refine (cm _).mono ?_); rintro e w' ⟨rfl, rfl⟩)))
        go_ret
        exact ⟨rfl, b1⟩
    · have cl := fun w => i_lwy_no h f n w hok
      unfold LwOk at hok
      by_cases h0 : n < 0
      · clear hok
        go_wp2_with (go_at_call 22; ((with_reducible refine (cl _).mono ?_); rintro e w' ⟨rfl, rfl⟩))
        go_ret
        exact ⟨rfl, b1⟩
      · have h1 : 30 < n := by omega
        have h00 : 0 ≤ n := by omega
        clear hok
        go_wp2_with (go_at_call 22; ((with_reducible refine (cl _).mono ?_); rintro e w' ⟨rfl, rfl⟩))
        go_ret
        exact ⟨rfl, b1⟩
  · go_enter Try.func5, Try.ntmps5
    go_wp2
    go_ret
    exact ⟨rfl, Below.refl _ _⟩
end Go.Proofs.Ytlenmnffnbldbaa

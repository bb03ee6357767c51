/- The walks of Length (impl and spec) and of spec.Bearing. -/
import Derived.Test.YtonoknbangnleaaDbt
import Derived.Test.YtonoknbangnleaaRtW
namespace Go.Proofs.Ytonoknbangnleaa
open Go.RowKit Ieee

/-- What Length answers. -/
def LenIs (z : Nat × Nat) (r : Nat) : Prop := (¬ (okP z.1 ∧ okP z.2) ∧ r = 0) ∨ (okP z.1 ∧ okP z.2 ∧ RootIs (dotW z z) r)
theorem len_ex (z : Nat × Nat) : ∃ r, LenIs z r := by
  by_cases h : okP z.1 ∧ okP z.2
  · obtain ⟨r, hr⟩ := root_ex (dotW z z)
    exact ⟨r, .inr ⟨h.1, h.2, hr⟩⟩
  · exact ⟨0, .inl ⟨h, rfl⟩⟩

set_option maxRecDepth 100000 in
set_option maxHeartbeats 1000000 in
theorem i_len (z : Nat × Nat) (r : Nat) (w : World) (ha : z.1 < 18446744073709551616) (hb : z.2 < 18446744073709551616) (h : LenIs z r) :
    Calls Try.prog 20 #[.complex .f64 z.1 z.2] w fun e w' => e = .returned (.float .f64 r) ∧ w = w' := by
  rcases h with ⟨h, he⟩ | ⟨h1, h2, h⟩
  · rw [he]
    have H := Lib.hid h
    clear h he
    go_enter Try.func20, Try.ntmps20
    go_wp2_with fail
    refine (i_vok z.1 z.2 _ ha hb).mono ?_
    rintro e w1 ⟨t, ht, rfl, rfl⟩
    cases t
    · go_wp2
      go_ret
      exact ⟨rfl, rfl⟩
    · exact absurd (ht.1 rfl) H.out
  · obtain ⟨p, q, o1, o2, o3, _, sl, _⟩ := sq_ok h1 h2
    have hd := fun w => i_dot _ _ _ _ _ _ _ w o1 o2 o3
    have hr := fun w => i_root (dotW z z) r w sl h
    have H := Lib.hid (And.intro h1 h2)
    clear o1 o2 o3 h h1 h2
    generalize dotW z z = d at *
    go_enter Try.func20, Try.ntmps20
    go_wp2_with fail
    refine (i_vok z.1 z.2 _ ha hb).mono ?_
    rintro e w1 ⟨t, ht, rfl, rfl⟩
    obtain rfl : t = true := ht.2 H.out
    clear ht
    go_wp2_with (first
      | (go_at_call 54; ((with_reducible refine (hd _).mono ?_); rintro e w' ⟨rfl, rfl⟩))
      | (go_at_call 53; ((with_reducible refine (hr _).mono ?_); rintro e w' ⟨rfl, rfl⟩)))
    go_ret
    exact ⟨rfl, rfl⟩
set_option maxRecDepth 100000 in
set_option maxHeartbeats 1000000 in
theorem s_len (z : Nat × Nat) (r : Nat) (w : World) (ha : z.1 < 18446744073709551616) (hb : z.2 < 18446744073709551616) (h : LenIs z r) :
    Calls Try.prog 68 #[.complex .f64 z.1 z.2] w fun e w' => e = .returned (.float .f64 r) ∧ w = w' := by
  rcases h with ⟨h, he⟩ | ⟨h1, h2, h⟩
  · rw [he]
    have H := Lib.hid h
    clear h he
    go_enter Try.func68, Try.ntmps68
    go_wp2_with fail
    refine (s_vok z.1 z.2 _ ha hb).mono ?_
    rintro e w1 ⟨t, ht, rfl, rfl⟩
    cases t
    · go_wp2
      go_ret
      exact ⟨rfl, rfl⟩
    · exact absurd (ht.1 rfl) H.out
  · obtain ⟨p, q, o1, o2, o3, _, sl, _⟩ := sq_ok h1 h2
    have hd := fun w => s_dot _ _ _ _ _ _ _ w o1 o2 o3
    have hr := fun w => s_root (dotW z z) r w sl h
    have H := Lib.hid (And.intro h1 h2)
    clear o1 o2 o3 h h1 h2
    generalize dotW z z = d at *
    go_enter Try.func68, Try.ntmps68
    go_wp2_with fail
    refine (s_vok z.1 z.2 _ ha hb).mono ?_
    rintro e w1 ⟨t, ht, rfl, rfl⟩
    obtain rfl : t = true := ht.2 H.out
    clear ht
    go_wp2_with (first
      | (go_at_call 81; ((with_reducible refine (hd _).mono ?_); rintro e w' ⟨rfl, rfl⟩))
      | (go_at_call 83; ((with_reducible refine (hr _).mono ?_); rintro e w' ⟨rfl, rfl⟩)))
    go_ret
    exact ⟨rfl, rfl⟩

/-- One step of the search. -/
theorem bst_step {z : Nat × Nat} (m : Nat) : (FloatKind.f64.format.order (dotW z (trn (m + 1))) (bst z m).2 = some .gt ∧ bst z (m + 1) = (m + 1, dotW z (trn (m + 1)))) ∨ ((FloatKind.f64.format.order (dotW z (trn (m + 1))) (bst z m).2 == some .gt) = false ∧ bst z (m + 1) = bst z m) := by
  by_cases hgt : f64.order (dotW z (trn (m + 1))) (bst z m).2 = some .gt
  · left; exact ⟨hgt, by rw [bst.eq_def]; simp only; rw [if_pos hgt]⟩
  · right; exact ⟨by simpa using hgt, by rw [bst.eq_def]; simp only; rw [if_neg hgt]⟩
set_option maxRecDepth 100000 in
set_option maxHeartbeats 2000000 in
theorem s_bear (z : Nat × Nat) (w : World) (ha : z.1 < 18446744073709551616) (hb : z.2 < 18446744073709551616) (hp : Points z) :
    Calls Try.prog 65 #[.complex .f64 z.1 z.2] w fun e w' => e = .returned (.int .i64 (bst z 359).1) ∧ w = w' := by
  have hzz : (FloatKind.f64.format.order z.1 0 == some .eq && FloatKind.f64.format.order z.2 0 == some .eq) = false := hp.2.2
  obtain ⟨p, q, o1, o2, o3, _⟩ := dot_at hp 0 (by omega)
  have hd0 := fun w => s_dot _ _ _ _ _ _ _ w o1 o2 o3
  have e0 : trn 0 = (4607182418800017408, 0) := rfl
  rw [e0] at hd0
  have HP := Lib.hid hp
  clear hp o1 o2 o3
  generalize hd : dotW z (4607182418800017408, 0) = d0 at *
  go_enter Try.func65, Try.ntmps65
  go_wp2_with fail
  refine (s_vok z.1 z.2 _ ha hb).mono ?_
  rintro e w1 ⟨t, ht, rfl, rfl⟩
  obtain rfl : t = true := ht.2 ⟨HP.out.1, HP.out.2.1⟩
  clear ht
  go_wp2_with (go_at_call 81; ((with_reducible refine (hd0 _).mono ?_); rintro e w' ⟨rfl, rfl⟩))
  clear hd0 hzz
  go_loop [3, 4, 5, 6, 7] (fun bs t ms i _ => ∃ k : Nat, k ≤ 359 ∧ i = .int .i64 ((k : Int) + 1) ∧ t = .complex .f64 (trn k).1 (trn k).2 ∧ bs = .int .i64 ((bst z k).1 : Nat) ∧ ms = .float .f64 (bst z k).2) (fun _ _ _ i _ => 360 - (intOf i).toNat)
  case atStart => exact ⟨0, by omega, rfl, rfl, rfl, by rw [← hd]; rfl⟩
  case round =>
    obtain ⟨k, hk, rfl, rfl, rfl, rfl⟩ := hrel
    by_cases hlt : k < 359
    · obtain ⟨ac, bd, ad', bc, h1, h2, h3, h4, h5, h6⟩ := trn_ops k (by omega)
      have ht := fun w => s_times _ _ _ _ _ _ _ _ _ _ w h1 h2 h3 h4 h5 h6
      obtain ⟨p, q, o1, o2, o3, _⟩ := dot_at HP.out (k + 1) (by omega)
      have hd0 := fun w => s_dot _ _ _ _ _ _ _ w o1 o2 o3
      have k1 : (k : Int) < 359 := by omega
      have hst := bst_step (z := z) k
      clear h1 h2 h3 h4 h5 h6 o1 o2 o3
      rcases hst with ⟨og, hs⟩ | ⟨og, hs⟩
      all_goals
        have HS := Lib.hid hs
        clear hs
        go_wp2_with (first
          | (go_at_call 77; ((with_reducible refine (s_step _).mono ?_); rintro e w' ⟨rfl, rfl⟩))
          | (go_at_call 76; ((with_reducible refine (ht _).mono ?_); rintro e w' ⟨rfl, rfl⟩))
          | (go_at_call 81; ((with_reducible refine (hd0 _).mono ?_); rintro e w' ⟨rfl, rfl⟩)))
        go_round
        case rel => exact ⟨k + 1, by omega, by go_num, rfl, by first | (rw [HS.out]; done) | (rw [HS.out]; rfl), by rw [HS.out]⟩
        case measure => simp [intOf]; omega
    · have hk : k = 359 := by omega
      subst hk
      go_wp2
      go_ret
      exact ⟨rfl, rfl⟩
end Go.Proofs.Ytonoknbangnleaa

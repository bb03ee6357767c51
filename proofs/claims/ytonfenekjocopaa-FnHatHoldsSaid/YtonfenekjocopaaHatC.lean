/- The walks of Hat (impl and spec) and of the law FnHatHolds. -/
import Derived.Test.YtonfenekjocopaaHatA
import Derived.Test.YtonfenekjocopaaHatB
namespace Go.Proofs.Ytonfenekjocopaa
open Go.RowKit Ieee
set_option linter.unusedVariables false
set_option linter.unusedSimpArgs false

set_option maxRecDepth 100000 in
set_option maxHeartbeats 1000000 in
theorem i_hat (vs : Nat → Nat × Nat) (g n cap : Nat) (w : World) (h0 : 0 < n) (hw : Vecs w g n vs) (hok : VecsOk n vs) :
    Calls Try.prog 28 #[.slice (some ⟨g, 0, none⟩) n cap] w fun e w' => e = .returned (.tuple #[.complex .f64 (hatW n vs).1 (hatW n vs).2, .float .f64 (farW vs (hatW n vs) n), .bool true]) ∧ w = w' := by
  have HW := Lib.hid hw
  have HK := Lib.hid hok
  have ca := fun w hw => i_allV vs g n cap w (by have := hok.1; omega) hw
  rw [vsB_iff.2 hok] at ca
  have ca' := ca w hw
  have hn50 := hok.1
  obtain ⟨m1, m2, m3, m4⟩ := mid_ok hok h0
  have f1 := fun w => run_float_arith (P := Try.prog) w .quo 34 .f64 _ _ _ m1
  have f2 := fun w => run_float_arith (P := Try.prog) w .quo 34 .f64 _ _ _ m2
  have HM := Lib.hid m3
  clear hw hok m1 m2 m3 m4 ca
  generalize hs : hatW n vs = m at *
  go_enter Try.func28, Try.ntmps28
  go_wp2_with (go_at_call 69; ((with_reducible refine ca'.mono ?_); rintro e w' ⟨rfl, rfl⟩))
  go_loop [2, 6, 20] (fun s v i => ∃ k : Nat, k ≤ n ∧ i = .int .i64 k ∧ s = .complex .f64 (sumW vs k).1 (sumW vs k).2) (fun _ _ i => n - (intOf i).toNat)
  case atStart => exact ⟨0, Nat.zero_le _, rfl, rfl⟩
  case round =>
    obtain ⟨k, hk, rfl, rfl⟩ := hrel
    by_cases hlt : k < n
    · obtain ⟨hc, ha⟩ := HW.out k hlt
      obtain ⟨s1, s2⟩ := sum_step HK.out k hlt
      have q := fun w => run_complex_sum (P := Try.prog) w .add (Or.inl rfl) 24 .f64 (sumW vs k).1 (sumW vs k).2 (vs k).1 (vs k).2 _ _ (by unfold cSumBits; rw [s1, s2]; rfl)
      clear s1 s2 ha
      go_wp2
      go_round
      case rel => exact ⟨k + 1, by omega, by go_num, rfl⟩
      case measure => simp [intOf]; omega
    · obtain rfl : k = n := by omega
      go_wp2
      go_loop [3, 9, 42] (fun f v i => ∃ j : Nat, j ≤ k ∧ i = .int .i64 j ∧ f = .float .f64 (farW vs m j)) (fun _ _ i => k - (intOf i).toNat)
      case atStart => exact ⟨0, Nat.zero_le _, rfl, rfl⟩
      case round =>
        obtain ⟨j, hj, rfl, rfl⟩ := hrel
        by_cases hlt2 : j < k
        · obtain ⟨hc, ha⟩ := HW.out j hlt2
          obtain ⟨s1, s2, s3⟩ := subW_ok (vcB_iff.1 (HK.out.2 j hlt2)) HM.out
          have q := fun w => run_complex_sum (P := Try.prog) w .sub (Or.inr rfl) 24 .f64 (vs j).1 (vs j).2 m.1 m.2 _ _ (by unfold cSumBits; rw [s1, s2]; rfl)
          have cl := fun w => i_len (subW (vs j) m) _ w s3.1 s3.2 (lenW_is _)
          have mx := fun ts t (w : World) => run_mx (P := Try.prog) w ts t (far_num vs m j).1 (len_num (subW (vs j) m)).1
          clear s1 s2 s3 ha
          go_wp2_with (go_at_call 24; ((with_reducible refine (cl _).mono ?_); rintro e w' ⟨rfl, rfl⟩))
          go_round
          case rel => exact ⟨j + 1, by omega, by go_num, rfl⟩
          case measure => simp [intOf]; omega
        · obtain rfl : j = k := by omega
          go_wp2
          go_ret3
          exact ⟨rfl, rfl⟩
set_option maxRecDepth 100000 in
set_option maxHeartbeats 1000000 in
theorem i_hat_no (vs : Nat → Nat × Nat) (g n cap : Nat) (w : World) (h0 : 0 < n) (h1 : n ≤ 1000000) (hw : Vecs w g n vs) (hno : ¬ VecsOk n vs) :
    Calls Try.prog 28 #[.slice (some ⟨g, 0, none⟩) n cap] w fun e w' => e = .returned (.tuple #[.complex .f64 0 0, .float .f64 0, .bool false]) ∧ w = w' := by
  have ca := i_allV vs g n cap w h1 hw
  rw [vsB_no hno] at ca
  clear hw hno
  go_enter Try.func28, Try.ntmps28
  go_wp2_with (go_at_call 69; ((with_reducible refine ca.mono ?_); rintro e w' ⟨rfl, rfl⟩))
  go_ret3
  exact ⟨rfl, rfl⟩
set_option maxHeartbeats 400000 in
theorem i_hat_nil (A : Option Addr) (cap : Nat) (w : World) :
    Calls Try.prog 28 #[.slice A 0 cap] w fun e w' => e = .returned (.tuple #[.complex .f64 0 0, .float .f64 0, .bool false]) ∧ w = w' := by
  go_enter Try.func28, Try.ntmps28
  go_wp2
  go_ret3
  exact ⟨rfl, rfl⟩
set_option maxHeartbeats 400000 in
theorem s_hat_big (A : Option Addr) (n cap : Nat) (w : World) (h : n = 0 ∨ 50 < n) :
    Calls Try.prog 29 #[.slice A n cap] w fun e w' => e = .returned (.tuple #[.complex .f64 0 0, .float .f64 0, .bool false]) ∧ w = w' := by
  have ci := fun w => s_in (n : Int) 1 50 false w (by rw [eq_comm]; exact decide_eq_false (by omega))
  clear h
  go_enter Try.func29, Try.ntmps29
  go_wp2_with (go_at_call 56; ((with_reducible refine (ci _).mono ?_); rintro e w' ⟨rfl, rfl⟩))
  go_ret3
  exact ⟨rfl, rfl⟩
/-- The ending of spec.Hat, as far as the law looks at it. -/
def HatEnd (n : Nat) (vs : Nat → Nat × Nat) (e : Ending) : Prop := ∃ a b c, e = .returned (.tuple #[.complex .f64 a b, .float .f64 c, .bool (vsB n vs)])
set_option maxRecDepth 100000 in
set_option maxHeartbeats 1000000 in
/-- What spec.Hat tells: whether all are valid. -/
theorem s_hat (vs : Nat → Nat × Nat) (g n cap : Nat) (w : World) (h0 : 0 < n) (h1 : n ≤ 50) (hw : Vecs w g n vs) :
    Calls Try.prog 29 #[.slice (some ⟨g, 0, none⟩) n cap] w fun e w' => HatEnd n vs e ∧ w = w' := by
  have HW := Lib.hid hw
  clear hw
  have ci := fun w => s_in (n : Int) 1 50 true w (by rw [eq_comm]; exact decide_eq_true (by omega))
  have hmm : VecsOk n vs → _ := fun h => mid_ok h h0
  have HMM := Lib.hid hmm
  clear hmm
  go_enter Try.func29, Try.ntmps29
  go_wp2_with (go_at_call 56; ((with_reducible refine (ci _).mono ?_); rintro e w' ⟨rfl, rfl⟩))
  clear ci
  go_loop [5, 6, 7] (fun a b i => ∃ k : Nat, k ≤ n ∧ i = .int .i64 k ∧ a = .float .f64 (sumW vs k).1 ∧ b = .float .f64 (sumW vs k).2 ∧ ∀ j, j < k → vcB (vs j) = true) (fun _ _ i => n - (intOf i).toNat)
  case atStart => exact ⟨0, Nat.zero_le _, rfl, rfl, rfl, fun j h => by omega⟩
  case round =>
    obtain ⟨k, hk, rfl, rfl, rfl, hall⟩ := hrel
    have HA := Lib.hid hall
    by_cases hlt : k < n
    · obtain ⟨hc, ha⟩ := HW.out k hlt
      have cp := fun w => s_vecB (vs k) w ha
      cases hv : vcB (vs k)
      · have hno := Lib.hid (vsB_no (n := n) (vs := vs) (fun h => by rw [h.2 k hlt] at hv; cases hv))
        rw [hv] at cp
        clear hv ha hall
        go_wp2_with (go_at_call 19; ((with_reducible refine (cp _).mono ?_); rintro e w' ⟨rfl, rfl⟩))
        go_ret3
        exact ⟨⟨_, _, _, by rw [hno.out]; rfl⟩, rfl⟩
      · have hall2 : ∀ j, j < k + 1 → vcB (vs j) = true := fun j hj => by
          rcases Nat.lt_or_ge j k with h | h
          · exact hall j h
          · obtain rfl : j = k := by omega
            exact hv
        have HA2 := Lib.hid hall2
        rw [hv] at cp
        obtain ⟨s1, s2⟩ := sum_step (n := k + 1) ⟨by omega, hall2⟩ k (by omega)
        have q1 := fun w => run_float_arith (P := Try.prog) w .add 34 .f64 _ _ _ s1
        have q2 := fun w => run_float_arith (P := Try.prog) w .add 34 .f64 _ _ _ s2
        clear hv s1 s2 ha hall hall2 HA
        go_wp2_with (go_at_call 19; ((with_reducible refine (cp _).mono ?_); rintro e w' ⟨rfl, rfl⟩))
        go_round
        case rel => exact ⟨k + 1, by omega, by go_num, rfl, rfl, HA2.out⟩
        case measure => simp [intOf]; omega
    · obtain rfl : k = n := by omega
      have hok : VecsOk k vs := ⟨h1, hall⟩
      have HY := Lib.hid (vsB_iff.2 hok)
      have HK := Lib.hid hok
      obtain ⟨m1, m2, m3, m4⟩ := HMM.out hok
      have f1 := fun w => run_float_arith (P := Try.prog) w .quo 34 .f64 _ _ _ m1
      have f2 := fun w => run_float_arith (P := Try.prog) w .quo 34 .f64 _ _ _ m2
      have HM := Lib.hid m3
      clear m1 m2 m3 m4 hok hall HMM HA
      generalize hs : hatW k vs = m at *
      go_wp2
      go_loop [10, 11, 12] (fun f i x => ∃ j : Nat, j ≤ k ∧ i = .int .i64 j ∧ ∃ u, isNum u ∧ f = .float .f64 u) (fun _ i _ => k - (intOf i).toNat)
      case atStart => exact ⟨0, Nat.zero_le _, rfl, 0, zero_isNum, rfl⟩
      case round =>
        obtain ⟨j, hj, rfl, u, hu, rfl⟩ := hrel
        by_cases hlt2 : j < k
        · obtain ⟨hc, ha⟩ := HW.out j hlt2
          obtain ⟨s1, s2, s3⟩ := subW_ok (vcB_iff.1 (HK.out.2 j hlt2)) HM.out
          have q := fun w => run_complex_sum (P := Try.prog) w .sub (Or.inr rfl) 24 .f64 (vs j).1 (vs j).2 m.1 m.2 _ _ (by unfold cSumBits; rw [s1, s2]; rfl)
          have cl := fun w => s_len (subW (vs j) m) _ w s3.1 s3.2 (lenW_is _)
          have hlu := (len_num (subW (vs j) m)).1
          have HU := Lib.hid (And.intro hu hlu)
          by_cases hgt : FloatKind.f64.format.order (lenW (subW (vs j) m)) u = some .gt
          · clear s1 s2 s3 ha hu hlu
            go_wp2_with (go_at_call 70; ((with_reducible refine (cl _).mono ?_); rintro e w' ⟨rfl, rfl⟩))
            go_round
            case rel => exact ⟨j + 1, by omega, by go_num, _, HU.out.2, rfl⟩
            case measure => simp [intOf]; omega
          · have hgt' : (FloatKind.f64.format.order (lenW (subW (vs j) m)) u == some .gt) = false := by simpa using hgt
            clear s1 s2 s3 ha hu hlu hgt
            go_wp2_with (go_at_call 70; ((with_reducible refine (cl _).mono ?_); rintro e w' ⟨rfl, rfl⟩))
            go_round
            case rel => exact ⟨j + 1, by omega, by go_num, _, HU.out.1, rfl⟩
            case measure => simp [intOf]; omega
        · obtain rfl : j = k := by omega
          go_wp2
          go_ret3
          exact ⟨⟨_, _, _, by rw [HY.out]; rfl⟩, by first | rfl | trivial⟩
theorem vecs_nil {w : World} {B t : Nat} {v : Value} {xs : List Value} (h : w.ownsRow B t 1 v 0 xs) : ∃ A cap, v = .slice A 0 cap := by
  obtain ⟨hl, ⟨h0, _⟩ | ⟨g, cap, cur, hv, _⟩⟩ := h
  · exact ⟨_, _, h0⟩
  · exact ⟨_, _, hv⟩
set_option maxRecDepth 100000 in
set_option maxHeartbeats 4000000 in
theorem w_FnHatHolds (a0 : Option Addr) (len cap : Nat) (zs : List Int) (w : World) (hr : IsRow .u8 w a0 len cap zs) :
    Calls Try.prog 7 #[.slice a0 len cap] w fun e w' => e = .returned (.bool true) ∧ Below w.heap.size w w' := by
  by_cases hbig : len ≤ 1048576
  · have hcode := code_of_row hr hbig
    go_enter Try.func7, Try.ntmps7
    go_wp2_with (go_at_call 9; go_in)
    go_wp2_with fail
    refine (d_hat _ len cap a0 hcode).mono ?_
    rintro e w1 ⟨n, xs, v, hn, hxs, hbd, rfl, hown, b1⟩
    rcases Nat.eq_zero_or_pos n with rfl | hpos
    · obtain ⟨A, c, rfl⟩ := vecs_nil hown
      have ci := fun w => i_hat_nil A c w
      have cs := fun w => s_hat_big A 0 c w (.inl rfl)
      clear hown hbd hxs
      go_wp2_with (first
        | (go_at_call 28; ((with_reducible refine (ci _).mono ?_); rintro e w' ⟨rfl, rfl⟩))
        | (go_at_call 29; ((with_reducible refine (cs _).mono ?_); rintro e w' ⟨rfl, rfl⟩)))
      go_ret
      exact ⟨rfl, b1⟩
    · obtain ⟨g, c, rfl, hc, hB, hg, hcell⟩ := vecs_own hown (by omega)
      obtain ⟨vs, hvs⟩ : ∃ vs : Nat → Nat × Nat, vs = fun j => (xs[j]?).getD (0, 0) := ⟨_, rfl⟩
      have hv : Vecs w1 g n vs := fun j hj => by
        have hx : xs[j]? = some (vs j) := by
          rw [hvs]
          simp [List.getElem?_eq_getElem (by omega : j < xs.length)]
        exact ⟨hcell j _ hx, hbd j _ hx⟩
      have HV := Lib.hid hv
      clear hcell hbd hown hvs
      cases hok : vsB n vs
      · have hno : ¬ VecsOk n vs := fun h => by rw [vsB_iff.2 h] at hok; cases hok
        have ci := i_hat_no vs g n c w1 hpos (by omega) hv hno
        clear hno
        rcases Nat.lt_or_ge 50 n with h50 | h50
        · have cs := s_hat_big (some ⟨g, 0, none⟩) n c w1 (.inr h50)
          clear hv hok
          go_wp2_with (first
            | (go_at_call 28; ((with_reducible refine ci.mono ?_); rintro e w' ⟨rfl, rfl⟩))
            | (go_at_call 29; ((with_reducible refine cs.mono ?_); rintro e w' ⟨rfl, rfl⟩)))
          go_ret
          exact ⟨rfl, b1⟩
        · have cs := s_hat vs g n c w1 hpos h50 hv
          unfold HatEnd at cs
          rw [hok] at cs
          clear hv hok
          go_wp2_with (first
            | (go_at_call 28; ((with_reducible refine ci.mono ?_); rintro e w' ⟨rfl, rfl⟩))
            | (go_at_call 29; ((with_reducible refine cs.mono ?_); rintro e w' ⟨⟨ra, rb, rc, rfl⟩, rfl⟩)))
          go_ret
          exact ⟨rfl, b1⟩
      · have hvo := vsB_iff.1 hok
        have ci := i_hat vs g n c w1 hpos hv hvo
        have cs := s_hat vs g n c w1 hpos hvo.1 hv
        unfold HatEnd at cs
        rw [hok] at cs
        have HM := Lib.hid (mid_ok hvo hpos).2.2.1
        have HK := Lib.hid hvo
        clear hv hok hvo
        generalize hatW n vs = m at *
        have hfar := far_num vs m n
        have HG := Lib.hid (And.intro (far_ge vs m n) (And.intro (far_met vs m n hpos) hfar.1))
        clear hfar
        generalize farW vs m n = fr at *
        go_wp2_with (first
          | (go_at_call 28; ((with_reducible refine ci.mono ?_); rintro e w' ⟨rfl, rfl⟩))
          | (go_at_call 29; ((with_reducible refine cs.mono ?_); rintro e w' ⟨⟨ra, rb, rc, rfl⟩, rfl⟩)))
        clear ci cs
        go_loop [10, 11, 12] (fun b i x => ∃ k : Nat, k ≤ n ∧ i = .int .i64 k ∧ ∃ t : Bool, b = .bool t ∧ ((∃ j, j < k ∧ fval (lenW (subW (vs j) m)) = fval fr) → t = true)) (fun _ i _ => n - (intOf i).toNat)
        case atStart => exact ⟨0, Nat.zero_le _, rfl, false, rfl, fun ⟨j, hj, _⟩ => by omega⟩
        case round =>
          obtain ⟨k, hk, rfl, t, rfl, ht⟩ := hrel
          have HT := Lib.hid ht
          clear ht
          by_cases hlt : k < n
          · obtain ⟨hcl, ha⟩ := HV.out k hlt
            obtain ⟨s1, s2, s3⟩ := subW_ok (vcB_iff.1 (HK.out.2 k hlt)) HM.out
            have q := fun w => run_complex_sum (P := Try.prog) w .sub (Or.inr rfl) 24 .f64 (vs k).1 (vs k).2 m.1 m.2 _ _ (by unfold cSumBits; rw [s1, s2]; rfl)
            have cl := fun w => i_len (subW (vs k) m) _ w s3.1 s3.2 (lenW_is _)
            have hlu := (len_num (subW (vs k) m)).1
            have hle := HG.out.1 k hlt
            have ho : FloatKind.f64.format.order (lenW (subW (vs k) m)) fr = some (compare (fval (lenW (subW (vs k) m))) (fval fr)) := order_val hlu HG.out.2.2
            have hgt : (FloatKind.f64.format.order (lenW (subW (vs k) m)) fr == some .gt) = false := by
              rw [ho]
              rcases Int.lt_or_eq_of_le hle with h | h
              · rw [Int.compare_eq_lt.2 h]; rfl
              · rw [Int.compare_eq_eq.2 h]; rfl
            have heq : (FloatKind.f64.format.order (lenW (subW (vs k) m)) fr == some .eq) = decide (fval (lenW (subW (vs k) m)) = fval fr) := by
              rw [ho]
              rcases Int.lt_or_eq_of_le hle with h | h
              · rw [Int.compare_eq_lt.2 h, decide_eq_false (by omega)]; rfl
              · rw [Int.compare_eq_eq.2 h, decide_eq_true h]; rfl
            have HE := Lib.hid (rfl : decide (fval (lenW (subW (vs k) m)) = fval fr) = decide (fval (lenW (subW (vs k) m)) = fval fr))
            obtain ⟨d, hd⟩ : ∃ d, d = decide (fval (lenW (subW (vs k) m)) = fval fr) := ⟨_, rfl⟩
            rw [← hd] at heq
            have HD := Lib.hid hd
            clear HE hd ho hle hlu s1 s2 s3 ha
            generalize hl : lenW (subW (vs k) m) = l at *
            have HL := Lib.hid hl
            clear hl
            cases t <;> cases d
            all_goals
              go_wp2_with (go_at_call 24; ((with_reducible refine (cl _).mono ?_); rintro e w' ⟨rfl, rfl⟩))
              go_round
              case rel => exact ⟨k + 1, by omega, by go_num, _, rfl, fun ⟨j, hj, he⟩ => by
                rcases Nat.lt_or_ge j k with h | h
                · have := HT.out ⟨j, h, he⟩; first | rfl | (cases this)
                · obtain rfl : j = k := by omega
                  first
                    | rfl
                    | (have h9 := HD.out
                       rw [HL.out] at he
                       rw [decide_eq_true he] at h9
                       cases h9)⟩
              case measure => simp [intOf]; omega
          · obtain rfl : k = n := by omega
            have htt : t = true := HT.out HG.out.2.1
            subst htt
            go_wp2
            go_ret
            exact ⟨rfl, b1⟩
  · go_enter Try.func7, Try.ntmps7
    go_wp2
    go_ret
    exact ⟨rfl, Below.refl _ _⟩
end Go.Proofs.Ytonfenekjocopaa

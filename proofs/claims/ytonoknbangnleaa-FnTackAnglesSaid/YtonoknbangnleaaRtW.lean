/- The walks of impl.Root and spec.Root; the walk of the law FnExactRoot. -/
import Derived.Test.YtonoknbangnleaaRows
import Derived.Test.YtonoknbangnleaaRt
import Derived.Test.YtonoknbangnleaaFA
import Derived.WalkKit
import Derived.WalkSpells
import Derived.WalkLawsBesides
import Derived.Lib.Hide
namespace Go.Proofs.Ytonoknbangnleaa
open Go.RowKit Ieee

theorem run_max_f {P : Program} (w : World) (ts : Array TypeId) (t : TypeId) (x y r : Nat)
    (h : (FloatKind.f64.format.order x y = some .lt ∧ r = y) ∨ (FloatKind.f64.format.order x y = some .gt ∧ r = x) ∨ (FloatKind.f64.format.order x y = some .eq ∧ (FloatKind.f64.decode x).neg = false ∧ r = x)) :
    (Builtin.max_ ts t #[.float .f64 x, .float .f64 y]).run P w = .ok (.float .f64 r) w := by
  rcases h with ⟨h, rfl⟩ | ⟨h, rfl⟩ | ⟨h, h2, rfl⟩
  · simp [Builtin.max_, Builtin.max2, h]
  · simp [Builtin.max_, Builtin.max2, h]
  · simp [Builtin.max_, Builtin.max2, h, h2]
/-- A positive number has no sign. -/
theorem neg_pos {x : Nat} (h : 0 < fval x) : (FloatKind.f64.decode x).neg = false := by
  show (f64.read x).neg = false
  unfold fval at h
  cases e : f64.read x with
  | nan a b => rw [e] at h; exact absurd h (by simp [dval])
  | infinity a => rw [e] at h; exact absurd h (by simp [dval])
  | number s m i =>
    rw [e] at h
    cases s with
    | false => rfl
    | true =>
      have h2 : 0 < signed true m (i + 1074).toNat := h
      rw [signed_eq, if_pos rfl] at h2
      omega

/-- How a number of the range stands to the bounds and to one. -/
theorem inR_orders {x : Nat} (h : inR x) : (f64.order 4427486594234968593 x = some .lt ∧ f64.order x 4427486594234968593 = some .gt ∨ f64.order 4427486594234968593 x = some .eq ∧ f64.order x 4427486594234968593 = some .eq) ∧
    (f64.order x 4861130398305394688 = some .lt ∨ f64.order x 4861130398305394688 = some .eq) := by
  obtain ⟨hn, h1, h2⟩ := h
  rw [order_val hn (isNum_of minq_num), order_val (isNum_of minq_num) hn, order_val hn (isNum_of maxq_num)]
  refine ⟨?_, ?_⟩
  · rcases Int.lt_or_eq_of_le h1 with h | h
    · exact .inl ⟨congrArg some (Int.compare_eq_lt.2 h), congrArg some (Int.compare_eq_gt.2 h)⟩
    · exact .inr ⟨congrArg some (Int.compare_eq_eq.2 h), congrArg some (Int.compare_eq_eq.2 h.symm)⟩
  · rcases Int.lt_or_eq_of_le h2 with h | h
    · exact .inl (congrArg some (Int.compare_eq_lt.2 h))
    · exact .inr (congrArg some (Int.compare_eq_eq.2 h))
theorem inR_one {x : Nat} (h : isNum x) : ((fval x < (oneV : Int) → f64.order x 4607182418800017408 = some .lt) ∧ ((oneV : Int) ≤ fval x → f64.order x 4607182418800017408 = some .gt ∨ f64.order x 4607182418800017408 = some .eq)) := by
  rw [order_val h (isNum_of one_num), one_val]
  refine ⟨fun h => congrArg some (Int.compare_eq_lt.2 h), fun h => ?_⟩
  rcases Int.lt_or_eq_of_le h with h | h
  · exact .inl (congrArg some (Int.compare_eq_gt.2 h))
  · exact .inr (congrArg some (Int.compare_eq_eq.2 h.symm))
/-- How a word out of the range stands to the bounds. -/
theorem outR_orders {x : Nat} (hx : x < 18446744073709551616) (h : ¬ inR x) :
    (((f64.order 4427486594234968593 x == some .lt) = false ∧ (f64.order 4427486594234968593 x == some .eq) = false ∧ (f64.order x 4427486594234968593 == some .gt) = false ∧ (f64.order x 4427486594234968593 == some .eq) = false) ∨
    (f64.order 4427486594234968593 x = some .lt ∧ f64.order x 4427486594234968593 = some .gt ∧ (f64.order x 4861130398305394688 == some .lt) = false ∧ (f64.order x 4861130398305394688 == some .eq) = false)) := by
  have hmm := minq_val
  have hmx := maxq_val
  have hol := oneV_low
  rcases order_c hx (isNum_of minq_num) with ⟨hn, h1, h2⟩ | ⟨hn, ⟨h1, h2⟩ | ⟨h1, h2⟩ | ⟨h1, h2⟩⟩
  · rcases Int.lt_or_le (fval x) (fval 4427486594234968593) with hl | hl
    · left
      rw [h1, h2, Int.compare_eq_lt.2 hl, Int.compare_eq_gt.2 hl]
      exact ⟨rfl, rfl, rfl, rfl⟩
    · rcases Int.lt_or_le (fval 4861130398305394688) (fval x) with hg | hg
      · right
        have hlt : fval 4427486594234968593 < fval x := by
          have hq : f64.order 4427486594234968593 4861130398305394688 = some .lt := by kernel_rfl
          rw [order_val (isNum_of minq_num) (isNum_of maxq_num)] at hq
          injection hq with hq
          have := Int.compare_eq_lt.1 hq
          omega
        rw [h1, h2, Int.compare_eq_gt.2 hlt, Int.compare_eq_lt.2 hlt, order_val hn (isNum_of maxq_num), Int.compare_eq_gt.2 hg]
        exact ⟨rfl, rfl, rfl, rfl⟩
      · exact absurd ⟨hn, hl, hg⟩ h
  · left; rw [h1, h2]; exact ⟨rfl, rfl, rfl, rfl⟩
  · rcases order_c hx (isNum_of maxq_num) with ⟨hn2, _⟩ | ⟨_, ⟨g1, g2⟩ | ⟨g1, g2⟩ | ⟨g1, g2⟩⟩
    · exact absurd hn2 hn
    · right; rw [h1, h2, g1]; exact ⟨rfl, rfl, rfl, rfl⟩
    · right; rw [h1, h2, g1]; exact ⟨rfl, rfl, rfl, rfl⟩
    · exfalso
      -- an infinity is on one side of all numbers
      have hE : expo x = 2047 := by
        rcases Nat.lt_or_ge (expo x) 2047 with hE | hE
        · exact absurd (num_of_expo hx hE) hn
        · have := expo_le x; omega
      rcases read_full hx hE with h | ⟨b, h⟩
      · have e1 := order_inf h (isNum_of minq_num)
        have e2 := order_inf h (isNum_of maxq_num)
        rw [h1] at e1; rw [g1] at e2
        rw [← e2] at e1; cases e1
      · have e1 := order_nan h 4427486594234968593
        rw [h1] at e1; cases e1
  · left; rw [h1, h2]; exact ⟨rfl, rfl, rfl, rfl⟩

set_option maxHeartbeats 1000000 in
theorem i_root_out (x : Nat) (w : World) (hx : x < 18446744073709551616) (h : ¬ inR x) :
    Calls Try.prog 53 #[.float .f64 x] w fun e w' => e = .returned (.float .f64 0) ∧ w = w' := by
  have ho := outR_orders hx h
  rcases ho with ⟨o1, o2, o3, o4⟩ | ⟨o1, o2, o3, o4⟩
  all_goals
    go_enter Try.func53, Try.ntmps53
    go_wp2
    go_ret
    exact ⟨rfl, rfl⟩
set_option maxHeartbeats 1000000 in
theorem s_root_out (x : Nat) (w : World) (hx : x < 18446744073709551616) (h : ¬ inR x) :
    Calls Try.prog 83 #[.float .f64 x] w fun e w' => e = .returned (.float .f64 0) ∧ w = w' := by
  have ho := outR_orders hx h
  rcases ho with ⟨o1, o2, o3, o4⟩ | ⟨o1, o2, o3, o4⟩
  all_goals
    go_enter Try.func83, Try.ntmps83
    go_wp2
    go_ret
    exact ⟨rfl, rfl⟩

set_option maxRecDepth 100000 in
set_option maxHeartbeats 1000000 in
theorem i_root_in (x g : Nat) (w : World) (h : inR x) (hb : begins x g) :
    Calls Try.prog 53 #[.float .f64 x] w fun e w' => e = .returned (.float .f64 (newtN x g 60)) ∧ w = w' := by
  obtain ⟨ho1, ho2⟩ := inR_orders h
  have hmax : ∀ (ts : Array TypeId) (t : TypeId) (w : World), (Builtin.max_ ts t #[.float .f64 x, .float .f64 4607182418800017408]).run Try.prog w = .ok (.float .f64 g) w := fun ts t w => by
    obtain ⟨b0, b1⟩ := inR_bd h
    have hlb := lowV_big
    refine run_max_f w ts t _ _ _ ?_
    rcases hb with ⟨hl, rfl⟩ | ⟨hl, rfl⟩
    · exact .inl ⟨(inR_one h.1).1 hl, rfl⟩
    · rcases (inR_one h.1).2 hl with o | o
      · exact .inr (.inl ⟨o, rfl⟩)
      · exact .inr (.inr ⟨o, neg_pos (by omega), rfl⟩)
  have H := Lib.hid (And.intro h hb)
  clear h hb
  have o1 : (FloatKind.f64.format.order 4427486594234968593 x == some .lt || FloatKind.f64.format.order 4427486594234968593 x == some .eq) = true := by
    rcases ho1 with ⟨o, _⟩ | ⟨o, _⟩ <;> (rw [show FloatKind.f64.format.order 4427486594234968593 x = _ from o]; rfl)
  have o2 : (FloatKind.f64.format.order x 4861130398305394688 == some .lt || FloatKind.f64.format.order x 4861130398305394688 == some .eq) = true := by
    rcases ho2 with o | o <;> (rw [show FloatKind.f64.format.order x 4861130398305394688 = _ from o]; rfl)
  clear ho1 ho2
  · go_enter Try.func53, Try.ntmps53
    go_wp2
    go_loop [3, 13] (fun v i => ∃ k : Nat, k ≤ 60 ∧ i = .int .i64 k ∧ v = .float .f64 (newtN x g k)) (fun _ i => 60 - (intOf i).toNat)
    case atStart => exact ⟨0, by omega, rfl, rfl⟩
    case round =>
      obtain ⟨k, hk, rfl, rfl⟩ := hrel
      by_cases hlt : k < 60
      · obtain ⟨q, s, h1, h2, h3⟩ := newt_ops H.out.1 H.out.2 k
        have q1 := fun w => run_float_arith (P := Try.prog) w .quo 43 .f64 _ _ q h1
        have q2 := fun w => run_float_arith (P := Try.prog) w .add 43 .f64 _ _ s h2
        have q3 := fun w => run_float_arith (P := Try.prog) w .quo 43 .f64 _ _ _ h3
        clear h1 h2 h3 o1 o2 hmax
        generalize newtN x g k = v at *
        generalize hz : newtN x g (k + 1) = z at *
        go_wp2
        go_round
        case rel => exact ⟨k + 1, by omega, by go_num, by rw [hz]⟩
        case measure => simp [intOf]; omega
      · have hk60 : k = 60 := by omega
        subst hk60
        clear hmax
        go_wp2
        go_ret
        exact ⟨rfl, rfl⟩
set_option maxRecDepth 100000 in
set_option maxHeartbeats 1000000 in
theorem s_root_in (x g : Nat) (w : World) (h : inR x) (hb : begins x g) :
    Calls Try.prog 83 #[.float .f64 x] w fun e w' => e = .returned (.float .f64 (newtN x g 60)) ∧ w = w' := by
  obtain ⟨ho1, ho2⟩ := inR_orders h
  have ho3 : (f64.order x 4607182418800017408 = some .lt ∧ g = 4607182418800017408) ∨ ((f64.order x 4607182418800017408 == some .lt) = false ∧ g = x) := by
    rcases hb with ⟨hl, rfl⟩ | ⟨hl, rfl⟩
    · exact .inl ⟨(inR_one h.1).1 hl, rfl⟩
    · rcases (inR_one h.1).2 hl with o | o
      · exact .inr ⟨by rw [o]; rfl, rfl⟩
      · exact .inr ⟨by rw [o]; rfl, rfl⟩
  have H := Lib.hid (And.intro h hb)
  clear h hb
  have o1 : (FloatKind.f64.format.order x 4427486594234968593 == some .gt || FloatKind.f64.format.order x 4427486594234968593 == some .eq) = true := by
    rcases ho1 with ⟨_, o⟩ | ⟨_, o⟩ <;> (rw [show FloatKind.f64.format.order x 4427486594234968593 = _ from o]; rfl)
  have o2 : (FloatKind.f64.format.order x 4861130398305394688 == some .lt || FloatKind.f64.format.order x 4861130398305394688 == some .eq) = true := by
    rcases ho2 with o | o <;> (rw [show FloatKind.f64.format.order x 4861130398305394688 = _ from o]; rfl)
  clear ho1 ho2
  rcases ho3 with ⟨o3, og⟩ | ⟨o3, og⟩
  all_goals
    have OG := Lib.hid og
    clear og
    go_enter Try.func83, Try.ntmps83
    go_wp2
    go_loop [3, 4] (fun v i => ∃ k : Nat, k ≤ 60 ∧ i = .int .i64 k ∧ v = .float .f64 (newtN x g k)) (fun _ i => 60 - (intOf i).toNat)
    case atStart => exact ⟨0, by omega, rfl, by rw [show newtN x g 0 = g from rfl, OG.out]⟩
    case round =>
      obtain ⟨k, hk, rfl, rfl⟩ := hrel
      by_cases hlt : k < 60
      · obtain ⟨q, s, h1, h2, h3⟩ := newt_ops H.out.1 H.out.2 k
        have q1 := fun w => run_float_arith (P := Try.prog) w .quo 43 .f64 _ _ q h1
        have q2 := fun w => run_float_arith (P := Try.prog) w .add 43 .f64 _ _ s h2
        have q3 := fun w => run_float_arith (P := Try.prog) w .quo 43 .f64 _ _ _ h3
        clear h1 h2 h3 o1 o2 o3
        generalize newtN x g k = v at *
        generalize hz : newtN x g (k + 1) = z at *
        go_wp2
        go_round
        case rel => exact ⟨k + 1, by omega, by go_num, by rw [hz]⟩
        case measure => simp [intOf]; omega
      · have hk60 : k = 60 := by omega
        subst hk60
        go_wp2
        go_ret
        exact ⟨rfl, rfl⟩

theorem i_root (x r : Nat) (w : World) (hx : x < 18446744073709551616) (h : RootIs x r) :
    Calls Try.prog 53 #[.float .f64 x] w fun e w' => e = .returned (.float .f64 r) ∧ w = w' := by
  rcases h with ⟨h, he⟩ | ⟨h, g, hb, he⟩ <;> rw [he]
  · exact i_root_out x w hx h
  · exact i_root_in x g w h hb
theorem s_root (x r : Nat) (w : World) (hx : x < 18446744073709551616) (h : RootIs x r) :
    Calls Try.prog 83 #[.float .f64 x] w fun e w' => e = .returned (.float .f64 r) ∧ w = w' := by
  rcases h with ⟨h, he⟩ | ⟨h, g, hb, he⟩ <;> rw [he]
  · exact s_root_out x w hx h
  · exact s_root_in x g w h hb
theorem f64_bd {x : Nat} (h : (Lit.float .f64 x).wf = true) : x < 18446744073709551616 := by
  simpa [Lit.wf] using h
end Go.Proofs.Ytonoknbangnleaa

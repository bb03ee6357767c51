/- The drawing of winds: l03Single, l03Air, l03Part; DrawApparent, DrawFromOf, DrawVeer, DrawDamp. -/
import Derived.Test.YtibkhmdnfloemaaWd
import Derived.Test.YtibkhmdnfloemaaDrR
namespace Go.Proofs.Ytibkhmdnfloemaa
open Go.RowKit Ieee

theorem cur_drew {w w' : World} {B g len cap : Nat} {A : Option Addr} (hc : Cur w' B g A len cap) (hg : w.grownBy w' (some g)) : Cur w'.drew B g A len cap ∧ w.grownBy w'.drew (some g) :=
  ⟨hc.grown_far (row := none) ⟨rfl, rfl, rfl, Nat.le_refl _, fun _ _ _ => rfl⟩ (by simp) (fun _ h => by cases h), grown_trans hg ⟨rfl, rfl, rfl, Nat.le_refl _, fun _ _ _ => rfl⟩⟩
theorem ofInt_lt (n : Int) : floatOfInt .f32 n < 4294967296 := S.f32.nearest_lt _ _ _
theorem quo_part (n : Int) : ∃ r, floatBits .quo .f32 (floatOfInt .f32 n) 1132462080 = some r ∧ r < 4294967296 := by
  obtain ⟨r, hr⟩ := fl_div_some FloatKind.f32.format (floatOfInt .f32 n) 1132462080 (fl_nearest_nan FloatKind.f32.format _ _ _) (s := false) (m := 8388608) (i := -15) (by kernel_rfl) (by omega)
  exact ⟨r, hr, FloatKind.f32.format.div_lt hr⟩

set_option maxRecDepth 100000 in
set_option maxHeartbeats 1000000 in
theorem d_single (n : Int) (w : World) (B g len cap : Nat) (A : Option Addr) (hc : Cur w B g A len cap) (n0 : 0 ≤ n) (n1 : n ≤ 1000000000) :
    Calls Try.prog 51 #[.pointer (some ⟨g, 0, none⟩), .int .i64 n] w fun e w' => ∃ x : Nat, x < 4294967296 ∧ e = .returned (.float .f32 x) ∧ Cur w' B g A len cap ∧ w.grownBy w' (some g) := by
  have hs : (Try.prog.underlying 53).isSome = true := by rw [Try.underlying53]; rfl
  go_enter Try.func51, Try.ntmps51
  go_wp2_with fail
  refine (d_real n _ _ g len cap A hc n0 n1).mono ?_
  rintro e w1 ⟨x, xl, rfl, cur1, gr1⟩
  rcases nar_any 53 69 hs Try.underlying69 x with ⟨r, hr, q⟩ | ⟨nb, hr, q⟩
  · go_wp2
    go_ret
    exact ⟨r, hr, rfl, cur1, gr1⟩
  · go_wp2
    go_ret
    exact ⟨_, hr _, rfl, (cur_drew cur1 gr1).1, (cur_drew cur1 gr1).2⟩
set_option maxRecDepth 100000 in
set_option maxHeartbeats 1000000 in
theorem d_air (w : World) (B g len cap : Nat) (A : Option Addr) (hc : Cur w B g A len cap) :
    Calls Try.prog 44 #[.pointer (some ⟨g, 0, none⟩)] w fun e w' => ∃ x y : Nat, x < 4294967296 ∧ y < 4294967296 ∧ e = .returned (.complex .f32 x y) ∧ Cur w' B g A len cap ∧ w.grownBy w' (some g) := by
  have hs : (Try.prog.underlying 53).isSome = true := by rw [Try.underlying53]; rfl
  have ho := fun n => ofInt_lt n
  go_enter Try.func44, Try.ntmps44
  go_wp2_with fail
  refine (d_once _ _ _ g len cap A hc (by omega)).mono ?_
  rintro e w1 ⟨t, rfl, cur1, gr1⟩
  cases t
  · go_wp2_with fail
    refine (d_once _ _ _ g len cap A cur1 (by omega)).mono ?_
    rintro e w2 ⟨t, rfl, cur2, gr2⟩
    have gr12 := grown_trans gr1 gr2
    have hgl := cur2.lt
    cases t
    · go_wp2_with fail
      refine (d_single 15 _ _ g len cap A cur2 (by omega) (by omega)).mono ?_
      rintro e w3 ⟨x, xl, rfl, cur3, gr3⟩
      go_wp2_with fail
      refine (d_single 15 _ _ g len cap A cur3 (by omega) (by omega)).mono ?_
      rintro e w4 ⟨y, yl, rfl, cur4, gr4⟩
      go_wp2
      go_ret
      exact ⟨x, y, xl, yl, rfl, cur4, grown_trans gr12 (grown_trans gr3 gr4)⟩
    · go_wp2_with fail
      refine (d_pickint _ _ g len cap w2.heap.size 4 4 A 3 [100, -100, 101, 0] (cur2.alloc _) rfl (by omega) (by omega) (by omega) (by intro x hx; simp at hx; omega) (heap_alloc_new w2 _)).mono ?_
      rintro e w3 ⟨x, x0, x1, rfl, cur3, gr3⟩
      have gA := World.grownBy_alloc w2 (.cells #[.int .i64 100, .int .i64 (-100), .int .i64 101, .int .i64 0] 3) (some g)
      have gr13 := grown_trans gr12 (grown_trans gA gr3)
      clear gA gr3
      go_wp2_with fail
      refine (d_single 100 _ _ g len cap A cur3 (by omega) (by omega)).mono ?_
      rintro e w4 ⟨y, yl, rfl, cur4, gr4⟩
      go_wp2
      go_ret
      exact ⟨_, y, ho _, yl, rfl, cur4, grown_trans gr13 gr4⟩
  · go_wp2_with fail
    refine (d_odd _ _ g len cap A cur1).mono ?_
    rintro e w2 ⟨x, xl, rfl, cur2, gr2⟩
    have gr12 := grown_trans gr1 gr2
    obtain ⟨x', w2', hx', hw2, q, cur2', gr12'⟩ : ∃ (x' : Nat) (w2' : World), x' < 4294967296 ∧ w2' = w2' ∧ (convert 53 69 (.float .f64 x)).run Try.prog w2 = .ok (.float .f32 x') w2' ∧ Cur w2' B g A len cap ∧ w.grownBy w2' (some g) := by
      rcases nar_any 53 69 hs Try.underlying69 x with ⟨r, hr, q⟩ | ⟨nb, hr, q⟩
      · exact ⟨r, w2, hr, rfl, q w2, cur2, gr12⟩
      · exact ⟨_, w2.drew, hr _, rfl, q w2, (cur_drew cur2 gr12).1, (cur_drew cur2 gr12).2⟩
    clear hw2 cur2 gr12 gr2 cur1 gr1
    go_wp2_with fail
    refine (d_odd _ _ g len cap A cur2').mono ?_
    rintro e w3 ⟨y, yl, rfl, cur3, gr3⟩
    have gr13 := grown_trans gr12' gr3
    clear q
    obtain ⟨y', w3', hy', hw3, q, cur3', gr13'⟩ : ∃ (x' : Nat) (w2' : World), x' < 4294967296 ∧ w2' = w2' ∧ (convert 53 69 (.float .f64 y)).run Try.prog w3 = .ok (.float .f32 x') w2' ∧ Cur w2' B g A len cap ∧ w.grownBy w2' (some g) := by
      rcases nar_any 53 69 hs Try.underlying69 y with ⟨r, hr, q⟩ | ⟨nb, hr, q⟩
      · exact ⟨r, w3, hr, rfl, q w3, cur3, gr13⟩
      · exact ⟨_, w3.drew, hr _, rfl, q w3, (cur_drew cur3 gr13).1, (cur_drew cur3 gr13).2⟩
    clear hw3 cur3 gr13 gr3 cur2' gr12'
    go_wp2
    go_ret
    exact ⟨x', y', hx', hy', rfl, cur3', gr13'⟩
end Go.Proofs.Ytibkhmdnfloemaa

/- Bearings of ways as a function; OnLayline (impl and spec); sailingTo where a place can be fetched. -/
import Derived.Test.YtonoknbangnleaaGreatTkB
import Derived.Test.YtonoknbangnleaaGreatScA
namespace Go.Proofs.YtonoknbangnleaaGreat
open Go.RowKit Ieee
set_option linter.unusedVariables false
set_option linter.unusedSimpArgs false

/-- The bearing of a way; less than 0: none. -/
noncomputable def brg (z : Nat × Nat) : Int := @ite _ (Points z) (Classical.propDecidable _) (((bst z 359).1 : Nat) : Int) (-1)
theorem brg_yes {z : Nat × Nat} (h : Points z) : brg z = ((bst z 359).1 : Nat) := by unfold brg; rw [if_pos h]
theorem brg_no {z : Nat × Nat} (h : ¬ Points z) : brg z = -1 := by unfold brg; rw [if_neg h]
theorem brg_bd (z : Nat × Nat) : -1 ≤ brg z ∧ brg z < 360 := by
  by_cases h : Points z
  · have := (bst_num h 359 (by omega)).2
    rw [brg_yes h]; omega
  · rw [brg_no h]; omega
theorem i_brg (z : Nat × Nat) (w : World) (h1 : z.1 < 18446744073709551616) (h2 : z.2 < 18446744073709551616) :
    Calls Tryz.prog 29 #[.complex .f64 z.1 z.2] w fun e w' => e = .returned (.int .i64 (brg z)) ∧ Below w.heap.size w w' := by
  by_cases h : Points z
  · rw [brg_yes h]; exact i_bear z w h1 h2 h
  · rw [brg_no h]; exact (i_bear_no z.1 z.2 w h1 h2 h).mono fun e w' ⟨a, b⟩ => ⟨a, b ▸ Below.refl _ _⟩
set_option maxRecDepth 100000 in
set_option maxHeartbeats 1000000 in
theorem s_bear_none (a b : Nat) (w : World) (ha : a < 18446744073709551616) (hb : b < 18446744073709551616) (hn : ¬ Points (a, b)) :
    Calls Tryz.prog 30 #[.complex .f64 a b] w fun e w' => e = .returned (.int .i64 (-1)) ∧ w = w' := by
  obtain ⟨za, hza⟩ : ∃ za, (FloatKind.f64.format.order a 0 == some .eq) = za := ⟨_, rfl⟩
  obtain ⟨zb, hzb⟩ : ∃ zb, (FloatKind.f64.format.order b 0 == some .eq) = zb := ⟨_, rfl⟩
  have HN := Lib.hid hn
  have HZ := Lib.hid (And.intro hza hzb)
  clear hn
  go_enter Tryz.func30, Tryz.ntmps30
  go_wp2_with fail
  refine (s_vok a b _ ha hb).mono ?_
  rintro e w1 ⟨t, ht, rfl, rfl⟩
  have HT := Lib.hid ht
  clear ht
  cases t
  · go_wp2
    go_ret
    exact ⟨rfl, rfl⟩
  · cases za
    · exfalso
      exact HN.out ⟨(HT.out.1 rfl).1, (HT.out.1 rfl).2, by rw [show (f64.order a 0 == some .eq) = false from HZ.out.1]; rfl⟩
    · cases zb
      · exfalso
        exact HN.out ⟨(HT.out.1 rfl).1, (HT.out.1 rfl).2, by rw [show (f64.order b 0 == some .eq) = false from HZ.out.2, Bool.and_false]⟩
      · go_wp2
        go_ret
        exact ⟨rfl, rfl⟩
theorem s_brg (z : Nat × Nat) (w : World) (h1 : z.1 < 18446744073709551616) (h2 : z.2 < 18446744073709551616) :
    Calls Tryz.prog 30 #[.complex .f64 z.1 z.2] w fun e w' => e = .returned (.int .i64 (brg z)) ∧ w = w' := by
  by_cases h : Points z
  · rw [brg_yes h]; exact s_bear z w h1 h2 h
  · rw [brg_no h]; exact s_bear_none z.1 z.2 w h1 h2 h
/-- On which layline a bearing lies. -/
def onL (t : Bool) (a b k : Int) : Int := if t = true then (if k = a then 1 else if k = b then 2 else 0) else 0
set_option maxRecDepth 100000 in
set_option maxHeartbeats 2000000 in
theorem i_onL (P : Pol) (v z : Nat × Nat) (w : World) (h : PolIn w P) (ha : v.1 < 4294967296) (hb : v.2 < 4294967296) (h1 : z.1 < 18446744073709551616) (h2 : z.2 < 18446744073709551616) :
    Calls Tryz.prog 8 #[.agg #[.slice P.W P.nw P.cw, .slice P.A P.na P.ca, .slice P.S P.ns P.cs], .complex .f32 v.1 v.2, .complex .f64 z.1 z.2] w
      fun e w' => e = .returned (.int .i64 (onL (hdT (frm v) (upE P (wsW v))) (hdA (frm v) (upE P (wsW v))) (hdB (frm v) (upE P (wsW v))) (brg z))) ∧ Below w.heap.size w w' := by
  have HC := Lib.hid (fun w' (hk : Keeps w w') => i_TackHeadings P v w' (h.keeps hk) ha hb)
  have HG := Lib.hid (fun w' => i_brg z w' h1 h2)
  generalize hdA (frm v) (upE P (wsW v)) = A at *
  generalize hdB (frm v) (upE P (wsW v)) = B at *
  generalize hdT (frm v) (upE P (wsW v)) = T at *
  generalize brg z = k at *
  obtain ⟨v1, v2⟩ := v
  obtain ⟨z1, z2⟩ := z
  dsimp only at *
  clear h ha hb h1 h2
  have hst := BoxIn.new w P
  have k0 := hst.c0
  have k1 := hst.c1
  have k2 := hst.c2
  have HB := Lib.hid hst
  clear hst
  have hq : T = false ∨ (T = true ∧ k = A) ∨ (T = true ∧ ¬ k = A ∧ k = B) ∨ (T = true ∧ ¬ k = A ∧ ¬ k = B) := by
    cases T
    · left; rfl
    · right
      by_cases e1 : k = A
      · left; exact ⟨rfl, e1⟩
      · right
        by_cases e2 : k = B
        · left; exact ⟨rfl, e1, e2⟩
        · right; exact ⟨rfl, e1, e2⟩
  have HX : Hid ((T = false → onL T A B k = 0) ∧ (T = true → k = A → onL T A B k = 1) ∧ (T = true → ¬ k = A → k = B → onL T A B k = 2) ∧ (T = true → ¬ k = A → ¬ k = B → onL T A B k = 0)) := Lib.hid (by
    unfold onL
    refine ⟨fun a => by rw [a]; rfl, fun a b => by rw [if_pos a, if_pos b], fun a b c => by rw [if_pos a, if_neg b, if_pos c], fun a b c => by rw [if_pos a, if_neg b, if_neg c]⟩)
  generalize onL T A B k = r at *
  go_enter Tryz.func8, Tryz.ntmps8
  go_wp2_with fail
  refine (HC.out _ HB.out.keeps).mono ?_
  rintro e w1 ⟨rfl, b1⟩
  have HB1 := Lib.hid (HB.out.step b1)
  clear k0 k1 k2 HB b1
  rcases hq with rfl | ⟨rfl, rfl⟩ | ⟨rfl, e1, rfl⟩ | ⟨rfl, e1, e2⟩
  · obtain rfl := HX.out.1 rfl
    clear HX
    go_wp2
    go_ret
    exact ⟨rfl, HB1.out.below⟩
  · obtain rfl := HX.out.2.1 rfl rfl
    clear HX
    go_wp2_with fail
    refine (HG.out _).mono ?_
    rintro e w2 ⟨rfl, b2⟩
    go_wp2
    go_ret
    exact ⟨rfl, (HB1.out.step b2).below⟩
  · obtain rfl := HX.out.2.2.1 rfl e1 rfl
    clear HX
    go_wp2_with fail
    refine (HG.out _).mono ?_
    rintro e w2 ⟨rfl, b2⟩
    go_wp2
    go_ret
    exact ⟨rfl, (HB1.out.step b2).below⟩
  · obtain rfl := HX.out.2.2.2 rfl e1 e2
    clear HX
    go_wp2_with fail
    refine (HG.out _).mono ?_
    rintro e w2 ⟨rfl, b2⟩
    go_wp2
    go_ret
    exact ⟨rfl, (HB1.out.step b2).below⟩
set_option maxRecDepth 100000 in
set_option maxHeartbeats 2000000 in
theorem s_onL (P : Pol) (v z : Nat × Nat) (w : World) (h : PolIn w P) (ha : v.1 < 4294967296) (hb : v.2 < 4294967296) (h1 : z.1 < 18446744073709551616) (h2 : z.2 < 18446744073709551616) :
    Calls Tryz.prog 9 #[.agg #[.slice P.W P.nw P.cw, .slice P.A P.na P.ca, .slice P.S P.ns P.cs], .complex .f32 v.1 v.2, .complex .f64 z.1 z.2] w
      fun e w' => e = .returned (.int .i64 (onL (hdT (frm v) (upE P (wsW v))) (hdA (frm v) (upE P (wsW v))) (hdB (frm v) (upE P (wsW v))) (brg z))) ∧ Below w.heap.size w w' := by
  have HC := Lib.hid (fun w' (hk : Keeps w w') => s_TackHeadings P v w' (h.keeps hk) ha hb)
  have HG := fun w' => s_brg z w' h1 h2
  generalize hdA (frm v) (upE P (wsW v)) = A at *
  generalize hdB (frm v) (upE P (wsW v)) = B at *
  generalize hdT (frm v) (upE P (wsW v)) = T at *
  generalize brg z = k at *
  obtain ⟨v1, v2⟩ := v
  obtain ⟨z1, z2⟩ := z
  dsimp only at *
  clear h ha hb h1 h2
  have hst := BoxIn.new w P
  have k0 := hst.c0
  have k1 := hst.c1
  have k2 := hst.c2
  have HB := Lib.hid hst
  clear hst
  have hq : T = false ∨ (T = true ∧ k = A) ∨ (T = true ∧ ¬ k = A ∧ k = B) ∨ (T = true ∧ ¬ k = A ∧ ¬ k = B) := by
    cases T
    · left; rfl
    · right
      by_cases e1 : k = A
      · left; exact ⟨rfl, e1⟩
      · right
        by_cases e2 : k = B
        · left; exact ⟨rfl, e1, e2⟩
        · right; exact ⟨rfl, e1, e2⟩
  have HX : Hid ((T = false → onL T A B k = 0) ∧ (T = true → k = A → onL T A B k = 1) ∧ (T = true → ¬ k = A → k = B → onL T A B k = 2) ∧ (T = true → ¬ k = A → ¬ k = B → onL T A B k = 0)) := Lib.hid (by
    unfold onL
    refine ⟨fun a => by rw [a]; rfl, fun a b => by rw [if_pos a, if_pos b], fun a b c => by rw [if_pos a, if_neg b, if_pos c], fun a b c => by rw [if_pos a, if_neg b, if_neg c]⟩)
  generalize onL T A B k = r at *
  go_enter Tryz.func9, Tryz.ntmps9
  go_wp2_with fail
  refine (HC.out _ HB.out.keeps).mono ?_
  rintro e w1 ⟨rfl, b1⟩
  have HB1 := Lib.hid (HB.out.step b1)
  clear k0 k1 k2 HB b1
  rcases hq with rfl | ⟨rfl, rfl⟩ | ⟨rfl, e1, rfl⟩ | ⟨rfl, e1, e2⟩
  · obtain rfl := HX.out.1 rfl
    clear HX
    go_wp2_with (go_at_call 30; ((with_reducible refine (HG _).mono ?_); rintro e w' ⟨rfl, rfl⟩))
    go_ret
    exact ⟨rfl, HB1.out.below⟩
  · obtain rfl := HX.out.2.1 rfl rfl
    clear HX
    go_wp2_with (go_at_call 30; ((with_reducible refine (HG _).mono ?_); rintro e w' ⟨rfl, rfl⟩))
    go_ret
    exact ⟨rfl, HB1.out.below⟩
  · obtain rfl := HX.out.2.2.1 rfl e1 rfl
    clear HX
    go_wp2_with (go_at_call 30; ((with_reducible refine (HG _).mono ?_); rintro e w' ⟨rfl, rfl⟩))
    go_ret
    exact ⟨rfl, HB1.out.below⟩
  · obtain rfl := HX.out.2.2.2 rfl e1 e2
    clear HX
    go_wp2_with (go_at_call 30; ((with_reducible refine (HG _).mono ?_); rintro e w' ⟨rfl, rfl⟩))
    go_ret
    exact ⟨rfl, HB1.out.below⟩
end Go.Proofs.YtonoknbangnleaaGreat

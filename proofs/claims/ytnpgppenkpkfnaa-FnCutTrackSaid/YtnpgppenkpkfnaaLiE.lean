/- Starts (spec): StartTime. -/
import Derived.Test.YtnpgppenkpkfnaaLiD
namespace Go.Proofs.Ytnpgppenkpkfnaa
open Go.RowKit
set_option linter.unusedVariables false
set_option linter.unusedSimpArgs false

theorem s_ct (l : Ln) (s t : Sg) (w : World) :
    Calls Try.prog 40 #[.agg #[.int .i64 l.1.1, .int .i64 l.1.2, .int .i64 l.2.1, .int .i64 l.2.2], .agg #[.int .i64 s.1.1, .int .i64 s.1.2, .int .i64 s.2], .agg #[.int .i64 t.1.1, .int .i64 t.1.2, .int .i64 t.2]] w
      fun e w' => e = .returned (.tuple #[.int .i64 (ctW l s t), .bool (ctB l s t)]) ∧ Below w.heap.size w w' := by
  unfold ctW
  cases h : ctB l s t
  · exact s_ct_no l s t w h
  · exact s_ct_yes l s t w h
/-- A start: a step that is crossed so, at that time or later. -/
noncomputable def hitB (l : Ln) (f : Nat → Sg) (gun : Int) (k : Nat) : Bool := ctB l (f k) (f (k + 1)) && decide (gun ≤ ctW l (f k) (f (k + 1))) && decide (crW l (f k).1 (f (k + 1)).1 = 1)
/-- The first start of so many steps, from a step on. -/
noncomputable def stFrom (l : Ln) (f : Nat → Sg) (gun : Int) : Nat → Nat → Int × Bool
  | 0, _ => (0, false)
  | m + 1, k => if hitB l f gun k = true then (ctW l (f k) (f (k + 1)), true) else stFrom l f gun m (k + 1)
noncomputable def stR (l : Ln) (n : Nat) (f : Nat → Sg) (gun : Int) : Int × Bool := if tkB n f = true then stFrom l f gun (n - 1) 0 else (0, false)
/-- What stands while a line and a track are looked at. -/
def LtS (w : World) (c : Array Value) (ty : TypeId) (g o n : Nat) (f : Nat → Sg) (wr : World) : Prop := Bx1 w c ty wr ∧ SigsIn wr g o n f
theorem LtS.step {w w1 w2 : World} {c : Array Value} {ty : TypeId} {g o n : Nat} {f : Nat → Sg} (h : LtS w c ty g o n f w1) (b : Below w1.heap.size w1 w2) : LtS w c ty g o n f w2 := ⟨h.1.step b, h.2.below b (Nat.le_refl _)⟩
theorem LtS.drew {w w1 : World} {c : Array Value} {ty : TypeId} {g o n : Nat} {f : Nat → Sg} (h : LtS w c ty g o n f w1) : LtS w c ty g o n f w1.drew := ⟨h.1.drew, h.2⟩
theorem LtS.below {w w1 : World} {c : Array Value} {ty : TypeId} {g o n : Nat} {f : Nat → Sg} (h : LtS w c ty g o n f w1) : Below w.heap.size w w1 := h.1.2
theorem LtS.new {w : World} {c : Array Value} {ty : TypeId} {g o n : Nat} {f : Nat → Sg} (h : SigsIn w g o n f) : LtS w c ty g o n f (w.alloc (.cells c ty)) :=
  ⟨Bx1.new w c ty, h.below ((Below.refl _ w).alloc (Nat.le_refl _) _) (Nat.le_refl _)⟩
set_option maxRecDepth 100000 in
set_option maxHeartbeats 2000000 in
theorem s_start (l : Ln) (f : Nat → Sg) (A : Option Addr) (g o n cap : Nat) (gun : Int) (w : World) (hn : n ≤ 1048576) (hA : 0 < n → A = some ⟨g, o, none⟩) (hw : SigsIn w g o n f) :
    Calls Try.prog 30 #[.agg #[.int .i64 l.1.1, .int .i64 l.1.2, .int .i64 l.2.1, .int .i64 l.2.2], .slice A n cap, .int .i64 gun] w
      fun e w' => e = .returned (.tuple #[.int .i64 (stR l n f gun).1, .bool (stR l n f gun).2]) ∧ Below w.heap.size w w' := by
  obtain ⟨⟨x1, x2⟩, x3, x4⟩ := l
  dsimp only
  have hst := Lib.hid (LtS.new (c := #[.int .i64 x1, .int .i64 x2, .int .i64 x3, .int .i64 x4]) (ty := 27) hw)
  have HT := Lib.hid (fun w' (h : SigsIn w' g o n f) => s_tk f A g o n cap w' hn hA h)
  clear hw
  cases ht : tkB n f
  · have hR : stR ((x1, x2), x3, x4) n f gun = (0, false) := by unfold stR; rw [ht]; rfl
    rw [hR]
    rw [ht] at HT
    clear hR ht
    go_enter Try.func30, Try.ntmps30
    go_wp2_with fail
    refine (HT.out _ hst.out.2).mono ?_
    rintro e w1 ⟨rfl, b1⟩
    have hst1 := Lib.hid (hst.out.step b1)
    clear hst b1
    go_wp2
    go_ret2
    exact ⟨rfl, hst1.out.below⟩
  · have hR : stR ((x1, x2), x3, x4) n f gun = stFrom ((x1, x2), x3, x4) f gun (n - 1) 0 := by unfold stR; rw [ht]; rfl
    rw [hR]
    rw [ht] at HT
    clear hR ht
    obtain ⟨⟨r1, r2⟩, hr⟩ : ∃ r, stFrom ((x1, x2), x3, x4) f gun (n - 1) 0 = r := ⟨_, rfl⟩
    rw [hr]
    go_enter Try.func30, Try.ntmps30
    go_wp2_with fail
    refine (HT.out _ hst.out.2).mono ?_
    rintro e w1 ⟨rfl, b1⟩
    have hst1 := Lib.hid (hst.out.step b1)
    have HR0 := Lib.hid hr
    clear hst b1 hr HT
    go_wp2
    go_loopw [8, 9, 10] (fun i _ _ wr => ∃ k : Nat, (k ≤ n) ∧ i = .int .i64 k ∧ stFrom ((x1, x2), x3, x4) f gun (n - 1 - k) k = (r1, r2) ∧ LtS w #[.int .i64 x1, .int .i64 x2, .int .i64 x3, .int .i64 x4] 27 g o n f wr) (fun i _ _ _ => n - (intOf i).toNat)
    case atStart => exact ⟨0, Nat.zero_le _, rfl, HR0.out, hst1.out⟩
    case round =>
      obtain ⟨k, hk, rfl, hrr, hst⟩ := hrel
      have HR := Lib.hid hrr
      clear hrr
      by_cases hlt : k + 1 < n
      · obtain rfl := hA (by omega)
        have z0 : (0 : Int) ≤ (k : Int) := by omega
        have z1' : (k : Int) < (n : Int) := by omega
        have z2' : (k : Int) + 1 < (n : Int) := by omega
        have z3' : (0 : Int) ≤ (k : Int) + 1 := by omega
        have z4 : ((k : Int) + 1).toNat = k + 1 := by omega
        have z5 : IntKind.i64.wrap ((k : Int) + 1) = (k : Int) + 1 := IntWalk.i64_in _ (by omega)
        obtain ⟨⟨⟨y1, y2⟩, y3⟩, hy⟩ : ∃ s, f k = s := ⟨_, rfl⟩
        obtain ⟨⟨⟨z1, z2⟩, z3⟩, hz⟩ : ∃ s, f (k + 1) = s := ⟨_, rfl⟩
        have HK := Lib.hid (And.intro hy hz)
        clear hy hz
        have l0 := fun s : Held (fun wx => LtS w #[.int .i64 x1, .int .i64 x2, .int .i64 x3, .int .i64 x4] 27 g o n f wx) => (cells_ln s.h.1.1).1
        have l1 := fun s : Held (fun wx => LtS w #[.int .i64 x1, .int .i64 x2, .int .i64 x3, .int .i64 x4] 27 g o n f wx) => (cells_ln s.h.1.1).2.1
        have l2 := fun s : Held (fun wx => LtS w #[.int .i64 x1, .int .i64 x2, .int .i64 x3, .int .i64 x4] 27 g o n f wx) => (cells_ln s.h.1.1).2.2.1
        have l3 := fun s : Held (fun wx => LtS w #[.int .i64 x1, .int .i64 x2, .int .i64 x3, .int .i64 x4] 27 g o n f wx) => (cells_ln s.h.1.1).2.2.2
        have d0 : ∀ s : Held (fun wx => LtS w #[.int .i64 x1, .int .i64 x2, .int .i64 x3, .int .i64 x4] 27 g o n f wx), s.w.cell? ⟨g, o + k * 3, none⟩ = some (.int .i64 y1) := fun s => by have := (s.h.2 k (by omega)).1; rw [HK.out.1] at this; exact this
        have d1 : ∀ s : Held (fun wx => LtS w #[.int .i64 x1, .int .i64 x2, .int .i64 x3, .int .i64 x4] 27 g o n f wx), s.w.cell? ⟨g, o + k * 3 + 1, none⟩ = some (.int .i64 y2) := fun s => by have := (s.h.2 k (by omega)).2.1; rw [HK.out.1] at this; exact this
        have d2 : ∀ s : Held (fun wx => LtS w #[.int .i64 x1, .int .i64 x2, .int .i64 x3, .int .i64 x4] 27 g o n f wx), s.w.cell? ⟨g, o + k * 3 + 2, none⟩ = some (.int .i64 y3) := fun s => by have := (s.h.2 k (by omega)).2.2; rw [HK.out.1] at this; exact this
        have d3 : ∀ s : Held (fun wx => LtS w #[.int .i64 x1, .int .i64 x2, .int .i64 x3, .int .i64 x4] 27 g o n f wx), s.w.cell? ⟨g, o + (k + 1) * 3, none⟩ = some (.int .i64 z1) := fun s => by have := (s.h.2 (k + 1) (by omega)).1; rw [HK.out.2] at this; exact this
        have d4 : ∀ s : Held (fun wx => LtS w #[.int .i64 x1, .int .i64 x2, .int .i64 x3, .int .i64 x4] 27 g o n f wx), s.w.cell? ⟨g, o + (k + 1) * 3 + 1, none⟩ = some (.int .i64 z2) := fun s => by have := (s.h.2 (k + 1) (by omega)).2.1; rw [HK.out.2] at this; exact this
        have d5 : ∀ s : Held (fun wx => LtS w #[.int .i64 x1, .int .i64 x2, .int .i64 x3, .int .i64 x4] 27 g o n f wx), s.w.cell? ⟨g, o + (k + 1) * 3 + 2, none⟩ = some (.int .i64 z3) := fun s => by have := (s.h.2 (k + 1) (by omega)).2.2; rw [HK.out.2] at this; exact this
        have HC := Lib.hid (fun w => s_ct ((x1, x2), x3, x4) ((y1, y2), y3) ((z1, z2), z3) w)
        have HX := Lib.hid (fun w => s_cr ((x1, x2), x3, x4) (y1, y2) (z1, z2) w)
        have e0 : stFrom ((x1, x2), x3, x4) f gun (n - 1 - k) k = if hitB ((x1, x2), x3, x4) f gun k = true then (ctW ((x1, x2), x3, x4) (f k) (f (k + 1)), true) else stFrom ((x1, x2), x3, x4) f gun (n - 1 - (k + 1)) (k + 1) := by
          rw [show n - 1 - k = (n - 1 - (k + 1)) + 1 by omega]; rfl
        have e1 : hitB ((x1, x2), x3, x4) f gun k = (ctB ((x1, x2), x3, x4) (f k) (f (k + 1)) && decide (gun ≤ ctW ((x1, x2), x3, x4) (f k) (f (k + 1))) && decide (crW ((x1, x2), x3, x4) (f k).1 (f (k + 1)).1 = 1)) := rfl
        rw [HK.out.1, HK.out.2] at e1
        rw [HK.out.1, HK.out.2] at e0
        dsimp only at e0 e1 HC
        generalize ctW ((x1, x2), x3, x4) ((y1, y2), y3) ((z1, z2), z3) = m at *
        generalize ctB ((x1, x2), x3, x4) ((y1, y2), y3) ((z1, z2), z3) = t at *
        generalize crW ((x1, x2), x3, x4) (y1, y2) (z1, z2) = c at *
        have hq : t = false ∨ (t = true ∧ ¬ gun ≤ m) ∨ (t = true ∧ gun ≤ m ∧ ¬ c = 1) ∨ (t = true ∧ gun ≤ m ∧ c = 1) := by
          cases t
          · left; rfl
          · by_cases a : gun ≤ m
            · by_cases b : c = 1
              · right; right; right; exact ⟨rfl, a, b⟩
              · right; right; left; exact ⟨rfl, a, b⟩
            · right; left; exact ⟨rfl, a⟩
        rcases hq with rfl | ⟨rfl, ha⟩ | ⟨rfl, ha, hb⟩ | ⟨rfl, ha, rfl⟩
        · have HN := Lib.hid (show stFrom ((x1, x2), x3, x4) f gun (n - 1 - k) k = stFrom ((x1, x2), x3, x4) f gun (n - 1 - (k + 1)) (k + 1) by rw [e0, e1]; rfl)
          rw [HN.out] at HR
          clear e0 e1 HN
          have HN := HR
          go_wp2
          haveI hne : Nonempty (Held fun wx => LtS w #[.int .i64 x1, .int .i64 x2, .int .i64 x3, .int .i64 x4] 27 g o n f wx) := ⟨⟨_, hst⟩⟩
          refine wp_region_class (fun wx => LtS w #[.int .i64 x1, .int .i64 x2, .int .i64 x3, .int .i64 x4] 27 g o n f wx) (by kernel_rfl) (by kernel_rfl) (LtS.drew hst) ?_
          repeat (go_big_quiet_step (first
            | (go_at_call 40; exact held_call LtS.step (HC.out _))))
          refine wpQuiet_nil ?_
          intro _ hw'
          obtain ⟨⟨wq, hst6⟩, rfl⟩ := hw'
          (try dsimp only)
          go_wp2
          haveI hne : Nonempty (Held fun wx => LtS w #[.int .i64 x1, .int .i64 x2, .int .i64 x3, .int .i64 x4] 27 g o n f wx) := ⟨⟨_, hst6⟩⟩
          refine wp_region_class (fun wx => LtS w #[.int .i64 x1, .int .i64 x2, .int .i64 x3, .int .i64 x4] 27 g o n f wx) (by kernel_rfl) (by kernel_rfl) (LtS.drew hst6) ?_
          repeat (go_big_quiet_step (first
            | (go_at_call 22; exact held_call LtS.step (HX.out _))))
          refine wpQuiet_nil ?_
          intro _ hw'
          obtain ⟨⟨wq, hst7⟩, rfl⟩ := hw'
          (try dsimp only)
          all_goals
            go_wp2_with fail
            go_roundw
            case rel => exact ⟨k + 1, by omega, by go_num, HN.out, hst7⟩
            case measure => simp [intOf]; omega
        · have HN := Lib.hid (show stFrom ((x1, x2), x3, x4) f gun (n - 1 - k) k = stFrom ((x1, x2), x3, x4) f gun (n - 1 - (k + 1)) (k + 1) by rw [e0, e1]; simp [ha])
          rw [HN.out] at HR
          have hg : decide (m ≥ gun) = false := decide_eq_false ha
          clear e0 e1 HN
          have HN := HR
          go_wp2
          haveI hne : Nonempty (Held fun wx => LtS w #[.int .i64 x1, .int .i64 x2, .int .i64 x3, .int .i64 x4] 27 g o n f wx) := ⟨⟨_, hst⟩⟩
          refine wp_region_class (fun wx => LtS w #[.int .i64 x1, .int .i64 x2, .int .i64 x3, .int .i64 x4] 27 g o n f wx) (by kernel_rfl) (by kernel_rfl) (LtS.drew hst) ?_
          repeat (go_big_quiet_step (first
            | (go_at_call 40; exact held_call LtS.step (HC.out _))))
          refine wpQuiet_nil ?_
          intro _ hw'
          obtain ⟨⟨wq, hst6⟩, rfl⟩ := hw'
          (try dsimp only)
          go_wp2
          haveI hne : Nonempty (Held fun wx => LtS w #[.int .i64 x1, .int .i64 x2, .int .i64 x3, .int .i64 x4] 27 g o n f wx) := ⟨⟨_, hst6⟩⟩
          refine wp_region_class (fun wx => LtS w #[.int .i64 x1, .int .i64 x2, .int .i64 x3, .int .i64 x4] 27 g o n f wx) (by kernel_rfl) (by kernel_rfl) (LtS.drew hst6) ?_
          repeat (go_big_quiet_step (first
            | (go_at_call 22; exact held_call LtS.step (HX.out _))))
          refine wpQuiet_nil ?_
          intro _ hw'
          obtain ⟨⟨wq, hst7⟩, rfl⟩ := hw'
          (try dsimp only)
          all_goals
            go_wp2_with fail
            go_roundw
            case rel => exact ⟨k + 1, by omega, by go_num, HN.out, hst7⟩
            case measure => simp [intOf]; omega
        · have HN := Lib.hid (show stFrom ((x1, x2), x3, x4) f gun (n - 1 - k) k = stFrom ((x1, x2), x3, x4) f gun (n - 1 - (k + 1)) (k + 1) by rw [e0, e1]; simp [ha, hb])
          rw [HN.out] at HR
          have hg : decide (m ≥ gun) = true := decide_eq_true ha
          have hcc : (c == 1) = false := by rw [beq_eq_false_iff_ne]; exact hb
          clear e0 e1 HN
          have HN := HR
          go_wp2
          haveI hne : Nonempty (Held fun wx => LtS w #[.int .i64 x1, .int .i64 x2, .int .i64 x3, .int .i64 x4] 27 g o n f wx) := ⟨⟨_, hst⟩⟩
          refine wp_region_class (fun wx => LtS w #[.int .i64 x1, .int .i64 x2, .int .i64 x3, .int .i64 x4] 27 g o n f wx) (by kernel_rfl) (by kernel_rfl) (LtS.drew hst) ?_
          repeat (go_big_quiet_step (first
            | (go_at_call 40; exact held_call LtS.step (HC.out _))))
          refine wpQuiet_nil ?_
          intro _ hw'
          obtain ⟨⟨wq, hst6⟩, rfl⟩ := hw'
          (try dsimp only)
          go_wp2
          haveI hne : Nonempty (Held fun wx => LtS w #[.int .i64 x1, .int .i64 x2, .int .i64 x3, .int .i64 x4] 27 g o n f wx) := ⟨⟨_, hst6⟩⟩
          refine wp_region_class (fun wx => LtS w #[.int .i64 x1, .int .i64 x2, .int .i64 x3, .int .i64 x4] 27 g o n f wx) (by kernel_rfl) (by kernel_rfl) (LtS.drew hst6) ?_
          repeat (go_big_quiet_step (first
            | (go_at_call 22; exact held_call LtS.step (HX.out _))))
          refine wpQuiet_nil ?_
          intro _ hw'
          obtain ⟨⟨wq, hst7⟩, rfl⟩ := hw'
          (try dsimp only)
          all_goals
            go_wp2_with fail
            go_roundw
            case rel => exact ⟨k + 1, by omega, by go_num, HN.out, hst7⟩
            case measure => simp [intOf]; omega
        · have HN := Lib.hid (show (m, true) = (r1, r2) by rw [← HR.out, e0, e1]; simp [ha])
          have hg : decide (m ≥ gun) = true := decide_eq_true ha
          obtain ⟨rfl, rfl⟩ := Prod.mk.injEq .. ▸ HN.out
          clear e0 e1 HN
          go_wp2
          haveI hne : Nonempty (Held fun wx => LtS w #[.int .i64 x1, .int .i64 x2, .int .i64 x3, .int .i64 x4] 27 g o n f wx) := ⟨⟨_, hst⟩⟩
          refine wp_region_class (fun wx => LtS w #[.int .i64 x1, .int .i64 x2, .int .i64 x3, .int .i64 x4] 27 g o n f wx) (by kernel_rfl) (by kernel_rfl) (LtS.drew hst) ?_
          repeat (go_big_quiet_step (first
            | (go_at_call 40; exact held_call LtS.step (HC.out _))))
          refine wpQuiet_nil ?_
          intro _ hw'
          obtain ⟨⟨wq, hst6⟩, rfl⟩ := hw'
          (try dsimp only)
          go_wp2
          haveI hne : Nonempty (Held fun wx => LtS w #[.int .i64 x1, .int .i64 x2, .int .i64 x3, .int .i64 x4] 27 g o n f wx) := ⟨⟨_, hst6⟩⟩
          refine wp_region_class (fun wx => LtS w #[.int .i64 x1, .int .i64 x2, .int .i64 x3, .int .i64 x4] 27 g o n f wx) (by kernel_rfl) (by kernel_rfl) (LtS.drew hst6) ?_
          repeat (go_big_quiet_step (first
            | (go_at_call 22; exact held_call LtS.step (HX.out _))))
          refine wpQuiet_nil ?_
          intro _ hw'
          obtain ⟨⟨wq, hst7⟩, rfl⟩ := hw'
          (try dsimp only)
          go_wp2
          go_ret2
          exact ⟨rfl, hst7.below⟩
      · have HN := Lib.hid (show (0, false) = (r1, r2) by rw [← HR.out, show n - 1 - k = 0 by omega]; rfl)
        obtain ⟨rfl, rfl⟩ := Prod.mk.injEq .. ▸ HN.out
        have z2' : ¬ (k : Int) + 1 < (n : Int) := by omega
        have z5 : IntKind.i64.wrap ((k : Int) + 1) = (k : Int) + 1 := IntWalk.i64_in _ (by omega)
        go_wp2
        go_ret2
        exact ⟨rfl, hst.below⟩
end Go.Proofs.Ytnpgppenkpkfnaa

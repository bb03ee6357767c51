/- When a race is done (spec): the step that starts, RaceTime. -/
import Derived.Test.YthahakefmpajfaaLkG
namespace Go.Proofs.Ythahakefmpajfaa
open Go.RowKit
set_option linter.unusedVariables false
set_option linter.unusedSimpArgs false

/-- The second sight of the step that starts. -/
noncomputable def sdFrom (l : Ln) (f : Nat → Sg) (gun : Int) : Nat → Nat → Int
  | 0, _ => -1
  | r + 1, i => if hitB l f gun i = true then (i : Int) + 1 else sdFrom l f gun r (i + 1)
theorem sdFrom_ok (l : Ln) (f : Nat → Sg) (gun : Int) : ∀ (r i : Nat), sdFrom l f gun r i = -1 ∨ ((i : Int) < sdFrom l f gun r i ∧ sdFrom l f gun r i ≤ (i : Int) + r)
  | 0, i => .inl rfl
  | r + 1, i => by
    have ih := sdFrom_ok l f gun r (i + 1)
    unfold sdFrom
    split
    · right; omega
    · rcases ih with h | ⟨h1, h2⟩
      · exact .inl h
      · right; omega
noncomputable def raB (c : Crs) (n : Nat) (f : Nat → Sg) (gun : Int) : Bool := coB c && tkB n f && decide (0 ≤ gun ∧ gun ≤ 10000000)
noncomputable def raW (c : Crs) (n : Nat) (f : Nat → Sg) (gun : Int) : Int × Bool :=
  if raB c n f gun = true then (if sdFrom c.st f gun (n - 1) 0 < 0 then (0, false) else if (fnW c n f (sdFrom c.st f gun (n - 1) 0)).2 = true then ((fnW c n f (sdFrom c.st f gun (n - 1) 0)).1 - gun, true) else (0, false)) else (0, false)
theorem ct_bd (l : Ln) (s t : Sg) : 0 ≤ ctW l s t ∧ ctW l s t ≤ 10000000 := by
  by_cases h : ctB l s t = true
  · obtain ⟨h1, h2⟩ := ctB_iff.1 h
    obtain ⟨_, _, _, hs⟩ := cr_sides h1
    obtain ⟨_, _, bs, bt, lt⟩ := tk2_iff.1 h2
    have q := ct_quo (T := t.2 - s.2) (by omega) (hs.imp (fun ⟨a, b, _⟩ => ⟨a, b⟩) (fun ⟨a, b, _⟩ => ⟨a, b⟩))
    have e : ctW l s t = s.2 + ctD (t.2 - s.2) (hgt l s.1) (hgt l t.1) := by unfold ctW; rw [h]; rfl
    rw [e]
    omega
  · unfold ctW
    rw [if_neg h]
    omega
theorem fn_bd (l : Ln) (f : Nat → Sg) : ∀ (r i : Nat), 0 ≤ (fnFrom l f r i).1 ∧ (fnFrom l f r i).1 ≤ 10000000
  | 0, i => ⟨Int.le_refl _, by show (0 : Int) ≤ _; omega⟩
  | r + 1, i => by
    unfold fnFrom
    split
    · exact ct_bd _ _ _
    · exact fn_bd l f r (i + 1)
theorem fnW_bd (c : Crs) (n : Nat) (f : Nat → Sg) (b : Int) : 0 ≤ (fnW c n f b).1 ∧ (fnW c n f b).1 ≤ 10000000 := by
  unfold fnW
  split
  · exact ⟨Int.le_refl _, by show (0 : Int) ≤ _; omega⟩
  · exact fn_bd _ _ _ _
set_option maxRecDepth 100000 in
set_option maxHeartbeats 4000000 in
theorem s_started (c : Crs) (A : Option Addr) (g o cap : Nat) (f : Nat → Sg) (TA : Option Addr) (tg tO n tcap : Nat) (gun : Int) (w : World) (hw : MksIn w g o c.n c.mf)
    (hm : n ≤ 1048576) (hT : 0 < n → TA = some ⟨tg, tO, none⟩) (hv : SigsIn w tg tO n f) :
    Calls Try.prog 72 #[.agg #[.int .i64 c.st.1.1, .int .i64 c.st.1.2, .int .i64 c.st.2.1, .int .i64 c.st.2.2, .slice A c.n cap, .int .i64 c.fi.1.1, .int .i64 c.fi.1.2, .int .i64 c.fi.2.1, .int .i64 c.fi.2.2], .slice TA n tcap, .int .i64 gun] w fun e w' => e = .returned (.int .i64 (sdFrom c.st f gun (n - 1) 0)) ∧ Below w.heap.size w w' := by
  have hs := Lib.hid (CtS.new (c := #[.int .i64 c.st.1.1, .int .i64 c.st.1.2, .int .i64 c.st.2.1, .int .i64 c.st.2.2, .slice A c.n cap, .int .i64 c.fi.1.1, .int .i64 c.fi.1.2, .int .i64 c.fi.2.1, .int .i64 c.fi.2.2]) (ty := 36) hw hv)
  clear hw hv
  obtain ⟨r, hr⟩ : ∃ r, sdFrom c.st f gun (n - 1) 0 = r := ⟨_, rfl⟩
  rw [hr]
  have HR0 := Lib.hid hr
  clear hr
  go_enter Try.func72, Try.ntmps72
  go_wp2
  go_loopw [7, 8, 9] (fun i _ _ wr => ∃ j : Nat, (j ≤ n) ∧ i = .int .i64 j ∧ sdFrom c.st f gun (n - 1 - j) j = r ∧ CtS w #[.int .i64 c.st.1.1, .int .i64 c.st.1.2, .int .i64 c.st.2.1, .int .i64 c.st.2.2, .slice A c.n cap, .int .i64 c.fi.1.1, .int .i64 c.fi.1.2, .int .i64 c.fi.2.1, .int .i64 c.fi.2.2] 36 g o c.n c.mf tg tO n f wr) (fun i _ _ _ => n - (intOf i).toNat)
  case atStart => exact ⟨0, Nat.zero_le _, rfl, HR0.out, hs.out⟩
  case round =>
    obtain ⟨j, hj, rfl, hrr, hst⟩ := hrel
    have HR := Lib.hid hrr
    clear hrr hs HR0
    by_cases hlt : j + 1 < n
    · obtain rfl := hT (by omega)
      have z1 : (j : Int) + 1 < (n : Int) := by omega
      have z2 : (j : Int) < (n : Int) := by omega
      have z4 : (0 : Int) ≤ (j : Int) := by omega
      have z5 : (0 : Int) ≤ (j : Int) + 1 := by omega
      have z7 : ((j : Int) + 1).toNat = j + 1 := by omega
      have z8 : IntKind.i64.wrap ((j : Int) + 1) = (j : Int) + 1 := IntWalk.i64_in _ (by omega)
      obtain ⟨⟨⟨y1, y2⟩, y3⟩, hy⟩ : ∃ s, f j = s := ⟨_, rfl⟩
      obtain ⟨⟨⟨x1, x2⟩, x3⟩, hx⟩ : ∃ s, f (j + 1) = s := ⟨_, rfl⟩
      have HF := Lib.hid (And.intro hy hx)
      clear hy hx
      have HX := Lib.hid (fun w => s_cr c.st (y1, y2) (x1, x2) w)
      have HC := Lib.hid (fun w => s_ct c.st ((y1, y2), y3) ((x1, x2), x3) w)
      have e0 : sdFrom c.st f gun (n - 1 - j) j = if hitB c.st f gun j = true then (j : Int) + 1 else sdFrom c.st f gun (n - 1 - (j + 1)) (j + 1) := by
        rw [show n - 1 - j = (n - 1 - (j + 1)) + 1 by omega]; rfl
      have e1 : hitB c.st f gun j = (ctB c.st (f j) (f (j + 1)) && decide (gun ≤ ctW c.st (f j) (f (j + 1))) && decide (crW c.st (f j).1 (f (j + 1)).1 = 1)) := rfl
      rw [HF.out.1, HF.out.2] at e1
      dsimp only at e1 HX HC
      generalize crW c.st (y1, y2) (x1, x2) = cr at *
      generalize ctW c.st ((y1, y2), y3) ((x1, x2), x3) = m at *
      generalize ctB c.st ((y1, y2), y3) ((x1, x2), x3) = t at *
      have re0 := fun s : Held (fun wx => CtS w #[.int .i64 c.st.1.1, .int .i64 c.st.1.2, .int .i64 c.st.2.1, .int .i64 c.st.2.2, .slice A c.n cap, .int .i64 c.fi.1.1, .int .i64 c.fi.1.2, .int .i64 c.fi.2.1, .int .i64 c.fi.2.2] 36 g o c.n c.mf tg tO n f wx) => (cells9 s.h.1.1.1).1
      have re1 := fun s : Held (fun wx => CtS w #[.int .i64 c.st.1.1, .int .i64 c.st.1.2, .int .i64 c.st.2.1, .int .i64 c.st.2.2, .slice A c.n cap, .int .i64 c.fi.1.1, .int .i64 c.fi.1.2, .int .i64 c.fi.2.1, .int .i64 c.fi.2.2] 36 g o c.n c.mf tg tO n f wx) => (cells9 s.h.1.1.1).2.1
      have re2 := fun s : Held (fun wx => CtS w #[.int .i64 c.st.1.1, .int .i64 c.st.1.2, .int .i64 c.st.2.1, .int .i64 c.st.2.2, .slice A c.n cap, .int .i64 c.fi.1.1, .int .i64 c.fi.1.2, .int .i64 c.fi.2.1, .int .i64 c.fi.2.2] 36 g o c.n c.mf tg tO n f wx) => (cells9 s.h.1.1.1).2.2.1
      have re3 := fun s : Held (fun wx => CtS w #[.int .i64 c.st.1.1, .int .i64 c.st.1.2, .int .i64 c.st.2.1, .int .i64 c.st.2.2, .slice A c.n cap, .int .i64 c.fi.1.1, .int .i64 c.fi.1.2, .int .i64 c.fi.2.1, .int .i64 c.fi.2.2] 36 g o c.n c.mf tg tO n f wx) => (cells9 s.h.1.1.1).2.2.2.1
      have re4 := fun s : Held (fun wx => CtS w #[.int .i64 c.st.1.1, .int .i64 c.st.1.2, .int .i64 c.st.2.1, .int .i64 c.st.2.2, .slice A c.n cap, .int .i64 c.fi.1.1, .int .i64 c.fi.1.2, .int .i64 c.fi.2.1, .int .i64 c.fi.2.2] 36 g o c.n c.mf tg tO n f wx) => (cells9 s.h.1.1.1).2.2.2.2.1
      have re5 := fun s : Held (fun wx => CtS w #[.int .i64 c.st.1.1, .int .i64 c.st.1.2, .int .i64 c.st.2.1, .int .i64 c.st.2.2, .slice A c.n cap, .int .i64 c.fi.1.1, .int .i64 c.fi.1.2, .int .i64 c.fi.2.1, .int .i64 c.fi.2.2] 36 g o c.n c.mf tg tO n f wx) => (cells9 s.h.1.1.1).2.2.2.2.2.1
      have re6 := fun s : Held (fun wx => CtS w #[.int .i64 c.st.1.1, .int .i64 c.st.1.2, .int .i64 c.st.2.1, .int .i64 c.st.2.2, .slice A c.n cap, .int .i64 c.fi.1.1, .int .i64 c.fi.1.2, .int .i64 c.fi.2.1, .int .i64 c.fi.2.2] 36 g o c.n c.mf tg tO n f wx) => (cells9 s.h.1.1.1).2.2.2.2.2.2.1
      have re7 := fun s : Held (fun wx => CtS w #[.int .i64 c.st.1.1, .int .i64 c.st.1.2, .int .i64 c.st.2.1, .int .i64 c.st.2.2, .slice A c.n cap, .int .i64 c.fi.1.1, .int .i64 c.fi.1.2, .int .i64 c.fi.2.1, .int .i64 c.fi.2.2] 36 g o c.n c.mf tg tO n f wx) => (cells9 s.h.1.1.1).2.2.2.2.2.2.2.1
      have re8 := fun s : Held (fun wx => CtS w #[.int .i64 c.st.1.1, .int .i64 c.st.1.2, .int .i64 c.st.2.1, .int .i64 c.st.2.2, .slice A c.n cap, .int .i64 c.fi.1.1, .int .i64 c.fi.1.2, .int .i64 c.fi.2.1, .int .i64 c.fi.2.2] 36 g o c.n c.mf tg tO n f wx) => (cells9 s.h.1.1.1).2.2.2.2.2.2.2.2
      have ry0 := fun s : Held (fun wx => CtS w #[.int .i64 c.st.1.1, .int .i64 c.st.1.2, .int .i64 c.st.2.1, .int .i64 c.st.2.2, .slice A c.n cap, .int .i64 c.fi.1.1, .int .i64 c.fi.1.2, .int .i64 c.fi.2.1, .int .i64 c.fi.2.2] 36 g o c.n c.mf tg tO n f wx) => (s.h.2.at (show j < n by omega) HF.out.1).1
      have ry1 := fun s : Held (fun wx => CtS w #[.int .i64 c.st.1.1, .int .i64 c.st.1.2, .int .i64 c.st.2.1, .int .i64 c.st.2.2, .slice A c.n cap, .int .i64 c.fi.1.1, .int .i64 c.fi.1.2, .int .i64 c.fi.2.1, .int .i64 c.fi.2.2] 36 g o c.n c.mf tg tO n f wx) => (s.h.2.at (show j < n by omega) HF.out.1).2.1
      have ry2 := fun s : Held (fun wx => CtS w #[.int .i64 c.st.1.1, .int .i64 c.st.1.2, .int .i64 c.st.2.1, .int .i64 c.st.2.2, .slice A c.n cap, .int .i64 c.fi.1.1, .int .i64 c.fi.1.2, .int .i64 c.fi.2.1, .int .i64 c.fi.2.2] 36 g o c.n c.mf tg tO n f wx) => (s.h.2.at (show j < n by omega) HF.out.1).2.2
      have rx0 := fun s : Held (fun wx => CtS w #[.int .i64 c.st.1.1, .int .i64 c.st.1.2, .int .i64 c.st.2.1, .int .i64 c.st.2.2, .slice A c.n cap, .int .i64 c.fi.1.1, .int .i64 c.fi.1.2, .int .i64 c.fi.2.1, .int .i64 c.fi.2.2] 36 g o c.n c.mf tg tO n f wx) => (s.h.2.at hlt HF.out.2).1
      have rx1 := fun s : Held (fun wx => CtS w #[.int .i64 c.st.1.1, .int .i64 c.st.1.2, .int .i64 c.st.2.1, .int .i64 c.st.2.2, .slice A c.n cap, .int .i64 c.fi.1.1, .int .i64 c.fi.1.2, .int .i64 c.fi.2.1, .int .i64 c.fi.2.2] 36 g o c.n c.mf tg tO n f wx) => (s.h.2.at hlt HF.out.2).2.1
      have rx2 := fun s : Held (fun wx => CtS w #[.int .i64 c.st.1.1, .int .i64 c.st.1.2, .int .i64 c.st.2.1, .int .i64 c.st.2.2, .slice A c.n cap, .int .i64 c.fi.1.1, .int .i64 c.fi.1.2, .int .i64 c.fi.2.1, .int .i64 c.fi.2.2] 36 g o c.n c.mf tg tO n f wx) => (s.h.2.at hlt HF.out.2).2.2
      have hq : (hitB c.st f gun j = false ∧ t = false) ∨ (hitB c.st f gun j = false ∧ t = true ∧ decide (m ≥ gun) = false ∧ ¬ gun ≤ m) ∨ (hitB c.st f gun j = false ∧ t = true ∧ decide (m ≥ gun) = true ∧ gun ≤ m ∧ (cr == 1) = false) ∨ (hitB c.st f gun j = true ∧ t = true ∧ decide (m ≥ gun) = true ∧ gun ≤ m ∧ cr = 1) := by
        rw [e1]
        simp only [beq_eq_false_iff_ne, decide_eq_true_eq, decide_eq_false_iff_not, ge_iff_le]
        cases t
        · left; exact ⟨rfl, rfl⟩
        · by_cases a : gun ≤ m
          · by_cases b : cr = 1
            · right; right; right; simp [a, b]
            · right; right; left; simp [a, b]
          · right; left; simp [a]
      rcases hq with ⟨e2, rfl⟩ | ⟨e2, rfl, g1, g2⟩ | ⟨e2, rfl, g1, g2, g3⟩ | ⟨e2, rfl, g1, g2, rfl⟩
      · have HN := Lib.hid (show sdFrom c.st f gun (n - 1 - (j + 1)) (j + 1) = r by rw [← HR.out, e0, e2]; rfl)
        clear e0 e1 e2
        go_wp2
        haveI hnehst6 : Nonempty (Held (fun wx => CtS w #[.int .i64 c.st.1.1, .int .i64 c.st.1.2, .int .i64 c.st.2.1, .int .i64 c.st.2.2, .slice A c.n cap, .int .i64 c.fi.1.1, .int .i64 c.fi.1.2, .int .i64 c.fi.2.1, .int .i64 c.fi.2.2] 36 g o c.n c.mf tg tO n f wx)) := ⟨⟨_, hst⟩⟩
        refine wp_region_class (fun wx => CtS w #[.int .i64 c.st.1.1, .int .i64 c.st.1.2, .int .i64 c.st.2.1, .int .i64 c.st.2.2, .slice A c.n cap, .int .i64 c.fi.1.1, .int .i64 c.fi.1.2, .int .i64 c.fi.2.1, .int .i64 c.fi.2.2] 36 g o c.n c.mf tg tO n f wx) (by kernel_rfl) (by kernel_rfl) (CtS.drew hst) ?_
        repeat (go_big_quiet_step (first
          | (go_at_call 70; with_reducible exact held_call CtS.step (HC.out _))))
        refine wpQuiet_nil ?_
        intro wyhst6 hw'
        obtain ⟨⟨wqhst6, hst6⟩, rfl⟩ := hw'
        (try dsimp only)
        go_wp2
        haveI hnehst7 : Nonempty (Held (fun wx => CtS w #[.int .i64 c.st.1.1, .int .i64 c.st.1.2, .int .i64 c.st.2.1, .int .i64 c.st.2.2, .slice A c.n cap, .int .i64 c.fi.1.1, .int .i64 c.fi.1.2, .int .i64 c.fi.2.1, .int .i64 c.fi.2.2] 36 g o c.n c.mf tg tO n f wx)) := ⟨⟨_, hst6⟩⟩
        refine wp_region_class (fun wx => CtS w #[.int .i64 c.st.1.1, .int .i64 c.st.1.2, .int .i64 c.st.2.1, .int .i64 c.st.2.2, .slice A c.n cap, .int .i64 c.fi.1.1, .int .i64 c.fi.1.2, .int .i64 c.fi.2.1, .int .i64 c.fi.2.2] 36 g o c.n c.mf tg tO n f wx) (by kernel_rfl) (by kernel_rfl) (CtS.drew hst6) ?_
        repeat (go_big_quiet_step (first
          | (go_at_call 69; with_reducible exact held_call CtS.step (HX.out _))))
        refine wpQuiet_nil ?_
        intro wyhst7 hw'
        obtain ⟨⟨wqhst7, hst7⟩, rfl⟩ := hw'
        (try dsimp only)
        all_goals
          go_wp2_with fail
          go_roundw
          case rel => exact ⟨j + 1, by omega, by go_num, HN.out, hst7⟩
          case measure => simp [intOf]; omega
      · have HN := Lib.hid (show sdFrom c.st f gun (n - 1 - (j + 1)) (j + 1) = r by rw [← HR.out, e0, e2]; rfl)
        clear e0 e1 e2
        go_wp2
        haveI hnehst6 : Nonempty (Held (fun wx => CtS w #[.int .i64 c.st.1.1, .int .i64 c.st.1.2, .int .i64 c.st.2.1, .int .i64 c.st.2.2, .slice A c.n cap, .int .i64 c.fi.1.1, .int .i64 c.fi.1.2, .int .i64 c.fi.2.1, .int .i64 c.fi.2.2] 36 g o c.n c.mf tg tO n f wx)) := ⟨⟨_, hst⟩⟩
        refine wp_region_class (fun wx => CtS w #[.int .i64 c.st.1.1, .int .i64 c.st.1.2, .int .i64 c.st.2.1, .int .i64 c.st.2.2, .slice A c.n cap, .int .i64 c.fi.1.1, .int .i64 c.fi.1.2, .int .i64 c.fi.2.1, .int .i64 c.fi.2.2] 36 g o c.n c.mf tg tO n f wx) (by kernel_rfl) (by kernel_rfl) (CtS.drew hst) ?_
        repeat (go_big_quiet_step (first
          | (go_at_call 70; with_reducible exact held_call CtS.step (HC.out _))))
        refine wpQuiet_nil ?_
        intro wyhst6 hw'
        obtain ⟨⟨wqhst6, hst6⟩, rfl⟩ := hw'
        (try dsimp only)
        go_wp2
        haveI hnehst7 : Nonempty (Held (fun wx => CtS w #[.int .i64 c.st.1.1, .int .i64 c.st.1.2, .int .i64 c.st.2.1, .int .i64 c.st.2.2, .slice A c.n cap, .int .i64 c.fi.1.1, .int .i64 c.fi.1.2, .int .i64 c.fi.2.1, .int .i64 c.fi.2.2] 36 g o c.n c.mf tg tO n f wx)) := ⟨⟨_, hst6⟩⟩
        refine wp_region_class (fun wx => CtS w #[.int .i64 c.st.1.1, .int .i64 c.st.1.2, .int .i64 c.st.2.1, .int .i64 c.st.2.2, .slice A c.n cap, .int .i64 c.fi.1.1, .int .i64 c.fi.1.2, .int .i64 c.fi.2.1, .int .i64 c.fi.2.2] 36 g o c.n c.mf tg tO n f wx) (by kernel_rfl) (by kernel_rfl) (CtS.drew hst6) ?_
        repeat (go_big_quiet_step (first
          | (go_at_call 69; with_reducible exact held_call CtS.step (HX.out _))))
        refine wpQuiet_nil ?_
        intro wyhst7 hw'
        obtain ⟨⟨wqhst7, hst7⟩, rfl⟩ := hw'
        (try dsimp only)
        all_goals
          go_wp2_with fail
          go_roundw
          case rel => exact ⟨j + 1, by omega, by go_num, HN.out, hst7⟩
          case measure => simp [intOf]; omega
      · have HN := Lib.hid (show sdFrom c.st f gun (n - 1 - (j + 1)) (j + 1) = r by rw [← HR.out, e0, e2]; rfl)
        clear e0 e1 e2
        go_wp2
        haveI hnehst6 : Nonempty (Held (fun wx => CtS w #[.int .i64 c.st.1.1, .int .i64 c.st.1.2, .int .i64 c.st.2.1, .int .i64 c.st.2.2, .slice A c.n cap, .int .i64 c.fi.1.1, .int .i64 c.fi.1.2, .int .i64 c.fi.2.1, .int .i64 c.fi.2.2] 36 g o c.n c.mf tg tO n f wx)) := ⟨⟨_, hst⟩⟩
        refine wp_region_class (fun wx => CtS w #[.int .i64 c.st.1.1, .int .i64 c.st.1.2, .int .i64 c.st.2.1, .int .i64 c.st.2.2, .slice A c.n cap, .int .i64 c.fi.1.1, .int .i64 c.fi.1.2, .int .i64 c.fi.2.1, .int .i64 c.fi.2.2] 36 g o c.n c.mf tg tO n f wx) (by kernel_rfl) (by kernel_rfl) (CtS.drew hst) ?_
        repeat (go_big_quiet_step (first
          | (go_at_call 70; with_reducible exact held_call CtS.step (HC.out _))))
        refine wpQuiet_nil ?_
        intro wyhst6 hw'
        obtain ⟨⟨wqhst6, hst6⟩, rfl⟩ := hw'
        (try dsimp only)
        go_wp2
        haveI hnehst7 : Nonempty (Held (fun wx => CtS w #[.int .i64 c.st.1.1, .int .i64 c.st.1.2, .int .i64 c.st.2.1, .int .i64 c.st.2.2, .slice A c.n cap, .int .i64 c.fi.1.1, .int .i64 c.fi.1.2, .int .i64 c.fi.2.1, .int .i64 c.fi.2.2] 36 g o c.n c.mf tg tO n f wx)) := ⟨⟨_, hst6⟩⟩
        refine wp_region_class (fun wx => CtS w #[.int .i64 c.st.1.1, .int .i64 c.st.1.2, .int .i64 c.st.2.1, .int .i64 c.st.2.2, .slice A c.n cap, .int .i64 c.fi.1.1, .int .i64 c.fi.1.2, .int .i64 c.fi.2.1, .int .i64 c.fi.2.2] 36 g o c.n c.mf tg tO n f wx) (by kernel_rfl) (by kernel_rfl) (CtS.drew hst6) ?_
        repeat (go_big_quiet_step (first
          | (go_at_call 69; with_reducible exact held_call CtS.step (HX.out _))))
        refine wpQuiet_nil ?_
        intro wyhst7 hw'
        obtain ⟨⟨wqhst7, hst7⟩, rfl⟩ := hw'
        (try dsimp only)
        all_goals
          go_wp2_with fail
          go_roundw
          case rel => exact ⟨j + 1, by omega, by go_num, HN.out, hst7⟩
          case measure => simp [intOf]; omega
      · have HN := Lib.hid (show (j : Int) + 1 = r by rw [← HR.out, e0, e2]; rfl)
        obtain rfl := HN.out
        clear e0 e1 e2
        go_wp2
        haveI hnehst6 : Nonempty (Held (fun wx => CtS w #[.int .i64 c.st.1.1, .int .i64 c.st.1.2, .int .i64 c.st.2.1, .int .i64 c.st.2.2, .slice A c.n cap, .int .i64 c.fi.1.1, .int .i64 c.fi.1.2, .int .i64 c.fi.2.1, .int .i64 c.fi.2.2] 36 g o c.n c.mf tg tO n f wx)) := ⟨⟨_, hst⟩⟩
        refine wp_region_class (fun wx => CtS w #[.int .i64 c.st.1.1, .int .i64 c.st.1.2, .int .i64 c.st.2.1, .int .i64 c.st.2.2, .slice A c.n cap, .int .i64 c.fi.1.1, .int .i64 c.fi.1.2, .int .i64 c.fi.2.1, .int .i64 c.fi.2.2] 36 g o c.n c.mf tg tO n f wx) (by kernel_rfl) (by kernel_rfl) (CtS.drew hst) ?_
        repeat (go_big_quiet_step (first
          | (go_at_call 70; with_reducible exact held_call CtS.step (HC.out _))))
        refine wpQuiet_nil ?_
        intro wyhst6 hw'
        obtain ⟨⟨wqhst6, hst6⟩, rfl⟩ := hw'
        (try dsimp only)
        go_wp2
        haveI hnehst7 : Nonempty (Held (fun wx => CtS w #[.int .i64 c.st.1.1, .int .i64 c.st.1.2, .int .i64 c.st.2.1, .int .i64 c.st.2.2, .slice A c.n cap, .int .i64 c.fi.1.1, .int .i64 c.fi.1.2, .int .i64 c.fi.2.1, .int .i64 c.fi.2.2] 36 g o c.n c.mf tg tO n f wx)) := ⟨⟨_, hst6⟩⟩
        refine wp_region_class (fun wx => CtS w #[.int .i64 c.st.1.1, .int .i64 c.st.1.2, .int .i64 c.st.2.1, .int .i64 c.st.2.2, .slice A c.n cap, .int .i64 c.fi.1.1, .int .i64 c.fi.1.2, .int .i64 c.fi.2.1, .int .i64 c.fi.2.2] 36 g o c.n c.mf tg tO n f wx) (by kernel_rfl) (by kernel_rfl) (CtS.drew hst6) ?_
        repeat (go_big_quiet_step (first
          | (go_at_call 69; with_reducible exact held_call CtS.step (HX.out _))))
        refine wpQuiet_nil ?_
        intro wyhst7 hw'
        obtain ⟨⟨wqhst7, hst7⟩, rfl⟩ := hw'
        (try dsimp only)
        go_wp2
        go_ret
        exact ⟨rfl, hst7.below⟩
    · have z1 : ¬ (j : Int) + 1 < (n : Int) := by omega
      have z8 : IntKind.i64.wrap ((j : Int) + 1) = (j : Int) + 1 := IntWalk.i64_in _ (by omega)
      have HN := Lib.hid (show -1 = r by rw [← HR.out, show n - 1 - j = 0 by omega]; rfl)
      obtain rfl := HN.out
      go_wp2
      go_ret
      exact ⟨rfl, hst.below⟩
set_option maxRecDepth 100000 in
set_option maxHeartbeats 4000000 in
theorem s_ra (c : Crs) (A : Option Addr) (g o cap : Nat) (f : Nat → Sg) (TA : Option Addr) (tg tO n tcap : Nat) (gun : Int) (w : World) (hn : c.n ≤ 1048576) (hA : 0 < c.n → A = some ⟨g, o, none⟩) (hw : MksIn w g o c.n c.mf)
    (hm : n ≤ 1048576) (hT : 0 < n → TA = some ⟨tg, tO, none⟩) (hv : SigsIn w tg tO n f) :
    Calls Try.prog 40 #[.agg #[.int .i64 c.st.1.1, .int .i64 c.st.1.2, .int .i64 c.st.2.1, .int .i64 c.st.2.2, .slice A c.n cap, .int .i64 c.fi.1.1, .int .i64 c.fi.1.2, .int .i64 c.fi.2.1, .int .i64 c.fi.2.2], .slice TA n tcap, .int .i64 gun] w fun e w' => e = .returned (.tuple #[.int .i64 (raW c n f gun).1, .bool (raW c n f gun).2]) ∧ Below w.heap.size w w' := by
  have HC := Lib.hid (fun w (h : MksIn w g o c.n c.mf) => s_co c A g o cap w hn hA h)
  have HT := Lib.hid (fun w (h : SigsIn w tg tO n f) => s_tk f TA tg tO n tcap w hm hT h)
  have HB := Lib.hid (fun w => s_inW gun 0 10000000 (decide (0 ≤ gun ∧ gun ≤ 10000000)) w rfl)
  have HS := Lib.hid (fun w (h : MksIn w g o c.n c.mf) (h2 : SigsIn w tg tO n f) => s_started c A g o cap f TA tg tO n tcap gun w h hm hT h2)
  have HF := Lib.hid (fun b w (h : MksIn w g o c.n c.mf) (h2 : SigsIn w tg tO n f) => s_fn c A g o cap f TA tg tO n tcap b w hn hA h hm hT h2)
  have hs := Lib.hid (CtS.new (c := #[.int .i64 c.st.1.1, .int .i64 c.st.1.2, .int .i64 c.st.2.1, .int .i64 c.st.2.2, .slice A c.n cap, .int .i64 c.fi.1.1, .int .i64 c.fi.1.2, .int .i64 c.fi.2.1, .int .i64 c.fi.2.2]) (ty := 36) hw hv)
  have hsd := sdFrom_ok c.st f gun (n - 1) 0
  have hfb := fnW_bd c n f (sdFrom c.st f gun (n - 1) 0)
  have hr : raW c n f gun = if raB c n f gun = true then (if sdFrom c.st f gun (n - 1) 0 < 0 then (0, false) else if (fnW c n f (sdFrom c.st f gun (n - 1) 0)).2 = true then ((fnW c n f (sdFrom c.st f gun (n - 1) 0)).1 - gun, true) else (0, false)) else (0, false) := rfl
  clear hw hv hA hT
  cases h1 : coB c
  · rw [show raW c n f gun = (0, false) by rw [hr]; unfold raB; rw [h1]; rfl]
    rw [h1] at HC
    clear hr h1 HT HB HS HF
    go_enter Try.func40, Try.ntmps40
    obtain ⟨e0, e1, e2, e3, e4, e5, e6, e7, e8⟩ := cells9 hs.out.1.1.1
    go_wp2_with fail
    refine (HC.out _ hs.out.1.2).mono ?_
    rintro e w1 ⟨rfl, b⟩
    have hs' := Lib.hid (hs.out.step b)
    clear hs b e0 e1 e2 e3 e4 e5 e6 e7 e8
    have hs := hs'
    clear hs'
    obtain ⟨e0, e1, e2, e3, e4, e5, e6, e7, e8⟩ := cells9 hs.out.1.1.1
    go_wp2
    go_ret2
    exact ⟨rfl, hs.out.below⟩
  rw [h1] at HC
  cases h2 : tkB n f
  · rw [show raW c n f gun = (0, false) by rw [hr]; unfold raB; rw [h1, h2]; rfl]
    rw [h2] at HT
    clear hr h1 h2 HB HS HF
    go_enter Try.func40, Try.ntmps40
    obtain ⟨e0, e1, e2, e3, e4, e5, e6, e7, e8⟩ := cells9 hs.out.1.1.1
    go_wp2_with fail
    refine (HC.out _ hs.out.1.2).mono ?_
    rintro e w1 ⟨rfl, b⟩
    have hs' := Lib.hid (hs.out.step b)
    clear hs b e0 e1 e2 e3 e4 e5 e6 e7 e8
    have hs := hs'
    clear hs'
    obtain ⟨e0, e1, e2, e3, e4, e5, e6, e7, e8⟩ := cells9 hs.out.1.1.1
    go_wp2_with fail
    refine (HT.out _ hs.out.2).mono ?_
    rintro e w2 ⟨rfl, b⟩
    have hs' := Lib.hid (hs.out.step b)
    clear hs b e0 e1 e2 e3 e4 e5 e6 e7 e8
    have hs := hs'
    clear hs'
    obtain ⟨e0, e1, e2, e3, e4, e5, e6, e7, e8⟩ := cells9 hs.out.1.1.1
    go_wp2
    go_ret2
    exact ⟨rfl, hs.out.below⟩
  rw [h2] at HT
  rcases (Decidable.em (0 ≤ gun ∧ gun ≤ 10000000)).symm with h3 | h3
  · rw [show raW c n f gun = (0, false) by rw [hr]; unfold raB; rw [h1, h2, decide_eq_false h3]; rfl]
    rw [decide_eq_false h3] at HB
    clear hr h1 h2 h3 HS HF
    go_enter Try.func40, Try.ntmps40
    obtain ⟨e0, e1, e2, e3, e4, e5, e6, e7, e8⟩ := cells9 hs.out.1.1.1
    go_wp2_with fail
    refine (HC.out _ hs.out.1.2).mono ?_
    rintro e w1 ⟨rfl, b⟩
    have hs' := Lib.hid (hs.out.step b)
    clear hs b e0 e1 e2 e3 e4 e5 e6 e7 e8
    have hs := hs'
    clear hs'
    obtain ⟨e0, e1, e2, e3, e4, e5, e6, e7, e8⟩ := cells9 hs.out.1.1.1
    go_wp2_with fail
    refine (HT.out _ hs.out.2).mono ?_
    rintro e w2 ⟨rfl, b⟩
    have hs' := Lib.hid (hs.out.step b)
    clear hs b e0 e1 e2 e3 e4 e5 e6 e7 e8
    have hs := hs'
    clear hs'
    obtain ⟨e0, e1, e2, e3, e4, e5, e6, e7, e8⟩ := cells9 hs.out.1.1.1
    go_wp2_with fail
    refine (HB.out _).mono ?_
    rintro e w3 ⟨rfl, b⟩
    have hs' := Lib.hid (hs.out.step b)
    clear hs b e0 e1 e2 e3 e4 e5 e6 e7 e8
    have hs := hs'
    clear hs'
    obtain ⟨e0, e1, e2, e3, e4, e5, e6, e7, e8⟩ := cells9 hs.out.1.1.1
    go_wp2
    go_ret2
    exact ⟨rfl, hs.out.below⟩
  rw [decide_eq_true h3] at HB
  have hr2 : raW c n f gun = (if sdFrom c.st f gun (n - 1) 0 < 0 then (0, false) else if (fnW c n f (sdFrom c.st f gun (n - 1) 0)).2 = true then ((fnW c n f (sdFrom c.st f gun (n - 1) 0)).1 - gun, true) else (0, false)) := by
    rw [hr]; unfold raB; rw [h1, h2, decide_eq_true h3]; rfl
  clear hr h1 h2
  have HFS := Lib.hid (HF.out (sdFrom c.st f gun (n - 1) 0))
  clear HF
  generalize fnW c n f (sdFrom c.st f gun (n - 1) 0) = R at *
  generalize sdFrom c.st f gun (n - 1) 0 = i at *
  generalize raW c n f gun = Q at *
  obtain ⟨ft, fb⟩ := R
  dsimp only at *
  by_cases h4 : i < 0
  · rw [if_pos h4] at hr2
    subst hr2
    go_enter Try.func40, Try.ntmps40
    obtain ⟨e0, e1, e2, e3, e4, e5, e6, e7, e8⟩ := cells9 hs.out.1.1.1
    go_wp2_with fail
    refine (HC.out _ hs.out.1.2).mono ?_
    rintro e w1 ⟨rfl, b⟩
    have hs' := Lib.hid (hs.out.step b)
    clear hs b e0 e1 e2 e3 e4 e5 e6 e7 e8
    have hs := hs'
    clear hs'
    obtain ⟨e0, e1, e2, e3, e4, e5, e6, e7, e8⟩ := cells9 hs.out.1.1.1
    go_wp2_with fail
    refine (HT.out _ hs.out.2).mono ?_
    rintro e w2 ⟨rfl, b⟩
    have hs' := Lib.hid (hs.out.step b)
    clear hs b e0 e1 e2 e3 e4 e5 e6 e7 e8
    have hs := hs'
    clear hs'
    obtain ⟨e0, e1, e2, e3, e4, e5, e6, e7, e8⟩ := cells9 hs.out.1.1.1
    go_wp2_with fail
    refine (HB.out _).mono ?_
    rintro e w3 ⟨rfl, b⟩
    have hs' := Lib.hid (hs.out.step b)
    clear hs b e0 e1 e2 e3 e4 e5 e6 e7 e8
    have hs := hs'
    clear hs'
    obtain ⟨e0, e1, e2, e3, e4, e5, e6, e7, e8⟩ := cells9 hs.out.1.1.1
    go_wp2_with fail
    refine (HS.out _ hs.out.1.2 hs.out.2).mono ?_
    rintro e w4 ⟨rfl, b⟩
    have hs' := Lib.hid (hs.out.step b)
    clear hs b e0 e1 e2 e3 e4 e5 e6 e7 e8
    have hs := hs'
    clear hs'
    obtain ⟨e0, e1, e2, e3, e4, e5, e6, e7, e8⟩ := cells9 hs.out.1.1.1
    go_wp2
    go_ret2
    exact ⟨rfl, hs.out.below⟩
  rw [if_neg h4] at hr2
  cases fb
  · rw [if_neg (by simp)] at hr2
    subst hr2
    go_enter Try.func40, Try.ntmps40
    obtain ⟨e0, e1, e2, e3, e4, e5, e6, e7, e8⟩ := cells9 hs.out.1.1.1
    go_wp2_with fail
    refine (HC.out _ hs.out.1.2).mono ?_
    rintro e w1 ⟨rfl, b⟩
    have hs' := Lib.hid (hs.out.step b)
    clear hs b e0 e1 e2 e3 e4 e5 e6 e7 e8
    have hs := hs'
    clear hs'
    obtain ⟨e0, e1, e2, e3, e4, e5, e6, e7, e8⟩ := cells9 hs.out.1.1.1
    go_wp2_with fail
    refine (HT.out _ hs.out.2).mono ?_
    rintro e w2 ⟨rfl, b⟩
    have hs' := Lib.hid (hs.out.step b)
    clear hs b e0 e1 e2 e3 e4 e5 e6 e7 e8
    have hs := hs'
    clear hs'
    obtain ⟨e0, e1, e2, e3, e4, e5, e6, e7, e8⟩ := cells9 hs.out.1.1.1
    go_wp2_with fail
    refine (HB.out _).mono ?_
    rintro e w3 ⟨rfl, b⟩
    have hs' := Lib.hid (hs.out.step b)
    clear hs b e0 e1 e2 e3 e4 e5 e6 e7 e8
    have hs := hs'
    clear hs'
    obtain ⟨e0, e1, e2, e3, e4, e5, e6, e7, e8⟩ := cells9 hs.out.1.1.1
    go_wp2_with fail
    refine (HS.out _ hs.out.1.2 hs.out.2).mono ?_
    rintro e w4 ⟨rfl, b⟩
    have hs' := Lib.hid (hs.out.step b)
    clear hs b e0 e1 e2 e3 e4 e5 e6 e7 e8
    have hs := hs'
    clear hs'
    obtain ⟨e0, e1, e2, e3, e4, e5, e6, e7, e8⟩ := cells9 hs.out.1.1.1
    go_wp2_with fail
    refine (HFS.out _ hs.out.1.2 hs.out.2).mono ?_
    rintro e w5 ⟨rfl, b⟩
    have hs' := Lib.hid (hs.out.step b)
    clear hs b e0 e1 e2 e3 e4 e5 e6 e7 e8
    have hs := hs'
    clear hs'
    obtain ⟨e0, e1, e2, e3, e4, e5, e6, e7, e8⟩ := cells9 hs.out.1.1.1
    go_wp2
    go_ret2
    exact ⟨rfl, hs.out.below⟩
  · rw [if_pos rfl] at hr2
    subst hr2
    go_enter Try.func40, Try.ntmps40
    obtain ⟨e0, e1, e2, e3, e4, e5, e6, e7, e8⟩ := cells9 hs.out.1.1.1
    go_wp2_with fail
    refine (HC.out _ hs.out.1.2).mono ?_
    rintro e w1 ⟨rfl, b⟩
    have hs' := Lib.hid (hs.out.step b)
    clear hs b e0 e1 e2 e3 e4 e5 e6 e7 e8
    have hs := hs'
    clear hs'
    obtain ⟨e0, e1, e2, e3, e4, e5, e6, e7, e8⟩ := cells9 hs.out.1.1.1
    go_wp2_with fail
    refine (HT.out _ hs.out.2).mono ?_
    rintro e w2 ⟨rfl, b⟩
    have hs' := Lib.hid (hs.out.step b)
    clear hs b e0 e1 e2 e3 e4 e5 e6 e7 e8
    have hs := hs'
    clear hs'
    obtain ⟨e0, e1, e2, e3, e4, e5, e6, e7, e8⟩ := cells9 hs.out.1.1.1
    go_wp2_with fail
    refine (HB.out _).mono ?_
    rintro e w3 ⟨rfl, b⟩
    have hs' := Lib.hid (hs.out.step b)
    clear hs b e0 e1 e2 e3 e4 e5 e6 e7 e8
    have hs := hs'
    clear hs'
    obtain ⟨e0, e1, e2, e3, e4, e5, e6, e7, e8⟩ := cells9 hs.out.1.1.1
    go_wp2_with fail
    refine (HS.out _ hs.out.1.2 hs.out.2).mono ?_
    rintro e w4 ⟨rfl, b⟩
    have hs' := Lib.hid (hs.out.step b)
    clear hs b e0 e1 e2 e3 e4 e5 e6 e7 e8
    have hs := hs'
    clear hs'
    obtain ⟨e0, e1, e2, e3, e4, e5, e6, e7, e8⟩ := cells9 hs.out.1.1.1
    go_wp2_with fail
    refine (HFS.out _ hs.out.1.2 hs.out.2).mono ?_
    rintro e w5 ⟨rfl, b⟩
    have hs' := Lib.hid (hs.out.step b)
    clear hs b e0 e1 e2 e3 e4 e5 e6 e7 e8
    have hs := hs'
    clear hs'
    obtain ⟨e0, e1, e2, e3, e4, e5, e6, e7, e8⟩ := cells9 hs.out.1.1.1
    go_wp2
    go_ret2
    exact ⟨rfl, hs.out.below⟩
end Go.Proofs.Ythahakefmpajfaa

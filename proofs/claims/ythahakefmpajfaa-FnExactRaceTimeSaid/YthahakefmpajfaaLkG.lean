/- When a course is finished (spec): FinishTime. -/
import Derived.Test.YthahakefmpajfaaLkF
import Derived.Test.YthahakefmpajfaaLiE
import Derived.Test.YthahakefmpajfaaOwnA
namespace Go.Proofs.Ythahakefmpajfaa
open Go.RowKit
set_option linter.unusedVariables false
set_option linter.unusedSimpArgs false

/-- The first step that crosses the line, and when. -/
noncomputable def fnFrom (l : Ln) (f : Nat → Sg) : Nat → Nat → Int × Bool
  | 0, _ => (0, false)
  | r + 1, i => if crW l (f i).1 (f (i + 1)).1 = 1 then (ctW l (f i) (f (i + 1)), ctB l (f i) (f (i + 1))) else fnFrom l f r (i + 1)
noncomputable def fnW (c : Crs) (n : Nat) (f : Nat → Sg) (b : Int) : Int × Bool :=
  if (pgW c n f b).length = 0 ∨ (pgW c n f b).length < c.n then (0, false) else fnFrom c.fi f (n - 1 - ((pgW c n f b).getLastD 0).toNat) ((pgW c n f b).getLastD 0).toNat
theorem pg_mem (c : Crs) (n : Nat) (f : Nat → Sg) : ∀ (r k : Nat) (b : Int) (x : Int), x ∈ pgFrom c n f r k b → tkB n f = true ∧ 0 ≤ x ∧ x ≤ (n : Int) - 1
  | 0, k, b, x, h => by cases h
  | r + 1, k, b, x, h => by
    unfold pgFrom at h
    split at h
    · cases h
    · rename_i hr
      rcases ro_ok c k n f b with h1 | ⟨h1, h2, h3⟩
      · omega
      · cases h with
        | head =>
          unfold roB at h1
          simp only [Bool.and_eq_true, decide_eq_true_eq] at h1
          exact ⟨h1.1.1.2, by omega, h3⟩
        | tail _ h => exact pg_mem c n f r (k + 1) _ x h
theorem getLastD_mem {l : List Int} (h : l ≠ []) : l.getLastD 0 ∈ l ∧ l[l.length - 1]? = some (l.getLastD 0) := by
  rw [List.getLastD_eq_getLast?, ← List.getLast?_eq_getElem?, List.getLast?_eq_some_getLast h]
  exact ⟨List.getLast_mem h, rfl⟩
theorem own_value {w : World} {B t : Nat} {v : Value} {n : Nat} {xs : List Value} (h : w.ownsRow B t 1 v n xs) : ∃ A cap, v = .slice A n cap ∧ n ≤ maxLen :=
  OwnC.value (p := fun _ _ => True) ⟨xs, fun _ _ _ => trivial, h⟩
set_option maxRecDepth 100000 in
set_option maxHeartbeats 4000000 in
theorem s_fn (c : Crs) (A : Option Addr) (g o cap : Nat) (f : Nat → Sg) (TA : Option Addr) (tg tO n tcap : Nat) (b : Int) (w : World) (hn : c.n ≤ 1048576) (hA : 0 < c.n → A = some ⟨g, o, none⟩) (hw : MksIn w g o c.n c.mf)
    (hm : n ≤ 1048576) (hT : 0 < n → TA = some ⟨tg, tO, none⟩) (hv : SigsIn w tg tO n f) :
    Calls Try.prog 38 #[.agg #[.int .i64 c.st.1.1, .int .i64 c.st.1.2, .int .i64 c.st.2.1, .int .i64 c.st.2.2, .slice A c.n cap, .int .i64 c.fi.1.1, .int .i64 c.fi.1.2, .int .i64 c.fi.2.1, .int .i64 c.fi.2.2], .slice TA n tcap, .int .i64 b] w fun e w' => e = .returned (.tuple #[.int .i64 (fnW c n f b).1, .bool (fnW c n f b).2]) ∧ Below w.heap.size w w' := by
  have HP := Lib.hid (fun (w : World) (h : MksIn w g o c.n c.mf) (h2 : SigsIn w tg tO n f) => s_pg c A g o cap f TA tg tO n tcap b w hn hA h hm hT h2)
  have hs := Lib.hid (CtS.new (c := #[.int .i64 c.st.1.1, .int .i64 c.st.1.2, .int .i64 c.st.2.1, .int .i64 c.st.2.2, .slice A c.n cap, .int .i64 c.fi.1.1, .int .i64 c.fi.1.2, .int .i64 c.fi.2.1, .int .i64 c.fi.2.2]) (ty := 36) hw hv)
  have HM := Lib.hid (fun x (h : x ∈ pgW c n f b) => pg_mem c n f c.n 0 b x h)
  unfold fnW
  generalize pgW c n f b = L at *
  clear hw hv
  obtain ⟨⟨r1, r2⟩, hRR⟩ : ∃ R, (if L.length = 0 ∨ L.length < c.n then ((0 : Int), false) else fnFrom c.fi f (n - 1 - (L.getLastD 0).toNat) (L.getLastD 0).toNat) = R := ⟨_, rfl⟩
  rw [hRR]
  have HRR := Lib.hid hRR
  clear hRR
  obtain ⟨e0, e1, e2, e3, e4, e5, e6, e7, e8⟩ := cells9 hs.out.1.1.1
  go_enter Try.func38, Try.ntmps38
  go_wp2_with fail
  refine (HP.out _ hs.out.1.2 hs.out.2).mono ?_
  rintro e w2 ⟨v, rfl, hown, b2⟩
  have hs2 := Lib.hid (hs.out.step b2)
  clear hs b2 e0 e1 e2 e3 e4 e5 e6 e7 e8 HP
  obtain ⟨LA, lcap, rfl, lm⟩ := own_value hown
  obtain ⟨e0, e1, e2, e3, e4, e5, e6, e7, e8⟩ := cells9 hs2.out.1.1.1
  by_cases h0 : L.length = 0
  · have HN := Lib.hid (show (0, false) = (r1, r2) by rw [← HRR.out, if_pos (.inl h0)])
    obtain ⟨rfl, rfl⟩ := Prod.mk.injEq .. ▸ HN.out
    have k0 : ((L.length : Int) == 0) = true := by rw [beq_iff_eq]; omega
    have k1 : (L.length : Int) = 0 := by omega
    clear hown
    go_wp2
    go_ret2
    exact ⟨rfl, hs2.out.below⟩
  · by_cases h1 : L.length < c.n
    · have HN := Lib.hid (show (0, false) = (r1, r2) by rw [← HRR.out, if_pos (.inr h1)])
      obtain ⟨rfl, rfl⟩ := Prod.mk.injEq .. ▸ HN.out
      have k0 : ((L.length : Int) == 0) = false := by rw [beq_eq_false_iff_ne]; omega
      have k1 : ¬ (L.length : Int) = 0 := by omega
      have k2 : (L.length : Int) < (c.n : Int) := by omega
      have k3 : decide ((L.length : Int) < (c.n : Int)) = true := decide_eq_true k2
      clear hown
      go_wp2
      go_ret2
      exact ⟨rfl, hs2.out.below⟩
    · have hr : fnFrom c.fi f (n - 1 - (L.getLastD 0).toNat) (L.getLastD 0).toNat = (r1, r2) := by rw [← HRR.out, if_neg (by omega)]
      clear HRR
      have k0 : ((L.length : Int) == 0) = false := by rw [beq_eq_false_iff_ne]; omega
      have k1 : ¬ (L.length : Int) = 0 := by omega
      have k2 : ¬ (L.length : Int) < (c.n : Int) := by omega
      have k3 : decide ((L.length : Int) < (c.n : Int)) = false := decide_eq_false k2
      obtain ⟨lg, lcap2, hvv, _, _, _, hcell⟩ := ints_own hown h0
      simp only [Value.slice.injEq, true_and] at hvv
      obtain ⟨rfl, rfl⟩ := hvv
      obtain ⟨gm, gl⟩ := getLastD_mem (l := L) (fun e => h0 (by rw [e]; rfl))
      have hc := hcell _ _ gl
      obtain ⟨hTK, l0, l1⟩ := HM.out _ gm
      generalize L.getLastD 0 = q at *
      obtain ⟨qq, rfl⟩ : ∃ qq : Nat, q = (qq : Int) := ⟨q.toNat, by omega⟩
      simp only [Int.toNat_natCast] at hr
      have hidx : (L.length : Int) - 1 = ((L.length - 1 : Nat) : Int) := by omega
      have hidx2 : ((L.length - 1 : Nat) : Int) < (L.length : Int) := by omega
      have hidx4 : (0 : Int) ≤ ((L.length - 1 : Nat) : Int) := by omega
      have lm2 : L.length ≤ 9223372036854775807 := lm
      have HR0 := Lib.hid hr
      clear hr HM hown hcell gm gl h0 h1
      obtain rfl := hT (by omega)
      go_wp2
      clear e0 e1 e2 e3 e4 e5 e6 e7 e8 hc hidx hidx2 hidx4 k0 k1 k2 k3
      go_loopw [9, 10, 11] (fun i _ _ wr => ∃ j : Nat, (qq ≤ j ∧ j < n) ∧ i = .int .i64 j ∧ fnFrom c.fi f (n - 1 - j) j = (r1, r2) ∧ CtS w #[.int .i64 c.st.1.1, .int .i64 c.st.1.2, .int .i64 c.st.2.1, .int .i64 c.st.2.2, .slice A c.n cap, .int .i64 c.fi.1.1, .int .i64 c.fi.1.2, .int .i64 c.fi.2.1, .int .i64 c.fi.2.2] 36 g o c.n c.mf tg tO n f wr) (fun i _ _ _ => n - (intOf i).toNat)
      case atStart => exact ⟨qq, ⟨Nat.le_refl _, by omega⟩, rfl, HR0.out, hs2.out⟩
      case round =>
        obtain ⟨j, hj, rfl, hrr, hst⟩ := hrel
        have HR := Lib.hid hrr
        clear hrr hs2 HR0
        by_cases hlt : j + 1 < n
        · have z1 : (j : Int) + 1 < (n : Int) := by omega
          have z2 : (j : Int) < (n : Int) := by omega
          have z4 : (0 : Int) ≤ (j : Int) := by omega
          have z5 : (0 : Int) ≤ (j : Int) + 1 := by omega
          have z7 : ((j : Int) + 1).toNat = j + 1 := by omega
          have z8 : IntKind.i64.wrap ((j : Int) + 1) = (j : Int) + 1 := IntWalk.i64_in _ (by omega)
          obtain ⟨⟨⟨y1, y2⟩, y3⟩, hy⟩ : ∃ s, f j = s := ⟨_, rfl⟩
          obtain ⟨⟨⟨x1, x2⟩, x3⟩, hx⟩ : ∃ s, f (j + 1) = s := ⟨_, rfl⟩
          have HF := Lib.hid (And.intro hy hx)
          clear hy hx
          have HX := Lib.hid (fun w => s_cr c.fi (y1, y2) (x1, x2) w)
          have HC := Lib.hid (fun w => s_ct c.fi ((y1, y2), y3) ((x1, x2), x3) w)
          have e0 : fnFrom c.fi f (n - 1 - j) j = if crW c.fi (f j).1 (f (j + 1)).1 = 1 then (ctW c.fi (f j) (f (j + 1)), ctB c.fi (f j) (f (j + 1))) else fnFrom c.fi f (n - 1 - (j + 1)) (j + 1) := by
            rw [show n - 1 - j = (n - 1 - (j + 1)) + 1 by omega]; rfl
          rw [HF.out.1, HF.out.2] at e0
          dsimp only at e0 HX HC
          generalize crW c.fi (y1, y2) (x1, x2) = cr at *
          generalize ctW c.fi ((y1, y2), y3) ((x1, x2), x3) = m at *
          generalize ctB c.fi ((y1, y2), y3) ((x1, x2), x3) = t at *
          have re0 := fun s : Held (fun wx => CtS w #[.int .i64 c.st.1.1, .int .i64 c.st.1.2, .int .i64 c.st.2.1, .int .i64 c.st.2.2, .slice A c.n cap, .int .i64 c.fi.1.1, .int .i64 c.fi.1.2, .int .i64 c.fi.2.1, .int .i64 c.fi.2.2] 36 g o c.n c.mf tg tO n f wx) => (cells9 s.h.1.1.1).1
          have re1 := fun s : Held (fun wx => CtS w #[.int .i64 c.st.1.1, .int .i64 c.st.1.2, .int .i64 c.st.2.1, .int .i64 c.st.2.2, .slice A c.n cap, .int .i64 c.fi.1.1, .int .i64 c.fi.1.2, .int .i64 c.fi.2.1, .int .i64 c.fi.2.2] 36 g o c.n c.mf tg tO n f wx) => (cells9 s.h.1.1.1).2.1
          have re2 := fun s : Held (fun wx => CtS w #[.int .i64 c.st.1.1, .int .i64 c.st.1.2, .int .i64 c.st.2.1, .int .i64 c.st.2.2, .slice A c.n cap, .int .i64 c.fi.1.1, .int .i64 c.fi.1.2, .int .i64 c.fi.2.1, .int .i64 c.fi.2.2] 36 g o c.n c.mf tg tO n f wx) => (cells9 s.h.1.1.1).2.2.1
          have re3 := fun s : Held (fun wx => CtS w #[.int .i64 c.st.1.1, .int .i64 c.st.1.2, .int .i64 c.st.2.1, .int .i64 c.st.2.2, .slice A c.n cap, .int .i64 c.fi.1.1, .int .i64 c.fi.1.2, .int .i64 c.fi.2.1, .int .i64 c.fi.2.2] 36 g o c.n c.mf tg tO n f wx) => (cells9 s.h.1.1.1).2.2.2.1
          have re4 := fun s : Held (fun wx => CtS w #[.int .i64 c.st.1.1, .int .i64 c.st.1.2, .int .i64 c.st.2.1, .int .i64 c.st.2.2, .slice A c.n cap, .int .i64 c.fi.1.1, .int .i64 c.fi.1.2, .int .i64 c.fi.2.1, .int .i64 c.fi.2.2] 36 g o c.n c.mf tg tO n f wx) => (cells9 s.h.1.1.1).2.2.2.2.1
          have re5 := fun s : Held (fun wx => CtS w #[.int .i64 c.st.1.1, .int .i64 c.st.1.2, .int .i64 c.st.2.1, .int .i64 c.st.2.2, .slice A c.n cap, .int .i64 c.fi.1.1, .int .i64 c.fi.1.2, .int .i64 c.fi.2.1, .int .i64 c.fi.2.2] 36 g o c.n c.mf tg tO n f wx) => (cells9 s.h.1.1.1).2.2.2.2.2.1
          have re6 := fun s : Held (fun wx => CtS w #[.int .i64 c.st.1.1, .int .i64 c.st.1.2, .int .i64 c.st.2.1, .int .i64 c.st.2.2, .slice A c.n cap, .int .i64 c.fi.1.1, .int .i64 c.fi.1.2, .int .i64 c.fi.2.1, .int .i64 c.fi.2.2] 36 g o c.n c.mf tg tO n f wx) => (cells9 s.h.1.1.1).2.2.2.2.2.2.1
          have re7 := fun s : Held (fun wx => CtS w #[.int .i64 c.st.1.1, .int .i64 c.st.1.2, .int .i64 c.st.2.1, .int .i64 c.st.2.2, .slice A c.n cap, .int .i64 c.fi.1.1, .int .i64 c.fi.1.2, .int .i64 c.fi.2.1, .int .i64 c.fi.2.2] 36 g o c.n c.mf tg tO n f wx) => (cells9 s.h.1.1.1).2.2.2.2.2.2.2.1
          have re8 := fun s : Held (fun wx => CtS w #[.int .i64 c.st.1.1, .int .i64 c.st.1.2, .int .i64 c.st.2.1, .int .i64 c.st.2.2, .slice A c.n cap, .int .i64 c.fi.1.1, .int .i64 c.fi.1.2, .int .i64 c.fi.2.1, .int .i64 c.fi.2.2] 36 g o c.n c.mf tg tO n f wx) => (cells9 s.h.1.1.1).2.2.2.2.2.2.2.2
          have ry0 := fun s : Held (fun wx => CtS w #[.int .i64 c.st.1.1, .int .i64 c.st.1.2, .int .i64 c.st.2.1, .int .i64 c.st.2.2, .slice A c.n cap, .int .i64 c.fi.1.1, .int .i64 c.fi.1.2, .int .i64 c.fi.2.1, .int .i64 c.fi.2.2] 36 g o c.n c.mf tg tO n f wx) => (s.h.2.at (show j < n by omega) HF.out.1).1
          have ry1 := fun s : Held (fun wx => CtS w #[.int .i64 c.st.1.1, .int .i64 c.st.1.2, .int .i64 c.st.2.1, .int .i64 c.st.2.2, .slice A c.n cap, .int .i64 c.fi.1.1, .int .i64 c.fi.1.2, .int .i64 c.fi.2.1, .int .i64 c.fi.2.2] 36 g o c.n c.mf tg tO n f wx) => (s.h.2.at (show j < n by omega) HF.out.1).2.1
          have ry2 := fun s : Held (fun wx => CtS w #[.int .i64 c.st.1.1, .int .i64 c.st.1.2, .int .i64 c.st.2.1, .int .i64 c.st.2.2, .slice A c.n cap, .int .i64 c.fi.1.1, .int .i64 c.fi.1.2, .int .i64 c.fi.2.1, .int .i64 c.fi.2.2] 36 g o c.n c.mf tg tO n f wx) => (s.h.2.at (show j < n by omega) HF.out.1).2.2
          have rx0 := fun s : Held (fun wx => CtS w #[.int .i64 c.st.1.1, .int .i64 c.st.1.2, .int .i64 c.st.2.1, .int .i64 c.st.2.2, .slice A c.n cap, .int .i64 c.fi.1.1, .int .i64 c.fi.1.2, .int .i64 c.fi.2.1, .int .i64 c.fi.2.2] 36 g o c.n c.mf tg tO n f wx) => (s.h.2.at hlt HF.out.2).1
          have rx1 := fun s : Held (fun wx => CtS w #[.int .i64 c.st.1.1, .int .i64 c.st.1.2, .int .i64 c.st.2.1, .int .i64 c.st.2.2, .slice A c.n cap, .int .i64 c.fi.1.1, .int .i64 c.fi.1.2, .int .i64 c.fi.2.1, .int .i64 c.fi.2.2] 36 g o c.n c.mf tg tO n f wx) => (s.h.2.at hlt HF.out.2).2.1
          have rx2 := fun s : Held (fun wx => CtS w #[.int .i64 c.st.1.1, .int .i64 c.st.1.2, .int .i64 c.st.2.1, .int .i64 c.st.2.2, .slice A c.n cap, .int .i64 c.fi.1.1, .int .i64 c.fi.1.2, .int .i64 c.fi.2.1, .int .i64 c.fi.2.2] 36 g o c.n c.mf tg tO n f wx) => (s.h.2.at hlt HF.out.2).2.2
          by_cases h1 : cr = 1
          · subst h1
            have HN := Lib.hid (show (m, t) = (r1, r2) by rw [← HR.out, e0, if_pos rfl])
            obtain ⟨rfl, rfl⟩ := Prod.mk.injEq .. ▸ HN.out
            clear e0
            go_wp2
            haveI hnehst6 : Nonempty (Held (fun wx => CtS w #[.int .i64 c.st.1.1, .int .i64 c.st.1.2, .int .i64 c.st.2.1, .int .i64 c.st.2.2, .slice A c.n cap, .int .i64 c.fi.1.1, .int .i64 c.fi.1.2, .int .i64 c.fi.2.1, .int .i64 c.fi.2.2] 36 g o c.n c.mf tg tO n f wx)) := ⟨⟨_, hst⟩⟩
            refine wp_region_class (fun wx => CtS w #[.int .i64 c.st.1.1, .int .i64 c.st.1.2, .int .i64 c.st.2.1, .int .i64 c.st.2.2, .slice A c.n cap, .int .i64 c.fi.1.1, .int .i64 c.fi.1.2, .int .i64 c.fi.2.1, .int .i64 c.fi.2.2] 36 g o c.n c.mf tg tO n f wx) (by kernel_rfl) (by kernel_rfl) (CtS.drew hst) ?_
            repeat (go_big_quiet_step (first
              | (go_at_call 69; with_reducible exact held_call CtS.step (HX.out _))))
            refine wpQuiet_nil ?_
            intro wyhst6 hw'
            obtain ⟨⟨wqhst6, hst6⟩, rfl⟩ := hw'
            (try dsimp only)
            go_wp2
            haveI hnehst7 : Nonempty (Held (fun wx => CtS w #[.int .i64 c.st.1.1, .int .i64 c.st.1.2, .int .i64 c.st.2.1, .int .i64 c.st.2.2, .slice A c.n cap, .int .i64 c.fi.1.1, .int .i64 c.fi.1.2, .int .i64 c.fi.2.1, .int .i64 c.fi.2.2] 36 g o c.n c.mf tg tO n f wx)) := ⟨⟨_, hst6⟩⟩
            refine wp_region_class (fun wx => CtS w #[.int .i64 c.st.1.1, .int .i64 c.st.1.2, .int .i64 c.st.2.1, .int .i64 c.st.2.2, .slice A c.n cap, .int .i64 c.fi.1.1, .int .i64 c.fi.1.2, .int .i64 c.fi.2.1, .int .i64 c.fi.2.2] 36 g o c.n c.mf tg tO n f wx) (by kernel_rfl) (by kernel_rfl) (CtS.drew hst6) ?_
            repeat (go_big_quiet_step (first
              | (go_at_call 70; with_reducible exact held_call CtS.step (HC.out _))))
            refine wpQuiet_nil ?_
            intro wyhst7 hw'
            obtain ⟨⟨wqhst7, hst7⟩, rfl⟩ := hw'
            (try dsimp only)
            go_wp2
            go_ret2
            exact ⟨rfl, hst7.below⟩
          · have HN := Lib.hid (show fnFrom c.fi f (n - 1 - (j + 1)) (j + 1) = (r1, r2) by rw [← HR.out, e0, if_neg h1])
            have hcc : (cr == 1) = false := by rw [beq_eq_false_iff_ne]; exact h1
            clear e0
            go_wp2
            haveI hnehst6 : Nonempty (Held (fun wx => CtS w #[.int .i64 c.st.1.1, .int .i64 c.st.1.2, .int .i64 c.st.2.1, .int .i64 c.st.2.2, .slice A c.n cap, .int .i64 c.fi.1.1, .int .i64 c.fi.1.2, .int .i64 c.fi.2.1, .int .i64 c.fi.2.2] 36 g o c.n c.mf tg tO n f wx)) := ⟨⟨_, hst⟩⟩
            refine wp_region_class (fun wx => CtS w #[.int .i64 c.st.1.1, .int .i64 c.st.1.2, .int .i64 c.st.2.1, .int .i64 c.st.2.2, .slice A c.n cap, .int .i64 c.fi.1.1, .int .i64 c.fi.1.2, .int .i64 c.fi.2.1, .int .i64 c.fi.2.2] 36 g o c.n c.mf tg tO n f wx) (by kernel_rfl) (by kernel_rfl) (CtS.drew hst) ?_
            repeat (go_big_quiet_step (first
              | (go_at_call 69; with_reducible exact held_call CtS.step (HX.out _))))
            refine wpQuiet_nil ?_
            intro wyhst6 hw'
            obtain ⟨⟨wqhst6, hst6⟩, rfl⟩ := hw'
            (try dsimp only)
            all_goals
              go_wp2_with fail
              go_roundw
              case rel => exact ⟨j + 1, ⟨by omega, by omega⟩, by go_num, HN.out, hst6⟩
              case measure => simp [intOf]; omega
        · have z1 : ¬ (j : Int) + 1 < (n : Int) := by omega
          have z8 : IntKind.i64.wrap ((j : Int) + 1) = (j : Int) + 1 := IntWalk.i64_in _ (by omega)
          have HN := Lib.hid (show (0, false) = (r1, r2) by rw [← HR.out, show n - 1 - j = 0 by omega]; rfl)
          obtain ⟨rfl, rfl⟩ := Prod.mk.injEq .. ▸ HN.out
          go_wp2
          go_ret2
          exact ⟨rfl, hst.below⟩
end Go.Proofs.Ythahakefmpajfaa

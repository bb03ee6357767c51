/- The law FnProgressRises: marks are rounded one behind the other. The contracts of impl.RoundedAt and impl.Progress are arguments. -/
import Derived.Test.YthahakefmpajfaaLkS
import Derived.Test.YthahakefmpajfaaLkP
import Derived.Deep.DeepCutAuto
namespace Go.Proofs.Ythahakefmpajfaa
open Go.RowKit
set_option linter.unusedVariables false
set_option linter.unusedSimpArgs false

/-- What stands while a list of roundings is looked at. -/
def RtL (w : World) (q : Nat) (cs : Array Value) (gM n : Nat) (f : Nat → Mk) (tg nt : Nat) (h : Nat → Sg) (Al : Option Addr) (ll gl : Nat) (L : Nat → Int) (wx : World) : Prop := RtC w q cs gM n f tg nt h wx ∧ InB wx Al ll gl L
theorem RtL.step {w w1 w2 : World} {q : Nat} {cs : Array Value} {gM n : Nat} {f : Nat → Mk} {tg nt : Nat} {h : Nat → Sg} {Al : Option Addr} {ll gl : Nat} {L : Nat → Int} (k : RtL w q cs gM n f tg nt h Al ll gl L w1) (b : Below w1.heap.size w1 w2) : RtL w q cs gM n f tg nt h Al ll gl L w2 := ⟨k.1.step b, k.2.below b (Nat.le_refl _)⟩
theorem RtL.drew {w w1 : World} {q : Nat} {cs : Array Value} {gM n : Nat} {f : Nat → Mk} {tg nt : Nat} {h : Nat → Sg} {Al : Option Addr} {ll gl : Nat} {L : Nat → Int} (k : RtL w q cs gM n f tg nt h Al ll gl L w1) : RtL w q cs gM n f tg nt h Al ll gl L w1.drew := ⟨k.1.drew, k.2⟩
set_option maxRecDepth 100000 in
set_option maxHeartbeats 4000000 in
theorem wo_FnProgressRises (hi : ∀ (c : Crs) (A : Option Addr) (g o cap : Nat) (k : Int) (f : Nat → Sg) (TA : Option Addr) (tg tO n tcap : Nat) (b : Int) (w : World), c.n ≤ 1048576 → (0 < c.n → A = some ⟨g, o, none⟩) → MksIn w g o c.n c.mf → n ≤ 1048576 → (0 < n → TA = some ⟨tg, tO, none⟩) → SigsIn w tg tO n f → n ≤ tcap →
      Calls Try.prog 19 #[.agg #[.int .i64 c.st.1.1, .int .i64 c.st.1.2, .int .i64 c.st.2.1, .int .i64 c.st.2.2, .slice A c.n cap, .int .i64 c.fi.1.1, .int .i64 c.fi.1.2, .int .i64 c.fi.2.1, .int .i64 c.fi.2.2], .int .i64 k, .slice TA n tcap, .int .i64 b] w fun e w' => e = .returned (.int .i64 (roW c k n f b)) ∧ Below w.heap.size w w')
    (hp : ∀ (c : Crs) (A : Option Addr) (g o cap : Nat) (f : Nat → Sg) (TA : Option Addr) (tg tO n tcap : Nat) (b : Int) (w : World), c.n ≤ 1048576 → (0 < c.n → A = some ⟨g, o, none⟩) → MksIn w g o c.n c.mf → n ≤ 1048576 → (0 < n → TA = some ⟨tg, tO, none⟩) → SigsIn w tg tO n f → n ≤ tcap →
      Calls Try.prog 21 #[.agg #[.int .i64 c.st.1.1, .int .i64 c.st.1.2, .int .i64 c.st.2.1, .int .i64 c.st.2.2, .slice A c.n cap, .int .i64 c.fi.1.1, .int .i64 c.fi.1.2, .int .i64 c.fi.2.1, .int .i64 c.fi.2.2], .slice TA n tcap, .int .i64 b] w (PgE 3 w (pgW c n f b)))
    (a0 : Option Addr) (len cap : Nat) (zs : List Int) (w : World) (hr : IsRow .u8 w a0 len cap zs) :
    Calls Try.prog 5 #[.slice a0 len cap] w fun e w' => e = .returned (.bool true) ∧ Below w.heap.size w w' := by
  by_cases hbig : len ≤ 1048576
  · have hcode := code_of_row hr hbig
    go_enter Try.func5, Try.ntmps5
    go_wp2_with (go_at_call 12; go_in)
    refine (d_progress _ len cap a0 (by omega) hcode).mono ?_
    rintro e w1 ⟨s, t, v, n, vt, nt, b, hn, hnt, hb, rfl, oM, oG, b1⟩
    obtain ⟨Av, gM, cv, f, rfl, hA, hM⟩ := own_marks oM
    obtain ⟨At, tg, ct, h, rfl, hc1, hT, hS⟩ := own_sights oG
    obtain ⟨⟨s1, s2⟩, s3, s4⟩ := s
    obtain ⟨⟨t1, t2⟩, t3, t4⟩ := t
    have hs0 := (Bxs.nil b1).add (q := w1.heap.size) rfl #[.int .i64 s1, .int .i64 s2, .int .i64 s3, .int .i64 s4, .slice Av n cv, .int .i64 t1, .int .i64 t2, .int .i64 t3, .int .i64 t4] 36
    have HS := Lib.hid (show RtC w w1.heap.size #[.int .i64 s1, .int .i64 s2, .int .i64 s3, .int .i64 s4, .slice Av n cv, .int .i64 t1, .int .i64 t2, .int .i64 t3, .int .i64 t4] gM n f tg nt h _ from ⟨hs0, hM.below ((Below.refl _ w1).alloc (Nat.le_refl _) _) (Nat.le_refl _), hS.below ((Below.refl _ w1).alloc (Nat.le_refl _) _) (Nat.le_refl _)⟩)
    have H0 := Lib.hid (fun W (hm : MksIn W gM 0 n f) (hs : SigsIn W tg 0 nt h) => hp ⟨((s1, s2), (s3, s4)), n, f, ((t1, t2), (t3, t4))⟩ Av gM 0 cv h At tg 0 nt ct b W (by show n ≤ _; omega) hA hm (by omega) (fun hp => (hT hp).1) hs hc1)
    have H1 := Lib.hid (fun W (k b : Int) (hm : MksIn W gM 0 n f) (hs : SigsIn W tg 0 nt h) => hi ⟨((s1, s2), (s3, s4)), n, f, ((t1, t2), (t3, t4))⟩ Av gM 0 cv k h At tg 0 nt ct b W (by show n ≤ _; omega) hA hm (by omega) (fun hp => (hT hp).1) hs hc1)
    obtain ⟨p1, p2, p3⟩ := pg_steps ⟨((s1, s2), (s3, s4)), n, f, ((t1, t2), (t3, t4))⟩ nt h n 0 b
    have hpg : pgW ⟨((s1, s2), (s3, s4)), n, f, ((t1, t2), (t3, t4))⟩ nt h b = pgFrom ⟨((s1, s2), (s3, s4)), n, f, ((t1, t2), (t3, t4))⟩ nt h n 0 b := rfl
    rw [hpg] at H0
    clear hpg
    unfold cs9
    dsimp only at *
    generalize pgFrom ⟨((s1, s2), (s3, s4)), n, f, ((t1, t2), (t3, t4))⟩ nt h n 0 b = l at *
    clear oM oG b1 hM hS hs0 hcode hr hbig hi hp hA hT
    go_wp2_with fail
    refine (H0.out _ HS.out.2.1 HS.out.2.2).mono ?_
    rintro e w2 ⟨vl, rfl, ol, b2⟩
    obtain ⟨Al, cl, gl, rfl, hL, _⟩ := InB.of_owns ol
    have HS2 := Lib.hid (show RtL w w1.heap.size #[.int .i64 s1, .int .i64 s2, .int .i64 s3, .int .i64 s4, .slice Av n cv, .int .i64 t1, .int .i64 t2, .int .i64 t3, .int .i64 t4] gM n f tg nt h Al l.length gl (fun j => l.getD j 0) w2 from ⟨HS.out.step b2, hL⟩)
    clear HS H0 b2 ol hL
    generalize w1.heap.size = q at *
    have u1 : ¬ (n : Int) < (l.length : Int) := by omega
    have u1b : decide (n < l.length) = false := decide_eq_false (by omega)
    have u1c : decide ((l.length : Int) > (n : Int)) = false := decide_eq_false (by omega)
    have u1e : ¬ n < l.length := by omega
    obtain ⟨L, hL⟩ : ∃ L : Nat → Int, (fun j => l.getD j 0) = L := ⟨_, rfl⟩
    obtain ⟨Y, hY⟩ : ∃ Y : Nat → Int, (fun j => begW l b j) = Y := ⟨_, rfl⟩
    have y0 : Y 0 = b := by rw [← hY]; rfl
    have ys : ∀ j, Y (j + 1) = L j := fun j => by rw [← hY, ← hL]; rfl
    have p2' : ∀ j, j < l.length → roW ⟨((s1, s2), (s3, s4)), n, f, ((t1, t2), (t3, t4))⟩ ((0 + j : Nat) : Int) nt h (Y j) = L j ∧ Y j < L j := fun j hj => by rw [← hY, ← hL]; exact p2 j hj
    have p3' : l.length = n ∨ roW ⟨((s1, s2), (s3, s4)), n, f, ((t1, t2), (t3, t4))⟩ ((0 + l.length : Nat) : Int) nt h (Y l.length) = -1 := by rw [← hY]; exact p3
    rw [hL] at HS2
    clear p2 p3
    have p2 := p2'
    have p3 := p3'
    clear p2' p3' hL hY
    have YS := Lib.hid ys
    have Y0 := Lib.hid y0
    clear ys y0
    generalize hll : l.length = ll at *
    have HP := Lib.hid p2
    have HQ := Lib.hid p3
    clear p2 p3
    have ce := (cells9 (HS2.out.1.1.1 _ (.head _))).2.2.2.2.1
    go_wp2_with fail
    go_loopw [5, 7] (fun bb kk wr => ∃ k : Nat, k ≤ ll ∧ kk = .int .i64 k ∧ bb = .int .i64 (Y k) ∧ RtL w q #[.int .i64 s1, .int .i64 s2, .int .i64 s3, .int .i64 s4, .slice Av n cv, .int .i64 t1, .int .i64 t2, .int .i64 t3, .int .i64 t4] gM n f tg nt h Al ll gl L wr) (fun _ kk _ => ll - (intOf kk).toNat)
    case atStart => exact ⟨0, Nat.zero_le _, rfl, by rw [Y0.out], HS2.out⟩
    case round =>
      clear HS2 ce
      obtain ⟨k, hk, rfl, rfl, hst⟩ := hrel
      have HT := Lib.hid hst
      have c0 : ∀ s : Held (fun wx => RtL w q #[.int .i64 s1, .int .i64 s2, .int .i64 s3, .int .i64 s4, .slice Av n cv, .int .i64 t1, .int .i64 t2, .int .i64 t3, .int .i64 t4] gM n f tg nt h Al ll gl L wx), s.w.cell? ⟨q, 0, none⟩ = some (.int .i64 s1) := fun s => (cells9 (s.h.1.1.1 _ (.head _))).1
      have c1 : ∀ s : Held (fun wx => RtL w q #[.int .i64 s1, .int .i64 s2, .int .i64 s3, .int .i64 s4, .slice Av n cv, .int .i64 t1, .int .i64 t2, .int .i64 t3, .int .i64 t4] gM n f tg nt h Al ll gl L wx), s.w.cell? ⟨q, 1, none⟩ = some (.int .i64 s2) := fun s => (cells9 (s.h.1.1.1 _ (.head _))).2.1
      have c2 : ∀ s : Held (fun wx => RtL w q #[.int .i64 s1, .int .i64 s2, .int .i64 s3, .int .i64 s4, .slice Av n cv, .int .i64 t1, .int .i64 t2, .int .i64 t3, .int .i64 t4] gM n f tg nt h Al ll gl L wx), s.w.cell? ⟨q, 2, none⟩ = some (.int .i64 s3) := fun s => (cells9 (s.h.1.1.1 _ (.head _))).2.2.1
      have c3 : ∀ s : Held (fun wx => RtL w q #[.int .i64 s1, .int .i64 s2, .int .i64 s3, .int .i64 s4, .slice Av n cv, .int .i64 t1, .int .i64 t2, .int .i64 t3, .int .i64 t4] gM n f tg nt h Al ll gl L wx), s.w.cell? ⟨q, 3, none⟩ = some (.int .i64 s4) := fun s => (cells9 (s.h.1.1.1 _ (.head _))).2.2.2.1
      have c4 : ∀ s : Held (fun wx => RtL w q #[.int .i64 s1, .int .i64 s2, .int .i64 s3, .int .i64 s4, .slice Av n cv, .int .i64 t1, .int .i64 t2, .int .i64 t3, .int .i64 t4] gM n f tg nt h Al ll gl L wx), s.w.cell? ⟨q, 4, none⟩ = some (.slice Av n cv) := fun s => (cells9 (s.h.1.1.1 _ (.head _))).2.2.2.2.1
      have c5 : ∀ s : Held (fun wx => RtL w q #[.int .i64 s1, .int .i64 s2, .int .i64 s3, .int .i64 s4, .slice Av n cv, .int .i64 t1, .int .i64 t2, .int .i64 t3, .int .i64 t4] gM n f tg nt h Al ll gl L wx), s.w.cell? ⟨q, 5, none⟩ = some (.int .i64 t1) := fun s => (cells9 (s.h.1.1.1 _ (.head _))).2.2.2.2.2.1
      have c6 : ∀ s : Held (fun wx => RtL w q #[.int .i64 s1, .int .i64 s2, .int .i64 s3, .int .i64 s4, .slice Av n cv, .int .i64 t1, .int .i64 t2, .int .i64 t3, .int .i64 t4] gM n f tg nt h Al ll gl L wx), s.w.cell? ⟨q, 6, none⟩ = some (.int .i64 t2) := fun s => (cells9 (s.h.1.1.1 _ (.head _))).2.2.2.2.2.2.1
      have c7 : ∀ s : Held (fun wx => RtL w q #[.int .i64 s1, .int .i64 s2, .int .i64 s3, .int .i64 s4, .slice Av n cv, .int .i64 t1, .int .i64 t2, .int .i64 t3, .int .i64 t4] gM n f tg nt h Al ll gl L wx), s.w.cell? ⟨q, 7, none⟩ = some (.int .i64 t3) := fun s => (cells9 (s.h.1.1.1 _ (.head _))).2.2.2.2.2.2.2.1
      have c8 : ∀ s : Held (fun wx => RtL w q #[.int .i64 s1, .int .i64 s2, .int .i64 s3, .int .i64 s4, .slice Av n cv, .int .i64 t1, .int .i64 t2, .int .i64 t3, .int .i64 t4] gM n f tg nt h Al ll gl L wx), s.w.cell? ⟨q, 8, none⟩ = some (.int .i64 t4) := fun s => (cells9 (s.h.1.1.1 _ (.head _))).2.2.2.2.2.2.2.2
      haveI hne : Nonempty (Held fun wx => RtL w q #[.int .i64 s1, .int .i64 s2, .int .i64 s3, .int .i64 s4, .slice Av n cv, .int .i64 t1, .int .i64 t2, .int .i64 t3, .int .i64 t4] gM n f tg nt h Al ll gl L wx) := ⟨⟨_, hst⟩⟩
      by_cases hlt : k < ll
      · have hlt1 : (k : Int) < (ll : Int) := by omega
        have h0k : (0 : Int) ≤ (k : Int) := by omega
        obtain ⟨r1, r2⟩ := HP.out k hlt
        rw [Nat.zero_add] at r1
        obtain ⟨rfl, _⟩ := hst.2.at hlt
        have X1 := Lib.hid (fun s : Held (fun wx => RtL w q #[.int .i64 s1, .int .i64 s2, .int .i64 s3, .int .i64 s4, .slice Av n cv, .int .i64 t1, .int .i64 t2, .int .i64 t3, .int .i64 t4] gM n f tg nt h (some ⟨gl, 0, none⟩) ll gl L wx) => H1.out s.w k (Y k) s.h.1.2.1 s.h.1.2.2)
        rw [r1] at X1
        have dl : ∀ s : Held (fun wx => RtL w q #[.int .i64 s1, .int .i64 s2, .int .i64 s3, .int .i64 s4, .slice Av n cv, .int .i64 t1, .int .i64 t2, .int .i64 t3, .int .i64 t4] gM n f tg nt h (some ⟨gl, 0, none⟩) ll gl L wx), s.w.cell? ⟨gl, k, none⟩ = some (.int .i64 (L k)) := fun s => (s.h.2.at hlt).2
        have hbeg : Y (k + 1) = L k := YS.out k
        have HG := Lib.hid hbeg
        clear hbeg r1
        obtain ⟨x, hx⟩ : ∃ x, L k = x := ⟨_, rfl⟩
        have HX := Lib.hid hx
        rw [hx] at r2 X1 dl
        clear hx
        obtain ⟨y, hy⟩ : ∃ y, Y k = y := ⟨_, rfl⟩
        rw [hy] at r2 X1 ⊢
        clear hy
        have kk : ((x : Int) == x) = true := by simp
        have k2 : ¬ x ≤ y := by omega
        go_upto_region 10 with fail
        go_cut [49] (fun s49 wx => s49 = .bool false ∧ RtL w q #[.int .i64 s1, .int .i64 s2, .int .i64 s3, .int .i64 s4, .slice Av n cv, .int .i64 t1, .int .i64 t2, .int .i64 t3, .int .i64 t4] gM n f tg nt h (some ⟨gl, 0, none⟩) ll gl L wx)
        case first =>
          refine wp_region_class (fun wx => RtL w q #[.int .i64 s1, .int .i64 s2, .int .i64 s3, .int .i64 s4, .slice Av n cv, .int .i64 t1, .int .i64 t2, .int .i64 t3, .int .i64 t4] gM n f tg nt h (some ⟨gl, 0, none⟩) ll gl L wx) (by kernel_rfl) (by kernel_rfl) (RtL.drew hst) ?_
          repeat (go_big_quiet_step (first
            | (go_at_call 19; with_reducible exact held_call RtL.step (X1.out _))))
          refine wpQuiet_nil ?_
          intro wq hw'
          obtain ⟨⟨wq1, hst6⟩, rfl⟩ := hw'
          (try dsimp only)
          go_wp2_with fail
          go_meet
          exact ⟨rfl, hst6⟩
        case rest =>
        clear c0 c1 c2 c3 c4 c5 c6 c7 c8 dl X1 hne hst HT
        obtain ⟨rfl, hst6⟩ := hcut
        have dq := (hst6.2.at hlt).2
        rw [HX.out] at dq
        have HF := Lib.hid hst6
        clear hst6
        go_wp2_with fail
        go_roundw
        case rel => exact ⟨k + 1, by omega, by go_num, by rw [HG.out, HX.out], HF.out⟩
        case measure => simp [intOf]; omega
      · obtain rfl : k = ll := by omega
        have hlt1 : ¬ (k : Int) < (k : Int) := by omega
        have H3 := HQ.out
        rw [Nat.zero_add] at H3
        obtain ⟨e0, e1, e2, e3, e4, e5, e6, e7, e8⟩ := cells9 (hst.1.1.1 _ (.head _))
        have HE := Lib.hid hst
        clear hst hne c0 c1 c2 c3 c4 c5 c6 c7 c8
        by_cases hkn : k = n
        · have g1 : ((k : Int) == (n : Int)) = true := by rw [beq_iff_eq]; omega
          clear H3
          go_wp2
          go_ret
          exact ⟨rfl, HE.out.1.1.2⟩
        · have g1 : ((k : Int) == (n : Int)) = false := by rw [beq_eq_false_iff_ne]; omega
          have g2 : ¬ (k : Int) = (n : Int) := by omega
          obtain H4 := H3.resolve_left hkn
          have X1 := H1.out wr k (Y k) HE.out.1.2.1 HE.out.1.2.2
          rw [H4] at X1
          have HX := Lib.hid X1
          clear X1 H3 H4
          go_wp2_with fail
          refine HX.out.mono ?_
          rintro e w3 ⟨rfl, b3⟩
          have HF := Lib.hid (HE.out.1.1.step b3).2
          clear b3 HE
          go_wp2
          go_ret
          exact ⟨rfl, HF.out⟩
  · have h1 : (1048576 : Int) < (len : Int) := by omega
    go_enter Try.func5, Try.ntmps5
    go_wp2_with (go_at_call 12; go_in)
    go_ret
    exact ⟨rfl, Below.refl _ _⟩
end Go.Proofs.Ythahakefmpajfaa

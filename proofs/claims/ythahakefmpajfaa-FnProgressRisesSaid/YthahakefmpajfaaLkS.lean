/- The law FnLongerTrack: where a mark is rounded does not hang on what the track does behind it. The contract of impl.RoundedAt is an argument. -/
import Derived.Test.YthahakefmpajfaaLkO
import Derived.Test.YthahakefmpajfaaLkR
namespace Go.Proofs.Ythahakefmpajfaa
open Go.RowKit
set_option linter.unusedVariables false
set_option linter.unusedSimpArgs false

/-- What an own list of marks holds; of sights. -/
theorem own_marks {w : World} {B n : Nat} {v : Value} (h : OwnM w B v n) : ∃ (A : Option Addr) (g cap : Nat) (f : Nat → Mk), v = .slice A n cap ∧ (0 < n → A = some ⟨g, 0, none⟩) ∧ MksIn w g 0 n f := by
  rcases Nat.eq_zero_or_pos n with rfl | hn
  · obtain ⟨A, cap, rfl, _⟩ := h.value
    exact ⟨A, 0, cap, fun _ => ((0, 0), false), rfl, fun h => by omega, fun j hj => by omega⟩
  · obtain ⟨gM, cM, ds, rfl, _, _, _, a4, a5, a6⟩ := h.form hn
    have key : ∀ j, ∃ m : Mk, j < n → ds[j * 3]? = some (.int .i64 m.1.1) ∧ ds[j * 3 + 1]? = some (.int .i64 m.1.2) ∧ ds[j * 3 + 2]? = some (.bool m.2) := fun j => by
      by_cases hj : j < n
      · obtain ⟨x0, e0, y0⟩ := a6 (j * 3) (by omega)
        obtain ⟨x1, e1, y1⟩ := a6 (j * 3 + 1) (by omega)
        obtain ⟨x2, e2, y2⟩ := a6 (j * 3 + 2) (by omega)
        obtain ⟨n0, rfl⟩ := y0.1 (by omega)
        obtain ⟨n1, rfl⟩ := y1.1 (by omega)
        obtain ⟨b2, rfl⟩ := y2.2 (by omega)
        exact ⟨((n0, n1), b2), fun _ => ⟨e0, e1, e2⟩⟩
      · exact ⟨((0, 0), false), fun h => absurd h hj⟩
    refine ⟨_, gM, cM, fun j => (key j).choose, rfl, fun _ => rfl, fun j hj => ?_⟩
    obtain ⟨e0, e1, e2⟩ := (key j).choose_spec hj
    rw [Nat.zero_add]
    exact ⟨(cell_of_row w _ _ _ _ _ a4).trans e0, (cell_of_row w _ _ _ _ _ a4).trans e1, (cell_of_row w _ _ _ _ _ a4).trans e2⟩
theorem own_sights {w : World} {B n : Nat} {v : Value} (h : OwnG w B v n) : ∃ (A : Option Addr) (g cap : Nat) (f : Nat → Sg), v = .slice A n cap ∧ n ≤ cap ∧ (0 < n → A = some ⟨g, 0, none⟩ ∧ cap ≤ maxLen) ∧ SigsIn w g 0 n f := by
  obtain ⟨A, g, cap, f, rfl, h1, h2⟩ := h.sigs
  rcases Nat.eq_zero_or_pos n with rfl | hn
  · exact ⟨A, g, cap, f, rfl, Nat.zero_le _, fun h => by omega, h2⟩
  · obtain ⟨gM, cM, ds, e, a1, a2, _⟩ := h.form hn
    cases e
    exact ⟨_, g, cap, f, rfl, a1, fun _ => ⟨(h1 hn).1, a2⟩, h2⟩
/-- What stands while a course and a track are looked at. -/
def RtC (w : World) (q : Nat) (cs : Array Value) (gM n : Nat) (f : Nat → Mk) (tg nt : Nat) (h : Nat → Sg) (wx : World) : Prop := Bxs w [(q, cs, 36)] wx ∧ MksIn wx gM 0 n f ∧ SigsIn wx tg 0 nt h
theorem RtC.step {w w1 w2 : World} {q : Nat} {cs : Array Value} {gM n : Nat} {f : Nat → Mk} {tg nt : Nat} {h : Nat → Sg} (k : RtC w q cs gM n f tg nt h w1) (b : Below w1.heap.size w1 w2) : RtC w q cs gM n f tg nt h w2 := ⟨k.1.step b, k.2.1.below b (Nat.le_refl _), k.2.2.below b (Nat.le_refl _)⟩
theorem RtC.drew {w w1 : World} {q : Nat} {cs : Array Value} {gM n : Nat} {f : Nat → Mk} {tg nt : Nat} {h : Nat → Sg} (k : RtC w q cs gM n f tg nt h w1) : RtC w q cs gM n f tg nt h w1.drew := ⟨k.1.drew, k.2⟩
set_option maxRecDepth 100000 in
set_option maxHeartbeats 4000000 in
theorem wo_FnLongerTrack (hi : ∀ (c : Crs) (A : Option Addr) (g o cap : Nat) (k : Int) (f : Nat → Sg) (TA : Option Addr) (tg tO n tcap : Nat) (b : Int) (w : World), c.n ≤ 1048576 → (0 < c.n → A = some ⟨g, o, none⟩) → MksIn w g o c.n c.mf → n ≤ 1048576 → (0 < n → TA = some ⟨tg, tO, none⟩) → SigsIn w tg tO n f → n ≤ tcap →
      Calls Try.prog 19 #[.agg #[.int .i64 c.st.1.1, .int .i64 c.st.1.2, .int .i64 c.st.2.1, .int .i64 c.st.2.2, .slice A c.n cap, .int .i64 c.fi.1.1, .int .i64 c.fi.1.2, .int .i64 c.fi.2.1, .int .i64 c.fi.2.2], .int .i64 k, .slice TA n tcap, .int .i64 b] w fun e w' => e = .returned (.int .i64 (roW c k n f b)) ∧ Below w.heap.size w w')
    (a0 : Option Addr) (len cap : Nat) (zs : List Int) (w : World) (hr : IsRow .u8 w a0 len cap zs) :
    Calls Try.prog 4 #[.slice a0 len cap] w fun e w' => e = .returned (.bool true) ∧ Below w.heap.size w w' := by
  by_cases hbig : len ≤ 1048576
  · have hcode := code_of_row hr hbig
    go_enter Try.func4, Try.ntmps4
    go_wp2_with (go_at_call 12; go_in)
    refine (d_roundedAt _ len cap a0 hcode).mono ?_
    rintro e w1 ⟨s, t, v, n, k, vt, nt, b, hn, hnt, _, hb, rfl, oM, oG, b1⟩
    obtain ⟨Av, gM, cv, f, rfl, hA, hM⟩ := own_marks oM
    obtain ⟨At, tg, ct, h, rfl, hc1, hT, hS⟩ := own_sights oG
    obtain ⟨⟨s1, s2⟩, s3, s4⟩ := s
    obtain ⟨⟨t1, t2⟩, t3, t4⟩ := t
    have hs0 := (Bxs.nil b1).add (q := w1.heap.size) rfl #[.int .i64 s1, .int .i64 s2, .int .i64 s3, .int .i64 s4, .slice Av n cv, .int .i64 t1, .int .i64 t2, .int .i64 t3, .int .i64 t4] 36
    have HS := Lib.hid (show RtC w w1.heap.size #[.int .i64 s1, .int .i64 s2, .int .i64 s3, .int .i64 s4, .slice Av n cv, .int .i64 t1, .int .i64 t2, .int .i64 t3, .int .i64 t4] gM n f tg nt h _ from ⟨hs0, hM.below ((Below.refl _ w1).alloc (Nat.le_refl _) _) (Nat.le_refl _), hS.below ((Below.refl _ w1).alloc (Nat.le_refl _) _) (Nat.le_refl _)⟩)
    have H0 := Lib.hid (fun W (hm : MksIn W gM 0 n f) (hs : SigsIn W tg 0 nt h) => hi ⟨((s1, s2), (s3, s4)), n, f, ((t1, t2), (t3, t4))⟩ Av gM 0 cv k h At tg 0 nt ct b W (by show n ≤ _; omega) hA hm (by omega) (fun hp => (hT hp).1) hs hc1)
    have H1 := Lib.hid (fun W (j : Nat) (hj : j ≤ nt) (hp : 0 < nt) (hm : MksIn W gM 0 n f) (hs : SigsIn W tg 0 nt h) => hi ⟨((s1, s2), (s3, s4)), n, f, ((t1, t2), (t3, t4))⟩ Av gM 0 cv k h (some ⟨tg, 0, none⟩) tg 0 j ct b W (by show n ≤ _; omega) hA hm (by omega) (fun _ => rfl) (fun i hi => hs i (by omega)) (by omega))
    have hcut := fun i => @ro_cut ⟨((s1, s2), (s3, s4)), n, f, ((t1, t2), (t3, t4))⟩ k nt h b i
    have hneg := @ro_neg ⟨((s1, s2), (s3, s4)), n, f, ((t1, t2), (t3, t4))⟩ k nt h b
    unfold cs9
    dsimp only at *
    clear oM oG b1 hM hS hs0 hcode hr hbig hi
    go_wp2_with fail
    refine (H0.out _ HS.out.2.1 HS.out.2.2).mono ?_
    rintro e w2 ⟨rfl, b2⟩
    have HS2 := Lib.hid (HS.out.step b2)
    clear HS H0 b2
    generalize w1.heap.size = q at *
    generalize hRR : roW ⟨((s1, s2), (s3, s4)), n, f, ((t1, t2), (t3, t4))⟩ k nt h b = R at *
    clear hRR
    by_cases hR0 : R < 0
    · obtain rfl : R = -1 := hneg hR0
      clear hcut hneg H1
      go_wp2
      go_ret
      exact ⟨rfl, HS2.out.1.2⟩
    · obtain ⟨i, rfl⟩ : ∃ i : Nat, R = i := ⟨R.toNat, by omega⟩
      obtain ⟨r1, r2, r3, r4⟩ := hcut i rfl
      obtain ⟨rfl, hcm⟩ := hT (by omega)
      have X1 := Lib.hid (fun s : Held (fun wx => RtC w q #[.int .i64 s1, .int .i64 s2, .int .i64 s3, .int .i64 s4, .slice Av n cv, .int .i64 t1, .int .i64 t2, .int .i64 t3, .int .i64 t4] gM n f tg nt h wx) => H1.out s.w (i + 1) (by omega) (by omega) s.h.2.1 s.h.2.2)
      have X2 := Lib.hid (fun s : Held (fun wx => RtC w q #[.int .i64 s1, .int .i64 s2, .int .i64 s3, .int .i64 s4, .slice Av n cv, .int .i64 t1, .int .i64 t2, .int .i64 t3, .int .i64 t4] gM n f tg nt h wx) => H1.out s.w i (by omega) (by omega) s.h.2.1 s.h.2.2)
      rw [r1] at X1
      rw [r2] at X2
      clear r1 r2 hcut hneg H1 hA hT
      have i1 : ¬ (i : Int) < 0 := by omega
      have i2 : ¬ (nt : Int) ≤ (i : Int) := by omega
      have i3 : ¬ (i : Int) ≤ b := by omega
      have hst := HS2.out
      have c0 : ∀ s : Held (fun wx => RtC w q #[.int .i64 s1, .int .i64 s2, .int .i64 s3, .int .i64 s4, .slice Av n cv, .int .i64 t1, .int .i64 t2, .int .i64 t3, .int .i64 t4] gM n f tg nt h wx), s.w.cell? ⟨q, 0, none⟩ = some (.int .i64 s1) := fun s => (cells9 (s.h.1.1 _ (.head _))).1
      have c1 : ∀ s : Held (fun wx => RtC w q #[.int .i64 s1, .int .i64 s2, .int .i64 s3, .int .i64 s4, .slice Av n cv, .int .i64 t1, .int .i64 t2, .int .i64 t3, .int .i64 t4] gM n f tg nt h wx), s.w.cell? ⟨q, 1, none⟩ = some (.int .i64 s2) := fun s => (cells9 (s.h.1.1 _ (.head _))).2.1
      have c2 : ∀ s : Held (fun wx => RtC w q #[.int .i64 s1, .int .i64 s2, .int .i64 s3, .int .i64 s4, .slice Av n cv, .int .i64 t1, .int .i64 t2, .int .i64 t3, .int .i64 t4] gM n f tg nt h wx), s.w.cell? ⟨q, 2, none⟩ = some (.int .i64 s3) := fun s => (cells9 (s.h.1.1 _ (.head _))).2.2.1
      have c3 : ∀ s : Held (fun wx => RtC w q #[.int .i64 s1, .int .i64 s2, .int .i64 s3, .int .i64 s4, .slice Av n cv, .int .i64 t1, .int .i64 t2, .int .i64 t3, .int .i64 t4] gM n f tg nt h wx), s.w.cell? ⟨q, 3, none⟩ = some (.int .i64 s4) := fun s => (cells9 (s.h.1.1 _ (.head _))).2.2.2.1
      have c4 : ∀ s : Held (fun wx => RtC w q #[.int .i64 s1, .int .i64 s2, .int .i64 s3, .int .i64 s4, .slice Av n cv, .int .i64 t1, .int .i64 t2, .int .i64 t3, .int .i64 t4] gM n f tg nt h wx), s.w.cell? ⟨q, 4, none⟩ = some (.slice Av n cv) := fun s => (cells9 (s.h.1.1 _ (.head _))).2.2.2.2.1
      have c5 : ∀ s : Held (fun wx => RtC w q #[.int .i64 s1, .int .i64 s2, .int .i64 s3, .int .i64 s4, .slice Av n cv, .int .i64 t1, .int .i64 t2, .int .i64 t3, .int .i64 t4] gM n f tg nt h wx), s.w.cell? ⟨q, 5, none⟩ = some (.int .i64 t1) := fun s => (cells9 (s.h.1.1 _ (.head _))).2.2.2.2.2.1
      have c6 : ∀ s : Held (fun wx => RtC w q #[.int .i64 s1, .int .i64 s2, .int .i64 s3, .int .i64 s4, .slice Av n cv, .int .i64 t1, .int .i64 t2, .int .i64 t3, .int .i64 t4] gM n f tg nt h wx), s.w.cell? ⟨q, 6, none⟩ = some (.int .i64 t2) := fun s => (cells9 (s.h.1.1 _ (.head _))).2.2.2.2.2.2.1
      have c7 : ∀ s : Held (fun wx => RtC w q #[.int .i64 s1, .int .i64 s2, .int .i64 s3, .int .i64 s4, .slice Av n cv, .int .i64 t1, .int .i64 t2, .int .i64 t3, .int .i64 t4] gM n f tg nt h wx), s.w.cell? ⟨q, 7, none⟩ = some (.int .i64 t3) := fun s => (cells9 (s.h.1.1 _ (.head _))).2.2.2.2.2.2.2.1
      have c8 : ∀ s : Held (fun wx => RtC w q #[.int .i64 s1, .int .i64 s2, .int .i64 s3, .int .i64 s4, .slice Av n cv, .int .i64 t1, .int .i64 t2, .int .i64 t3, .int .i64 t4] gM n f tg nt h wx), s.w.cell? ⟨q, 8, none⟩ = some (.int .i64 t4) := fun s => (cells9 (s.h.1.1 _ (.head _))).2.2.2.2.2.2.2.2
      haveI hne : Nonempty (Held fun wx => RtC w q #[.int .i64 s1, .int .i64 s2, .int .i64 s3, .int .i64 s4, .slice Av n cv, .int .i64 t1, .int .i64 t2, .int .i64 t3, .int .i64 t4] gM n f tg nt h wx) := ⟨⟨_, hst⟩⟩
      have HB2 := Lib.hid hst
      clear HS2 hR0
      have mm : maxLen = 9223372036854775807 := rfl
      have w1' : IntKind.i64.wrap ((i : Int) + 1) = (i : Int) + 1 := IntWalk.i64_in _ (by omega)
      have kk : ((i : Int) == (i : Int)) = true := by simp
      have k1 : ((-1 : Int) == -1) = true := by simp
      have j1 : ((i : Int) + 1).toNat = i + 1 := by omega
      have j2 : (i : Int) + 1 ≤ (ct : Int) := by omega
      have j3 : (i : Int) ≤ (ct : Int) := by omega
      have j4 : i + 1 ≤ ct := by omega
      have j5 : i ≤ ct := by omega
      have j6 : (0 : Int) ≤ (i : Int) + 1 := by omega
      have j7 : (0 : Int) ≤ (i : Int) := by omega
      go_wp2
      refine wp_region_class (fun wx => RtC w q #[.int .i64 s1, .int .i64 s2, .int .i64 s3, .int .i64 s4, .slice Av n cv, .int .i64 t1, .int .i64 t2, .int .i64 t3, .int .i64 t4] gM n f tg nt h wx) (by kernel_rfl) (by kernel_rfl) (RtC.drew hst) ?_
      repeat (go_big_quiet_step (first
        | (go_at_call 19; with_reducible exact held_call RtC.step (X1.out _))
        | (go_at_call 19; with_reducible exact held_call RtC.step (X2.out _))))
      refine wpQuiet_nil ?_
      intro wq hw'
      obtain ⟨⟨wq1, hst6⟩, rfl⟩ := hw'
      (try dsimp only)
      have HF := Lib.hid hst6.1.2
      clear hst6 hst HB2 hne
      go_wp2
      go_ret
      exact ⟨rfl, HF.out⟩
  · have h1 : (1048576 : Int) < (len : Int) := by omega
    go_enter Try.func4, Try.ntmps4
    go_wp2_with (go_at_call 12; go_in)
    go_ret
    exact ⟨rfl, Below.refl _ _⟩
end Go.Proofs.Ythahakefmpajfaa

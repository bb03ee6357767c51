/- Where a mark is rounded (impl): RoundedAt. -/
import Derived.Test.YthahakefmpajfaaLmC
import Derived.Test.YthahakefmpajfaaLkE
import Derived.Test.YthahakefmpajfaaLjF
import Derived.Deep.DeepCutAuto
namespace Go.Proofs.Ythahakefmpajfaa
open Go.RowKit
set_option linter.unusedVariables false
set_option linter.unusedSimpArgs false

/-- A course in a box, its marks, a track, and a ray in a box. -/
def RoS (w : World) (c : Array Value) (ty : TypeId) (g o m : Nat) (mf : Nat → Mk) (tg tO n : Nat) (f : Nat → Sg) (q : Nat) (rc : Array Value) (rt : TypeId) (wr : World) : Prop := CtS w c ty g o m mf tg tO n f wr ∧ wr.heap[q]? = some (.cells rc rt (0, 0))
theorem RoS.step {w w1 w2 : World} {c : Array Value} {ty : TypeId} {g o m : Nat} {mf : Nat → Mk} {tg tO n : Nat} {f : Nat → Sg} {q : Nat} {rc : Array Value} {rt : TypeId} (h : RoS w c ty g o m mf tg tO n f q rc rt w1) (b : Below w1.heap.size w1 w2) : RoS w c ty g o m mf tg tO n f q rc rt w2 := ⟨h.1.step b, (b.block _ (heap_lt h.2)).trans h.2⟩
theorem RoS.drew {w w1 : World} {c : Array Value} {ty : TypeId} {g o m : Nat} {mf : Nat → Mk} {tg tO n : Nat} {f : Nat → Sg} {q : Nat} {rc : Array Value} {rt : TypeId} (h : RoS w c ty g o m mf tg tO n f q rc rt w1) : RoS w c ty g o m mf tg tO n f q rc rt w1.drew := ⟨h.1.drew, h.2⟩
theorem RoS.new {w w1 : World} {c : Array Value} {ty : TypeId} {g o m : Nat} {mf : Nat → Mk} {tg tO n : Nat} {f : Nat → Sg} (h : CtS w c ty g o m mf tg tO n f w1) (rc : Array Value) (rt : TypeId) : RoS w c ty g o m mf tg tO n f w1.heap.size rc rt (w1.alloc (.cells rc rt)) :=
  ⟨h.step ((Below.refl _ _).alloc (Nat.le_refl _) _), heap_alloc_new w1 _⟩
/-- Whatever lies on top of a state may be written. -/
theorem CtS.far2 {w w1 w2 : World} {B : Nat} {c : Array Value} {ty : TypeId} {g o m : Nat} {mf : Nat → Mk} {tg tO n : Nat} {f : Nat → Sg} (h : CtS w c ty g o m mf tg tO n f w1) (b : Below B w1 w2) (hB : w1.heap.size ≤ B) : CtS w c ty g o m mf tg tO n f w2 :=
  h.step ⟨b.os, b.tape, b.output, b.size, fun k hk => b.block k (by omega)⟩
set_option maxRecDepth 100000 in
set_option maxHeartbeats 4000000 in
theorem i_ro (c : Crs) (A : Option Addr) (g o cap : Nat) (k : Int) (f : Nat → Sg) (TA : Option Addr) (tg tO n tcap : Nat) (b : Int) (w : World) (hn : c.n ≤ 1048576) (hA : 0 < c.n → A = some ⟨g, o, none⟩) (hw : MksIn w g o c.n c.mf)
    (hm : n ≤ 1048576) (hT : 0 < n → TA = some ⟨tg, tO, none⟩) (hv : SigsIn w tg tO n f) (hcp : n ≤ tcap) :
    Calls Try.prog 19 #[.agg #[.int .i64 c.st.1.1, .int .i64 c.st.1.2, .int .i64 c.st.2.1, .int .i64 c.st.2.2, .slice A c.n cap, .int .i64 c.fi.1.1, .int .i64 c.fi.1.2, .int .i64 c.fi.2.1, .int .i64 c.fi.2.2], .int .i64 k, .slice TA n tcap, .int .i64 b] w fun e w' => e = .returned (.int .i64 (roW c k n f b)) ∧ Below w.heap.size w w' := by
  have HC := Lib.hid (fun w (h : MksIn w g o c.n c.mf) => i_co c A g o cap w hn hA h)
  have HT := Lib.hid (fun w (h : SigsIn w tg tO n f) => i_tk f TA tg tO n tcap w hm hT h)
  have hs := Lib.hid (CtS.new (c := #[.int .i64 c.st.1.1, .int .i64 c.st.1.2, .int .i64 c.st.2.1, .int .i64 c.st.2.2, .slice A c.n cap, .int .i64 c.fi.1.1, .int .i64 c.fi.1.2, .int .i64 c.fi.2.1, .int .i64 c.fi.2.2]) (ty := 36) hw hv)
  clear hw hv
  have hr : roW c k n f b = if roB c k n f b = true then roFrom (orgW c k.toNat) (c.mf k.toNat).1 (wantW (c.mf k.toNat).2) f (n - 1 - b.toNat) b.toNat 0 else -1 := rfl
  cases h1 : coB c
  · rw [show roW c k n f b = -1 by rw [hr]; unfold roB; rw [h1]; rfl]
    rw [h1] at HC
    clear hr h1 HT
    go_enter Try.func19, Try.ntmps19
    obtain ⟨e0, e1, e2, e3, e4, e5, e6, e7, e8⟩ := cells9 hs.out.1.1.1
    go_wp2_with fail
    refine (HC.out _ hs.out.1.2).mono ?_
    rintro e w1 ⟨rfl, b⟩
    have hs' := Lib.hid (hs.out.step b)
    clear hs b e0 e1 e2 e3 e4 e5 e6 e7 e8
    have hs := hs'
    clear hs'
    obtain ⟨e0, e1, e2, e3, e4, e5, e6, e7, e8⟩ := cells9 hs.out.1.1.1
    go_wp2
    go_ret
    exact ⟨rfl, hs.out.below⟩
  rw [h1] at HC
  cases h2 : tkB n f
  · rw [show roW c k n f b = -1 by rw [hr]; unfold roB; rw [h1, h2]; rfl]
    rw [h2] at HT
    clear hr h1 h2
    go_enter Try.func19, Try.ntmps19
    obtain ⟨e0, e1, e2, e3, e4, e5, e6, e7, e8⟩ := cells9 hs.out.1.1.1
    go_wp2_with fail
    refine (HC.out _ hs.out.1.2).mono ?_
    rintro e w1 ⟨rfl, b⟩
    have hs' := Lib.hid (hs.out.step b)
    clear hs b e0 e1 e2 e3 e4 e5 e6 e7 e8
    have hs := hs'
    clear hs'
    obtain ⟨e0, e1, e2, e3, e4, e5, e6, e7, e8⟩ := cells9 hs.out.1.1.1
    go_wp2_with fail
    refine (HT.out _ hs.out.2).mono ?_
    rintro e w2 ⟨rfl, b⟩
    have hs' := Lib.hid (hs.out.step b)
    clear hs b e0 e1 e2 e3 e4 e5 e6 e7 e8
    have hs := hs'
    clear hs'
    obtain ⟨e0, e1, e2, e3, e4, e5, e6, e7, e8⟩ := cells9 hs.out.1.1.1
    go_wp2
    go_ret
    exact ⟨rfl, hs.out.below⟩
  rw [h2] at HT
  rcases (Decidable.em (0 ≤ k ∧ k ≤ (c.n : Int) - 1)).symm with h3 | h3
  · rw [show roW c k n f b = -1 by rw [hr]; unfold roB; rw [h1, h2, decide_eq_false h3]; rfl]
    have hk : k < 0 ∨ (¬ k < 0 ∧ (c.n : Int) ≤ k) := by omega
    clear hr h1 h2 h3
    rcases hk with k0 | ⟨k0, k1⟩
    all_goals
      go_enter Try.func19, Try.ntmps19
      obtain ⟨e0, e1, e2, e3, e4, e5, e6, e7, e8⟩ := cells9 hs.out.1.1.1
      go_wp2_with fail
      refine (HC.out _ hs.out.1.2).mono ?_
      rintro e w1 ⟨rfl, b⟩
      have hs' := Lib.hid (hs.out.step b)
      clear hs b e0 e1 e2 e3 e4 e5 e6 e7 e8
      have hs := hs'
      clear hs'
      obtain ⟨e0, e1, e2, e3, e4, e5, e6, e7, e8⟩ := cells9 hs.out.1.1.1
      go_wp2_with fail
      refine (HT.out _ hs.out.2).mono ?_
      rintro e w2 ⟨rfl, b⟩
      have hs' := Lib.hid (hs.out.step b)
      clear hs b e0 e1 e2 e3 e4 e5 e6 e7 e8
      have hs := hs'
      clear hs'
      obtain ⟨e0, e1, e2, e3, e4, e5, e6, e7, e8⟩ := cells9 hs.out.1.1.1
      go_wp2
      go_ret
      exact ⟨rfl, hs.out.below⟩
  rcases (Decidable.em (0 ≤ b ∧ b ≤ (n : Int) - 1)).symm with h4 | h4
  · rw [show roW c k n f b = -1 by rw [hr]; unfold roB; rw [h1, h2, decide_eq_true h3, decide_eq_false h4]; rfl]
    have k0 : ¬ k < 0 := by omega
    have k1 : ¬ (c.n : Int) ≤ k := by omega
    have hk : b < 0 ∨ (¬ b < 0 ∧ (n : Int) ≤ b) := by omega
    clear hr h1 h2 h3 h4
    rcases hk with j0 | ⟨j0, j1⟩
    all_goals
      go_enter Try.func19, Try.ntmps19
      obtain ⟨e0, e1, e2, e3, e4, e5, e6, e7, e8⟩ := cells9 hs.out.1.1.1
      go_wp2_with fail
      refine (HC.out _ hs.out.1.2).mono ?_
      rintro e w1 ⟨rfl, bl⟩
      have hs' := Lib.hid (hs.out.step bl)
      clear hs bl e0 e1 e2 e3 e4 e5 e6 e7 e8
      have hs := hs'
      clear hs'
      obtain ⟨e0, e1, e2, e3, e4, e5, e6, e7, e8⟩ := cells9 hs.out.1.1.1
      go_wp2_with fail
      refine (HT.out _ hs.out.2).mono ?_
      rintro e w2 ⟨rfl, bl⟩
      have hs' := Lib.hid (hs.out.step bl)
      clear hs bl e0 e1 e2 e3 e4 e5 e6 e7 e8
      have hs := hs'
      clear hs'
      obtain ⟨e0, e1, e2, e3, e4, e5, e6, e7, e8⟩ := cells9 hs.out.1.1.1
      go_wp2
      go_ret
      exact ⟨rfl, hs.out.below⟩
  rw [show roW c k n f b = roFrom (orgW c k.toNat) (c.mf k.toNat).1 (wantW (c.mf k.toNat).2) f (n - 1 - b.toNat) b.toNat 0 by rw [hr]; unfold roB; rw [h1, h2, decide_eq_true h3, decide_eq_true h4]; rfl]
  obtain ⟨kk, rfl⟩ : ∃ kk : Nat, k = (kk : Int) := ⟨k.toNat, by omega⟩
  obtain ⟨bb, rfl⟩ : ∃ bb : Nat, b = (bb : Int) := ⟨b.toNat, by omega⟩
  simp only [Int.toNat_natCast]
  obtain rfl := hA (by omega)
  obtain rfl := hT (by omega)
  have hkn : kk < c.n := by omega
  have hbn : bb < n := by omega
  have HV := Lib.hid (And.intro h1 h2)
  obtain ⟨⟨⟨m1, m2⟩, sb⟩, hmk⟩ : ∃ s, c.mf kk = s := ⟨_, rfl⟩
  have HMK := Lib.hid hmk
  have HO := Lib.hid (fun w h => i_rayOf c (some ⟨g, o, none⟩) g o cap kk w hkn hn (fun _ => rfl) h)
  have hli := ray_li (coB_iff.1 h1) hkn
  obtain ⟨⟨o1, o2⟩, ho⟩ : ∃ q, orgW c kk = q := ⟨_, rfl⟩
  rw [ho, hmk] at HO hli
  rw [ho, hmk]
  have HLI := Lib.hid hli
  dsimp only at HO HLI ⊢
  obtain ⟨r, hR⟩ : ∃ r, roFrom (o1, o2) (m1, m2) (wantW sb) f (n - 1 - bb) bb 0 = r := ⟨_, rfl⟩
  rw [hR]
  have HR0 := Lib.hid hR
  have HP := Lib.hid (fun a b h2 h3 w => i_passed ((o1, o2), (m1, m2)) a b w HLI.out h2 h3)
  have k0 : ¬ (kk : Int) < 0 := by omega
  have k1 : ¬ (c.n : Int) ≤ (kk : Int) := by omega
  have j0 : ¬ (bb : Int) < 0 := by omega
  have j1 : ¬ (n : Int) ≤ (bb : Int) := by omega
  have j2 : (0 : Int) ≤ (bb : Int) := by omega
  have j3 : (bb : Int) ≤ (n : Int) := by omega
  have j4 : ¬ tcap = bb := by omega
  have kd : decide ((kk : Int) < 0) = false := decide_eq_false k0
  have jd : decide ((bb : Int) < 0) = false := decide_eq_false j0
  clear hr h1 h2 h3 h4 ho hmk hR hA hT hli
  go_enter Try.func19, Try.ntmps19
  obtain ⟨e0, e1, e2, e3, e4, e5, e6, e7, e8⟩ := cells9 hs.out.1.1.1
  go_wp2_with fail
  refine (HC.out _ hs.out.1.2).mono ?_
  rintro e w1 ⟨rfl, b⟩
  have hs' := Lib.hid (hs.out.step b)
  clear hs b e0 e1 e2 e3 e4 e5 e6 e7 e8
  have hs := hs'
  clear hs'
  obtain ⟨e0, e1, e2, e3, e4, e5, e6, e7, e8⟩ := cells9 hs.out.1.1.1
  go_wp2_with fail
  refine (HT.out _ hs.out.2).mono ?_
  rintro e w2 ⟨rfl, b⟩
  have hs' := Lib.hid (hs.out.step b)
  clear hs b e0 e1 e2 e3 e4 e5 e6 e7 e8
  have hs := hs'
  clear hs'
  obtain ⟨e0, e1, e2, e3, e4, e5, e6, e7, e8⟩ := cells9 hs.out.1.1.1
  clear HC HT
  go_upto_region 3 with fail
  go_cut [9, 10] (fun s9 s10 wx => ∃ q, s9 = .pointer (some ⟨q, 0, none⟩) ∧ s10 = .slice (some ⟨tg, tO + bb * 3, none⟩) (n - bb) (tcap - bb) ∧ RoS w #[.int .i64 c.st.1.1, .int .i64 c.st.1.2, .int .i64 c.st.2.1, .int .i64 c.st.2.2, .slice (some ⟨g, o, none⟩) c.n cap, .int .i64 c.fi.1.1, .int .i64 c.fi.1.2, .int .i64 c.fi.2.1, .int .i64 c.fi.2.2] 36 g o c.n c.mf tg tO n f q #[.int .i64 o1, .int .i64 o2, .int .i64 m1, .int .i64 m2] 76 wx)
  case first =>
    have HM := Lib.hid hs.out.1.2
    have K2 := Lib.hid (RoS.new hs.out #[.int .i64 0, .int .i64 0, .int .i64 0, .int .i64 0] 76)
    have E2 := fun O => (cells9 ((Below.heap_alloc w2 O _ (heap_lt hs.out.1.1.1)).trans hs.out.1.1.1))
    have u0 := fun O => (E2 O).1
    have u1 := fun O => (E2 O).2.1
    have u2 := fun O => (E2 O).2.2.1
    have u3 := fun O => (E2 O).2.2.2.1
    have u4 := fun O => (E2 O).2.2.2.2.1
    have u5 := fun O => (E2 O).2.2.2.2.2.1
    have u6 := fun O => (E2 O).2.2.2.2.2.2.1
    have u7 := fun O => (E2 O).2.2.2.2.2.2.2.1
    have u8 := fun O => (E2 O).2.2.2.2.2.2.2.2
    clear E2
    go_region_with ((go_at_call 56; first
      | (refine (HO.out w2.drew HM.out).mono ?_; rintro e w6 ⟨rfl, b6⟩; have K6 := Lib.hid (RoS.new (hs.out.drew.step b6) #[.int .i64 o1, .int .i64 o2, .int .i64 m1, .int .i64 m2] 76); clear b6)
      | (refine (HO.out (w2.alloc (.cells #[.int .i64 0, .int .i64 0, .int .i64 0, .int .i64 0] 76)).drew K2.out.1.1.2).mono ?_; rintro e w6 ⟨rfl, b6⟩; have K6 := Lib.hid (K2.out.drew.step b6); have ST := Lib.hid (st4r K6.out.2 (.int .i64 o1) (.int .i64 o2) (.int .i64 m1) (.int .i64 m2)); have HB6 := Lib.hid (((Below.refl w2.heap.size w2).alloc (Nat.le_refl _) (.cells #[.int .i64 0, .int .i64 0, .int .i64 0, .int .i64 0] 76)).drew.trans (b6.mono (show w2.heap.size ≤ (w2.alloc (.cells #[.int .i64 0, .int .i64 0, .int .i64 0, .int .i64 0] 76)).heap.size by simp))); obtain ⟨⟨p0, q0⟩, ⟨p1, q1⟩, ⟨p2, q2⟩, ⟨p3, q3⟩, _⟩ := ST.out; clear b6)))
    all_goals (
      go_wp2_with fail
      go_meet
      first
        | exact ⟨_, rfl, rfl, K6.out⟩
        | exact ⟨_, rfl, rfl, hs.out.far2 (set_bel (set_bel (set_bel (set_bel HB6.out (Nat.le_refl _) _) (Nat.le_refl _) _) (Nat.le_refl _) _) (Nat.le_refl _) _) (Nat.le_refl _), ST.out.2.2.2.2⟩)
  case rest =>
  obtain ⟨q, rfl, rfl, hro⟩ := hcut
  have HRO := Lib.hid hro
  clear hs hro HO e0 e1 e2 e3 e4 e5 e6 e7 e8
  obtain ⟨nn, hnn⟩ : ∃ nn : Nat, n - bb = nn := ⟨n - bb, rfl⟩
  rw [hnn]
  go_wp2
  go_loopw [11, 12, 51] (fun z _ i wr => ∃ (j : Nat) (s : Int), (j < nn) ∧ (-(j : Int) ≤ s ∧ s ≤ (j : Int)) ∧ i = .int .i64 j ∧ z = .int .i64 s ∧ roFrom (o1, o2) (m1, m2) (wantW sb) f (n - 1 - (bb + j)) (bb + j) s = r ∧ RoS w #[.int .i64 c.st.1.1, .int .i64 c.st.1.2, .int .i64 c.st.2.1, .int .i64 c.st.2.2, .slice (some ⟨g, o, none⟩) c.n cap, .int .i64 c.fi.1.1, .int .i64 c.fi.1.2, .int .i64 c.fi.2.1, .int .i64 c.fi.2.2] 36 g o c.n c.mf tg tO n f q #[.int .i64 o1, .int .i64 o2, .int .i64 m1, .int .i64 m2] 76 wr) (fun _ _ i _ => nn - (intOf i).toNat)
  case atStart => exact ⟨0, 0, by omega, by omega, rfl, rfl, HR0.out, HRO.out⟩
  case round =>
    obtain ⟨j, s, hj, hsb, rfl, rfl, hrr, hst⟩ := hrel
    have HR := Lib.hid hrr
    clear hrr HRO HR0
    have z2 : (j : Int) < (nn : Int) := by omega
    have z4 : (0 : Int) ≤ (j : Int) := by omega
    by_cases hlt : j + 1 < nn
    · have z1 : (j : Int) < (nn : Int) - 1 := by omega
      have z0 : (j : Int) + 1 < (nn : Int) := by omega
      have z3 : (kk : Int) < (c.n : Int) := by omega
      have z5 : (0 : Int) ≤ (j : Int) + 1 := by omega
      have z6 : (0 : Int) ≤ (kk : Int) := by omega
      have z7 : ((j : Int) + 1).toNat = j + 1 := by omega
      have z8 : IntKind.i64.wrap ((j : Int) + 1) = (j : Int) + 1 := IntWalk.i64_in _ (by omega)
      obtain ⟨⟨⟨y1, y2⟩, y3⟩, hy⟩ : ∃ s, f (bb + j) = s := ⟨_, rfl⟩
      obtain ⟨⟨⟨x1, x2⟩, x3⟩, hx⟩ : ∃ s, f (bb + j + 1) = s := ⟨_, rfl⟩
      have HF := Lib.hid (And.intro hy hx)
      have vy : plB (y1, y2) = true := by have := ((tkB_iff.1 HV.out.2).2 (bb + j) (by omega)).1; rw [hy] at this; exact this
      have vx : plB (x1, x2) = true := by have := ((tkB_iff.1 HV.out.2).2 (bb + j + 1) (by omega)).1; rw [hx] at this; exact this
      have HPP := Lib.hid (fun w => HP.out (y1, y2) (x1, x2) vy vx w)
      clear hy hx vy vx
      have e0 : roFrom (o1, o2) (m1, m2) (wantW sb) f (n - 1 - (bb + j)) (bb + j) s = if s + prW (o1, o2) (m1, m2) (f (bb + j)).1 (f (bb + j + 1)).1 = wantW sb then ((bb + j : Nat) : Int) + 1 else roFrom (o1, o2) (m1, m2) (wantW sb) f (n - 1 - (bb + (j + 1))) (bb + (j + 1)) (s + prW (o1, o2) (m1, m2) (f (bb + j)).1 (f (bb + j + 1)).1) := by
        rw [show n - 1 - (bb + j) = (n - 1 - (bb + (j + 1))) + 1 by omega]; rfl
      rw [HF.out.1, HF.out.2] at e0
      dsimp only at e0 HPP
      have pb := prW_bd (o1, o2) (m1, m2) (y1, y2) (x1, x2)
      generalize prW (o1, o2) (m1, m2) (y1, y2) (x1, x2) = p at *
      have z9 : IntKind.i64.wrap (s + p) = s + p := IntWalk.i64_in _ (by omega)
      have hsub := fun s : Held (fun wx => RoS w #[.int .i64 c.st.1.1, .int .i64 c.st.1.2, .int .i64 c.st.2.1, .int .i64 c.st.2.2, .slice (some ⟨g, o, none⟩) c.n cap, .int .i64 c.fi.1.1, .int .i64 c.fi.1.2, .int .i64 c.fi.2.1, .int .i64 c.fi.2.2] 36 g o c.n c.mf tg tO n f q #[.int .i64 o1, .int .i64 o2, .int .i64 m1, .int .i64 m2] 76 wx) => s.h.1.2.sub (q := bb) (m := nn) (by omega)
      have ry0 := fun s : Held (fun wx => RoS w #[.int .i64 c.st.1.1, .int .i64 c.st.1.2, .int .i64 c.st.2.1, .int .i64 c.st.2.2, .slice (some ⟨g, o, none⟩) c.n cap, .int .i64 c.fi.1.1, .int .i64 c.fi.1.2, .int .i64 c.fi.2.1, .int .i64 c.fi.2.2] 36 g o c.n c.mf tg tO n f q #[.int .i64 o1, .int .i64 o2, .int .i64 m1, .int .i64 m2] 76 wx) => ((hsub s).at (show j < nn by omega) (show subF f bb j = _ from HF.out.1)).1
      have ry1 := fun s : Held (fun wx => RoS w #[.int .i64 c.st.1.1, .int .i64 c.st.1.2, .int .i64 c.st.2.1, .int .i64 c.st.2.2, .slice (some ⟨g, o, none⟩) c.n cap, .int .i64 c.fi.1.1, .int .i64 c.fi.1.2, .int .i64 c.fi.2.1, .int .i64 c.fi.2.2] 36 g o c.n c.mf tg tO n f q #[.int .i64 o1, .int .i64 o2, .int .i64 m1, .int .i64 m2] 76 wx) => ((hsub s).at (show j < nn by omega) (show subF f bb j = _ from HF.out.1)).2.1
      have rx0 := fun s : Held (fun wx => RoS w #[.int .i64 c.st.1.1, .int .i64 c.st.1.2, .int .i64 c.st.2.1, .int .i64 c.st.2.2, .slice (some ⟨g, o, none⟩) c.n cap, .int .i64 c.fi.1.1, .int .i64 c.fi.1.2, .int .i64 c.fi.2.1, .int .i64 c.fi.2.2] 36 g o c.n c.mf tg tO n f q #[.int .i64 o1, .int .i64 o2, .int .i64 m1, .int .i64 m2] 76 wx) => ((hsub s).at hlt (show subF f bb (j + 1) = _ from HF.out.2)).1
      have rx1 := fun s : Held (fun wx => RoS w #[.int .i64 c.st.1.1, .int .i64 c.st.1.2, .int .i64 c.st.2.1, .int .i64 c.st.2.2, .slice (some ⟨g, o, none⟩) c.n cap, .int .i64 c.fi.1.1, .int .i64 c.fi.1.2, .int .i64 c.fi.2.1, .int .i64 c.fi.2.2] 36 g o c.n c.mf tg tO n f q #[.int .i64 o1, .int .i64 o2, .int .i64 m1, .int .i64 m2] 76 wx) => ((hsub s).at hlt (show subF f bb (j + 1) = _ from HF.out.2)).2.1
      clear hsub
      have rc0 := fun s : Held (fun wx => RoS w #[.int .i64 c.st.1.1, .int .i64 c.st.1.2, .int .i64 c.st.2.1, .int .i64 c.st.2.2, .slice (some ⟨g, o, none⟩) c.n cap, .int .i64 c.fi.1.1, .int .i64 c.fi.1.2, .int .i64 c.fi.2.1, .int .i64 c.fi.2.2] 36 g o c.n c.mf tg tO n f q #[.int .i64 o1, .int .i64 o2, .int .i64 m1, .int .i64 m2] 76 wx) => (cells4 s.h.2).1
      have rc1 := fun s : Held (fun wx => RoS w #[.int .i64 c.st.1.1, .int .i64 c.st.1.2, .int .i64 c.st.2.1, .int .i64 c.st.2.2, .slice (some ⟨g, o, none⟩) c.n cap, .int .i64 c.fi.1.1, .int .i64 c.fi.1.2, .int .i64 c.fi.2.1, .int .i64 c.fi.2.2] 36 g o c.n c.mf tg tO n f q #[.int .i64 o1, .int .i64 o2, .int .i64 m1, .int .i64 m2] 76 wx) => (cells4 s.h.2).2.1
      have rc2 := fun s : Held (fun wx => RoS w #[.int .i64 c.st.1.1, .int .i64 c.st.1.2, .int .i64 c.st.2.1, .int .i64 c.st.2.2, .slice (some ⟨g, o, none⟩) c.n cap, .int .i64 c.fi.1.1, .int .i64 c.fi.1.2, .int .i64 c.fi.2.1, .int .i64 c.fi.2.2] 36 g o c.n c.mf tg tO n f q #[.int .i64 o1, .int .i64 o2, .int .i64 m1, .int .i64 m2] 76 wx) => (cells4 s.h.2).2.2.1
      have rc3 := fun s : Held (fun wx => RoS w #[.int .i64 c.st.1.1, .int .i64 c.st.1.2, .int .i64 c.st.2.1, .int .i64 c.st.2.2, .slice (some ⟨g, o, none⟩) c.n cap, .int .i64 c.fi.1.1, .int .i64 c.fi.1.2, .int .i64 c.fi.2.1, .int .i64 c.fi.2.2] 36 g o c.n c.mf tg tO n f q #[.int .i64 o1, .int .i64 o2, .int .i64 m1, .int .i64 m2] 76 wx) => (cells4 s.h.2).2.2.2
      go_wp2
      haveI hne : Nonempty (Held (fun wx => RoS w #[.int .i64 c.st.1.1, .int .i64 c.st.1.2, .int .i64 c.st.2.1, .int .i64 c.st.2.2, .slice (some ⟨g, o, none⟩) c.n cap, .int .i64 c.fi.1.1, .int .i64 c.fi.1.2, .int .i64 c.fi.2.1, .int .i64 c.fi.2.2] 36 g o c.n c.mf tg tO n f q #[.int .i64 o1, .int .i64 o2, .int .i64 m1, .int .i64 m2] 76 wx)) := ⟨⟨_, hst⟩⟩
      refine wp_region_class (fun wx => RoS w #[.int .i64 c.st.1.1, .int .i64 c.st.1.2, .int .i64 c.st.2.1, .int .i64 c.st.2.2, .slice (some ⟨g, o, none⟩) c.n cap, .int .i64 c.fi.1.1, .int .i64 c.fi.1.2, .int .i64 c.fi.2.1, .int .i64 c.fi.2.2] 36 g o c.n c.mf tg tO n f q #[.int .i64 o1, .int .i64 o2, .int .i64 m1, .int .i64 m2] 76 wx) (by kernel_rfl) (by kernel_rfl) (RoS.drew hst) ?_
      repeat (go_big_quiet_step (first
        | (go_at_call 48; with_reducible exact held_call RoS.step (HPP.out _))))
      refine wpQuiet_nil ?_
      intro wy hw'
      obtain ⟨⟨wq, hst6⟩, rfl⟩ := hw'
      (try dsimp only)
      obtain ⟨q0, q1, q2⟩ := hst6.1.1.2.at hkn HMK.out
      obtain ⟨e0', e1', e2', e3', e4', e5', e6', e7', e8'⟩ := cells9 hst6.1.1.1.1
      have HS6 := Lib.hid hst6
      have HW := Lib.hid (fun w => i_rounded ((m1, m2), sb) w)
      clear ry0 ry1 rx0 rx1 rc0 rc1 rc2 rc3 hne hst hst6
      dsimp only at HW
      go_wp2_with fail
      refine (HW.out _).mono ?_
      rintro e w8 ⟨rfl, b8⟩
      have HS8 := Lib.hid (HS6.out.step b8)
      clear HS6 b8 q0 q1 q2 e0' e1' e2' e3' e4' e5' e6' e7' e8' HW
      by_cases hq : s + p = wantW sb
      · have HN := Lib.hid (show (bb : Int) + (j : Int) + 1 = r by rw [← HR.out, e0, if_pos hq]; omega)
        obtain rfl := HN.out
        have g1 : (s + p == wantW sb) = true := by rw [beq_iff_eq]; exact hq
        clear e0
        generalize wantW sb = ww at *
        go_wp2
        go_ret
        exact ⟨rfl, HS8.out.1.below⟩
      · have HN := Lib.hid (show roFrom (o1, o2) (m1, m2) (wantW sb) f (n - 1 - (bb + (j + 1))) (bb + (j + 1)) (s + p) = r by rw [← HR.out, e0, if_neg hq])
        have g1 : (s + p == wantW sb) = false := by rw [beq_eq_false_iff_ne]; exact hq
        clear e0
        generalize wantW sb = ww at g1 ⊢
        go_wp2_with fail
        go_roundw
        case rel => exact ⟨j + 1, s + p, by omega, by omega, by go_num, rfl, HN.out, HS8.out⟩
        case measure => simp [intOf]; omega
    · have z1 : ¬ (j : Int) < (nn : Int) - 1 := by omega
      have HN := Lib.hid (show -1 = r by rw [← HR.out, show n - 1 - (bb + j) = 0 by omega]; rfl)
      obtain rfl := HN.out
      go_wp2
      go_ret
      exact ⟨rfl, hst.1.below⟩
end Go.Proofs.Ythahakefmpajfaa

/- Where a mark is rounded (spec): RoundedAt. -/
import Derived.Test.YthahakefmpajfaaLkD
namespace Go.Proofs.Ythahakefmpajfaa
open Go.RowKit
set_option linter.unusedVariables false
set_option linter.unusedSimpArgs false

/-- A course in a box, its marks, and a track. -/
def CtS (w : World) (c : Array Value) (ty : TypeId) (g o m : Nat) (mf : Nat → Mk) (tg tO n : Nat) (f : Nat → Sg) (wr : World) : Prop := CoS w c ty g o m mf wr ∧ SigsIn wr tg tO n f
theorem CtS.step {w w1 w2 : World} {c : Array Value} {ty : TypeId} {g o m : Nat} {mf : Nat → Mk} {tg tO n : Nat} {f : Nat → Sg} (h : CtS w c ty g o m mf tg tO n f w1) (b : Below w1.heap.size w1 w2) : CtS w c ty g o m mf tg tO n f w2 := ⟨h.1.step b, h.2.below b (Nat.le_refl _)⟩
theorem CtS.drew {w w1 : World} {c : Array Value} {ty : TypeId} {g o m : Nat} {mf : Nat → Mk} {tg tO n : Nat} {f : Nat → Sg} (h : CtS w c ty g o m mf tg tO n f w1) : CtS w c ty g o m mf tg tO n f w1.drew := ⟨h.1.drew, h.2⟩
theorem CtS.below {w w1 : World} {c : Array Value} {ty : TypeId} {g o m : Nat} {mf : Nat → Mk} {tg tO n : Nat} {f : Nat → Sg} (h : CtS w c ty g o m mf tg tO n f w1) : Below w.heap.size w w1 := h.1.1.2
theorem CtS.new {w : World} {c : Array Value} {ty : TypeId} {g o m : Nat} {mf : Nat → Mk} {tg tO n : Nat} {f : Nat → Sg} (h : MksIn w g o m mf) (k : SigsIn w tg tO n f) : CtS w c ty g o m mf tg tO n f (w.alloc (.cells c ty)) :=
  ⟨CoS.new h, k.below ((Below.refl _ w).alloc (Nat.le_refl _) _) (Nat.le_refl _)⟩
set_option maxRecDepth 100000 in
set_option maxHeartbeats 4000000 in
theorem s_ro (c : Crs) (A : Option Addr) (g o cap : Nat) (k : Int) (f : Nat → Sg) (TA : Option Addr) (tg tO n tcap : Nat) (b : Int) (w : World) (hn : c.n ≤ 1048576) (hA : 0 < c.n → A = some ⟨g, o, none⟩) (hw : MksIn w g o c.n c.mf)
    (hm : n ≤ 1048576) (hT : 0 < n → TA = some ⟨tg, tO, none⟩) (hv : SigsIn w tg tO n f) :
    Calls Try.prog 29 #[.agg #[.int .i64 c.st.1.1, .int .i64 c.st.1.2, .int .i64 c.st.2.1, .int .i64 c.st.2.2, .slice A c.n cap, .int .i64 c.fi.1.1, .int .i64 c.fi.1.2, .int .i64 c.fi.2.1, .int .i64 c.fi.2.2], .int .i64 k, .slice TA n tcap, .int .i64 b] w fun e w' => e = .returned (.int .i64 (roW c k n f b)) ∧ Below w.heap.size w w' := by
  have HC := Lib.hid (fun w (h : MksIn w g o c.n c.mf) => s_co c A g o cap w hn hA h)
  have HT := Lib.hid (fun w (h : SigsIn w tg tO n f) => s_tk f TA tg tO n tcap w hm hT h)
  have HK := Lib.hid (fun w => s_inW k 0 ((c.n : Int) - 1) (decide (0 ≤ k ∧ k ≤ (c.n : Int) - 1)) w rfl)
  have HB := Lib.hid (fun w => s_inW b 0 ((n : Int) - 1) (decide (0 ≤ b ∧ b ≤ (n : Int) - 1)) w rfl)
  have hs := Lib.hid (CtS.new (c := #[.int .i64 c.st.1.1, .int .i64 c.st.1.2, .int .i64 c.st.2.1, .int .i64 c.st.2.2, .slice A c.n cap, .int .i64 c.fi.1.1, .int .i64 c.fi.1.2, .int .i64 c.fi.2.1, .int .i64 c.fi.2.2]) (ty := 36) hw hv)
  clear hw hv
  have hr : roW c k n f b = if roB c k n f b = true then roFrom (orgW c k.toNat) (c.mf k.toNat).1 (wantW (c.mf k.toNat).2) f (n - 1 - b.toNat) b.toNat 0 else -1 := rfl
  cases h1 : coB c
  · rw [show roW c k n f b = -1 by rw [hr]; unfold roB; rw [h1]; rfl]
    rw [h1] at HC
    clear hr h1 HT HK HB
    go_enter Try.func29, Try.ntmps29
    obtain ⟨e0, e1, e2, e3, e4, e5, e6, e7, e8⟩ := cells9 hs.out.1.1.1
    go_wp2_with fail
    refine (HC.out _ hs.out.1.2).mono ?_
    rintro e w1 ⟨rfl, b⟩
    have hs' := Lib.hid (hs.out.step b)
    clear hs b e0 e1 e2 e3 e4 e5 e6 e7 e8
    have hs := hs'
    clear hs'
    obtain ⟨e0, e1, e2, e3, e4, e5, e6, e7, e8⟩ := cells9 hs.out.1.1.1
    go_wp2
    go_ret
    exact ⟨rfl, hs.out.below⟩
  rw [h1] at HC
  cases h2 : tkB n f
  · rw [show roW c k n f b = -1 by rw [hr]; unfold roB; rw [h1, h2]; rfl]
    rw [h2] at HT
    clear hr h1 h2 HK HB
    go_enter Try.func29, Try.ntmps29
    obtain ⟨e0, e1, e2, e3, e4, e5, e6, e7, e8⟩ := cells9 hs.out.1.1.1
    go_wp2_with fail
    refine (HC.out _ hs.out.1.2).mono ?_
    rintro e w1 ⟨rfl, b⟩
    have hs' := Lib.hid (hs.out.step b)
    clear hs b e0 e1 e2 e3 e4 e5 e6 e7 e8
    have hs := hs'
    clear hs'
    obtain ⟨e0, e1, e2, e3, e4, e5, e6, e7, e8⟩ := cells9 hs.out.1.1.1
    go_wp2_with fail
    refine (HT.out _ hs.out.2).mono ?_
    rintro e w2 ⟨rfl, b⟩
    have hs' := Lib.hid (hs.out.step b)
    clear hs b e0 e1 e2 e3 e4 e5 e6 e7 e8
    have hs := hs'
    clear hs'
    obtain ⟨e0, e1, e2, e3, e4, e5, e6, e7, e8⟩ := cells9 hs.out.1.1.1
    go_wp2
    go_ret
    exact ⟨rfl, hs.out.below⟩
  rw [h2] at HT
  rcases (Decidable.em (0 ≤ k ∧ k ≤ (c.n : Int) - 1)).symm with h3 | h3
  · rw [show roW c k n f b = -1 by rw [hr]; unfold roB; rw [h1, h2, decide_eq_false h3]; rfl]
    rw [decide_eq_false h3] at HK
    clear hr h1 h2 h3 HB
    go_enter Try.func29, Try.ntmps29
    obtain ⟨e0, e1, e2, e3, e4, e5, e6, e7, e8⟩ := cells9 hs.out.1.1.1
    go_wp2_with fail
    refine (HC.out _ hs.out.1.2).mono ?_
    rintro e w1 ⟨rfl, b⟩
    have hs' := Lib.hid (hs.out.step b)
    clear hs b e0 e1 e2 e3 e4 e5 e6 e7 e8
    have hs := hs'
    clear hs'
    obtain ⟨e0, e1, e2, e3, e4, e5, e6, e7, e8⟩ := cells9 hs.out.1.1.1
    go_wp2_with fail
    refine (HT.out _ hs.out.2).mono ?_
    rintro e w2 ⟨rfl, b⟩
    have hs' := Lib.hid (hs.out.step b)
    clear hs b e0 e1 e2 e3 e4 e5 e6 e7 e8
    have hs := hs'
    clear hs'
    obtain ⟨e0, e1, e2, e3, e4, e5, e6, e7, e8⟩ := cells9 hs.out.1.1.1
    go_wp2_with fail
    refine (HK.out _).mono ?_
    rintro e w3 ⟨rfl, b⟩
    have hs' := Lib.hid (hs.out.step b)
    clear hs b e0 e1 e2 e3 e4 e5 e6 e7 e8
    have hs := hs'
    clear hs'
    obtain ⟨e0, e1, e2, e3, e4, e5, e6, e7, e8⟩ := cells9 hs.out.1.1.1
    go_wp2
    go_ret
    exact ⟨rfl, hs.out.below⟩
  rw [decide_eq_true h3] at HK
  rcases (Decidable.em (0 ≤ b ∧ b ≤ (n : Int) - 1)).symm with h4 | h4
  · rw [show roW c k n f b = -1 by rw [hr]; unfold roB; rw [h1, h2, decide_eq_true h3, decide_eq_false h4]; rfl]
    rw [decide_eq_false h4] at HB
    clear hr h1 h2 h3 h4
    go_enter Try.func29, Try.ntmps29
    obtain ⟨e0, e1, e2, e3, e4, e5, e6, e7, e8⟩ := cells9 hs.out.1.1.1
    go_wp2_with fail
    refine (HC.out _ hs.out.1.2).mono ?_
    rintro e w1 ⟨rfl, b⟩
    have hs' := Lib.hid (hs.out.step b)
    clear hs b e0 e1 e2 e3 e4 e5 e6 e7 e8
    have hs := hs'
    clear hs'
    obtain ⟨e0, e1, e2, e3, e4, e5, e6, e7, e8⟩ := cells9 hs.out.1.1.1
    go_wp2_with fail
    refine (HT.out _ hs.out.2).mono ?_
    rintro e w2 ⟨rfl, b⟩
    have hs' := Lib.hid (hs.out.step b)
    clear hs b e0 e1 e2 e3 e4 e5 e6 e7 e8
    have hs := hs'
    clear hs'
    obtain ⟨e0, e1, e2, e3, e4, e5, e6, e7, e8⟩ := cells9 hs.out.1.1.1
    go_wp2_with fail
    refine (HK.out _).mono ?_
    rintro e w3 ⟨rfl, b⟩
    have hs' := Lib.hid (hs.out.step b)
    clear hs b e0 e1 e2 e3 e4 e5 e6 e7 e8
    have hs := hs'
    clear hs'
    obtain ⟨e0, e1, e2, e3, e4, e5, e6, e7, e8⟩ := cells9 hs.out.1.1.1
    go_wp2_with fail
    refine (HB.out _).mono ?_
    rintro e w4 ⟨rfl, b⟩
    have hs' := Lib.hid (hs.out.step b)
    clear hs b e0 e1 e2 e3 e4 e5 e6 e7 e8
    have hs := hs'
    clear hs'
    obtain ⟨e0, e1, e2, e3, e4, e5, e6, e7, e8⟩ := cells9 hs.out.1.1.1
    go_wp2
    go_ret
    exact ⟨rfl, hs.out.below⟩
  rw [decide_eq_true h4] at HB
  rw [show roW c k n f b = roFrom (orgW c k.toNat) (c.mf k.toNat).1 (wantW (c.mf k.toNat).2) f (n - 1 - b.toNat) b.toNat 0 by rw [hr]; unfold roB; rw [h1, h2, decide_eq_true h3, decide_eq_true h4]; rfl]
  obtain ⟨kk, rfl⟩ : ∃ kk : Nat, k = (kk : Int) := ⟨k.toNat, by omega⟩
  obtain ⟨bb, rfl⟩ : ∃ bb : Nat, b = (bb : Int) := ⟨b.toNat, by omega⟩
  simp only [Int.toNat_natCast]
  obtain rfl := hA (by omega)
  obtain rfl := hT (by omega)
  have hkn : kk < c.n := by omega
  have hbn : bb < n := by omega
  obtain ⟨⟨⟨m1, m2⟩, sb⟩, hmk⟩ : ∃ s, c.mf kk = s := ⟨_, rfl⟩
  have HMK := Lib.hid hmk
  rw [hmk]
  have HO := Lib.hid (fun s : Held (fun wx => CtS w #[.int .i64 c.st.1.1, .int .i64 c.st.1.2, .int .i64 c.st.2.1, .int .i64 c.st.2.2, .slice (some ⟨g, o, none⟩) c.n cap, .int .i64 c.fi.1.1, .int .i64 c.fi.1.2, .int .i64 c.fi.2.1, .int .i64 c.fi.2.2] 36 g o c.n c.mf tg tO n f wx) => s_org c (some ⟨g, o, none⟩) g o cap kk s.w (by omega) hn (fun _ => rfl) s.h.1.2)
  obtain ⟨⟨o1, o2⟩, ho⟩ : ∃ q, orgW c kk = q := ⟨_, rfl⟩
  rw [ho] at HO ⊢
  dsimp only at HO ⊢
  obtain ⟨r, hR⟩ : ∃ r, roFrom (o1, o2) (m1, m2) (wantW sb) f (n - 1 - bb) bb 0 = r := ⟨_, rfl⟩
  rw [hR]
  have HR0 := Lib.hid hR
  clear hr h1 h2 h3 h4 ho hmk hR hA hT
  go_enter Try.func29, Try.ntmps29
  obtain ⟨e0, e1, e2, e3, e4, e5, e6, e7, e8⟩ := cells9 hs.out.1.1.1
  go_wp2_with fail
  refine (HC.out _ hs.out.1.2).mono ?_
  rintro e w1 ⟨rfl, b⟩
  have hs' := Lib.hid (hs.out.step b)
  clear hs b e0 e1 e2 e3 e4 e5 e6 e7 e8
  have hs := hs'
  clear hs'
  obtain ⟨e0, e1, e2, e3, e4, e5, e6, e7, e8⟩ := cells9 hs.out.1.1.1
  go_wp2_with fail
  refine (HT.out _ hs.out.2).mono ?_
  rintro e w2 ⟨rfl, b⟩
  have hs' := Lib.hid (hs.out.step b)
  clear hs b e0 e1 e2 e3 e4 e5 e6 e7 e8
  have hs := hs'
  clear hs'
  obtain ⟨e0, e1, e2, e3, e4, e5, e6, e7, e8⟩ := cells9 hs.out.1.1.1
  go_wp2_with fail
  refine (HK.out _).mono ?_
  rintro e w3 ⟨rfl, b⟩
  have hs' := Lib.hid (hs.out.step b)
  clear hs b e0 e1 e2 e3 e4 e5 e6 e7 e8
  have hs := hs'
  clear hs'
  obtain ⟨e0, e1, e2, e3, e4, e5, e6, e7, e8⟩ := cells9 hs.out.1.1.1
  go_wp2_with fail
  refine (HB.out _).mono ?_
  rintro e w4 ⟨rfl, b⟩
  have hs' := Lib.hid (hs.out.step b)
  clear hs b e0 e1 e2 e3 e4 e5 e6 e7 e8
  have hs := hs'
  clear hs'
  obtain ⟨e0, e1, e2, e3, e4, e5, e6, e7, e8⟩ := cells9 hs.out.1.1.1
  clear HC HT HK HB
  go_wp2
  clear e0 e1 e2 e3 e4 e5 e6 e7 e8
  go_loopw [9, 10] (fun z i wr => ∃ (j : Nat) (s : Int), (bb ≤ j ∧ j < n) ∧ (-(j : Int) ≤ s ∧ s ≤ (j : Int)) ∧ i = .int .i64 j ∧ z = .int .i64 s ∧ roFrom (o1, o2) (m1, m2) (wantW sb) f (n - 1 - j) j s = r ∧ CtS w #[.int .i64 c.st.1.1, .int .i64 c.st.1.2, .int .i64 c.st.2.1, .int .i64 c.st.2.2, .slice (some ⟨g, o, none⟩) c.n cap, .int .i64 c.fi.1.1, .int .i64 c.fi.1.2, .int .i64 c.fi.2.1, .int .i64 c.fi.2.2] 36 g o c.n c.mf tg tO n f wr) (fun _ i _ => n - (intOf i).toNat)
  case atStart => exact ⟨bb, 0, ⟨by omega, by omega⟩, by omega, rfl, rfl, HR0.out, hs.out⟩
  case round =>
    obtain ⟨j, s, hj, hsb, rfl, rfl, hrr, hst⟩ := hrel
    have HR := Lib.hid hrr
    clear hrr hs HR0
    by_cases hlt : j + 1 < n
    · have z1 : (j : Int) + 1 < (n : Int) := by omega
      have z2 : (j : Int) < (n : Int) := by omega
      have z3 : (kk : Int) < (c.n : Int) := by omega
      have z4 : (0 : Int) ≤ (j : Int) := by omega
      have z5 : (0 : Int) ≤ (j : Int) + 1 := by omega
      have z6 : (0 : Int) ≤ (kk : Int) := by omega
      have z7 : ((j : Int) + 1).toNat = j + 1 := by omega
      have z8 : IntKind.i64.wrap ((j : Int) + 1) = (j : Int) + 1 := IntWalk.i64_in _ (by omega)
      obtain ⟨⟨⟨y1, y2⟩, y3⟩, hy⟩ : ∃ s, f j = s := ⟨_, rfl⟩
      obtain ⟨⟨⟨x1, x2⟩, x3⟩, hx⟩ : ∃ s, f (j + 1) = s := ⟨_, rfl⟩
      have HF := Lib.hid (And.intro hy hx)
      clear hy hx
      have HP := Lib.hid (fun w => s_pr (o1, o2) (m1, m2) (y1, y2) (x1, x2) w)
      have e0 : roFrom (o1, o2) (m1, m2) (wantW sb) f (n - 1 - j) j s = if s + prW (o1, o2) (m1, m2) (f j).1 (f (j + 1)).1 = wantW sb then (j : Int) + 1 else roFrom (o1, o2) (m1, m2) (wantW sb) f (n - 1 - (j + 1)) (j + 1) (s + prW (o1, o2) (m1, m2) (f j).1 (f (j + 1)).1) := by
        rw [show n - 1 - j = (n - 1 - (j + 1)) + 1 by omega]; rfl
      rw [HF.out.1, HF.out.2] at e0
      dsimp only at e0 HP
      have pb := prW_bd (o1, o2) (m1, m2) (y1, y2) (x1, x2)
      generalize prW (o1, o2) (m1, m2) (y1, y2) (x1, x2) = p at *
      have z9 : IntKind.i64.wrap (s + p) = s + p := IntWalk.i64_in _ (by omega)
      have rd0 := fun s : Held (fun wx => CtS w #[.int .i64 c.st.1.1, .int .i64 c.st.1.2, .int .i64 c.st.2.1, .int .i64 c.st.2.2, .slice (some ⟨g, o, none⟩) c.n cap, .int .i64 c.fi.1.1, .int .i64 c.fi.1.2, .int .i64 c.fi.2.1, .int .i64 c.fi.2.2] 36 g o c.n c.mf tg tO n f wx) => (s.h.1.2.at hkn HMK.out).1
      have rd1 := fun s : Held (fun wx => CtS w #[.int .i64 c.st.1.1, .int .i64 c.st.1.2, .int .i64 c.st.2.1, .int .i64 c.st.2.2, .slice (some ⟨g, o, none⟩) c.n cap, .int .i64 c.fi.1.1, .int .i64 c.fi.1.2, .int .i64 c.fi.2.1, .int .i64 c.fi.2.2] 36 g o c.n c.mf tg tO n f wx) => (s.h.1.2.at hkn HMK.out).2.1
      have ry0 := fun s : Held (fun wx => CtS w #[.int .i64 c.st.1.1, .int .i64 c.st.1.2, .int .i64 c.st.2.1, .int .i64 c.st.2.2, .slice (some ⟨g, o, none⟩) c.n cap, .int .i64 c.fi.1.1, .int .i64 c.fi.1.2, .int .i64 c.fi.2.1, .int .i64 c.fi.2.2] 36 g o c.n c.mf tg tO n f wx) => (s.h.2.at (show j < n by omega) HF.out.1).1
      have ry1 := fun s : Held (fun wx => CtS w #[.int .i64 c.st.1.1, .int .i64 c.st.1.2, .int .i64 c.st.2.1, .int .i64 c.st.2.2, .slice (some ⟨g, o, none⟩) c.n cap, .int .i64 c.fi.1.1, .int .i64 c.fi.1.2, .int .i64 c.fi.2.1, .int .i64 c.fi.2.2] 36 g o c.n c.mf tg tO n f wx) => (s.h.2.at (show j < n by omega) HF.out.1).2.1
      have rx0 := fun s : Held (fun wx => CtS w #[.int .i64 c.st.1.1, .int .i64 c.st.1.2, .int .i64 c.st.2.1, .int .i64 c.st.2.2, .slice (some ⟨g, o, none⟩) c.n cap, .int .i64 c.fi.1.1, .int .i64 c.fi.1.2, .int .i64 c.fi.2.1, .int .i64 c.fi.2.2] 36 g o c.n c.mf tg tO n f wx) => (s.h.2.at hlt HF.out.2).1
      have rx1 := fun s : Held (fun wx => CtS w #[.int .i64 c.st.1.1, .int .i64 c.st.1.2, .int .i64 c.st.2.1, .int .i64 c.st.2.2, .slice (some ⟨g, o, none⟩) c.n cap, .int .i64 c.fi.1.1, .int .i64 c.fi.1.2, .int .i64 c.fi.2.1, .int .i64 c.fi.2.2] 36 g o c.n c.mf tg tO n f wx) => (s.h.2.at hlt HF.out.2).2.1
      have re0 := fun s : Held (fun wx => CtS w #[.int .i64 c.st.1.1, .int .i64 c.st.1.2, .int .i64 c.st.2.1, .int .i64 c.st.2.2, .slice (some ⟨g, o, none⟩) c.n cap, .int .i64 c.fi.1.1, .int .i64 c.fi.1.2, .int .i64 c.fi.2.1, .int .i64 c.fi.2.2] 36 g o c.n c.mf tg tO n f wx) => (cells9 s.h.1.1.1).1
      have re1 := fun s : Held (fun wx => CtS w #[.int .i64 c.st.1.1, .int .i64 c.st.1.2, .int .i64 c.st.2.1, .int .i64 c.st.2.2, .slice (some ⟨g, o, none⟩) c.n cap, .int .i64 c.fi.1.1, .int .i64 c.fi.1.2, .int .i64 c.fi.2.1, .int .i64 c.fi.2.2] 36 g o c.n c.mf tg tO n f wx) => (cells9 s.h.1.1.1).2.1
      have re2 := fun s : Held (fun wx => CtS w #[.int .i64 c.st.1.1, .int .i64 c.st.1.2, .int .i64 c.st.2.1, .int .i64 c.st.2.2, .slice (some ⟨g, o, none⟩) c.n cap, .int .i64 c.fi.1.1, .int .i64 c.fi.1.2, .int .i64 c.fi.2.1, .int .i64 c.fi.2.2] 36 g o c.n c.mf tg tO n f wx) => (cells9 s.h.1.1.1).2.2.1
      have re3 := fun s : Held (fun wx => CtS w #[.int .i64 c.st.1.1, .int .i64 c.st.1.2, .int .i64 c.st.2.1, .int .i64 c.st.2.2, .slice (some ⟨g, o, none⟩) c.n cap, .int .i64 c.fi.1.1, .int .i64 c.fi.1.2, .int .i64 c.fi.2.1, .int .i64 c.fi.2.2] 36 g o c.n c.mf tg tO n f wx) => (cells9 s.h.1.1.1).2.2.2.1
      have re4 := fun s : Held (fun wx => CtS w #[.int .i64 c.st.1.1, .int .i64 c.st.1.2, .int .i64 c.st.2.1, .int .i64 c.st.2.2, .slice (some ⟨g, o, none⟩) c.n cap, .int .i64 c.fi.1.1, .int .i64 c.fi.1.2, .int .i64 c.fi.2.1, .int .i64 c.fi.2.2] 36 g o c.n c.mf tg tO n f wx) => (cells9 s.h.1.1.1).2.2.2.2.1
      have re5 := fun s : Held (fun wx => CtS w #[.int .i64 c.st.1.1, .int .i64 c.st.1.2, .int .i64 c.st.2.1, .int .i64 c.st.2.2, .slice (some ⟨g, o, none⟩) c.n cap, .int .i64 c.fi.1.1, .int .i64 c.fi.1.2, .int .i64 c.fi.2.1, .int .i64 c.fi.2.2] 36 g o c.n c.mf tg tO n f wx) => (cells9 s.h.1.1.1).2.2.2.2.2.1
      have re6 := fun s : Held (fun wx => CtS w #[.int .i64 c.st.1.1, .int .i64 c.st.1.2, .int .i64 c.st.2.1, .int .i64 c.st.2.2, .slice (some ⟨g, o, none⟩) c.n cap, .int .i64 c.fi.1.1, .int .i64 c.fi.1.2, .int .i64 c.fi.2.1, .int .i64 c.fi.2.2] 36 g o c.n c.mf tg tO n f wx) => (cells9 s.h.1.1.1).2.2.2.2.2.2.1
      have re7 := fun s : Held (fun wx => CtS w #[.int .i64 c.st.1.1, .int .i64 c.st.1.2, .int .i64 c.st.2.1, .int .i64 c.st.2.2, .slice (some ⟨g, o, none⟩) c.n cap, .int .i64 c.fi.1.1, .int .i64 c.fi.1.2, .int .i64 c.fi.2.1, .int .i64 c.fi.2.2] 36 g o c.n c.mf tg tO n f wx) => (cells9 s.h.1.1.1).2.2.2.2.2.2.2.1
      have re8 := fun s : Held (fun wx => CtS w #[.int .i64 c.st.1.1, .int .i64 c.st.1.2, .int .i64 c.st.2.1, .int .i64 c.st.2.2, .slice (some ⟨g, o, none⟩) c.n cap, .int .i64 c.fi.1.1, .int .i64 c.fi.1.2, .int .i64 c.fi.2.1, .int .i64 c.fi.2.2] 36 g o c.n c.mf tg tO n f wx) => (cells9 s.h.1.1.1).2.2.2.2.2.2.2.2
      go_wp2
      haveI hne : Nonempty (Held (fun wx => CtS w #[.int .i64 c.st.1.1, .int .i64 c.st.1.2, .int .i64 c.st.2.1, .int .i64 c.st.2.2, .slice (some ⟨g, o, none⟩) c.n cap, .int .i64 c.fi.1.1, .int .i64 c.fi.1.2, .int .i64 c.fi.2.1, .int .i64 c.fi.2.2] 36 g o c.n c.mf tg tO n f wx)) := ⟨⟨_, hst⟩⟩
      refine wp_region_class (fun wx => CtS w #[.int .i64 c.st.1.1, .int .i64 c.st.1.2, .int .i64 c.st.2.1, .int .i64 c.st.2.2, .slice (some ⟨g, o, none⟩) c.n cap, .int .i64 c.fi.1.1, .int .i64 c.fi.1.2, .int .i64 c.fi.2.1, .int .i64 c.fi.2.2] 36 g o c.n c.mf tg tO n f wx) (by kernel_rfl) (by kernel_rfl) (CtS.drew hst) ?_
      repeat (go_big_quiet_step (first
        | (go_at_call 60; with_reducible exact held_call CtS.step (HO.out _))
        | (go_at_call 17; with_reducible exact held_call CtS.step (HP.out _))))
      refine wpQuiet_nil ?_
      intro wy hw'
      obtain ⟨⟨wq, hst6⟩, rfl⟩ := hw'
      (try dsimp only)
      obtain ⟨q0, q1, q2⟩ := hst6.1.2.at hkn HMK.out
      obtain ⟨e0', e1', e2', e3', e4', e5', e6', e7', e8'⟩ := cells9 hst6.1.1.1
      clear rd0 rd1 ry0 ry1 rx0 rx1 re0 re1 re2 re3 re4 re5 re6 re7 re8 hne hst
      have hq : (s + p = wantW sb ∧ ((s + p == 1) = true ∧ sb = false ∨ (s + p == 1) = false ∧ (s + p == -1) = true ∧ sb = true)) ∨ (¬ s + p = wantW sb ∧ ((s + p == 1) = true ∧ (s + p == -1) = false ∧ sb = true ∨ (s + p == 1) = false ∧ (s + p == -1) = true ∧ sb = false ∨ (s + p == 1) = false ∧ (s + p == -1) = false)) := by
        simp only [beq_iff_eq, beq_eq_false_iff_ne]
        unfold wantW
        cases sb <;> simp <;> omega
      rcases hq with ⟨hq, hc⟩ | ⟨hq, hc⟩
      · have HN := Lib.hid (show (j : Int) + 1 = r by rw [← HR.out, e0, if_pos hq])
        obtain rfl := HN.out
        clear e0
        rcases hc with ⟨g1, rfl⟩ | ⟨g1, g2, rfl⟩
        all_goals
          go_wp2
          go_ret
          exact ⟨rfl, hst6.below⟩
      · have HN := Lib.hid (show roFrom (o1, o2) (m1, m2) (wantW sb) f (n - 1 - (j + 1)) (j + 1) (s + p) = r by rw [← HR.out, e0, if_neg hq])
        clear e0
        rcases hc with ⟨g1, g2, rfl⟩ | ⟨g1, g2, rfl⟩ | ⟨g1, g2⟩
        all_goals
          go_wp2_with fail
          go_roundw
          case rel => exact ⟨j + 1, s + p, by omega, by omega, by go_num, rfl, HN.out, hst6⟩
          case measure => simp [intOf]; omega
    · have z1 : ¬ (j : Int) + 1 < (n : Int) := by omega
      have z8 : IntKind.i64.wrap ((j : Int) + 1) = (j : Int) + 1 := IntWalk.i64_in _ (by omega)
      have HN := Lib.hid (show -1 = r by rw [← HR.out, show n - 1 - j = 0 by omega]; rfl)
      obtain rfl := HN.out
      go_wp2
      go_ret
      exact ⟨rfl, hst.below⟩
end Go.Proofs.Ythahakefmpajfaa

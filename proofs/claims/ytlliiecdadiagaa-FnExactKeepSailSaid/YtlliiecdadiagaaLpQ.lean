/- The walks of exact laws of chapter 11, over contracts of the program's functions: SailsOk, BestSail, KeepSail. -/
import Derived.Test.YtlliiecdadiagaaLpL
namespace Go.Proofs.Ytlliiecdadiagaa
open Go.RowKit
set_option linter.unusedVariables false
set_option linter.unusedSimpArgs false

/-- A law's sails, and its own copy of them. -/
def XoS (w : World) (g o n : Nat) (f : Nat → Sl) (b : Nat) (wr : World) : Prop := SoS w g o n f wr ∧ OwnSl wr b n f
theorem XoS.step {w w1 w2 : World} {g o n : Nat} {f : Nat → Sl} {b : Nat} (h : XoS w g o n f b w1) (k : Below w1.heap.size w1 w2) : XoS w g o n f b w2 := ⟨h.1.step k, h.2.below k⟩
/-- .. and a box. -/
def XoQ (w : World) (g o n : Nat) (f : Nat → Sl) (q : Nat) (c : Array Value) (ty : TypeId) (b : Nat) (wr : World) : Prop := SoQ w g o n f q c ty wr ∧ OwnSl wr b n f
theorem XoQ.step {w w1 w2 : World} {g o n : Nat} {f : Nat → Sl} {q : Nat} {c : Array Value} {ty : TypeId} {b : Nat} (h : XoQ w g o n f q c ty b w1) (k : Below w1.heap.size w1 w2) : XoQ w g o n f q c ty b w2 := ⟨h.1.step k, h.2.below k⟩
set_option maxRecDepth 100000 in
set_option maxHeartbeats 4000000 in
theorem wo_FnExactSailsOk (hI : ∀ (f : Nat → Sl) (A : Option Addr) (g o n cap : Nat) (w : World), n ≤ 1048576 → n ≤ cap → (0 < n → A = some ⟨g, o, none⟩) → SlsIn w g o n f → (∀ j, j < n → SlWf (f j)) → Calls Try.prog 28 #[.slice A n cap] w fun e w' => e = .returned (.bool (soB n f)) ∧ Below w.heap.size w w')
    (x : Option Addr × Nat × Nat × (Nat → Sl)) (w : World) (hx : SlsArg w x.1 x.2.1 x.2.2.2) :
    Calls Try.prog 6 #[.slice x.1 x.2.1 x.2.2.1] w fun e w' => e = .returned (.bool true) ∧ Below w.heap.size w w' := by
  obtain ⟨A, n, cap, f⟩ := x
  dsimp only at *
  obtain ⟨hn, ⟨g, o, hA, hw⟩, hf⟩ := hx
  have HZ := Lib.hid (fun w (h : SlsIn w g o n f) => l_szS11 f 1048576 A g o n cap w hn hA h hf (by omega) (by omega))
  have HC := Lib.hid (fun (hn : n ≤ 1048576) w (h : SlsIn w g o n f) => l_toS11 f A g o n cap w hn hA h)
  have HQ := Lib.hid (fun (hn : n ≤ 1048576) b b' w (h : OwnSl w b n f) (h' : OwnSl w b' n f) => l_eqS11 f (some ⟨b, 0, none⟩) (some ⟨b', 0, none⟩) b 0 b' 0 n n n w hn (fun _ => rfl) (fun _ => rfl) h.ins h'.ins hf)
  have HS := Lib.hid (fun (hn : n ≤ 1048576) b w (h : OwnSl w b n f) => s_so f (some ⟨b, 0, none⟩) b 0 n n w hn (fun _ => rfl) h.ins hf)
  have HI := Lib.hid (fun (hn : n ≤ 1048576) b w (h : OwnSl w b n f) => hI f (some ⟨b, 0, none⟩) b 0 n n w hn (Nat.le_refl _) (fun _ => rfl) h.ins hf)
  generalize soB n f = t at *
  have hst0 := Lib.hid (show SoS w g o n f w from ⟨hw, Below.refl _ _⟩)
  clear hI hf hA hw
  cases t
  all_goals (
  go_enter Try.func6, Try.ntmps6
  go_wp2_with fail
  refine (HZ.out _ hst0.out.1).mono ?_
  rintro e w1 ⟨⟨r, hr, rfl⟩, bl⟩
  have hst := Lib.hid (hst0.out.step bl)
  clear hst0 bl HZ
  rcases hr with rfl | ⟨r0, hr1⟩
  · go_wp2
    go_ret
    exact ⟨rfl, hst.out.2⟩
  have r2 : ¬ r < 0 := by omega
  have hcm := Lib.hid (show n ≤ 1048576 by omega)
  clear hr1 r0 hn
  go_wp2_with fail
  refine (HC.out hcm.out _ hst.out.1).mono ?_
  rintro e w2 ⟨rfl, ox, bl⟩
  have hs2 := Lib.hid (hst.out.step bl)
  clear hst bl
  have hst := hs2
  clear hs2
  go_wp2_with fail
  refine (HS.out hcm.out _ _ ox).mono ?_
  rintro e w3 ⟨rfl, bl⟩
  have hs2 := Lib.hid (hst.out.step bl)
  clear hst bl ox HS
  have hst := hs2
  clear hs2
  go_wp2_with fail
  refine (HC.out hcm.out _ hst.out.1).mono ?_
  rintro e w4 ⟨rfl, ox, bl⟩
  have hs2 := Lib.hid (show XoS w g o n f w3.heap.size w4 from ⟨hst.out.step bl, ox⟩)
  clear hst bl ox
  have hst := hs2
  clear hs2
  generalize w3.heap.size = b at *
  go_wp2_with fail
  refine (HI.out hcm.out _ _ hst.out.2).mono ?_
  rintro e w5 ⟨rfl, bl⟩
  have hs2 := Lib.hid (hst.out.step bl)
  clear hst bl HI
  have hst := hs2
  clear hs2
  go_wp2_with fail
  refine (HC.out hcm.out _ hst.out.1.1).mono ?_
  rintro e w6 ⟨rfl, ox, bl⟩
  have hs2 := Lib.hid (hst.out.step bl)
  clear hst bl
  have hst := hs2
  clear hs2
  go_wp2_with fail
  refine (HQ.out hcm.out _ _ _ hst.out.2 ox).mono ?_
  rintro e w7 ⟨rfl, bl⟩
  have hs2 := Lib.hid (hst.out.step bl)
  clear hst bl ox
  go_wp2
  go_ret
  exact ⟨rfl, hs2.out.1.2⟩)
set_option maxRecDepth 100000 in
set_option maxHeartbeats 4000000 in
theorem wo_FnExactBestSail (hI : ∀ (f : Nat → Sl) (m : Mm) (A : Option Addr) (g o n cap : Nat) (w : World), n ≤ 1048576 → n ≤ cap → (0 < n → A = some ⟨g, o, none⟩) → SlsIn w g o n f → (∀ j, j < n → SlWf (f j)) → MmWf m → Calls Try.prog 25 #[.slice A n cap, .agg #[.float .f32 m.1, .int .i64 m.2]] w fun e w' => e = .returned (.int .i64 (bestW n f m)) ∧ Below w.heap.size w w')
    (x : Option Addr × Nat × Nat × (Nat → Sl)) (m : Mm) (w : World) (hx : SlsArg w x.1 x.2.1 x.2.2.2) (hm : MmWf m) :
    Calls Try.prog 9 #[.slice x.1 x.2.1 x.2.2.1, .agg #[.float .f32 m.1, .int .i64 m.2]] w fun e w' => e = .returned (.bool true) ∧ Below w.heap.size w w' := by
  obtain ⟨A, n, cap, f⟩ := x
  dsimp only at *
  obtain ⟨hn, ⟨g, o, hA, hw⟩, hf⟩ := hx
  have HZ := Lib.hid (fun w (h : SlsIn w g o n f) => l_szS11 f 1048576 A g o n cap w hn hA h hf (by omega) (by omega))
  have HC := Lib.hid (fun (hn : n ≤ 1048576) w (h : SlsIn w g o n f) => l_toS11 f A g o n cap w hn hA h)
  have HQ := Lib.hid (fun (hn : n ≤ 1048576) b b' w (h : OwnSl w b n f) (h' : OwnSl w b' n f) => l_eqS11 f (some ⟨b, 0, none⟩) (some ⟨b', 0, none⟩) b 0 b' 0 n n n w hn (fun _ => rfl) (fun _ => rfl) h.ins h'.ins hf)
  have HM := Lib.hid (fun w => l_mom m w)
  have HS := Lib.hid (fun (hn : n ≤ 1048576) b w (h : OwnSl w b n f) => s_best f m (some ⟨b, 0, none⟩) b 0 n n w hn (fun _ => rfl) h.ins hf)
  have HI := Lib.hid (fun (hn : n ≤ 1048576) b w (h : OwnSl w b n f) => hI f m (some ⟨b, 0, none⟩) b 0 n n w hn (Nat.le_refl _) (fun _ => rfl) h.ins hf hm)
  generalize bestW n f m = t at *
  have e9 : (t == t) = true := by simp
  have hst0 := Lib.hid (show SoQ w g o n f w.heap.size #[.float .f32 m.1, .int .i64 m.2] 52 _ from SoQ.new ⟨hw, Below.refl _ _⟩ #[.float .f32 m.1, .int .i64 m.2] 52)
  clear hI hf hA hw
  go_enter Try.func9, Try.ntmps9
  go_wp2_with fail
  refine (HZ.out _ hst0.out.1.1).mono ?_
  rintro e w1 ⟨⟨r, hr, rfl⟩, bl⟩
  have hst := Lib.hid (hst0.out.step bl)
  clear hst0 bl HZ
  rcases hr with rfl | ⟨r0, hr1⟩
  · go_wp2
    go_ret
    exact ⟨rfl, hst.out.1.2⟩
  have r2 : ¬ r < 0 := by omega
  have hcm := Lib.hid (show n ≤ 1048576 by omega)
  clear hr1 r0 hn
  obtain ⟨d0, d1⟩ := cells2m hst.out.2
  go_wp2
  go_region_with ((first
    | (go_at_call 30; refine (HC.out hcm.out w1.drew hst.out.1.1).mono ?_; rintro e w2 ⟨rfl, ox, bl⟩; have hs2 := Lib.hid (hst.out.drew.step bl); obtain ⟨r0, r1⟩ := cells2m hs2.out.2; clear bl)
    | (go_at_call 35; refine (HM.out _).mono ?_; rintro e w3 ⟨rfl, bl⟩; have hs3 := Lib.hid (hs2.out.step bl); have ox3 := ox.below bl; clear bl)
    | (go_at_call 37; refine (HS.out hcm.out _ _ ox3).mono ?_; rintro e w4 ⟨rfl, bl⟩; have hs4 := Lib.hid (hs3.out.step bl); clear bl)))
  all_goals (
  clear hst hs2 hs3 ox ox3 d0 d1 r0 r1 HS
  have hst := hs4
  clear hs4
  go_wp2_with fail
  refine (HC.out hcm.out _ hst.out.1.1).mono ?_
  rintro e w5 ⟨rfl, ox, bl⟩
  have hs2 := Lib.hid (show XoQ w g o n f w.heap.size #[.float .f32 m.1, .int .i64 m.2] 52 w4.heap.size w5 from ⟨hst.out.step bl, ox⟩)
  clear hst bl ox
  have hst := hs2
  clear hs2
  generalize w4.heap.size = b at *
  obtain ⟨d0, d1⟩ := cells2m hst.out.1.2
  go_wp2_with fail
  refine (HM.out _).mono ?_
  rintro e w6 ⟨rfl, bl⟩
  have hs2 := Lib.hid (hst.out.step bl)
  clear hst bl d0 d1 HM
  have hst := hs2
  clear hs2
  go_wp2_with fail
  refine (HI.out hcm.out _ _ hst.out.2).mono ?_
  rintro e w7 ⟨rfl, bl⟩
  have hs2 := Lib.hid (hst.out.step bl)
  clear hst bl HI
  have hst := hs2
  clear hs2
  go_wp2_with fail
  refine (HC.out hcm.out _ hst.out.1.1.1).mono ?_
  rintro e w6 ⟨rfl, ox, bl⟩
  have hs2 := Lib.hid (hst.out.step bl)
  clear hst bl
  have hst := hs2
  clear hs2
  go_wp2_with fail
  refine (HQ.out hcm.out _ _ _ hst.out.2 ox).mono ?_
  rintro e w7 ⟨rfl, bl⟩
  have hs2 := Lib.hid (hst.out.step bl)
  clear hst bl ox
  go_wp2
  go_ret
  exact ⟨rfl, hs2.out.1.1.2⟩)
set_option maxRecDepth 100000 in
set_option maxHeartbeats 4000000 in
theorem wo_FnExactKeepSail (hI : ∀ (f : Nat → Sl) (a : Int) (m : Mm) (A : Option Addr) (g o n cap : Nat) (w : World), n ≤ 1048576 → n ≤ cap → (0 < n → A = some ⟨g, o, none⟩) → SlsIn w g o n f → (∀ j, j < n → SlWf (f j)) → MmWf m → Calls Try.prog 39 #[.slice A n cap, .int .i64 a, .agg #[.float .f32 m.1, .int .i64 m.2]] w fun e w' => e = .returned (.int .i64 (keepW n f a m)) ∧ Below w.heap.size w w')
    (x : Option Addr × Nat × Nat × (Nat → Sl)) (a : Int) (m : Mm) (w : World) (hx : SlsArg w x.1 x.2.1 x.2.2.2) (_ : (Lit.int .i64 a).wf = true) (hm : MmWf m) :
    Calls Try.prog 10 #[.slice x.1 x.2.1 x.2.2.1, .int .i64 a, .agg #[.float .f32 m.1, .int .i64 m.2]] w fun e w' => e = .returned (.bool true) ∧ Below w.heap.size w w' := by
  obtain ⟨A, n, cap, f⟩ := x
  dsimp only at *
  obtain ⟨hn, ⟨g, o, hA, hw⟩, hf⟩ := hx
  have HZ := Lib.hid (fun w (h : SlsIn w g o n f) => l_szS11 f 1048576 A g o n cap w hn hA h hf (by omega) (by omega))
  have HC := Lib.hid (fun (hn : n ≤ 1048576) w (h : SlsIn w g o n f) => l_toS11 f A g o n cap w hn hA h)
  have HQ := Lib.hid (fun (hn : n ≤ 1048576) b b' w (h : OwnSl w b n f) (h' : OwnSl w b' n f) => l_eqS11 f (some ⟨b, 0, none⟩) (some ⟨b', 0, none⟩) b 0 b' 0 n n n w hn (fun _ => rfl) (fun _ => rfl) h.ins h'.ins hf)
  have HM := Lib.hid (fun w => l_mom m w)
  have HS := Lib.hid (fun (hn : n ≤ 1048576) b w (h : OwnSl w b n f) => s_keep f a m (some ⟨b, 0, none⟩) b 0 n n w hn (fun _ => rfl) h.ins hf hm)
  have HI := Lib.hid (fun (hn : n ≤ 1048576) b w (h : OwnSl w b n f) => hI f a m (some ⟨b, 0, none⟩) b 0 n n w hn (Nat.le_refl _) (fun _ => rfl) h.ins hf hm)
  generalize keepW n f a m = t at *
  have e9 : (t == t) = true := by simp
  have hst0 := Lib.hid (show SoQ w g o n f w.heap.size #[.float .f32 m.1, .int .i64 m.2] 52 _ from SoQ.new ⟨hw, Below.refl _ _⟩ #[.float .f32 m.1, .int .i64 m.2] 52)
  clear hI hf hA hw
  go_enter Try.func10, Try.ntmps10
  go_wp2_with fail
  refine (HZ.out _ hst0.out.1.1).mono ?_
  rintro e w1 ⟨⟨r, hr, rfl⟩, bl⟩
  have hst := Lib.hid (hst0.out.step bl)
  clear hst0 bl HZ
  rcases hr with rfl | ⟨r0, hr1⟩
  · go_wp2
    go_ret
    exact ⟨rfl, hst.out.1.2⟩
  have r2 : ¬ r < 0 := by omega
  have hcm := Lib.hid (show n ≤ 1048576 by omega)
  clear hr1 r0 hn
  obtain ⟨d0, d1⟩ := cells2m hst.out.2
  go_wp2
  go_region_with ((first
    | (go_at_call 30; refine (HC.out hcm.out w1.drew hst.out.1.1).mono ?_; rintro e w2 ⟨rfl, ox, bl⟩; have hs2 := Lib.hid (hst.out.drew.step bl); obtain ⟨r0, r1⟩ := cells2m hs2.out.2; clear bl)
    | (go_at_call 35; refine (HM.out _).mono ?_; rintro e w3 ⟨rfl, bl⟩; have hs3 := Lib.hid (hs2.out.step bl); have ox3 := ox.below bl; clear bl)
    | (go_at_call 38; refine (HS.out hcm.out _ _ ox3).mono ?_; rintro e w4 ⟨rfl, bl⟩; have hs4 := Lib.hid (hs3.out.step bl); clear bl)))
  all_goals (
  clear hst hs2 hs3 ox ox3 d0 d1 r0 r1 HS
  have hst := hs4
  clear hs4
  go_wp2_with fail
  refine (HC.out hcm.out _ hst.out.1.1).mono ?_
  rintro e w5 ⟨rfl, ox, bl⟩
  have hs2 := Lib.hid (show XoQ w g o n f w.heap.size #[.float .f32 m.1, .int .i64 m.2] 52 w4.heap.size w5 from ⟨hst.out.step bl, ox⟩)
  clear hst bl ox
  have hst := hs2
  clear hs2
  generalize w4.heap.size = b at *
  obtain ⟨d0, d1⟩ := cells2m hst.out.1.2
  go_wp2_with fail
  refine (HM.out _).mono ?_
  rintro e w6 ⟨rfl, bl⟩
  have hs2 := Lib.hid (hst.out.step bl)
  clear hst bl d0 d1 HM
  have hst := hs2
  clear hs2
  go_wp2_with fail
  refine (HI.out hcm.out _ _ hst.out.2).mono ?_
  rintro e w7 ⟨rfl, bl⟩
  have hs2 := Lib.hid (hst.out.step bl)
  clear hst bl HI
  have hst := hs2
  clear hs2
  go_wp2_with fail
  refine (HC.out hcm.out _ hst.out.1.1.1).mono ?_
  rintro e w6 ⟨rfl, ox, bl⟩
  have hs2 := Lib.hid (hst.out.step bl)
  clear hst bl
  have hst := hs2
  clear hs2
  go_wp2_with fail
  refine (HQ.out hcm.out _ _ _ hst.out.2 ox).mono ?_
  rintro e w7 ⟨rfl, bl⟩
  have hs2 := Lib.hid (hst.out.step bl)
  clear hst bl ox
  go_wp2
  go_ret
  exact ⟨rfl, hs2.out.1.1.2⟩)
end Go.Proofs.Ytlliiecdadiagaa

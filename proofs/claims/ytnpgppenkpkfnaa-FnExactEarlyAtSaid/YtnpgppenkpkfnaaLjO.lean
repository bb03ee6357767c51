/- The walks of the exact laws of chapter 9: tracks, starts, early ones. -/
import Derived.Test.YtnpgppenkpkfnaaLjM
import Derived.Test.YtnpgppenkpkfnaaLjI
namespace Go.Proofs.Ytnpgppenkpkfnaa
open Go.RowKit
set_option linter.unusedVariables false
set_option linter.unusedSimpArgs false

set_option maxRecDepth 100000 in
set_option maxHeartbeats 2000000 in
theorem w_FnExactTrackOk (x : Option Addr × Nat × Nat × (Nat → Sg)) (w : World) (h : TrkIn w x.1 x.2.1 x.2.2.2) :
    Calls Try.prog 9 #[.slice x.1 x.2.1 x.2.2.1] w fun e w' => e = .returned (.bool true) ∧ Below w.heap.size w w' := by
  obtain ⟨A, n, cap, f⟩ := x
  dsimp only at *
  obtain ⟨hn, g, o, hA, hw⟩ := h
  have HS := Lib.hid (fun (h : n ≤ 1048576) q w (k : SigOwn w q n f) => s_tk f (some ⟨q, 0, none⟩) q 0 n n  w (by omega) (fun _ => rfl) k.sigs)
  have HI := Lib.hid (fun (h : n ≤ 1048576) q w (k : SigOwn w q n f) => i_tk f (some ⟨q, 0, none⟩) q 0 n n  w (by omega) (fun _ => rfl) k.sigs)
  have HC := Lib.hid (fun (h : n ≤ 1048576) w (k : SigsIn w g o n f) => l_toS f A g o n cap w h hA k)
  have HE := Lib.hid (fun (h : n ≤ 1048576) q q' w (k : SigOwn w q n f) (k' : SigOwn w q' n f) => l_eqS f (some ⟨q, 0, none⟩) (some ⟨q', 0, none⟩) q 0 q' 0 n n n w h (fun _ => rfl) (fun _ => rfl) k.sigs k'.sigs)
  have HZ := Lib.hid (fun w => l_szS A n cap w hn)
  generalize tkB n f = t0 at *
  have hst := Lib.hid (show TrSt w g o n f w from ⟨hw, Below.refl _ _⟩)
  clear hw
  cases t0
  all_goals
    go_enter Try.func9, Try.ntmps9
    go_wp2_with fail
    refine (HZ.out _).mono ?_
    rintro e w1 ⟨⟨r, hr, rfl⟩, rfl⟩
    rcases hr with rfl | ⟨r0, hsm⟩
    · go_wp2
      go_ret
      exact ⟨rfl, hst.out.below⟩
    have r2 : ¬ r < 0 := by omega
    go_wp2_with fail
    refine (HC.out hsm _ hst.out.1).mono ?_
    rintro e w3 ⟨rfl, own, b⟩
    have hs2 := Lib.hid (hst.out.step b)
    clear hst b
    have hst := hs2
    clear hs2
    go_wp2_with fail
    refine (HS.out hsm _ _ own).mono ?_
    rintro e w4 ⟨rfl, b⟩
    have hs2 := Lib.hid (hst.out.step b)
    clear hst b
    have hst := hs2
    clear hs2
    clear own
    go_wp2_with fail
    refine (HC.out hsm _ hst.out.1).mono ?_
    rintro e w5 ⟨rfl, own, b⟩
    have hs2 := Lib.hid (hst.out.step b)
    clear hst b
    have hst := hs2
    clear hs2
    go_wp2_with fail
    refine (HI.out hsm _ _ own).mono ?_
    rintro e w6 ⟨rfl, b⟩
    have own' := own.below b
    clear own
    have own := own'
    clear own'
    have hs2 := Lib.hid (hst.out.step b)
    clear hst b
    have hst := hs2
    clear hs2
    go_wp2_with fail
    refine (HC.out hsm _ hst.out.1).mono ?_
    rintro e w7 ⟨rfl, own2, b⟩
    have own' := own.below b
    clear own
    have own := own'
    clear own'
    have hs2 := Lib.hid (hst.out.step b)
    clear hst b
    have hst := hs2
    clear hs2
    go_wp2_with fail
    refine (HE.out hsm _ _ _ own own2).mono ?_
    rintro e w8 ⟨rfl, b⟩
    have hs2 := Lib.hid (hst.out.step b)
    clear hst b
    have hst := hs2
    clear hs2
    go_wp2
    go_ret
    exact ⟨rfl, hst.out.below⟩
set_option maxRecDepth 100000 in
set_option maxHeartbeats 2000000 in
theorem w_FnExactStartTime (l : Ln) (x : Option Addr × Nat × Nat × (Nat → Sg)) (gun : Int) (w : World) (h : TrkIn w x.1 x.2.1 x.2.2.2) (_ : (Lit.int .i64 gun).wf = true) :
    Calls Try.prog 13 #[.agg #[.int .i64 l.1.1, .int .i64 l.1.2, .int .i64 l.2.1, .int .i64 l.2.2], .slice x.1 x.2.1 x.2.2.1, .int .i64 gun] w fun e w' => e = .returned (.bool true) ∧ Below w.heap.size w w' := by
  obtain ⟨A, n, cap, f⟩ := x
  dsimp only at *
  obtain ⟨hn, g, o, hA, hw⟩ := h
  have HL := Lib.hid (fun w => l_line l w)
  have HS := Lib.hid (fun (h : n ≤ 1048576) q w (k : SigOwn w q n f) => s_start l f (some ⟨q, 0, none⟩) q 0 n n gun w (by omega) (fun _ => rfl) k.sigs)
  have HI := Lib.hid (fun (h : n ≤ 1048576) q w (k : SigOwn w q n f) => i_start l f (some ⟨q, 0, none⟩) q 0 n n gun w (by omega) (fun _ => rfl) k.sigs)
  have HC := Lib.hid (fun (h : n ≤ 1048576) w (k : SigsIn w g o n f) => l_toS f A g o n cap w h hA k)
  have HE := Lib.hid (fun (h : n ≤ 1048576) q q' w (k : SigOwn w q n f) (k' : SigOwn w q' n f) => l_eqS f (some ⟨q, 0, none⟩) (some ⟨q', 0, none⟩) q 0 q' 0 n n n w h (fun _ => rfl) (fun _ => rfl) k.sigs k'.sigs)
  have HZ := Lib.hid (fun w => l_szS A n cap w hn)
  generalize (stR l n f gun).1 = t0 at *
  generalize (stR l n f gun).2 = t1 at *
  obtain ⟨⟨x1, x2⟩, x3, x4⟩ := l
  dsimp only at *
  have hst := Lib.hid (LtS.new (c := #[.int .i64 x1, .int .i64 x2, .int .i64 x3, .int .i64 x4]) (ty := 51) hw)
  clear hw
  have e0 : (t0 == t0) = true := by simp
  have e1 : (t1 == t1) = true := by simp
  cases t1
  all_goals
    go_enter Try.func13, Try.ntmps13
    go_wp2_with fail
    refine (HZ.out _).mono ?_
    rintro e w1 ⟨⟨r, hr, rfl⟩, rfl⟩
    rcases hr with rfl | ⟨r0, hsm⟩
    · go_wp2
      go_ret
      exact ⟨rfl, hst.out.below⟩
    have r2 : ¬ r < 0 := by omega
    obtain ⟨c0, c1, c2, c3⟩ := cells4 hst.out.1.1
    go_wp2_with fail
    refine (HL.out _).mono ?_
    rintro e w2 ⟨rfl, b⟩
    have hs2 := Lib.hid (hst.out.step b)
    clear hst b
    have hst := hs2
    clear hs2
    clear c0 c1 c2 c3
    go_wp2_with fail
    refine (HC.out hsm _ hst.out.2).mono ?_
    rintro e w3 ⟨rfl, own, b⟩
    have hs2 := Lib.hid (hst.out.step b)
    clear hst b
    have hst := hs2
    clear hs2
    go_wp2_with fail
    refine (HS.out hsm _ _ own).mono ?_
    rintro e w4 ⟨rfl, b⟩
    have hs2 := Lib.hid (hst.out.step b)
    clear hst b
    have hst := hs2
    clear hs2
    clear own
    go_wp2_with fail
    refine (HC.out hsm _ hst.out.2).mono ?_
    rintro e w5 ⟨rfl, own, b⟩
    have hs2 := Lib.hid (hst.out.step b)
    clear hst b
    have hst := hs2
    clear hs2
    obtain ⟨c0, c1, c2, c3⟩ := cells4 hst.out.1.1
    go_wp2_with fail
    refine (HL.out _).mono ?_
    rintro e w10 ⟨rfl, b⟩
    have own' := own.below b
    clear own
    have own := own'
    clear own'
    have hs2 := Lib.hid (hst.out.step b)
    clear hst b
    have hst := hs2
    clear hs2
    clear c0 c1 c2 c3
    go_wp2_with fail
    refine (HI.out hsm _ _ own).mono ?_
    rintro e w6 ⟨rfl, b⟩
    have own' := own.below b
    clear own
    have own := own'
    clear own'
    have hs2 := Lib.hid (hst.out.step b)
    clear hst b
    have hst := hs2
    clear hs2
    go_wp2_with fail
    refine (HC.out hsm _ hst.out.2).mono ?_
    rintro e w7 ⟨rfl, own2, b⟩
    have own' := own.below b
    clear own
    have own := own'
    clear own'
    have hs2 := Lib.hid (hst.out.step b)
    clear hst b
    have hst := hs2
    clear hs2
    go_wp2_with fail
    refine (HE.out hsm _ _ _ own own2).mono ?_
    rintro e w8 ⟨rfl, b⟩
    have hs2 := Lib.hid (hst.out.step b)
    clear hst b
    have hst := hs2
    clear hs2
    go_wp2
    go_ret
    exact ⟨rfl, hst.out.below⟩
set_option maxRecDepth 100000 in
set_option maxHeartbeats 2000000 in
theorem w_FnExactEarlyAt (l : Ln) (x : Option Addr × Nat × Nat × (Nat → Sg)) (gun : Int) (w : World) (h : TrkIn w x.1 x.2.1 x.2.2.2) (_ : (Lit.int .i64 gun).wf = true) :
    Calls Try.prog 14 #[.agg #[.int .i64 l.1.1, .int .i64 l.1.2, .int .i64 l.2.1, .int .i64 l.2.2], .slice x.1 x.2.1 x.2.2.1, .int .i64 gun] w fun e w' => e = .returned (.bool true) ∧ Below w.heap.size w w' := by
  obtain ⟨A, n, cap, f⟩ := x
  dsimp only at *
  obtain ⟨hn, g, o, hA, hw⟩ := h
  have HL := Lib.hid (fun w => l_line l w)
  have HS := Lib.hid (fun (h : n ≤ 1048576) q w (k : SigOwn w q n f) => s_early l f (some ⟨q, 0, none⟩) q 0 n n gun w (by omega) (fun _ => rfl) k.sigs)
  have HI := Lib.hid (fun (h : n ≤ 1048576) q w (k : SigOwn w q n f) => i_early l f (some ⟨q, 0, none⟩) q 0 n n gun w (by omega) (fun _ => rfl) k.sigs)
  have HC := Lib.hid (fun (h : n ≤ 1048576) w (k : SigsIn w g o n f) => l_toS f A g o n cap w h hA k)
  have HE := Lib.hid (fun (h : n ≤ 1048576) q q' w (k : SigOwn w q n f) (k' : SigOwn w q' n f) => l_eqS f (some ⟨q, 0, none⟩) (some ⟨q', 0, none⟩) q 0 q' 0 n n n w h (fun _ => rfl) (fun _ => rfl) k.sigs k'.sigs)
  have HZ := Lib.hid (fun w => l_szS A n cap w hn)
  generalize eaR l n f gun = t0 at *
  obtain ⟨⟨x1, x2⟩, x3, x4⟩ := l
  dsimp only at *
  have hst := Lib.hid (LtS.new (c := #[.int .i64 x1, .int .i64 x2, .int .i64 x3, .int .i64 x4]) (ty := 51) hw)
  clear hw
  cases t0
  all_goals
    go_enter Try.func14, Try.ntmps14
    go_wp2_with fail
    refine (HZ.out _).mono ?_
    rintro e w1 ⟨⟨r, hr, rfl⟩, rfl⟩
    rcases hr with rfl | ⟨r0, hsm⟩
    · go_wp2
      go_ret
      exact ⟨rfl, hst.out.below⟩
    have r2 : ¬ r < 0 := by omega
    obtain ⟨c0, c1, c2, c3⟩ := cells4 hst.out.1.1
    go_wp2_with fail
    refine (HL.out _).mono ?_
    rintro e w2 ⟨rfl, b⟩
    have hs2 := Lib.hid (hst.out.step b)
    clear hst b
    have hst := hs2
    clear hs2
    clear c0 c1 c2 c3
    go_wp2_with fail
    refine (HC.out hsm _ hst.out.2).mono ?_
    rintro e w3 ⟨rfl, own, b⟩
    have hs2 := Lib.hid (hst.out.step b)
    clear hst b
    have hst := hs2
    clear hs2
    go_wp2_with fail
    refine (HS.out hsm _ _ own).mono ?_
    rintro e w4 ⟨rfl, b⟩
    have hs2 := Lib.hid (hst.out.step b)
    clear hst b
    have hst := hs2
    clear hs2
    clear own
    go_wp2_with fail
    refine (HC.out hsm _ hst.out.2).mono ?_
    rintro e w5 ⟨rfl, own, b⟩
    have hs2 := Lib.hid (hst.out.step b)
    clear hst b
    have hst := hs2
    clear hs2
    obtain ⟨c0, c1, c2, c3⟩ := cells4 hst.out.1.1
    go_wp2_with fail
    refine (HL.out _).mono ?_
    rintro e w10 ⟨rfl, b⟩
    have own' := own.below b
    clear own
    have own := own'
    clear own'
    have hs2 := Lib.hid (hst.out.step b)
    clear hst b
    have hst := hs2
    clear hs2
    clear c0 c1 c2 c3
    go_wp2_with fail
    refine (HI.out hsm _ _ own).mono ?_
    rintro e w6 ⟨rfl, b⟩
    have own' := own.below b
    clear own
    have own := own'
    clear own'
    have hs2 := Lib.hid (hst.out.step b)
    clear hst b
    have hst := hs2
    clear hs2
    go_wp2_with fail
    refine (HC.out hsm _ hst.out.2).mono ?_
    rintro e w7 ⟨rfl, own2, b⟩
    have own' := own.below b
    clear own
    have own := own'
    clear own'
    have hs2 := Lib.hid (hst.out.step b)
    clear hst b
    have hst := hs2
    clear hs2
    go_wp2_with fail
    refine (HE.out hsm _ _ _ own own2).mono ?_
    rintro e w8 ⟨rfl, b⟩
    have hs2 := Lib.hid (hst.out.step b)
    clear hst b
    have hst := hs2
    clear hs2
    go_wp2
    go_ret
    exact ⟨rfl, hst.out.below⟩
end Go.Proofs.Ytnpgppenkpkfnaa

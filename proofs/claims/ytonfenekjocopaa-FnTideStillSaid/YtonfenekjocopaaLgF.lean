/- The walk of RunLegs (spec). -/
import Derived.Test.YtonfenekjocopaaLgE
import Derived.BigQuiet
namespace Go.Proofs.Ytonfenekjocopaa
open Go.RowKit Ieee
set_option linter.unusedVariables false
set_option linter.unusedSimpArgs false
attribute [local go_sem] st_cplx

set_option maxRecDepth 100000 in
set_option maxHeartbeats 4000000 in
theorem s_run (ls : Nat → Int × Nat × Int) (A : Option Addr) (g o n cap : Nat) (p q : Nat × Nat) (w : World) (hn : n ≤ 1000000) (hA : 0 < n → A = some ⟨g, o, none⟩) (hw : LegsIn w g o n ls) (hp : W64 p) (hq : W32 q) :
    Calls Try.prog 12 #[.complex .f64 p.1 p.2, .slice A n cap, .complex .f32 q.1 q.2] w fun e w' =>
      e = .returned (.tuple #[.complex .f64 ((runO p n ls q).getD (0, 0)).1 ((runO p n ls q).getD (0, 0)).2, .bool (runO p n ls q).isSome]) ∧ Below w.heap.size w w' := by
  have HW := Lib.hid hw
  have cp := fun w => s_vecB p w hp
  have ca := s_allL ls A g o n cap w hn hA hw
  have cv := fun w => s_velB q w hq
  obtain ⟨oo, ho⟩ : ∃ oo, runO p n ls q = oo := ⟨_, rfl⟩
  rw [ho]
  clear hw
  obtain ⟨p1, p2⟩ := p
  obtain ⟨q1, q2⟩ := q
  dsimp only at *
  cases h1 : vcB (p1, p2)
  · obtain rfl : oo = none := by rw [← ho]; unfold runO; rw [h1]; rfl
    rw [h1] at cp
    clear ho h1 hp hq ca cv
    go_enter Try.func12, Try.ntmps12
    go_wp2_with (go_at_call 19; ((with_reducible refine (cp _).mono ?_); rintro e w' ⟨rfl, rfl⟩))
    go_ret2
    exact ⟨rfl, Below.refl _ _⟩
  · rw [h1] at cp
    go_enter Try.func12, Try.ntmps12
    go_wp2_with (go_at_call 19; ((with_reducible refine (cp _).mono ?_); rintro e w' ⟨rfl, rfl⟩))
    refine ca.mono ?_
    rintro e w2 ⟨rfl, b2⟩
    clear cp ca
    cases h2 : lsB n ls
    · obtain rfl : oo = none := by rw [← ho]; unfold runO; rw [h1, h2]; rfl
      clear ho h1 h2 hp hq cv
      go_wp2_with fail
      go_ret2
      exact ⟨rfl, b2⟩
    · cases h3 : vlB (q1, q2)
      · obtain rfl : oo = none := by rw [← ho]; unfold runO; rw [h1, h2, h3]; rfl
        rw [h3] at cv
        clear ho h1 h2 h3 hp hq
        go_wp2_with (go_at_call 42; ((with_reducible refine (cv _).mono ?_); rintro e w' ⟨rfl, rfl⟩))
        go_ret2
        exact ⟨rfl, b2⟩
      · rw [h3] at cv
        have ho2 : runW (q1, q2) ls (p1, p2) n = oo := by rw [← ho]; unfold runO; rw [h1, h2, h3]; rfl
        have HO := Lib.hid ho2
        have HL := Lib.hid (lsB_iff.1 h2)
        have oq : okV q1 q2 := ⟨hq, vlB_iff.1 h3⟩
        have HV := Lib.hid (And.intro h1 hp)
        clear ho ho2 h1 h2 h3 hp hq
        go_wp2_with (go_at_call 42; ((with_reducible refine (cv _).mono ?_); rintro e w' ⟨rfl, rfl⟩))
        go_loopw [0, 8] (fun x i wr => ∃ (k : Nat) (r : Nat × Nat), k ≤ n ∧ i = .int .i64 k ∧ x = .complex .f64 r.1 r.2 ∧ runW (q1, q2) ls (p1, p2) k = some r ∧ W64 r ∧ vcB r = true ∧ Below w.heap.size w wr) (fun _ i _ => n - (intOf i).toNat)
        case atStart => exact ⟨0, (p1, p2), Nat.zero_le _, rfl, rfl, rfl, HV.out.2, HV.out.1, b2⟩
        case round =>
          clear b2 HV
          obtain ⟨k, ⟨r1, r2⟩, hk, rfl, rfl, hrun, hr64, hrv, hbel⟩ := hrel
          have HR := Lib.hid (And.intro hrun hrv)
          have HB := Lib.hid hbel
          have hbsz := hbel.size
          clear hrun hrv hbel
          by_cases hlt : k < n
          · obtain rfl := hA (by omega)
            obtain ⟨c0, c1, c2, hs⟩ := (HW.out.below HB.out (Nat.le_refl _)) k hlt
            have hlg := lgB_iff.1 (HL.out.2 k hlt)
            have hst := runW_step HR.out.1
            have HST := Lib.hid hst
            have G := grd_ok hlg.1 (dg_lt (ls k).1) oq
            have co := fun w => s_over (ls k).1 (ls k).2.1 q1 q2 w hlg.1 oq
            have cs := fun w => s_stepOn (r1, r2) (grdW (ls k).2.1 q1 q2 (dg (ls k).1)) (ls k).2.2 w hr64 ⟨G.l1, G.l2⟩
            have hsf : stepF (r1, r2) (grdW (ls k).2.1 q1 q2 (dg (ls k).1)) (ls k).2.2 = if stepB (r1, r2) (grdW (ls k).2.1 q1 q2 (dg (ls k).1)) (ls k).2.2 = true then stepW (r1, r2) (grdW (ls k).2.1 q1 q2 (dg (ls k).1)) (ls k).2.2 else (0, 0) := rfl
            rw [hsf] at cs
            have hwl : W64 (stepW (r1, r2) (grdW (ls k).2.1 q1 q2 (dg (ls k).1)) (ls k).2.2) ∨ stepB (r1, r2) (grdW (ls k).2.1 q1 q2 (dg (ls k).1)) (ls k).2.2 = false := by
              cases hsb : stepB (r1, r2) (grdW (ls k).2.1 q1 q2 (dg (ls k).1)) (ls k).2.2
              · exact .inr rfl
              · unfold stepB at hsb
                simp only [Bool.and_eq_true] at hsb
                exact .inl (stp_ok (vcB_iff.1 hsb.1.1.1) ⟨G.l1, G.l2⟩ (vlB_iff.1 hsb.1.1.2) (secB_iff.1 hsb.1.2)).lt
            have hwv : stepB (r1, r2) (grdW (ls k).2.1 q1 q2 (dg (ls k).1)) (ls k).2.2 = true → vcB (stepW (r1, r2) (grdW (ls k).2.1 q1 q2 (dg (ls k).1)) (ls k).2.2) = true := fun h => by
              unfold stepB at h
              simp only [Bool.and_eq_true] at h
              exact h.2
            have HWL := Lib.hid (And.intro hwl hwv)
            clear hwl hwv hst hlg hs hr64 hsf G
            generalize stepB (r1, r2) (grdW (ls k).2.1 q1 q2 (dg (ls k).1)) (ls k).2.2 = t at *
            generalize stepW (r1, r2) (grdW (ls k).2.1 q1 q2 (dg (ls k).1)) (ls k).2.2 = x at *
            generalize grdW (ls k).2.1 q1 q2 (dg (ls k).1) = v at *
            generalize (ls k).1 = hd at *
            generalize (ls k).2.1 = s at *
            generalize (ls k).2.2 = m at *
            obtain ⟨x1, x2⟩ := x
            obtain ⟨v1, v2⟩ := v
            dsimp only at co cs
            have k0 : (0 : Int) ≤ (k : Int) := by omega
            have k1 : (k : Int) < (n : Int) := by omega
            cases t
            · simp only [Bool.false_eq_true, if_false] at cs
              obtain rfl : oo = none := by
                have h9 := HST.out
                simp only [Bool.false_eq_true, if_false] at h9
                rw [← HO.out]; exact runW_none h9 n (by omega)
              go_wp2_with fail
              go_quiet ((go_at_call 43; exact Calls.quiet_of_same ((co _).mono fun _ _ h => ⟨h.1, h.2.symm⟩)))
              go_wp2_with (go_at_call 44; ((with_reducible refine (cs _).mono ?_); rintro e w' ⟨rfl, rfl⟩))
              go_ret2
              exact ⟨rfl, HB.out.grown (row := none) (grown_drewN _ _ _) hbsz (fun _ h => by cases h)⟩
            · simp only [if_true] at cs
              go_wp2_with fail
              go_quiet ((go_at_call 43; exact Calls.quiet_of_same ((co _).mono fun _ _ h => ⟨h.1, h.2.symm⟩)))
              go_wp2_with (go_at_call 44; ((with_reducible refine (cs _).mono ?_); rintro e w' ⟨rfl, rfl⟩))
              go_roundw
              case rel => exact ⟨k + 1, (x1, x2), by omega, by go_num, rfl, by rw [HST.out]; rfl, (by rcases HWL.out.1 with h | h; exact h; cases h), (by first | exact HWL.out.2 rfl | exact HWL.out.2 trivial), HB.out.grown (row := none) (grown_drewN _ _ _) hbsz (fun _ h => by cases h)⟩
              case measure => simp [intOf]; omega
          · obtain rfl : k = n := by omega
            obtain rfl : oo = some (r1, r2) := by rw [← HO.out]; exact HR.out.1
            go_wp2_with fail
            go_ret2
            exact ⟨rfl, HB.out⟩
end Go.Proofs.Ytonfenekjocopaa

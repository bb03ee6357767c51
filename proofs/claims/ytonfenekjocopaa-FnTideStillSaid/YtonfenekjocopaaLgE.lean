/- The walk of RunLegs (impl). -/
import Derived.Test.YtonfenekjocopaaLgD
namespace Go.Proofs.Ytonfenekjocopaa
open Go.RowKit Ieee
set_option linter.unusedVariables false
set_option linter.unusedSimpArgs false
attribute [local go_sem] st_cplx

/-- The two blocks of a function that tells a position. -/
def PosW (w : World) (r : Nat × Nat) (wr : World) : Prop := wr.heap[w.heap.size]? = some (.cells #[.complex .f64 r.1 r.2] 24 (0, 0)) ∧ wr.heap[w.heap.size + 1]? = some (.cells #[.bool false] 4 (0, 0)) ∧ Below w.heap.size w wr
theorem PosW.new (w : World) (r : Nat × Nat) : PosW w r ((w.alloc (.cells #[.complex .f64 r.1 r.2] 24)).alloc (.cells #[.bool false] 4)) := by
  refine ⟨(Below.heap_alloc (w.alloc (.cells #[.complex .f64 r.1 r.2] 24)) (.cells #[.bool false] 4) w.heap.size (by simp)).trans (heap_alloc_new w (.cells #[.complex .f64 r.1 r.2] 24)), ?_, ((Below.refl _ w).alloc (Nat.le_refl _) _).alloc (by simp) _⟩
  have := heap_alloc_new (w.alloc (.cells #[.complex .f64 r.1 r.2] 24)) (.cells #[.bool false] 4)
  rw [World.size_alloc] at this
  exact this
theorem PosW.size {w wr : World} {r : Nat × Nat} (h : PosW w r wr) : w.heap.size + 2 ≤ wr.heap.size := by have := block_lt h.2.1; omega
theorem PosW.step {w w1 w2 : World} {r : Nat × Nat} (h : PosW w r w1) (k : Below w1.heap.size w1 w2) : PosW w r w2 := by
  have hz := h.size
  exact ⟨(k.block _ (by omega)).trans h.1, (k.block _ (by omega)).trans h.2.1, h.2.2.trans (k.mono (by omega))⟩
theorem PosW.grown {w w1 w2 : World} {r : Nat × Nat} (h : PosW w r w1) (k : w1.grownBy w2 none) : PosW w r w2 :=
  ⟨box_far h.1 k (fun e => by cases e), box_far h.2.1 k (fun e => by cases e), h.2.2.grown k (by have := h.size; omega) (fun _ e => by cases e)⟩
theorem PosW.alloc {w w1 : World} {r : Nat × Nat} (h : PosW w r w1) (o : Obj) : PosW w r (w1.alloc o) := h.grown (World.grownBy_alloc w1 o none)
theorem PosW.cells {w wr : World} {r : Nat × Nat} (h : PosW w r wr) : wr.cell? ⟨w.heap.size, 0, none⟩ = some (.complex .f64 r.1 r.2) ∧ wr.frozen? ⟨w.heap.size, 0, none⟩ = false ∧ wr.cell? ⟨w.heap.size + 1, 0, none⟩ = some (.bool false) ∧ wr.frozen? ⟨w.heap.size + 1, 0, none⟩ = false :=
  ⟨cell_of_row _ _ 0 _ _ _ h.1, (cell_at h.1 rfl Nat.one_pos).choose_spec.2, cell_of_row _ _ 0 _ _ _ h.2.1, (cell_at h.2.1 rfl Nat.one_pos).choose_spec.2⟩
/-- The two results, stored. -/
theorem PosW.set {w wr : World} {r : Nat × Nat} (h : PosW w r wr) (t : Bool) :
    ((wr.setCell ⟨w.heap.size, 0, none⟩ (.complex .f64 r.1 r.2)).setCell ⟨w.heap.size + 1, 0, none⟩ (.bool t)).heap[w.heap.size]? = some (.cells #[.complex .f64 r.1 r.2] 24 (0, 0)) ∧
    ((wr.setCell ⟨w.heap.size, 0, none⟩ (.complex .f64 r.1 r.2)).setCell ⟨w.heap.size + 1, 0, none⟩ (.bool t)).heap[w.heap.size + 1]? = some (.cells #[.bool t] 4 (0, 0)) ∧
    Below w.heap.size w ((wr.setCell ⟨w.heap.size, 0, none⟩ (.complex .f64 r.1 r.2)).setCell ⟨w.heap.size + 1, 0, none⟩ (.bool t)) := by
  obtain ⟨a, b⟩ := two_set (x' := .complex .f64 r.1 r.2) (y' := .bool t) h.1 h.2.1 (by omega)
  exact ⟨a, b, (h.2.2.setCell (p := ⟨w.heap.size, 0, none⟩) (Nat.le_refl _) _).setCell (p := ⟨w.heap.size + 1, 0, none⟩) (Nat.le_succ _) _⟩

set_option maxRecDepth 100000 in
set_option maxHeartbeats 4000000 in
theorem i_run (ls : Nat → Int × Nat × Int) (A : Option Addr) (g o n cap : Nat) (p q : Nat × Nat) (w : World) (hn : n ≤ 1000000) (hA : 0 < n → A = some ⟨g, o, none⟩) (hw : LegsIn w g o n ls) (hp : W64 p) (hq : W32 q) :
    Calls Try.prog 11 #[.complex .f64 p.1 p.2, .slice A n cap, .complex .f32 q.1 q.2] w fun e w' =>
      e = .returned (.tuple #[.complex .f64 ((runO p n ls q).getD (0, 0)).1 ((runO p n ls q).getD (0, 0)).2, .bool (runO p n ls q).isSome]) ∧ Below w.heap.size w w' := by
  have HW := Lib.hid hw
  have HP := Lib.hid (PosW.new w p)
  have cp := fun w => i_vecB p w hp
  have ca := fun w' (hb : Below w.heap.size w w') => i_allL ls A g o n cap w' hn hA (hw.below hb (Nat.le_refl _))
  have cv := fun w => i_velB q w hq
  obtain ⟨oo, ho⟩ : ∃ oo, runO p n ls q = oo := ⟨_, rfl⟩
  rw [ho]
  clear hw
  cases h1 : vcB p
  · obtain rfl : oo = none := by rw [← ho]; unfold runO; rw [h1]; rfl
    rw [h1] at cp
    clear ho h1 hp hq ca cv
    obtain ⟨p1, p2⟩ := p
    obtain ⟨q1, q2⟩ := q
    dsimp only at *
    go_enter_defers Try.func11, Try.ntmps11
    go_wp2_with (go_at_call 37; ((with_reducible refine (cp _).mono ?_); rintro e w' ⟨rfl, rfl⟩))
    obtain ⟨H0, H1, b1⟩ := HP.out
    exact door128 (c := (p1, p2)) (t := false) (by rfl) (by rfl) (by rfl) H0 H1 (by omega) b1 (Nat.le_refl _)
  · rw [h1] at cp
    have CA := Lib.hid ca
    clear ca
    obtain ⟨p1, p2⟩ := p
    obtain ⟨q1, q2⟩ := q
    dsimp only at *
    go_enter_defers Try.func11, Try.ntmps11
    go_wp2_with (go_at_call 37; ((with_reducible refine (cp _).mono ?_); rintro e w' ⟨rfl, rfl⟩))
    refine (CA.out _ HP.out.2.2).mono ?_
    rintro e w2 ⟨rfl, b2⟩
    have HP2 := Lib.hid (HP.out.step b2)
    clear b2 HP cp
    cases h2 : lsB n ls
    · obtain rfl : oo = none := by rw [← ho]; unfold runO; rw [h1, h2]; rfl
      obtain ⟨k0, f0, k1, f1⟩ := HP2.out.cells
      clear ho h1 h2 hp hq CA cv
      go_wp2_with fail
      obtain ⟨H0, H1, b1⟩ := HP2.out.set false
      exact door128 (c := (p1, p2)) (t := false) (by rfl) (by rfl) (by rfl) H0 H1 (by omega) b1 (Nat.le_refl _)
    · go_wp2_with fail
      refine (cv _).mono ?_
      rintro e w3 ⟨rfl, g3⟩
      have HP3 := Lib.hid (HP2.out.grown g3)
      clear g3 HP2 cv
      cases h3 : vlB (q1, q2)
      · obtain rfl : oo = none := by rw [← ho]; unfold runO; rw [h1, h2, h3]; rfl
        obtain ⟨k0, f0, k1, f1⟩ := HP3.out.cells
        clear ho h1 h2 h3 hp hq CA
        go_wp2_with fail
        obtain ⟨H0, H1, b1⟩ := HP3.out.set false
        exact door128 (c := (p1, p2)) (t := false) (by rfl) (by rfl) (by rfl) H0 H1 (by omega) b1 (Nat.le_refl _)
      · have ho2 : runW (q1, q2) ls (p1, p2) n = oo := by rw [← ho]; unfold runO; rw [h1, h2, h3]; rfl
        have HO := Lib.hid ho2
        have HL := Lib.hid (lsB_iff.1 h2)
        have oq : okV q1 q2 := ⟨hq, vlB_iff.1 h3⟩
        have HV := Lib.hid (And.intro h1 hp)
        clear ho ho2 h1 h2 h3 hp hq CA
        go_wp2_with fail
        go_loopw [27] (fun i wr => ∃ (k : Nat) (r : Nat × Nat), k ≤ n ∧ i = .int .i64 k ∧ runW (q1, q2) ls (p1, p2) k = some r ∧ W64 r ∧ vcB r = true ∧ PosW w r wr) (fun i _ => n - (intOf i).toNat)
        case atStart => exact ⟨0, (p1, p2), Nat.zero_le _, rfl, rfl, HV.out.2, HV.out.1, HP3.out⟩
        case round =>
          clear HP3 HV
          obtain ⟨k, ⟨r1, r2⟩, hk, rfl, hrun, hr64, hrv, hpw⟩ := hrel
          have HPW := Lib.hid hpw
          have HR := Lib.hid (And.intro hrun hrv)
          clear hpw hrun hrv
          by_cases hlt : k < n
          · obtain rfl := hA (by omega)
            obtain ⟨c0, c1, c2, hs⟩ := (HW.out.below HPW.out.2.2 (Nat.le_refl _)) k hlt
            have hlg := lgB_iff.1 (HL.out.2 k hlt)
            have hst := runW_step HR.out.1
            have HST := Lib.hid hst
            have hbb := (HPW.out.alloc (.cells #[.int .i64 (ls k).1, .float .f32 (ls k).2.1, .int .i64 (ls k).2.2] 45)).1
            have cm := i_move (ls k).1 (ls k).2.1 (ls k).2.2 w.heap.size (r1, r2) (q1, q2) (wr.alloc (.cells #[.int .i64 (ls k).1, .float .f32 (ls k).2.1, .int .i64 (ls k).2.2] 45)) hr64 hlg.1 oq hbb
            have a1 := fun (x y z : Value) => st_new Try.prog wr x y z (.float .f32 (ls k).2.1) 45 1 (by omega) rfl
            have a2 := fun (x y z : Value) => st_new Try.prog wr x y z (.int .i64 (ls k).2.2) 45 2 (by omega) rfl
            have hwl : W64 (stepW (r1, r2) (grdW (ls k).2.1 q1 q2 (dg (ls k).1)) (ls k).2.2) ∨ stepB (r1, r2) (grdW (ls k).2.1 q1 q2 (dg (ls k).1)) (ls k).2.2 = false := by
              cases hsb : stepB (r1, r2) (grdW (ls k).2.1 q1 q2 (dg (ls k).1)) (ls k).2.2
              · exact .inr rfl
              · unfold stepB at hsb
                simp only [Bool.and_eq_true] at hsb
                have G := grd_ok hlg.1 (dg_lt (ls k).1) oq
                exact .inl (stp_ok (vcB_iff.1 hsb.1.1.1) ⟨G.l1, G.l2⟩ (vlB_iff.1 hsb.1.1.2) (secB_iff.1 hsb.1.2)).lt
            have hwv : stepB (r1, r2) (grdW (ls k).2.1 q1 q2 (dg (ls k).1)) (ls k).2.2 = true → vcB (stepW (r1, r2) (grdW (ls k).2.1 q1 q2 (dg (ls k).1)) (ls k).2.2) = true := fun h => by
              unfold stepB at h
              simp only [Bool.and_eq_true] at h
              exact h.2
            have HWL := Lib.hid (And.intro hwl hwv)
            clear hwl hwv hst hlg hs hbb hr64
            generalize stepB (r1, r2) (grdW (ls k).2.1 q1 q2 (dg (ls k).1)) (ls k).2.2 = t at *
            generalize stepW (r1, r2) (grdW (ls k).2.1 q1 q2 (dg (ls k).1)) (ls k).2.2 = x at *
            generalize (ls k).1 = hd at *
            generalize (ls k).2.1 = s at *
            generalize (ls k).2.2 = m at *
            obtain ⟨x1, x2⟩ := x
            cases t
            · simp only [Bool.false_eq_true, if_false] at cm
              obtain rfl : oo = none := by
                have h9 := HST.out
                simp only [Bool.false_eq_true, if_false] at h9
                rw [← HO.out]; exact runW_none h9 n (by omega)
              go_wp2_with fail
              refine cm.mono ?_
              rintro e w5 ⟨rfl, hb5, g5⟩
              have hz := HPW.out.size
              have hp5 : PosW w (r1, r2) w5 := ⟨hb5, box_far (HPW.out.alloc (.cells #[.int .i64 hd, .float .f32 s, .int .i64 m] 45)).2.1 g5 (fun e => by injection e with e; omega), (HPW.out.alloc (.cells #[.int .i64 hd, .float .f32 s, .int .i64 m] 45)).2.2.grown g5 (by simp; omega) (fun k e => by cases e; exact Nat.le_refl _)⟩
              have HP5 := Lib.hid hp5
              obtain ⟨k0, f0, k1, f1⟩ := hp5.cells
              clear hp5 hb5 g5 cm a1 a2 c0 c1 c2
              go_wp2_with fail
              obtain ⟨H0, H1, b1⟩ := HP5.out.set false
              exact door128 (c := (r1, r2)) (t := false) (by rfl) (by rfl) (by rfl) H0 H1 (by omega) b1 (Nat.le_refl _)
            · simp only [if_true] at cm
              go_wp2_with fail
              refine cm.mono ?_
              rintro e w5 ⟨rfl, hb5, g5⟩
              have hz := HPW.out.size
              have HP5 := Lib.hid (show PosW w (x1, x2) w5 from ⟨hb5, box_far (HPW.out.alloc (.cells #[.int .i64 hd, .float .f32 s, .int .i64 m] 45)).2.1 g5 (fun e => by injection e with e; omega), (HPW.out.alloc (.cells #[.int .i64 hd, .float .f32 s, .int .i64 m] 45)).2.2.grown g5 (by simp; omega) (fun k e => by cases e; exact Nat.le_refl _)⟩)
              clear hb5 g5 cm a1 a2 c0 c1 c2
              go_wp2_with fail
              go_roundw
              case rel => exact ⟨k + 1, (x1, x2), by omega, by go_num, by rw [HST.out]; rfl, (by rcases HWL.out.1 with h | h; exact h; cases h), (by first | exact HWL.out.2 rfl | exact HWL.out.2 trivial), HP5.out⟩
              case measure => simp [intOf]; omega
          · obtain rfl : k = n := by omega
            obtain rfl : oo = some (r1, r2) := by rw [← HO.out]; exact HR.out.1
            obtain ⟨k0, f0, k1, f1⟩ := HPW.out.cells
            clear hr64
            go_wp2_with fail
            obtain ⟨H0, H1, b1⟩ := HPW.out.set true
            exact door128 (c := (r1, r2)) (t := true) (by rfl) (by rfl) (by rfl) H0 H1 (by omega) b1 (Nat.le_refl _)
end Go.Proofs.Ytonfenekjocopaa

/- The walk of FnFitsBoth, over contracts. -/
import Derived.Test.YtlliiecdadiagaaLpY
import Derived.Test.YtlliiecdadiagaaLpI
namespace Go.Proofs.Ytlliiecdadiagaa
open Go.RowKit
set_option linter.unusedVariables false
set_option linter.unusedSimpArgs false

theorem at_zero {w : World} {g a : Nat} {v : Value} (h : w.cell? ⟨g, 0 + a, none⟩ = some v) : w.cell? ⟨g, a, none⟩ = some v := by rwa [Nat.zero_add] at h
theorem at_zero' {w : World} {g a k : Nat} {v : Value} (h : w.cell? ⟨g, 0 + a + k, none⟩ = some v) : w.cell? ⟨g, a + k, none⟩ = some v := by rwa [Nat.zero_add] at h
theorem OwnC.room {p : Nat → Value → Prop} {t : TypeId} {z : Nat} {w : World} {B : Nat} {A : Option Addr} {n cap k : Nat} (h : OwnC p t z w B (.slice A n cap) k) : n ≤ cap := by
  obtain ⟨xs, _, _, ⟨h, _⟩ | ⟨g, cap', cur, h, _, _, hn, _⟩⟩ := h
  · cases h; exact Nat.le_refl _
  · cases h; exact hn
set_option maxRecDepth 100000 in
set_option maxHeartbeats 8000000 in
theorem wo_FnFitsBoth (hCs : ∀ (w : World) (B g len cap : Nat) (A : Option Addr), Cur w B g A len cap → Calls Try.prog 53 #[.pointer (some ⟨g, 0, none⟩)] w fun e w' => ∃ (v : Value) (n : Nat), n ≤ 20 ∧ e = .returned v ∧ OwnSa w' w.heap.size v n ∧ Cur w' B g A len cap ∧ w.grownBy w' (some g))
    (hIo : ∀ (f : Nat → Sl) (A : Option Addr) (g o n cap : Nat) (w : World), n ≤ 1048576 → n ≤ cap → (0 < n → A = some ⟨g, o, none⟩) → SlsIn w g o n f → (∀ j, j < n → SlWf (f j)) → Calls Try.prog 28 #[.slice A n cap] w fun e w' => e = .returned (.bool (soB n f)) ∧ Below w.heap.size w w')
    (hIb : ∀ (f : Nat → Sl) (m : Mm) (A : Option Addr) (g o n cap : Nat) (w : World), n ≤ 1048576 → n ≤ cap → (0 < n → A = some ⟨g, o, none⟩) → SlsIn w g o n f → (∀ j, j < n → SlWf (f j)) → MmWf m → Calls Try.prog 25 #[.slice A n cap, .agg #[.float .f32 m.1, .int .i64 m.2]] w fun e w' => e = .returned (.int .i64 (bestW n f m)) ∧ Below w.heap.size w w')
    (hIf : ∀ (s : Sl) (m : Mm) (w : World), SlWf s → MmWf m → Calls Try.prog 27 #[.agg #[.string s.nm, .float .f32 s.lo, .float .f32 s.hi, .int .i64 s.fr, .int .i64 s.to], .agg #[.float .f32 m.1, .int .i64 m.2]] w fun e w' => e = .returned (.bool (fitB s m)) ∧ Below w.heap.size w w')
    (hIw : ∀ (s : Sl) (m : Mm) (w : World), SlWf s → MmWf m → Calls Try.prog 24 #[.agg #[.string s.nm, .float .f32 s.lo, .float .f32 s.hi, .int .i64 s.fr, .int .i64 s.to], .agg #[.float .f32 m.1, .int .i64 m.2]] w fun e w' => e = .returned (.bool (wideB s m)) ∧ Below w.heap.size w w')
    (a0 : Option Addr) (len cap : Nat) (zs : List Int) (w : World) (hr : IsRow .u8 w a0 len cap zs) :
    Calls Try.prog 5 #[.slice a0 len cap] w fun e w' => e = .returned (.bool true) ∧ Below w.heap.size w w' := by
  by_cases hbig : len ≤ 1048576
  · have hcode := code_of_row hr hbig
    go_enter Try.func5, Try.ntmps5
    go_wp2_with (first
      | (go_at_call 15; go_in)
      | (go_at_call 26; ((with_reducible refine (d_best hCs _ len cap a0 hcode).mono ?_); rintro e w1 ⟨v, n, ⟨p, q⟩, hn, hm, rfl, oS, b1⟩; have sa0 := fun (x y : Value) => st_new2 Try.prog w1 x y (.float .f32 p) 42 0 (by omega) rfl; dsimp only)))
    obtain ⟨Av, cv, gs, f, rfl, hA, hv, hf, _⟩ := oS.list
    have hrS := oS.room
    have hwf : ∀ j, j < n → SlWf (f j) := fun j h => (hf j h).wf
    have HO := Lib.hid (fun w (h : SlsIn w gs 0 n f) => hIo f Av gs 0 n cv w (by omega) hrS hA h hwf)
    have HBS := Lib.hid (fun w (h : SlsIn w gs 0 n f) => hIb f (p, q) Av gs 0 n cv w (by omega) hrS hA h hwf hm)
    have HF0 := Lib.hid (fun j (hj : j < n) s (e : f j = s) t (et : fitB s (p, q) = t) w => (by rw [← et]; exact hIf s (p, q) w (by rw [← e]; exact hwf j hj) hm : Calls Try.prog 27 #[.agg #[.string s.nm, .float .f32 s.lo, .float .f32 s.hi, .int .i64 s.fr, .int .i64 s.to], .agg #[.float .f32 p, .int .i64 q]] w fun e w' => e = .returned (.bool t) ∧ Below w.heap.size w w'))
    have HW0 := Lib.hid (fun j (hj : j < n) s (e : f j = s) (et : wideB s (p, q) = true) w => (by rw [← et]; exact hIw s (p, q) w (by rw [← e]; exact hwf j hj) hm : Calls Try.prog 24 #[.agg #[.string s.nm, .float .f32 s.lo, .float .f32 s.hi, .int .i64 s.fr, .int .i64 s.to], .agg #[.float .f32 p, .int .i64 q]] w fun e w' => e = .returned (.bool true) ∧ Below w.heap.size w w'))
    have HA := Lib.hid hA
    have HB := Lib.hid b1
    have HK := Lib.hid (show bestW n f (p, q) = -1 ∧ (soB n f = true → ∀ j, j < n → fitB (f j) (p, q) = false) ∨ soB n f = true ∧ ∃ k : Nat, bestW n f (p, q) = (k : Int) ∧ k < n ∧ fitB (f k) (p, q) = true ∧ wideB (f k) (p, q) = true ∧ ∀ j, j < k → fitB (f j) (p, q) = false from by
      unfold bestW
      cases hso : soB n f
      · left; exact ⟨rfl, fun h => by cases h⟩
      · rcases bs_first f (p, q) n 0 with ⟨h1, h2⟩ | ⟨k, h1, _, h3, h4, h5⟩
        · left; exact ⟨by rw [if_pos rfl]; exact h1, fun _ j hj => h2 j (Nat.zero_le _) (by omega)⟩
        · right
          have hk : k < n := by omega
          exact ⟨rfl, k, by rw [if_pos rfl]; exact h1, hk, h4, fit_wide (hwf k hk) hm ((soB_iff.1 hso).2 k hk).1 h4, fun j hj => h5 j (Nat.zero_le _) hj⟩)
    dsimp only at *
    generalize bestW n f (p, q) = K at *
    generalize soB n f = so at *
    have hst0 := Lib.hid (SoQ.new (w := w1) ⟨hv, Below.refl _ _⟩ #[.float .f32 p, .int .i64 q] 42)
    clear oS hrS hA hv hf hwf hm b1 hcode hr hbig hIo hIb hIf hIw hCs
    have b9 := cells2m hst0.out.2
    go_wp2_with fail
    generalize hW : w1.alloc _ = W at *
    generalize hgx : w1.heap.size = gx at *
    clear hW sa0
    rcases HK.out with ⟨rfl, hno⟩ | ⟨rfl, k, rfl, hk, hfk, hwk, hbef⟩
    · clear HK HW0
      have z7 : decide ((n : Int) ≤ -1) = false := decide_eq_false (by omega)
      go_wp2_with fail
      refine (HBS.out _ hst0.out.1.1).mono ?_
      rintro e w2 ⟨rfl, bl⟩
      have hst := hst0.out.step bl
      clear hst0 bl b9 HBS
      go_wp2
      haveI hne_hst5 : Nonempty (Held (fun wx => SoQ w1 gs 0 n f gx #[.float .f32 p, .int .i64 q] 42 wx)) := ⟨⟨_, hst⟩⟩
      refine wp_region_class (fun wx => SoQ w1 gs 0 n f gx #[.float .f32 p, .int .i64 q] 42 wx) (by kernel_rfl) (by kernel_rfl) (SoQ.drew hst) ?_
      repeat (go_big_quiet_step (first
        | (go_at_call 27; with_reducible exact held_call SoQ.step (HF0.out _))))
      refine wpQuiet_nil ?_
      intro wy_hst5 hw'
      obtain ⟨⟨wq_hst5, hst5⟩, rfl⟩ := hw'
      (try dsimp only)
      clear hne_hst5
      go_wp2
      go_loopw [6] (fun ii wr => ∃ i : Nat, i ≤ n ∧ ii = .int .i64 i ∧ SoQ w1 gs 0 n f gx #[.float .f32 p, .int .i64 q] 42 wr) (fun ii _ => n - (intOf ii).toNat)
      case atStart => exact ⟨0, Nat.zero_le _, rfl, hst5⟩
      case round =>
        clear hst5
        obtain ⟨i, hi, rfl, hst⟩ := hrel
        by_cases hlt : i < n
        · have z1 : (i : Int) < (n : Int) := by omega
          have z0 : (0 : Int) ≤ (i : Int) := by omega
          obtain rfl := HA.out (by omega)
          have HST := Lib.hid hst
          clear hst
          go_wp2_with fail
          refine (HO.out _ HST.out.1.1).mono ?_
          rintro e w3 ⟨rfl, bl⟩
          have hst := HST.out.step bl
          clear HST bl
          cases so
          · go_wp2
            go_ret
            exact ⟨rfl, HB.out.trans (hst.1.below.mono HB.out.size)⟩
          obtain ⟨s, hs⟩ : ∃ s, f i = s := ⟨_, rfl⟩
          have HE := Lib.hid hs
          have HF := Lib.hid (fun w => HF0.out i hlt s hs false (by rw [← hs]; exact hno rfl i hlt) w)
          clear hs
          have rs0 := fun x : Held (fun wx => SoQ w1 gs 0 n f gx #[.float .f32 p, .int .i64 q] 42 wx) => at_zero ((x.h.1.1.at hlt HE.out).1)
          have rs1 := fun x : Held (fun wx => SoQ w1 gs 0 n f gx #[.float .f32 p, .int .i64 q] 42 wx) => at_zero' ((x.h.1.1.at hlt HE.out).2.1)
          have rs2 := fun x : Held (fun wx => SoQ w1 gs 0 n f gx #[.float .f32 p, .int .i64 q] 42 wx) => at_zero' ((x.h.1.1.at hlt HE.out).2.2.1)
          have rs3 := fun x : Held (fun wx => SoQ w1 gs 0 n f gx #[.float .f32 p, .int .i64 q] 42 wx) => at_zero' ((x.h.1.1.at hlt HE.out).2.2.2.1)
          have rs4 := fun x : Held (fun wx => SoQ w1 gs 0 n f gx #[.float .f32 p, .int .i64 q] 42 wx) => at_zero' ((x.h.1.1.at hlt HE.out).2.2.2.2)
          have rq0 := fun x : Held (fun wx => SoQ w1 gs 0 n f gx #[.float .f32 p, .int .i64 q] 42 wx) => (cells2m x.h.2).1
          have rq1 := fun x : Held (fun wx => SoQ w1 gs 0 n f gx #[.float .f32 p, .int .i64 q] 42 wx) => (cells2m x.h.2).2
          go_wp2
          haveI hne_hst6 : Nonempty (Held (fun wx => SoQ w1 gs 0 n f gx #[.float .f32 p, .int .i64 q] 42 wx)) := ⟨⟨_, hst⟩⟩
          refine wp_region_class (fun wx => SoQ w1 gs 0 n f gx #[.float .f32 p, .int .i64 q] 42 wx) (by kernel_rfl) (by kernel_rfl) (SoQ.drew hst) ?_
          repeat (go_big_quiet_step (first
            | (go_at_call 27; with_reducible exact held_call SoQ.step (HF.out _))))
          refine wpQuiet_nil ?_
          intro wy_hst6 hw'
          obtain ⟨⟨wq_hst6, hst6⟩, rfl⟩ := hw'
          (try dsimp only)
          clear hne_hst6
          go_wp2_with fail
          go_roundw
          case rel => exact ⟨i + 1, by omega, by go_num, hst6⟩
          case measure => simp [intOf]; omega
        · obtain rfl : i = n := by omega
          have z1 : ¬ ((i : Int) < (i : Int)) := by omega
          go_wp2
          go_ret
          exact ⟨rfl, HB.out.trans (hst.1.below.mono HB.out.size)⟩
    · clear HK
      have z7 : decide ((n : Int) ≤ (k : Int)) = false := decide_eq_false (by omega)
      have z77 : decide (n ≤ k) = false := decide_eq_false (by omega)
      have z66 : decide ((0 : Int) ≤ (k : Int)) = true := decide_eq_true (by omega)
      have z99 : decide ((k : Int) < 0) = false := decide_eq_false (by omega)
      have z6 : (0 : Int) ≤ (k : Int) := by omega
      have z5 : (k : Int) < (n : Int) := by omega
      have z4 : (-1 : Int) ≤ (k : Int) := by omega
      have hAA := HA.out (by omega)
      obtain ⟨s, hs⟩ : ∃ s, f k = s := ⟨_, rfl⟩
      have HE := Lib.hid hs
      have HF := Lib.hid (fun w => HF0.out k hk s hs true (by rw [← hs]; exact hfk) w)
      have HW := Lib.hid (fun w => HW0.out k hk s hs (by rw [← hs]; exact hwk) w)
      clear hs hfk hwk HW0
      subst hAA
      go_wp2_with fail
      refine (HBS.out _ hst0.out.1.1).mono ?_
      rintro e w2 ⟨rfl, bl⟩
      have hst := hst0.out.step bl
      clear hst0 bl b9 HBS
      have rs0 := fun x : Held (fun wx => SoQ w1 gs 0 n f gx #[.float .f32 p, .int .i64 q] 42 wx) => at_zero ((x.h.1.1.at hk HE.out).1)
      have rs1 := fun x : Held (fun wx => SoQ w1 gs 0 n f gx #[.float .f32 p, .int .i64 q] 42 wx) => at_zero' ((x.h.1.1.at hk HE.out).2.1)
      have rs2 := fun x : Held (fun wx => SoQ w1 gs 0 n f gx #[.float .f32 p, .int .i64 q] 42 wx) => at_zero' ((x.h.1.1.at hk HE.out).2.2.1)
      have rs3 := fun x : Held (fun wx => SoQ w1 gs 0 n f gx #[.float .f32 p, .int .i64 q] 42 wx) => at_zero' ((x.h.1.1.at hk HE.out).2.2.2.1)
      have rs4 := fun x : Held (fun wx => SoQ w1 gs 0 n f gx #[.float .f32 p, .int .i64 q] 42 wx) => at_zero' ((x.h.1.1.at hk HE.out).2.2.2.2)
      have rq0 := fun x : Held (fun wx => SoQ w1 gs 0 n f gx #[.float .f32 p, .int .i64 q] 42 wx) => (cells2m x.h.2).1
      have rq1 := fun x : Held (fun wx => SoQ w1 gs 0 n f gx #[.float .f32 p, .int .i64 q] 42 wx) => (cells2m x.h.2).2
      go_wp2
      haveI hne_hst5 : Nonempty (Held (fun wx => SoQ w1 gs 0 n f gx #[.float .f32 p, .int .i64 q] 42 wx)) := ⟨⟨_, hst⟩⟩
      refine wp_region_class (fun wx => SoQ w1 gs 0 n f gx #[.float .f32 p, .int .i64 q] 42 wx) (by kernel_rfl) (by kernel_rfl) (SoQ.drew hst) ?_
      repeat (go_big_quiet_step (first
        | (go_at_call 27; with_reducible exact held_call SoQ.step (HF.out _))
        | (go_at_call 24; with_reducible exact held_call SoQ.step (HW.out _))))
      refine wpQuiet_nil ?_
      intro wy_hst5 hw'
      obtain ⟨⟨wq_hst5, hst5⟩, rfl⟩ := hw'
      (try dsimp only)
      clear hne_hst5
      clear rs0 rs1 rs2 rs3 rs4 rq0 rq1 HF HW HE
      go_wp2
      go_loopw [6] (fun ii wr => ∃ i : Nat, i ≤ n ∧ ii = .int .i64 i ∧ SoQ w1 gs 0 n f gx #[.float .f32 p, .int .i64 q] 42 wr) (fun ii _ => n - (intOf ii).toNat)
      case atStart => exact ⟨0, Nat.zero_le _, rfl, hst5⟩
      case round =>
        clear hst5
        obtain ⟨i, hi, rfl, hst⟩ := hrel
        by_cases hlt : i < n
        · have z1 : (i : Int) < (n : Int) := by omega
          have z0 : (0 : Int) ≤ (i : Int) := by omega
          
          have HST := Lib.hid hst
          clear hst
          go_wp2_with fail
          refine (HO.out _ HST.out.1.1).mono ?_
          rintro e w3 ⟨rfl, bl⟩
          have hst := HST.out.step bl
          clear HST bl
          obtain ⟨s, hs⟩ : ∃ s, f i = s := ⟨_, rfl⟩
          have HE := Lib.hid hs
          obtain ⟨t, ht⟩ : ∃ t, fitB s (p, q) = t := ⟨_, rfl⟩
          have HF := Lib.hid (fun w => HF0.out i hlt s hs t ht w)
          have zk : t = true → ¬ (i : Int) < (k : Int) := fun e h => by
            have := hbef i (by omega)
            rw [hs, ht, e] at this
            cases this
          have z9 : ¬ (k : Int) < 0 := by omega
          clear hs ht
          have rs0 := fun x : Held (fun wx => SoQ w1 gs 0 n f gx #[.float .f32 p, .int .i64 q] 42 wx) => at_zero ((x.h.1.1.at hlt HE.out).1)
          have rs1 := fun x : Held (fun wx => SoQ w1 gs 0 n f gx #[.float .f32 p, .int .i64 q] 42 wx) => at_zero' ((x.h.1.1.at hlt HE.out).2.1)
          have rs2 := fun x : Held (fun wx => SoQ w1 gs 0 n f gx #[.float .f32 p, .int .i64 q] 42 wx) => at_zero' ((x.h.1.1.at hlt HE.out).2.2.1)
          have rs3 := fun x : Held (fun wx => SoQ w1 gs 0 n f gx #[.float .f32 p, .int .i64 q] 42 wx) => at_zero' ((x.h.1.1.at hlt HE.out).2.2.2.1)
          have rs4 := fun x : Held (fun wx => SoQ w1 gs 0 n f gx #[.float .f32 p, .int .i64 q] 42 wx) => at_zero' ((x.h.1.1.at hlt HE.out).2.2.2.2)
          have rq0 := fun x : Held (fun wx => SoQ w1 gs 0 n f gx #[.float .f32 p, .int .i64 q] 42 wx) => (cells2m x.h.2).1
          have rq1 := fun x : Held (fun wx => SoQ w1 gs 0 n f gx #[.float .f32 p, .int .i64 q] 42 wx) => (cells2m x.h.2).2
          cases t
          · clear zk
            go_wp2
            haveI hne_hst6 : Nonempty (Held (fun wx => SoQ w1 gs 0 n f gx #[.float .f32 p, .int .i64 q] 42 wx)) := ⟨⟨_, hst⟩⟩
            refine wp_region_class (fun wx => SoQ w1 gs 0 n f gx #[.float .f32 p, .int .i64 q] 42 wx) (by kernel_rfl) (by kernel_rfl) (SoQ.drew hst) ?_
            repeat (go_big_quiet_step (first
              | (go_at_call 27; with_reducible exact held_call SoQ.step (HF.out _))))
            refine wpQuiet_nil ?_
            intro wy_hst6 hw'
            obtain ⟨⟨wq_hst6, hst6⟩, rfl⟩ := hw'
            (try dsimp only)
            clear hne_hst6
            go_wp2_with fail
            go_roundw
            case rel => exact ⟨i + 1, by omega, by go_num, hst6⟩
            case measure => simp [intOf]; omega
          · have z8 := decide_eq_false (zk rfl)
            have z88 : decide (i < k) = false := decide_eq_false (by have := zk rfl; omega)
            clear zk
            go_wp2
            haveI hne_hst6 : Nonempty (Held (fun wx => SoQ w1 gs 0 n f gx #[.float .f32 p, .int .i64 q] 42 wx)) := ⟨⟨_, hst⟩⟩
            refine wp_region_class (fun wx => SoQ w1 gs 0 n f gx #[.float .f32 p, .int .i64 q] 42 wx) (by kernel_rfl) (by kernel_rfl) (SoQ.drew hst) ?_
            repeat (go_big_quiet_step (first
              | (go_at_call 27; with_reducible exact held_call SoQ.step (HF.out _))))
            refine wpQuiet_nil ?_
            intro wy_hst6 hw'
            obtain ⟨⟨wq_hst6, hst6⟩, rfl⟩ := hw'
            (try dsimp only)
            clear hne_hst6
            go_wp2_with fail
            go_roundw
            case rel => exact ⟨i + 1, by omega, by go_num, hst6⟩
            case measure => simp [intOf]; omega
        · obtain rfl : i = n := by omega
          have z1 : ¬ ((i : Int) < (i : Int)) := by omega
          go_wp2
          go_ret
          exact ⟨rfl, HB.out.trans (hst.1.below.mono HB.out.size)⟩
  · have hb : (len : Int) > 1048576 := by omega
    go_enter Try.func5, Try.ntmps5
    go_wp2_with (go_at_call 15; go_in)
    go_ret
    exact ⟨rfl, Below.refl _ _⟩
end Go.Proofs.Ytlliiecdadiagaa

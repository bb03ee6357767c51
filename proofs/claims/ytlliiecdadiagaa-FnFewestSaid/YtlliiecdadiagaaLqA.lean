/- The walk of FnKept, over contracts. -/
import Derived.Test.YtlliiecdadiagaaLpZ
import Derived.Test.YtlliiecdadiagaaLpR
namespace Go.Proofs.Ytlliiecdadiagaa
open Go.RowKit
set_option linter.unusedVariables false
set_option linter.unusedSimpArgs false

/-- Sails, moments, and what is answered. -/
def KpS (w : World) (g n : Nat) (f : Nat → Sl) (tg nm : Nat) (ms : Nat → Mm) (Ao : Option Addr) (nl go : Nat) (F : Nat → Int) (wr : World) : Prop := SmS w g 0 n f tg 0 nm ms wr ∧ InB wr Ao nl go F
theorem KpS.step {w w1 w2 : World} {g n : Nat} {f : Nat → Sl} {tg nm : Nat} {ms : Nat → Mm} {Ao : Option Addr} {nl go : Nat} {F : Nat → Int} (h : KpS w g n f tg nm ms Ao nl go F w1) (b : Below w1.heap.size w1 w2) : KpS w g n f tg nm ms Ao nl go F w2 := ⟨h.1.step b, h.2.below b (Nat.le_refl _)⟩
theorem KpS.drew {w w1 : World} {g n : Nat} {f : Nat → Sl} {tg nm : Nat} {ms : Nat → Mm} {Ao : Option Addr} {nl go : Nat} {F : Nat → Int} (h : KpS w g n f tg nm ms Ao nl go F w1) : KpS w g n f tg nm ms Ao nl go F w1.drew := ⟨h.1.drew, h.2.same (fun _ => rfl)⟩
/-- The next of what is answered. -/
theorem run_next {n : Nat} {f : Nat → Sl} {ms : Nat → Mm} {nm i : Nat} {x : Int} {L : List Int} (hi : i < nm) (h : ∃ xs : List Int, xs.length = i ∧ L = xs ++ runFrom n f ms (nm - i) i x) :
    L.getD i 0 = keepW n f x (ms i) ∧ ∃ xs : List Int, xs.length = i + 1 ∧ L = xs ++ runFrom n f ms (nm - (i + 1)) (i + 1) (keepW n f x (ms i)) := by
  obtain ⟨xs, hl, rfl⟩ := h
  rw [show nm - i = (nm - (i + 1)) + 1 by omega, show runFrom n f ms ((nm - (i + 1)) + 1) i x = keepW n f x (ms i) :: runFrom n f ms (nm - (i + 1)) (i + 1) (keepW n f x (ms i)) from rfl]
  refine ⟨by rw [← hl]; simp [List.getD], xs ++ [keepW n f x (ms i)], by simp [hl], by simp⟩
set_option maxRecDepth 100000 in
set_option maxHeartbeats 8000000 in
theorem wo_FnKept (hCs : ∀ (w : World) (B g len cap : Nat) (A : Option Addr), Cur w B g A len cap → Calls Try.prog 53 #[.pointer (some ⟨g, 0, none⟩)] w fun e w' => ∃ (v : Value) (n : Nat), n ≤ 20 ∧ e = .returned v ∧ OwnSa w' w.heap.size v n ∧ Cur w' B g A len cap ∧ w.grownBy w' (some g))
    (hIb : ∀ (f : Nat → Sl) (m : Mm) (A : Option Addr) (g o n cap : Nat) (w : World), n ≤ 1048576 → n ≤ cap → (0 < n → A = some ⟨g, o, none⟩) → SlsIn w g o n f → (∀ j, j < n → SlWf (f j)) → MmWf m → Calls Try.prog 25 #[.slice A n cap, .agg #[.float .f32 m.1, .int .i64 m.2]] w fun e w' => e = .returned (.int .i64 (bestW n f m)) ∧ Below w.heap.size w w')
    (hIw : ∀ (s : Sl) (m : Mm) (w : World), SlWf s → MmWf m → Calls Try.prog 24 #[.agg #[.string s.nm, .float .f32 s.lo, .float .f32 s.hi, .int .i64 s.fr, .int .i64 s.to], .agg #[.float .f32 m.1, .int .i64 m.2]] w fun e w' => e = .returned (.bool (wideB s m)) ∧ Below w.heap.size w w')
    (hIr : ∀ (f : Nat → Sl) (a : Int) (ms : Nat → Mm) (A : Option Addr) (g o n cap : Nat) (TA : Option Addr) (tg tO nm tcap : Nat) (w : World), n ≤ 1048576 → n ≤ cap → (0 < n → A = some ⟨g, o, none⟩) → SlsIn w g o n f → (∀ j, j < n → SlWf (f j)) → nm ≤ 1048576 → (0 < nm → TA = some ⟨tg, tO, none⟩) → MmsIn w tg tO nm ms → (∀ j, j < nm → MmWf (ms j)) → Calls Try.prog 22 #[.slice A n cap, .int .i64 a, .slice TA nm tcap] w (PlE 3 w (runW n f a nm ms)))
    (a0 : Option Addr) (len cap : Nat) (zs : List Int) (w : World) (hr : IsRow .u8 w a0 len cap zs) :
    Calls Try.prog 4 #[.slice a0 len cap] w fun e w' => e = .returned (.bool true) ∧ Below w.heap.size w w' := by
  by_cases hbig : len ≤ 1048576
  · have hcode := code_of_row hr hbig
    go_enter Try.func4, Try.ntmps4
    go_wp2_with (first
      | (go_at_call 15; go_in)
      | (go_at_call 21; ((with_reducible refine (d_runS hCs _ len cap a0 hcode).mono ?_); rintro e w1 ⟨v, n, a, vm, nm, hn, hnm, _, rfl, oS, oM, b1⟩)))
    obtain ⟨Av, cv, gs, f, rfl, hA, hv, hf, _⟩ := oS.list
    have hrS := oS.room
    obtain ⟨At, ct, gt, ms, rfl, hT, hv2, hmf, _⟩ := oM.list
    have hwf : ∀ j, j < n → SlWf (f j) := fun j h => (hf j h).wf
    have HO := Lib.hid (fun w (h : SlsIn w gs 0 n f) => s_so f Av gs 0 n cv w (by omega) hA h hwf)
    have HR := Lib.hid (fun w (h : SlsIn w gs 0 n f) (h' : MmsIn w gt 0 nm ms) => hIr f a ms Av gs 0 n cv At gt 0 nm ct w (by omega) hrS hA h hwf (by omega) hT h' hmf)
    have HBS := Lib.hid (fun j (hj : j < nm) w (h : SlsIn w gs 0 n f) => hIb f (ms j) Av gs 0 n cv w (by omega) hrS hA h hwf (hmf j hj))
    have HW0 := Lib.hid (fun j (hj : j < n) i (hi : i < nm) s (e : f j = s) m (em : ms i = m) t (et : wideB s m = t) w => (by rw [← et]; exact hIw s m w (by rw [← e]; exact hwf j hj) (by rw [← em]; exact hmf i hi) : Calls Try.prog 24 #[.agg #[.string s.nm, .float .f32 s.lo, .float .f32 s.hi, .int .i64 s.fr, .int .i64 s.to], .agg #[.float .f32 m.1, .int .i64 m.2]] w fun e w' => e = .returned (.bool t) ∧ Below w.heap.size w w'))
    have HA := Lib.hid (And.intro hA hT)
    have HB := Lib.hid b1
    have hst0 := Lib.hid (show SmS w1 gs 0 n f gt 0 nm ms w1 from ⟨hv, hv2, Below.refl _ _⟩)
    have HL := Lib.hid (show (soB n f = true ∧ nm ≤ 60) ∧ runW n f a nm ms = runFrom n f ms nm 0 a ∨ ¬ (soB n f = true ∧ nm ≤ 60) ∧ runW n f a nm ms = [] from by
      unfold runW
      by_cases h : soB n f = true ∧ nm ≤ 60
      · exact .inl ⟨h, if_pos h⟩
      · exact .inr ⟨h, if_neg h⟩)
    have HKW := Lib.hid (show soB n f = true → ∀ x m, keepW n f x m = if (0 ≤ x ∧ x < (n : Int)) ∧ wideB (f x.toNat) m = true then x else bestW n f m from fun h x m => by unfold keepW; rw [if_pos h])
    generalize runW n f a nm ms = L at *
    clear oS oM hrS hA hT hv hv2 hf hwf hmf b1 hcode hr hbig hIb hIw hIr hCs
    go_wp2_with fail
    refine (HR.out _ hst0.out.1 hst0.out.2.1).mono ?_
    rintro e w2 ⟨v, rfl, hown, bl⟩
    obtain ⟨Ao, co, go, rfl, hin, _⟩ := InB.of_owns hown
    have hst := Lib.hid (show KpS w1 gs n f gt nm ms Ao L.length go (fun j => L.getD j 0) w2 from ⟨hst0.out.step bl, hin⟩)
    clear hst0 bl hown hin HR
    obtain ⟨nl, hnl⟩ : ∃ nl, L.length = nl := ⟨_, rfl⟩
    rw [hnl] at hst ⊢
    obtain ⟨F, hF⟩ : ∃ F : Nat → Int, (fun j => L.getD j 0) = F := ⟨_, rfl⟩
    rw [hF] at hst
    go_wp2_with fail
    refine (HO.out _ hst.out.1.1).mono ?_
    rintro e w3 ⟨rfl, bl⟩
    have hs2 := Lib.hid (hst.out.step bl)
    clear hst bl HO
    have hst := hs2
    clear hs2
    rcases HL.out with ⟨⟨hso, h60⟩, rfl⟩ | ⟨hno, rfl⟩
    · have HN := Lib.hid (HKW.out hso)
      rw [hso]
      rw [run_length] at hnl
      subst hnl
      have z1 : ¬ (60 < (nm : Int)) := by omega
      have z2 : decide (60 < nm) = false := decide_eq_false (by omega)
      have z3 : ((nm : Int) != (nm : Int)) = false := by simp
      have hst5 := hst.out
      have HF := Lib.hid hF
      clear hst HL HKW hso h60 hF
      go_wp2
      go_loopw [7, 4] (fun ii aa wr => ∃ (i : Nat) (x : Int), i ≤ nm ∧ ii = .int .i64 i ∧ aa = .int .i64 x ∧ (∃ xs : List Int, xs.length = i ∧ runFrom n f ms nm 0 a = xs ++ runFrom n f ms (nm - i) i x) ∧ KpS w1 gs n f gt nm ms Ao nm go F wr) (fun ii _ _ => nm - (intOf ii).toNat)
      case atStart => exact ⟨0, a, Nat.zero_le _, rfl, rfl, ⟨[], rfl, by simp⟩, hst5⟩
      case round =>
        clear hst5
        obtain ⟨i, x, hi, rfl, rfl, hx, hst⟩ := hrel
        by_cases hlt : i < nm
        · have z4 : (i : Int) < (nm : Int) := by omega
          have z5 : (0 : Int) ≤ (i : Int) := by omega
          obtain ⟨hr1, hr2⟩ := run_next hlt hx
          rw [HN.out] at hr1 hr2
          have hFi : F i = (runFrom n f ms nm 0 a).getD i 0 := by rw [← HF.out]
          rw [hr1] at hFi
          obtain ⟨rfl, _⟩ := hst.2.at hlt
          obtain rfl := HA.out.2 (by omega)
          obtain ⟨⟨p, q⟩, hm⟩ : ∃ m, ms i = m := ⟨_, rfl⟩
          have HE := Lib.hid hm
          have HBI := Lib.hid (fun w (h : SlsIn w gs 0 n f) => HBS.out i hlt w h)
          rw [hm] at HBI hr2 hFi
          obtain ⟨bw, hbw⟩ : ∃ bw, bestW n f (p, q) = bw := ⟨_, rfl⟩
          rw [hbw] at HBI hr2 hFi
          have z9 : (bw != bw) = false := by simp
          have z8 : (x != x) = false := by simp
          have HBI2 := Lib.hid (fun s : Held (fun wx => KpS w1 gs n f gt nm ms (some ⟨go, 0, none⟩) nm go F wx) => HBI.out s.w s.h.1.1)
          clear HBI
          by_cases hx0 : 0 ≤ x
          · by_cases hxn : x < (n : Int)
            · obtain ⟨kk, rfl⟩ : ∃ kk : Nat, x = kk := ⟨x.toNat, by omega⟩
              have hkn : kk < n := by omega
              obtain rfl := HA.out.1 (by omega)
              obtain ⟨s, hs⟩ : ∃ s, f kk = s := ⟨_, rfl⟩
              have HS := Lib.hid hs
              have c1 : decide ((0 : Int) ≤ (kk : Int)) = true := decide_eq_true (by omega)
              have c2 : decide ((kk : Int) < (n : Int)) = true := decide_eq_true (by omega)
              have c3 : decide (kk < n) = true := decide_eq_true hkn
              obtain ⟨t, ht⟩ : ∃ t, wideB s (p, q) = t := ⟨_, rfl⟩
              have HW := Lib.hid (fun w => HW0.out kk hkn i hlt s hs (p, q) hm t ht w)
              dsimp only at HW
              rw [Int.toNat_natCast, hs, ht] at hr2 hFi
              clear hs ht
              have rs0 := fun y : Held (fun wx => KpS w1 gs n f gt nm ms (some ⟨go, 0, none⟩) nm go F wx) => at_zero ((y.h.1.1.at hkn HS.out).1)
              have rs1 := fun y : Held (fun wx => KpS w1 gs n f gt nm ms (some ⟨go, 0, none⟩) nm go F wx) => at_zero' ((y.h.1.1.at hkn HS.out).2.1)
              have rs2 := fun y : Held (fun wx => KpS w1 gs n f gt nm ms (some ⟨go, 0, none⟩) nm go F wx) => at_zero' ((y.h.1.1.at hkn HS.out).2.2.1)
              have rs3 := fun y : Held (fun wx => KpS w1 gs n f gt nm ms (some ⟨go, 0, none⟩) nm go F wx) => at_zero' ((y.h.1.1.at hkn HS.out).2.2.2.1)
              have rs4 := fun y : Held (fun wx => KpS w1 gs n f gt nm ms (some ⟨go, 0, none⟩) nm go F wx) => at_zero' ((y.h.1.1.at hkn HS.out).2.2.2.2)
              cases t
              · rw [if_neg (by simp)] at hr2 hFi
                have HNX := Lib.hid hr2
                have HFI := Lib.hid hFi
                clear hr1 hr2 hFi hx hm hbw
                have rq0 := fun y : Held (fun wx => KpS w1 gs n f gt nm ms (some ⟨go, 0, none⟩) nm go F wx) => at_zero (y.h.1.2.1.at hlt HE.out).1
                have rq1 := fun y : Held (fun wx => KpS w1 gs n f gt nm ms (some ⟨go, 0, none⟩) nm go F wx) => at_zero' (y.h.1.2.1.at hlt HE.out).2
                have ro := fun y : Held (fun wx => KpS w1 gs n f gt nm ms (some ⟨go, 0, none⟩) nm go F wx) => (show y.w.cell? ⟨go, i, none⟩ = some (.int .i64 bw) from by have e := (y.h.2.at hlt).2; rwa [HFI.out] at e)
                have HST := hst
                clear hst
                go_wp2
                haveI hne_hst6 : Nonempty (Held (fun wx => KpS w1 gs n f gt nm ms (some ⟨go, 0, none⟩) nm go F wx)) := ⟨⟨_, HST⟩⟩
                refine wp_region_class (fun wx => KpS w1 gs n f gt nm ms (some ⟨go, 0, none⟩) nm go F wx) (by kernel_rfl) (by kernel_rfl) (KpS.drew HST) ?_
                repeat (go_big_quiet_step (first
                  | (go_at_call 24; with_reducible exact held_call KpS.step (HW.out _))))
                refine wpQuiet_nil ?_
                intro wy_hst6 hw'
                obtain ⟨⟨wq_hst6, hst6⟩, rfl⟩ := hw'
                (try dsimp only)
                clear hne_hst6
                go_wp2
                haveI hne_hst7 : Nonempty (Held (fun wx => KpS w1 gs n f gt nm ms (some ⟨go, 0, none⟩) nm go F wx)) := ⟨⟨_, hst6⟩⟩
                refine wp_region_class (fun wx => KpS w1 gs n f gt nm ms (some ⟨go, 0, none⟩) nm go F wx) (by kernel_rfl) (by kernel_rfl) (KpS.drew hst6) ?_
                repeat (go_big_quiet_step (first
                  | (go_at_call 25; with_reducible exact held_call KpS.step (HBI2.out _))))
                refine wpQuiet_nil ?_
                intro wy_hst7 hw'
                obtain ⟨⟨wq_hst7, hst7⟩, rfl⟩ := hw'
                (try dsimp only)
                clear hne_hst7
                have ro7 : _ := ro ⟨_, hst7⟩
                dsimp only at ro7
                go_wp2_with fail
                go_roundw
                case rel => exact ⟨i + 1, bw, by omega, by go_num, rfl, HNX.out, hst7⟩
                case measure => simp [intOf]; omega
              · rw [if_pos ⟨⟨hx0, hxn⟩, rfl⟩] at hr2 hFi
                have HNX := Lib.hid hr2
                have HFI := Lib.hid hFi
                clear hr1 hr2 hFi hx hm hbw
                have rq0 := fun y : Held (fun wx => KpS w1 gs n f gt nm ms (some ⟨go, 0, none⟩) nm go F wx) => at_zero (y.h.1.2.1.at hlt HE.out).1
                have rq1 := fun y : Held (fun wx => KpS w1 gs n f gt nm ms (some ⟨go, 0, none⟩) nm go F wx) => at_zero' (y.h.1.2.1.at hlt HE.out).2
                have ro := fun y : Held (fun wx => KpS w1 gs n f gt nm ms (some ⟨go, 0, none⟩) nm go F wx) => (show y.w.cell? ⟨go, i, none⟩ = some (.int .i64 (kk : Int)) from by have e := (y.h.2.at hlt).2; rwa [HFI.out] at e)
                have HST := hst
                clear hst
                go_wp2
                haveI hne_hst6 : Nonempty (Held (fun wx => KpS w1 gs n f gt nm ms (some ⟨go, 0, none⟩) nm go F wx)) := ⟨⟨_, HST⟩⟩
                refine wp_region_class (fun wx => KpS w1 gs n f gt nm ms (some ⟨go, 0, none⟩) nm go F wx) (by kernel_rfl) (by kernel_rfl) (KpS.drew HST) ?_
                repeat (go_big_quiet_step (first
                  | (go_at_call 24; with_reducible exact held_call KpS.step (HW.out _))))
                refine wpQuiet_nil ?_
                intro wy_hst6 hw'
                obtain ⟨⟨wq_hst6, hst6⟩, rfl⟩ := hw'
                (try dsimp only)
                clear hne_hst6
                go_wp2
                haveI hne_hst7 : Nonempty (Held (fun wx => KpS w1 gs n f gt nm ms (some ⟨go, 0, none⟩) nm go F wx)) := ⟨⟨_, hst6⟩⟩
                refine wp_region_class (fun wx => KpS w1 gs n f gt nm ms (some ⟨go, 0, none⟩) nm go F wx) (by kernel_rfl) (by kernel_rfl) (KpS.drew hst6) ?_
                repeat (go_big_quiet_step (first
                  | (go_at_call 25; with_reducible exact held_call KpS.step (HBI2.out _))))
                refine wpQuiet_nil ?_
                intro wy_hst7 hw'
                obtain ⟨⟨wq_hst7, hst7⟩, rfl⟩ := hw'
                (try dsimp only)
                clear hne_hst7
                have ro7 : _ := ro ⟨_, hst7⟩
                dsimp only at ro7
                go_wp2_with fail
                go_roundw
                case rel => exact ⟨i + 1, (kk : Int), by omega, by go_num, rfl, HNX.out, hst7⟩
                case measure => simp [intOf]; omega
            · have c1 : decide ((0 : Int) ≤ x) = true := decide_eq_true hx0
              have c2 : decide (x < (n : Int)) = false := decide_eq_false hxn
              rw [if_neg (fun h => hxn h.1.2)] at hr2 hFi
              have HNX := Lib.hid hr2
              have HFI := Lib.hid hFi
              clear hr1 hr2 hFi hx hm hbw
              have rq0 := fun y : Held (fun wx => KpS w1 gs n f gt nm ms (some ⟨go, 0, none⟩) nm go F wx) => at_zero (y.h.1.2.1.at hlt HE.out).1
              have rq1 := fun y : Held (fun wx => KpS w1 gs n f gt nm ms (some ⟨go, 0, none⟩) nm go F wx) => at_zero' (y.h.1.2.1.at hlt HE.out).2
              have ro := fun y : Held (fun wx => KpS w1 gs n f gt nm ms (some ⟨go, 0, none⟩) nm go F wx) => (show y.w.cell? ⟨go, i, none⟩ = some (.int .i64 bw) from by have e := (y.h.2.at hlt).2; rwa [HFI.out] at e)
              have HST := hst
              clear hst
              go_wp2
              haveI hne_hst6 : Nonempty (Held (fun wx => KpS w1 gs n f gt nm ms (some ⟨go, 0, none⟩) nm go F wx)) := ⟨⟨_, HST⟩⟩
              refine wp_region_class (fun wx => KpS w1 gs n f gt nm ms (some ⟨go, 0, none⟩) nm go F wx) (by kernel_rfl) (by kernel_rfl) (KpS.drew HST) ?_
              repeat (go_big_quiet_step (first
                | (go_at_call 24; with_reducible exact held_call KpS.step (HW0.out _))))
              refine wpQuiet_nil ?_
              intro wy_hst6 hw'
              obtain ⟨⟨wq_hst6, hst6⟩, rfl⟩ := hw'
              (try dsimp only)
              clear hne_hst6
              go_wp2
              haveI hne_hst7 : Nonempty (Held (fun wx => KpS w1 gs n f gt nm ms (some ⟨go, 0, none⟩) nm go F wx)) := ⟨⟨_, hst6⟩⟩
              refine wp_region_class (fun wx => KpS w1 gs n f gt nm ms (some ⟨go, 0, none⟩) nm go F wx) (by kernel_rfl) (by kernel_rfl) (KpS.drew hst6) ?_
              repeat (go_big_quiet_step (first
                | (go_at_call 25; with_reducible exact held_call KpS.step (HBI2.out _))))
              refine wpQuiet_nil ?_
              intro wy_hst7 hw'
              obtain ⟨⟨wq_hst7, hst7⟩, rfl⟩ := hw'
              (try dsimp only)
              clear hne_hst7
              have ro7 : _ := ro ⟨_, hst7⟩
              dsimp only at ro7
              go_wp2_with fail
              go_roundw
              case rel => exact ⟨i + 1, bw, by omega, by go_num, rfl, HNX.out, hst7⟩
              case measure => simp [intOf]; omega
          · have c1 : decide ((0 : Int) ≤ x) = false := decide_eq_false hx0
            rw [if_neg (fun h => hx0 h.1.1)] at hr2 hFi
            have HNX := Lib.hid hr2
            have HFI := Lib.hid hFi
            clear hr1 hr2 hFi hx hm hbw
            have rq0 := fun y : Held (fun wx => KpS w1 gs n f gt nm ms (some ⟨go, 0, none⟩) nm go F wx) => at_zero (y.h.1.2.1.at hlt HE.out).1
            have rq1 := fun y : Held (fun wx => KpS w1 gs n f gt nm ms (some ⟨go, 0, none⟩) nm go F wx) => at_zero' (y.h.1.2.1.at hlt HE.out).2
            have ro := fun y : Held (fun wx => KpS w1 gs n f gt nm ms (some ⟨go, 0, none⟩) nm go F wx) => (show y.w.cell? ⟨go, i, none⟩ = some (.int .i64 bw) from by have e := (y.h.2.at hlt).2; rwa [HFI.out] at e)
            have HST := hst
            clear hst
            go_wp2
            haveI hne_hst6 : Nonempty (Held (fun wx => KpS w1 gs n f gt nm ms (some ⟨go, 0, none⟩) nm go F wx)) := ⟨⟨_, HST⟩⟩
            refine wp_region_class (fun wx => KpS w1 gs n f gt nm ms (some ⟨go, 0, none⟩) nm go F wx) (by kernel_rfl) (by kernel_rfl) (KpS.drew HST) ?_
            repeat (go_big_quiet_step (first
              | (go_at_call 24; with_reducible exact held_call KpS.step (HW0.out _))))
            refine wpQuiet_nil ?_
            intro wy_hst6 hw'
            obtain ⟨⟨wq_hst6, hst6⟩, rfl⟩ := hw'
            (try dsimp only)
            clear hne_hst6
            go_wp2
            haveI hne_hst7 : Nonempty (Held (fun wx => KpS w1 gs n f gt nm ms (some ⟨go, 0, none⟩) nm go F wx)) := ⟨⟨_, hst6⟩⟩
            refine wp_region_class (fun wx => KpS w1 gs n f gt nm ms (some ⟨go, 0, none⟩) nm go F wx) (by kernel_rfl) (by kernel_rfl) (KpS.drew hst6) ?_
            repeat (go_big_quiet_step (first
              | (go_at_call 25; with_reducible exact held_call KpS.step (HBI2.out _))))
            refine wpQuiet_nil ?_
            intro wy_hst7 hw'
            obtain ⟨⟨wq_hst7, hst7⟩, rfl⟩ := hw'
            (try dsimp only)
            clear hne_hst7
            have ro7 : _ := ro ⟨_, hst7⟩
            dsimp only at ro7
            go_wp2_with fail
            go_roundw
            case rel => exact ⟨i + 1, bw, by omega, by go_num, rfl, HNX.out, hst7⟩
            case measure => simp [intOf]; omega
        · obtain rfl : i = nm := by omega
          have z4 : ¬ ((i : Int) < (i : Int)) := by omega
          go_wp2
          go_ret
          exact ⟨rfl, HB.out.trans (hst.1.2.2.mono HB.out.size)⟩
    · obtain rfl : nl = 0 := by simpa using hnl.symm
      clear HL HKW hF hnl
      cases hso : soB n f
      · go_wp2
        go_ret
        exact ⟨rfl, HB.out.trans (hst.out.1.2.2.mono HB.out.size)⟩
      · have z1 : (60 : Int) < (nm : Int) := by have : ¬ nm ≤ 60 := fun h => hno ⟨hso, h⟩; omega
        have z2 : decide (60 < nm) = true := decide_eq_true (by omega)
        clear hno hso
        go_wp2
        go_ret
        exact ⟨rfl, HB.out.trans (hst.out.1.2.2.mono HB.out.size)⟩
  · have hb : (len : Int) > 1048576 := by omega
    go_enter Try.func4, Try.ntmps4
    go_wp2_with (go_at_call 15; go_in)
    go_ret
    exact ⟨rfl, Below.refl _ _⟩
end Go.Proofs.Ytlliiecdadiagaa

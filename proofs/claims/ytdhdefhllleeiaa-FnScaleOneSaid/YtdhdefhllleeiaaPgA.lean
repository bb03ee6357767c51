/- The law of a polar's own points: FnPolarPoints. -/
import Derived.Test.YtdhdefhllleeiaaPdE
import Derived.Test.YtdhdefhllleeiaaPsM
import Derived.Test.YtdhdefhllleeiaaPoU
namespace Go.Proofs.Ytdhdefhllleeiaa
open Go.RowKit Ieee
set_option linter.unusedSimpArgs false
set_option linter.unusedVariables false

/-- What stands while a law looks at its polar in block gp. -/
def PtSt (w : World) (P : Pol) (gp : Nat) (wr : World) : Prop :=
  Below w.heap.size w wr ∧ wr.heap[gp]? = some (.cells #[.slice P.W P.nw P.cw, .slice P.A P.na P.ca, .slice P.S P.ns P.cs] 28 (0, 0)) ∧ PolIn wr P ∧ w.heap.size ≤ gp
theorem PtSt.new {w w1 : World} {P : Pol} (h : PolIn w1 P) (b : Below w.heap.size w w1) : PtSt w P w1.heap.size (w1.alloc (.cells #[.slice P.W P.nw P.cw, .slice P.A P.na P.ca, .slice P.S P.ns P.cs] 28)) :=
  ⟨b.alloc b.size _, heap_alloc_new _ _, h.keeps (keeps_alloc _ _), b.size⟩
theorem PtSt.step {w w1 w2 : World} {P : Pol} {gp : Nat} (h : PtSt w P gp w1) (b : Below w1.heap.size w1 w2) : PtSt w P gp w2 :=
  ⟨h.1.trans (b.mono h.1.size), (b.block gp (block_lt h.2.1)).trans h.2.1, h.2.2.1.keeps (Below.keeps b), h.2.2.2⟩
theorem PtSt.drawn {w w1 w2 : World} {P : Pol} {gp : Nat} (h : PtSt w P gp w1) (d : Drawn w1 w2) : PtSt w P gp w2 := by
  obtain ⟨n, rfl⟩ := d
  exact h.step (drewN_below _ _)
theorem PtSt.d0 {w w' : World} {P : Pol} {gp : Nat} (h : PtSt w P gp w') : w'.cell? ⟨gp, 0, none⟩ = some (.slice P.W P.nw P.cw) := cell_of_row w' _ 0 _ _ _ h.2.1
theorem PtSt.d1 {w w' : World} {P : Pol} {gp : Nat} (h : PtSt w P gp w') : w'.cell? ⟨gp, 1, none⟩ = some (.slice P.A P.na P.ca) := cell_of_row w' _ 1 _ _ _ h.2.1
theorem PtSt.d2 {w w' : World} {P : Pol} {gp : Nat} (h : PtSt w P gp w') : w'.cell? ⟨gp, 2, none⟩ = some (.slice P.S P.ns P.cs) := cell_of_row w' _ 2 _ _ _ h.2.1
theorem PtSt.below {w w' : World} {P : Pol} {gp : Nat} (h : PtSt w P gp w') : Below w.heap.size w w' := h.1
theorem pol_at {w : World} {A : Option Addr} {n : Nat} {V : Nat → Value} {g o j : Nat} (h : Row w A n V) (e : A = some ⟨g, o, none⟩) (hj : j < n) : w.cell? ⟨g, o + j, none⟩ = some (V j) := by
  obtain ⟨g', o', e', h'⟩ := h (by omega)
  rw [e] at e'
  cases e'
  exact h' j hj
theorem pt_speed {w : World} {P : Pol} {gp i k : Nat} (hok : PolOk P) (hi : i < P.nw) (hk : k < P.na) (w' : World) (h : PtSt w P gp w') :
    Calls Try.prog 16 #[.agg #[.slice P.W P.nw P.cw, .slice P.A P.na P.ca, .slice P.S P.ns P.cs], .float .f32 (P.ws i), .int .i64 (P.av k)] w' fun e w'' => e = .returned (.tuple #[.float .f32 (spd P (P.ws i) (P.av k)), .bool true]) ∧ Below w'.heap.size w' w'' := by
  have hw := (hok.1.2.1 i hi).1
  have ha0 : 0 ≤ P.av k := by rw [← hok.2.1.2.1]; exact asc_le hok.2.1.2.2.2 (Nat.zero_le _) hk
  have ha1 : P.av k ≤ 180 := by
    rw [← hok.2.1.2.2.1]; exact asc_le hok.2.1.2.2.2 (by omega) (by have := hok.2.1.1; omega)
  refine (i_SpeedAt P (P.ws i) (P.av k) w' h.2.2.1 hw.1).mono fun e w'' ht => ?_
  obtain ⟨b, ⟨_, he⟩ | ⟨hn, _⟩⟩ := ht
  · exact ⟨he, b⟩
  · exact absurd ⟨hok, hw, ha0, ha1⟩ hn
set_option maxRecDepth 100000 in
set_option maxHeartbeats 8000000 in
theorem w_FnPolarPoints (a0 : Option Addr) (len cap : Nat) (zs : List Int) (w : World) (hr : IsRow .u8 w a0 len cap zs) :
    Calls Try.prog 3 #[.slice a0 len cap] w fun e w' => e = .returned (.bool true) ∧ Below w.heap.size w w' := by
  by_cases hbig : len ≤ 1048576
  · have hcode := code_of_row hr hbig
    go_enter Try.func3, Try.ntmps3
    go_wp2_with (first
      | (go_at_call 13; go_in)
      | (go_at_call 14; ((with_reducible refine (d_drawPolarOk _ len cap a0 hcode).mono ?_); rintro e w1 ⟨P, rfl, hP, b1⟩)))
    have HS := Lib.hid (PtSt.new hP b1)
    have hok := s_polarOk P _ HS.out.2.2.1
    clear hcode hP b1
    generalize w1.heap.size = gp at *
    refine hok.mono ?_
    rintro e w2 ⟨t, ht, rfl, b2⟩
    have HS2 := Lib.hid (HS.out.step b2)
    have HT := Lib.hid ht
    clear hok ht b2 HS
    cases t
    · go_wp2
      go_ret
      exact ⟨rfl, HS2.out.below⟩
    have HP := Lib.hid (HT.out.1 rfl)
    clear HT
    obtain ⟨gW, oW, hW, _⟩ := HS2.out.2.2.1.1.1 (by have := HP.out.1.1; omega)
    obtain ⟨gA, oA, hA, _⟩ := HS2.out.2.2.1.2.1.1 (by have := HP.out.2.1.1; omega)
    obtain ⟨gS, oS, hSS, _⟩ := HS2.out.2.2.1.2.2.1.1 (by have := HP.out.1.1; have := HP.out.2.2.1; omega)
    have HW := Lib.hid hW
    have HA := Lib.hid hA
    have HSS := Lib.hid hSS
    have m0 : ∀ w', PtSt w P gp w' → w'.cell? ⟨gp, 0, none⟩ = some (.slice (some ⟨gW, oW, none⟩) P.nw P.cw) := fun w' h => by rw [← HW.out]; exact h.d0
    have m1 : ∀ w', PtSt w P gp w' → w'.cell? ⟨gp, 1, none⟩ = some (.slice (some ⟨gA, oA, none⟩) P.na P.ca) := fun w' h => by rw [← HA.out]; exact h.d1
    have m2 : ∀ w', PtSt w P gp w' → w'.cell? ⟨gp, 2, none⟩ = some (.slice (some ⟨gS, oS, none⟩) P.ns P.cs) := fun w' h => by rw [← HSS.out]; exact h.d2
    clear hW hA hSS
    go_wp2_with fail
    go_loopw [4] (fun a wr => ∃ i : Nat, i ≤ P.nw ∧ a = .int .i64 i ∧ PtSt w P gp wr) (fun a _ => P.nw - (intOf a).toNat)
    case atStart => exact ⟨0, Nat.zero_le _, rfl, HS2.out⟩
    case round =>
      clear HS2
      obtain ⟨i, hi, rfl, hs⟩ := hrel
      have HPS := Lib.hid hs
      have k0 := m0 wr hs
      have hnw : P.nw ≤ 12 := HP.out.1.1.2
      clear hs
      by_cases hlt : i < P.nw
      · have hlt1 : (i : Int) < (P.nw : Int) := by omega
        go_wp2_with fail
        go_loopw [5] (fun a wr => ∃ k : Nat, k ≤ P.na ∧ a = .int .i64 k ∧ PtSt w P gp wr) (fun a _ => P.na - (intOf a).toNat)
        case atStart => exact ⟨0, Nat.zero_le _, rfl, HPS.out⟩
        case round =>
          clear HPS k0
          obtain ⟨k, hk, rfl, hs⟩ := hrel
          have HPS := Lib.hid hs
          have k1 := m1 wr hs
          have hna : P.na ≤ 24 := HP.out.2.1.1.2
          by_cases hlk : k < P.na
          · have hlk1 : (k : Int) < (P.na : Int) := by omega
            have his : i < P.ns := by have := HP.out.2.2.1; omega
            have hrn := (HP.out.2.2.2 i his).1
            obtain ⟨gR, oR, hR, _⟩ := (hs.2.2.1.2.2.2 i his).1 (by rw [hrn]; omega)
            have his1 : (i : Int) < (P.ns : Int) := by omega
            have e0 : ∀ w', PtSt w P gp w' → w'.cell? ⟨gW, oW + i, none⟩ = some (.float .f32 (P.ws i)) := fun w' h => pol_at h.2.2.1.1.1 HW.out hlt
            have e1 : ∀ w', PtSt w P gp w' → w'.cell? ⟨gA, oA + k, none⟩ = some (.int .i64 (P.av k)) := fun w' h => pol_at h.2.2.1.2.1.1 HA.out hlk
            have e2 : ∀ w', PtSt w P gp w' → w'.cell? ⟨gS, oS + i, none⟩ = some (.slice (some ⟨gR, oR, none⟩) P.na (P.rc i)) := fun w' h => by
              have := pol_at h.2.2.1.2.2.1.1 HSS.out his
              rw [hR, hrn] at this
              exact this
            have e3 : ∀ w', PtSt w P gp w' → w'.cell? ⟨gR, oR + k, none⟩ = some (.float .f32 (P.sp i k)) := fun w' h => pol_at (h.2.2.1.2.2.2 i his).1 hR (by rw [hrn]; exact hlk)
            have hsp := Lib.hid (fun w' (h : PtSt w P gp w') => pt_speed HP.out hlt hlk w' h)
            have hown := spd_own HP.out hlt hlk
            have hrow := (HP.out.2.2.2 i his).2 k hlk
            have heq : (FloatKind.f32.format.order (spd P (P.ws i) (P.av k)) (P.sp i k) == some .eq) = true := by
              rw [ord_eq hown.1 hrow.2.1]; exact decide_eq_true hown.2.2
            have heq2 : FloatKind.f32.format.order (spd P (P.ws i) (P.av k)) (P.sp i k) = some .eq := by simpa using heq
            rw [HW.out, HA.out, HSS.out] at hsp
            clear hown hrow hs hR hrn
            generalize spd P (P.ws i) (P.av k) = sv at *
            generalize P.ws i = xw at *
            generalize P.av k = xa at *
            generalize P.sp i k = xs at *
            generalize P.rc i = rc at *
            have hst := HPS.out
            go_upto_region 12 with fail
            go_cut [6, 7] (fun s6 s7 wx => s6 = .float .f32 sv ∧ s7 = .bool true ∧ PtSt w P gp wx)
            case first =>
              go_region_held3 (fun w' => PtSt w P gp w') (first | assumption | exact PtSt.drawn (by assumption) (Drawn.one _ 1) | exact PtSt.step (by assumption) (by assumption))
                (first | (go_at_call 16; with_reducible refine (hsp.out _ (by assumption)).mono ?_; rintro e w' ⟨rfl, bl⟩))
              all_goals (go_wp2_with fail; go_meet; exact ⟨rfl, rfl, by first | assumption | exact PtSt.step (by assumption) (by assumption)⟩)
            case rest =>
            clear hst k1 hsp HPS
            obtain ⟨rfl, rfl, hs⟩ := hcut
            have k2 := m2 wc hs
            have f2 := e2 wc hs
            have f3 := e3 wc hs
            have HPS := Lib.hid hs
            clear hs e0 e1 e2 e3
            go_wp2_with fail
            go_roundw
            case rel => exact ⟨k + 1, by omega, by go_num, HPS.out⟩
            case measure => simp [intOf]; omega
          · have hlk1 : ¬ (k : Int) < (P.na : Int) := by omega
            go_wp2_with fail
            go_roundw
            case rel => exact ⟨i + 1, by omega, by go_num, HPS.out⟩
            case measure => simp [intOf]; omega
      · have hlt1 : ¬ (i : Int) < (P.nw : Int) := by omega
        go_wp2
        go_ret
        exact ⟨rfl, HPS.out.below⟩
  · go_enter Try.func3, Try.ntmps3
    go_wp2
    go_ret
    exact ⟨rfl, Below.refl _ _⟩
end Go.Proofs.Ytdhdefhllleeiaa

/- The walk of FnFewest, over contracts. -/
import Derived.Test.YtlliiecdadiagaaLqA
import Derived.Test.YtlliiecdadiagaaLpH
namespace Go.Proofs.Ytlliiecdadiagaa
open Go.RowKit
set_option linter.unusedVariables false
set_option linter.unusedSimpArgs false

theorem InB.pl {w : World} {A : Option Addr} {n g : Nat} {f : Nat → Int} (h : InB w A n g f) : (0 < n → A = some ⟨g, 0, none⟩) ∧ PlIn w g 0 n f := ⟨fun hn => (h.at hn).1, fun j hj => by rw [Nat.zero_add]; exact (h.at hj).2⟩
/-- Sails, moments and a plan, drawn. -/
def PkE (t : TypeId) (w : World) (e : Ending) (w' : World) : Prop := ∃ (v : Value) (n : Nat) (vm : Value) (nm : Nat) (vp : Value) (l : List Int), n ≤ 20 ∧ nm ≤ 61 ∧ l.length ≤ 100 ∧ e = .returned (.tuple #[v, vm, vp]) ∧ OwnSa w' w.heap.size v n ∧ OwnMo w' w.heap.size vm nm ∧ w'.ownsRow w.heap.size t 1 vp l.length (l.map (Value.int .i64)) ∧ Below w.heap.size w w'
set_option maxRecDepth 100000 in
set_option maxHeartbeats 8000000 in
theorem wo_FnFewest (hCp : ∀ (w : World) (len cap : Nat) (A : Option Addr), Code w w.heap.size A len → Calls Try.prog 16 #[.slice A len cap] w (PkE 3 w))
    (hIf : ∀ (f : Nat → Sl) (ms : Nat → Mm) (A : Option Addr) (g o n cap : Nat) (TA : Option Addr) (tg tO nm tcap : Nat) (w : World), n ≤ 1048576 → n ≤ cap → (0 < n → A = some ⟨g, o, none⟩) → SlsIn w g o n f → (∀ j, j < n → SlWf (f j)) → nm ≤ 1048576 → nm ≤ tcap → (0 < nm → TA = some ⟨tg, tO, none⟩) → MmsIn w tg tO nm ms → (∀ j, j < nm → MmWf (ms j)) → Calls Try.prog 17 #[.slice A n cap, .slice TA nm tcap] w (FwE 3 w ((fwW n f nm ms).getD []) (fwW n f nm ms).isSome))
    (hIp : ∀ (f : Nat → Sl) (ms : Nat → Mm) (p : Nat → Int) (A : Option Addr) (g o n cap : Nat) (TA : Option Addr) (tg tO nm tcap : Nat) (PA : Option Addr) (pg pO np pcap : Nat) (w : World), n ≤ 1048576 → n ≤ cap → (0 < n → A = some ⟨g, o, none⟩) → SlsIn w g o n f → (∀ j, j < n → SlWf (f j)) → nm ≤ 1048576 → (0 < nm → TA = some ⟨tg, tO, none⟩) → MmsIn w tg tO nm ms → (∀ j, j < nm → MmWf (ms j)) → np ≤ 1048576 → (0 < np → PA = some ⟨pg, pO, none⟩) → PlIn w pg pO np p → Calls Try.prog 19 #[.slice A n cap, .slice TA nm tcap, .slice PA np pcap] w fun e w' => e = .returned (.bool (planB n f nm ms np p)) ∧ Below w.heap.size w w')
    (hIc : ∀ (p : Nat → Int) (PA : Option Addr) (pg pO np pcap : Nat) (w : World), np ≤ 1048576 → (0 < np → PA = some ⟨pg, pO, none⟩) → PlIn w pg pO np p → Calls Try.prog 20 #[.slice PA np pcap] w fun e w' => e = .returned (.int .i64 (chgN p np)) ∧ Below w.heap.size w w')
    (a0 : Option Addr) (len cap : Nat) (zs : List Int) (w : World) (hr : IsRow .u8 w a0 len cap zs) :
    Calls Try.prog 3 #[.slice a0 len cap] w fun e w' => e = .returned (.bool true) ∧ Below w.heap.size w w' := by
  by_cases hbig : len ≤ 1048576
  · have hcode := code_of_row hr hbig
    go_enter Try.func3, Try.ntmps3
    go_wp2_with (first
      | (go_at_call 15; go_in)
      | (go_at_call 16; ((with_reducible refine (hCp _ len cap a0 hcode).mono ?_); rintro e w1 ⟨v, n, vm, nm, vp, pl, hn, hnm, hpl, rfl, oS, oM, oP, b1⟩)))
    obtain ⟨Av, cv, gs, f, rfl, hA, hv, hf, _⟩ := oS.list
    have hrS := oS.room
    obtain ⟨At, ct, gt, ms, rfl, hT, hv2, hmf, _⟩ := oM.list
    have hrM := oM.room
    obtain ⟨Ap, cp, gp, rfl, hip, _⟩ := InB.of_owns oP
    have hwf : ∀ j, j < n → SlWf (f j) := fun j h => (hf j h).wf
    generalize pl.length = np at *
    generalize (fun j => pl.getD j 0) = Q at *
    have HF := Lib.hid (fun w (h : SlsIn w gs 0 n f) (h' : MmsIn w gt 0 nm ms) => hIf f ms Av gs 0 n cv At gt 0 nm ct w (by omega) hrS hA h hwf (by omega) hrM hT h' hmf)
    have HS := Lib.hid (fun w (h : SlsIn w gs 0 n f) (h' : MmsIn w gt 0 nm ms) => s_few f ms Av gs 0 n cv At gt 0 nm ct w (by omega) hA h hwf (by omega) hT h' hmf)
    have HP := Lib.hid (fun (A : Option Addr) (g k c : Nat) (p : Nat → Int) w (h : SlsIn w gs 0 n f) (h' : MmsIn w gt 0 nm ms) (hk : k ≤ 1048576) (h'' : InB w A k g p) => hIp f ms p Av gs 0 n cv At gt 0 nm ct A g 0 k c w (by omega) hrS hA h hwf (by omega) hT h' hmf hk h''.pl.1 h''.pl.2)
    have HC := Lib.hid (fun (A : Option Addr) (g k c : Nat) (p : Nat → Int) w (hk : k ≤ 1048576) (h'' : InB w A k g p) => hIc p A g 0 k c w hk h''.pl.1 h''.pl.2)
    have HB := Lib.hid b1
    have hst := Lib.hid (show KpS w1 gs n f gt nm ms Ap np gp Q w1 from ⟨⟨hv, hv2, Below.refl _ _⟩, hip⟩)
    have HX := Lib.hid (show (∃ l, fwW n f nm ms = some l ∧ (fwW n f nm ms).isSome = true ∧ (fwW n f nm ms).getD [] = l ∧ l.length ≤ nm ∧ planB n f nm ms l.length (fun i => l.getD i 0) = true ∧ (planB n f nm ms np Q = true → chgN (fun i => l.getD i 0) l.length ≤ chgN Q np)) ∨ (fwW n f nm ms = none ∧ (fwW n f nm ms).isSome = false ∧ (fwW n f nm ms).getD [] = [] ∧ planB n f nm ms np Q = false) from by
      have hl := fwW_length n f nm ms
      cases h : fwW n f nm ms with
      | none => exact .inr ⟨rfl, rfl, rfl, planB_no (few_no h np Q)⟩
      | some l =>
        rw [h] at hl
        exact .inl ⟨l, rfl, rfl, rfl, hl, planB_iff.2 (few_fits h), fun hp => few_least h (planB_iff.1 hp)⟩)
    clear oS oM oP hrS hrM hA hT hv hv2 hf hwf hmf b1 hcode hr hbig hIf hIp hIc hCp hip
    go_wp2_with fail
    refine (HF.out _ hst.out.1.1 hst.out.1.2.1).mono ?_
    rintro e w2 ⟨v, rfl, hown, bl⟩
    obtain ⟨Ab, cb, gb, rfl, hib, _⟩ := InB.of_owns hown
    have ib := Lib.hid hib
    clear hib hown HF
    have hs2 := Lib.hid (hst.out.step bl)
    clear hst bl 
    have hst := hs2
    clear hs2 
    go_wp2_with fail
    refine (HS.out _ hst.out.1.1 hst.out.1.2.1).mono ?_
    rintro e w3 ⟨v, rfl, _, bl⟩
    have hs2 := Lib.hid (hst.out.step bl)
    have ib2 := Lib.hid (ib.out.below bl (Nat.le_refl _))
    clear hst bl ib
    have hst := hs2
    have ib := ib2
    clear hs2 ib2
    clear HS
    rcases HX.out with ⟨l, _, h2, h3, h4, h5, h6⟩ | ⟨_, h2, h3, h4⟩
    · rw [h2, h3]
      rw [h3] at ib
      have HL := Lib.hid h6
      generalize l.length = nb at *
      generalize (fun i => l.getD i 0) = Bq at *
      obtain ⟨c1, hc1⟩ : ∃ c, chgN Bq nb = c := ⟨_, rfl⟩
      obtain ⟨c2, hc2⟩ : ∃ c, chgN Q np = c := ⟨_, rfl⟩
      have HC1 := Lib.hid (fun w (h : InB w Ab nb gb Bq) => hc1 ▸ HC.out Ab gb nb cb Bq w (by omega) h)
      have HC2 := Lib.hid (fun w (h : InB w Ap np gp Q) => hc2 ▸ HC.out Ap gp np cp Q w (by omega) h)
      have HP1 := Lib.hid (fun w (h : SlsIn w gs 0 n f) (h' : MmsIn w gt 0 nm ms) (h'' : InB w Ab nb gb Bq) => h5 ▸ HP.out Ab gb nb cb Bq w h h' (by omega) h'')
      have HP2 := Lib.hid (fun w (h : SlsIn w gs 0 n f) (h' : MmsIn w gt 0 nm ms) (h'' : InB w Ap np gp Q) => HP.out Ap gp np cp Q w h h' (by omega) h'')
      obtain ⟨pv, hpv⟩ : ∃ b, planB n f nm ms np Q = b := ⟨_, rfl⟩
      rw [hpv] at HP2
      have HQ := Lib.hid (show pv = true → c1 ≤ c2 from fun e => by rw [← hc1, ← hc2]; exact HL.out (by rw [hpv, e]))
      clear h2 h3 h5 h6 HL HC HP HX hc1 hc2 hpv
      go_wp2_with fail
      refine (HP1.out _ hst.out.1.1 hst.out.1.2.1 ib.out).mono ?_
      rintro e w4 ⟨rfl, bl⟩
      have hs2 := Lib.hid (hst.out.step bl)
      have ib2 := Lib.hid (ib.out.below bl (Nat.le_refl _))
      clear hst bl ib
      have hst := hs2
      have ib := ib2
      clear hs2 ib2
      go_wp2_with fail
      refine (HP2.out _ hst.out.1.1 hst.out.1.2.1 hst.out.2).mono ?_
      rintro e w5 ⟨rfl, bl⟩
      have hs2 := Lib.hid (hst.out.step bl)
      have ib2 := Lib.hid (ib.out.below bl (Nat.le_refl _))
      clear hst bl ib
      have hst := hs2
      have ib := ib2
      clear hs2 ib2
      cases pv
      · go_wp2
        go_ret
        exact ⟨rfl, HB.out.trans (hst.out.1.2.2.mono HB.out.size)⟩
      · have hle := HQ.out rfl
        go_wp2_with fail
        refine (HC1.out _ ib.out).mono ?_
        rintro e w6 ⟨rfl, bl⟩
        have hs2 := Lib.hid (hst.out.step bl)
        have ib2 := Lib.hid (ib.out.below bl (Nat.le_refl _))
        clear hst bl ib
        have hst := hs2
        have ib := ib2
        clear hs2 ib2
        go_wp2_with fail
        refine (HC2.out _ hst.out.2).mono ?_
        rintro e w7 ⟨rfl, bl⟩
        have hs2 := Lib.hid (hst.out.step bl)
        have ib2 := Lib.hid (ib.out.below bl (Nat.le_refl _))
        clear hst bl ib
        have hst := hs2
        have ib := ib2
        clear hs2 ib2
        go_wp2
        go_ret
        exact ⟨rfl, HB.out.trans (hst.out.1.2.2.mono HB.out.size)⟩
    · rw [h2, h3]
      have HP2 := Lib.hid (fun w (h : SlsIn w gs 0 n f) (h' : MmsIn w gt 0 nm ms) (h'' : InB w Ap np gp Q) => h4 ▸ HP.out Ap gp np cp Q w h h' (by omega) h'')
      clear h2 h3 h4 HX HP HC ib
      dsimp only [List.length_nil]
      go_wp2_with fail
      refine (HP2.out _ hst.out.1.1 hst.out.1.2.1 hst.out.2).mono ?_
      rintro e w4 ⟨rfl, bl⟩
      have hs2 := Lib.hid (hst.out.step bl)
      clear hst bl
      have hst := hs2
      clear hs2
      go_wp2
      go_ret
      exact ⟨rfl, HB.out.trans (hst.out.1.2.2.mono HB.out.size)⟩
  · have hb : (len : Int) > 1048576 := by omega
    go_enter Try.func3, Try.ntmps3
    go_wp2_with (go_at_call 15; go_in)
    go_ret
    exact ⟨rfl, Below.refl _ _⟩
end Go.Proofs.Ytlliiecdadiagaa

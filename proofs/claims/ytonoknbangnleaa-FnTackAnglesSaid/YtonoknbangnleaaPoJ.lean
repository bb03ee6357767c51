/- impl.PolarOk; binary search, lastUpTo. -/
import Derived.Test.YtonoknbangnleaaPoI
namespace Go.Proofs.Ytonoknbangnleaa
open Go.RowKit Ieee
set_option linter.unusedSimpArgs false
set_option linter.unusedVariables false

/-- The box of a polar. -/
def boxP (P : Pol) : Obj := .cells #[.slice P.W P.nw P.cw, .slice P.A P.na P.ca, .slice P.S P.ns P.cs] 28
set_option maxRecDepth 100000 in
set_option maxHeartbeats 1000000 in
theorem i_polarOk (P : Pol) (w : World) (h : PolIn w P) :
    Calls Try.prog 70 #[.agg #[.slice P.W P.nw P.cw, .slice P.A P.na P.ca, .slice P.S P.ns P.cs]] w fun e w' => SaysW (PolOk P) w e w' := by
  suffices hs : ∀ p : Prop, Hid (p ↔ PolOk P) → Calls Try.prog 70 #[.agg #[.slice P.W P.nw P.cw, .slice P.A P.na P.ca, .slice P.S P.ns P.cs]] w fun e w' => SaysW p w e w' from hs _ (Lib.hid Iff.rfl)
  intro p HP
  obtain ⟨W, nw, cw, ws, A, na, ca, av, Z, ns, cs, R, rn, rc, sp⟩ := P
  have HI := Lib.hid h
  clear h
  dsimp only
  have hb0 : Below w.heap.size w (w.alloc (.cells #[.slice W nw cw, .slice A na ca, .slice Z ns cs] 28)) := (Below.refl _ w).alloc (Nat.le_refl _) _
  have hk0 : Keeps w (w.alloc (.cells #[.slice W nw cw, .slice A na ca, .slice Z ns cs] 28)) := keeps_alloc _ _
  have hx0 : (w.alloc (.cells #[.slice W nw cw, .slice A na ca, .slice Z ns cs] 28)).heap[w.heap.size]? = some (.cells #[.slice W nw cw, .slice A na ca, .slice Z ns cs] 28) := heap_alloc_new w _
  have HB := Lib.hid (And.intro hb0 (And.intro hk0 hx0))
  clear hb0 hk0 hx0
  go_enter Try.func70, Try.ntmps70
  go_wp2_with fail
  refine (i_windsOk ws W nw cw _ (HI.out.1.keeps HB.out.2.1)).mono ?_
  rintro e w1 ⟨t, ht, rfl, m, rfl⟩
  cases t
  · have hno : ¬ p := fun h => says_no ht (HP.out.1 h).1
    have HN := Lib.hid hno
    clear hno ht
    go_wp2
    go_ret
    exact SaysW.no HN.out rfl (below_drewN HB.out.1 _)
  · have H1 := Lib.hid (says_yes ht)
    clear ht
    go_wp2_with fail
    refine (i_anglesOk av A na ca _ (HI.out.2.1.keeps (HB.out.2.1.trans (keeps_drewN _ _)))).mono ?_
    rintro e w1 ⟨t, ht, rfl, m2, rfl⟩
    cases t
    · have hno : ¬ p := fun h => says_no ht (HP.out.1 h).2.1
      have HN := Lib.hid hno
      clear hno ht
      go_wp2
      go_ret
      exact SaysW.no HN.out rfl (below_drewN HB.out.1 _)
    · have H2 := Lib.hid (says_yes ht)
      clear ht
      have hns := HI.out.2.2.1.2
      have hna := HI.out.2.1.2.1
      have hnw := HI.out.1.2.1
      by_cases heq : ns = nw
      · have H3 := Lib.hid heq
        have heq1 : ((ns : Nat) : Int) = ((nw : Nat) : Int) := by omega
        clear heq
        go_wp2
        go_loopw [27] (fun i wr => ∃ k m : Nat, k ≤ ns ∧ i = .int .i64 k ∧ wr = (w.alloc (.cells #[.slice W nw cw, .slice A na ca, .slice Z ns cs] 28)).drewN m ∧ ∀ j, j < k → rn j = na ∧ RowOk na (sp j)) (fun i _ => ns - (intOf i).toNat)
        case atStart => exact ⟨0, _, Nat.zero_le _, rfl, rfl, fun j h => by omega⟩
        case round =>
          obtain ⟨k, m3, hk, rfl, rfl, hall⟩ := hrel
          have HA := Lib.hid hall
          clear hall
          by_cases hlt : k < ns
          · obtain ⟨g, o, rfl, hc⟩ := (HI.out.2.2.1.1.keeps HB.out.2.1) (show 0 < ns by omega)
            have c1 := hc k hlt
            have hrow := fun m => (HI.out.2.2.2 k hlt).keeps (HB.out.2.1.trans (keeps_drewN _ m))
            have HR := Lib.hid hrow
            have hk1 : (k : Int) < (ns : Int) := by omega
            clear hc hrow
            go_wp2_with fail
            refine (i_rowOk (sp k) (R k) (rn k) (rc k) na _ (HR.out _) hna).mono ?_
            rintro e w1 ⟨t, ht, rfl, m4, rfl⟩
            cases t
            · have hno : ¬ p := fun h => says_no ht (by
                have h2 : rn k = na ∧ RowOk na (sp k) := (HP.out.1 h).2.2.2 k hlt
                exact ⟨h2.1, by rw [h2.1]; exact h2.2⟩)
              have HN := Lib.hid hno
              clear hno ht
              go_wp2
              go_ret
              exact SaysW.no HN.out rfl (below_drewN HB.out.1 _)
            · have hyes : rn k = na ∧ RowOk na (sp k) := by
                have h2 := says_yes ht
                exact ⟨h2.1, by rw [← h2.1]; exact h2.2⟩
              have HT := Lib.hid hyes
              clear ht hyes
              go_wp2
              go_roundw
              case rel => exact ⟨k + 1, _, by omega, by go_num, rfl, fun j hj => by
                rcases Nat.lt_or_ge j k with h | h
                · exact HA.out j h
                · obtain rfl : j = k := by omega
                  exact HT.out⟩
              case measure => simp [intOf]; omega
          · have hke : k = ns := by omega
            have hyes : p := HP.out.2 ⟨H1.out, H2.out, H3.out, fun i (hi : i < ns) => HA.out i (by omega)⟩
            have HY := Lib.hid hyes
            have hk1 : ¬ ((k : Int) < (ns : Int)) := by omega
            clear hyes
            go_wp2
            go_ret
            exact SaysW.yes HY.out rfl (below_drewN HB.out.1 _)
      · have heq1 : ¬ (((ns : Nat) : Int) = ((nw : Nat) : Int)) := by omega
        have hno : ¬ p := fun h => heq (HP.out.1 h).2.2.1
        have HN := Lib.hid hno
        clear hno
        go_wp2
        go_ret
        exact SaysW.no HN.out rfl (below_drewN HB.out.1 _)
end Go.Proofs.Ytonoknbangnleaa

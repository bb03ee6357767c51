/- BestUp, BestDown, Fastest (spec). Made by gen_PsB.py. -/
import Derived.Test.YtonoknbangnleaaGreatPsR
namespace Go.Proofs.YtonoknbangnleaaGreat
open Go.RowKit Ieee
set_option linter.unusedSimpArgs false
set_option linter.unusedVariables false

/-- The first greatest one so far. -/
def ArgSo (lo k : Nat) (G : Nat → Int) (b : Nat) : Prop := lo ≤ b ∧ b < k ∧ (∀ j, lo ≤ j → j < b → G j < G b) ∧ ∀ j, lo ≤ j → j < k → G j ≤ G b
theorem arg_more {lo k : Nat} {G : Nat → Int} {b : Nat} (h : ArgSo lo k G b) (hk : G b < G k) : ArgSo lo (k + 1) G k := by
  obtain ⟨h1, h2, h3, h4⟩ := h
  refine ⟨by omega, by omega, fun j a c => ?_, fun j a c => ?_⟩
  · have := h4 j a c; omega
  · rcases Nat.lt_or_ge j k with h | h
    · have := h4 j a h; omega
    · rw [show j = k by omega]; exact Int.le_refl _
theorem arg_less {lo k : Nat} {G : Nat → Int} {b : Nat} (h : ArgSo lo k G b) (hk : G k ≤ G b) : ArgSo lo (k + 1) G b := by
  obtain ⟨h1, h2, h3, h4⟩ := h
  refine ⟨h1, by omega, h3, fun j a c => ?_⟩
  rcases Nat.lt_or_ge j k with h | h
  · exact h4 j a h
  · rw [show j = k by omega]; exact hk
theorem arg_yes {lo hi : Nat} {G : Nat → Int} {b : Nat} (h : ArgSo lo (hi + 1) G b) (hp : 0 < G b) : Best lo hi G b true := by
  obtain ⟨h1, h2, h3, h4⟩ := h
  exact .inr ⟨rfl, b, rfl, h1, by omega, hp, h3, fun j a c => h4 j a (by omega)⟩
theorem arg_no {lo hi : Nat} {G : Nat → Int} {b : Nat} (h : ArgSo lo (hi + 1) G b) (hp : G b ≤ 0) : Best lo hi G 0 false := by
  obtain ⟨h1, h2, h3, h4⟩ := h
  exact .inl ⟨rfl, rfl, fun j a c => by have := h4 j a (by omega); omega⟩
set_option maxRecDepth 100000 in
set_option maxHeartbeats 4000000 in
theorem s_BestUp (P : Pol) (x : Nat) (w : World) (h : PolIn w P) (hx : x < 4294967296) :
    Calls Tryz.prog 46 #[.agg #[.slice P.W P.nw P.cw, .slice P.A P.na P.ca, .slice P.S P.ns P.cs], .float .f32 x] w fun e w' => TellsBest (PolOk P ∧ okA x) 0 90 (fun j : Nat => S.fval (madeW P x j)) w e w' := by
  suffices hs : ∀ (V : Prop) (g : Nat → Nat) (G : Nat → Int), Hid (V ↔ PolOk P ∧ okA x) → Hid (g = fun j : Nat => madeW P x j) → Hid (G = fun j : Nat =>  S.fval (g j)) → Calls Tryz.prog 46 #[.agg #[.slice P.W P.nw P.cw, .slice P.A P.na P.ca, .slice P.S P.ns P.cs], .float .f32 x] w fun e w' => TellsBest V 0 90 G w e w' from hs _ _ _ (Lib.hid Iff.rfl) (Lib.hid rfl) (Lib.hid rfl)
  intro V g G HV HG HGG
  have HI := Lib.hid h
  have HCALL := Lib.hid (fun (k : Nat) (w' : World) (hk : Keeps w w') => (show Calls Tryz.prog 77 #[.agg #[.slice P.W P.nw P.cw, .slice P.A P.na P.ca, .slice P.S P.ns P.cs], .float .f32 x, .int .i64 k] w' fun e w'' => Told (AskOk P x k) (g k) w' e w'' from by
    have := s_MadeUp P x k w' (h.keeps hk) hx
    rw [show ((k : Int)).toNat = k by omega] at this; rw [HG.out]; exact this))
  clear h
  go_enter Tryz.func46, Tryz.ntmps46
  go_wp2_with fail
  refine (HCALL.out 0 _ (keeps_alloc _ _)).mono ?_
  rintro e w1 ⟨b1, ⟨hv, rfl⟩ | ⟨hv, rfl⟩⟩
  · have hV : V := HV.out.2 ⟨hv.1, hv.2.1⟩
    have hnum : ∀ k : Nat, k ≤ 180 → S.isNum (g k) := fun k hk => by rw [HG.out]; exact (made_ok hv.1 hv.2.1 hk).2.2.1
    have HY := Lib.hid (And.intro hV (And.intro hv hnum))
    have HB := Lib.hid ((BoxIn.new w P).step b1)
    clear hV hv hnum b1
    go_wp2
    go_loopw [6, 8, 9] (fun m b i wr => ∃ k bi : Nat, 0 < k ∧ k ≤ 90 + 1 ∧ m = .float .f32 (g bi) ∧ b = .int .i64 bi ∧ i = .int .i64 k ∧ ArgSo 0 k G bi ∧ BoxIn w P wr) (fun _ _ i _ => 90 + 1 - (intOf i).toNat)
    case atStart => exact ⟨0 + 1, 0, by omega, by omega, rfl, rfl, rfl, ⟨by omega, by omega, fun j a c => by omega, fun j a c => by rw [show j = 0 by omega]; exact Int.le_refl _⟩, HB.out⟩
    case round =>
      obtain ⟨k, bi, hk0, hk1, rfl, rfl, rfl, hso, hB⟩ := hrel
      have hb0 := hso.1
      have hb1 := hso.2.1
      have HS := Lib.hid hso
      have c0 := hB.c0
      have c1 := hB.c1
      have c2 := hB.c2
      have HB' := Lib.hid hB
      have n1 := HY.out.2.2 bi (by omega)
      clear hso hB
      by_cases hlt : k ≤ 90
      · have hlt1 : (k : Int) ≤ 90 := by omega
        have n2 := HY.out.2.2 k (by omega)
        have e1 := ord_gt n2 n1
        have hask : AskOk P x k := ⟨HY.out.2.1.1, HY.out.2.1.2.1, by omega, by omega⟩
        have HA := Lib.hid hask
        have hcl := HCALL.out k wr HB'.out.keeps
        clear n1 n2 hask
        cases hd : decide (S.fval (g bi) < S.fval (g k))
        · rw [hd] at e1
          have HN := Lib.hid (arg_less HS.out (show G k ≤ G bi by rw [HGG.out]; have := of_decide_eq_false hd; show  S.fval (g k) ≤  S.fval (g bi); omega))
          clear hd
          generalize hgk : g k = y at *
          generalize hgb : g bi = z at *
          have HZ := Lib.hid (And.intro hgk hgb)
          clear hgk hgb
          go_wp2_with fail
          with_reducible refine hcl.mono ?_
          rintro e w3 ⟨b3, ⟨_, rfl⟩ | ⟨hno, rfl⟩⟩
          · have HB3 := Lib.hid (HB'.out.step b3)
            clear hcl b3 c0 c1 c2
            go_wp2
            go_roundw
            case rel => exact ⟨k + 1, bi, by omega, by omega, by rw [HZ.out.2], rfl, by go_num, HN.out, HB3.out⟩
            case measure => simp [intOf]; omega
          · exact absurd HA.out hno
        · rw [hd] at e1
          have HN := Lib.hid (arg_more HS.out (show G bi < G k by rw [HGG.out]; have := of_decide_eq_true hd; show  S.fval (g bi) <  S.fval (g k); omega))
          clear hd
          generalize hgk : g k = y at *
          generalize hgb : g bi = z at *
          have HZ := Lib.hid (And.intro hgk hgb)
          clear hgk hgb
          go_wp2_with fail
          with_reducible refine hcl.mono ?_
          rintro e w3 ⟨b3, ⟨_, rfl⟩ | ⟨hno, rfl⟩⟩
          · have HB3 := Lib.hid (HB'.out.step b3)
            clear hcl b3 c0 c1 c2
            go_wp2
            go_roundw
            case rel => exact ⟨k + 1, k, by omega, by omega, by rw [HZ.out.1], rfl, by go_num, HN.out, HB3.out⟩
            case measure => simp [intOf]; omega
          · exact absurd HA.out hno
      · obtain rfl : k = 90 + 1 := by omega
        have hlt1 : ¬ (((90 + 1 : Nat) : Int) ≤ 90) := by omega
        have e1 := ord_le n1 (S.isNum_of S.nought_num)
        rw [S.nought_val] at e1
        cases hd : decide (S.fval (g bi) ≤ 0)
        · rw [hd] at e1
          have HN := Lib.hid (arg_yes HS.out (show 0 < G bi by rw [HGG.out]; have := of_decide_eq_false hd; show 0 <  S.fval (g bi); omega))
          clear hd
          generalize g bi = z at *
          go_wp2
          go_ret2
          exact TellsBest.yes HY.out.1 _ _ HN.out rfl HB'.out.2
        · rw [hd] at e1
          have HN := Lib.hid (arg_no HS.out (show G bi ≤ 0 by rw [HGG.out]; have := of_decide_eq_true hd; show  S.fval (g bi) ≤ 0; omega))
          clear hd
          generalize g bi = z at *
          go_wp2
          go_ret2
          exact TellsBest.yes HY.out.1 _ _ HN.out rfl HB'.out.2
  · have HN := Lib.hid (show ¬ V from fun h => hv ⟨(HV.out.1 h).1, (HV.out.1 h).2, by omega, by omega⟩)
    have HB := Lib.hid ((BoxIn.new w P).step b1)
    clear hv b1
    go_wp2
    go_loop [9] (fun i => i = .int .i64 (0 + 1)) (fun _ => 0)
    case atStart => exact rfl
    case round =>
      subst hrel
      go_wp2
      go_ret2
      exact TellsBest.no HN.out rfl HB.out.2
end Go.Proofs.YtonoknbangnleaaGreat

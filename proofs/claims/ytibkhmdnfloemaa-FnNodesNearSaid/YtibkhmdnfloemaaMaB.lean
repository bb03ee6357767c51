/- Nodes of a field (spec): l12Node, NodeAt. -/
import Derived.Test.YtibkhmdnfloemaaMaA
namespace Go.Proofs.Ytibkhmdnfloemaa
open Go.RowKit
set_option linter.unusedVariables false
set_option linter.unusedSimpArgs false

/-- Where a node lies. -/
def nodeP (F : Fd) (n : Nat) : Nat × Nat := (floatOfInt .f64 ((n : Int) / F.wd * F.me), floatOfInt .f64 ((n : Int) % F.wd * F.me))
/-- There is such a node. -/
def thB (F : Fd) (n : Int) : Bool := decide (0 ≤ n ∧ n ≤ F.wd * F.hi - 1)
/-- What a valid field's numbers are. -/
theorem fd_nums {F : Fd} (h : FdP F) : ∃ a b m : Nat, F.wd = a ∧ F.hi = b ∧ F.me = m ∧ (2 ≤ a ∧ a ≤ 12) ∧ (2 ≤ b ∧ b ≤ 12) ∧ (10 ≤ m ∧ m ≤ 100000) ∧ F.wd * F.hi = ((a * b : Nat) : Int) ∧ a * b ≤ 144 := by
  obtain ⟨⟨h1, h2, h3, _⟩, _⟩ := h
  obtain ⟨a, ha⟩ : ∃ a : Nat, F.wd = a := ⟨F.wd.toNat, by omega⟩
  obtain ⟨b, hb⟩ : ∃ b : Nat, F.hi = b := ⟨F.hi.toNat, by omega⟩
  obtain ⟨m, hm⟩ : ∃ m : Nat, F.me = m := ⟨F.me.toNat, by omega⟩
  refine ⟨a, b, m, ha, hb, hm, by omega, by omega, by omega, by rw [ha, hb]; rfl, ?_⟩
  exact Nat.mul_le_mul (show a ≤ 12 by omega) (show b ≤ 12 by omega)
set_option maxRecDepth 100000 in
set_option maxHeartbeats 4000000 in
theorem s_nod (F : Fd) (n : Nat) (w : World) (hF : FdP F) (hn : n ≤ 144) (h : FdIn w F) :
    Calls Try.prog 22 #[.agg #[.int .i64 F.wd, .int .i64 F.hi, .int .i64 F.me, .slice F.A F.n F.cap], .int .i64 n] w fun e w' => e = .returned (.complex .f64 (nodeP F n).1 (nodeP F n).2) ∧ Below w.heap.size w w' := by
  obtain ⟨a, b, m, ha, hb, hm, h1, h2, h3, _, _⟩ := fd_nums hF
  have hs := Lib.hid (FdQ.new h (Below.refl _ _) 26)
  obtain ⟨k0, k1, k2, k3⟩ := cells4f hs.out.2
  unfold nodeP
  clear h hF
  have a0 : ¬ F.wd = 0 := by omega
  obtain ⟨q, hq⟩ : ∃ q : Nat, n / a = q := ⟨_, rfl⟩
  obtain ⟨r, hr⟩ : ∃ r : Nat, n % a = r := ⟨_, rfl⟩
  have q9 : q ≤ 144 := by rw [← hq]; exact Nat.le_trans (Nat.div_le_self n a) hn
  have r9 : r ≤ 144 := by rw [← hr]; exact Nat.le_trans (Nat.mod_le n a) hn
  have hq2 : (n : Int) / (a : Int) = (q : Int) := by rw [← hq]; rfl
  have hr2 : (n : Int) % (a : Int) = (r : Int) := by rw [← hr]; rfl
  have hqm : q * m ≤ 144 * 100000 := Nat.mul_le_mul q9 h3.2
  have hrm : r * m ≤ 144 * 100000 := Nat.mul_le_mul r9 h3.2
  have E := Lib.hid (show wrap64 (wrap64 ((n : Int) / F.wd) * F.me) = (n : Int) / F.wd * F.me ∧ wrap64 ((n : Int) % F.wd * F.me) = (n : Int) % F.wd * F.me by
    rw [ha, hm, hq2, hr2]
    have w1 : wrap64 (q : Int) = (q : Int) := by unfold wrap64; omega
    rw [w1, show (q : Int) * (m : Int) = ((q * m : Nat) : Int) from rfl, show (r : Int) * (m : Int) = ((r * m : Nat) : Int) from rfl]
    generalize q * m = x at *
    generalize r * m = y at *
    exact ⟨by unfold wrap64; omega, by unfold wrap64; omega⟩)
  clear hq hr hq2 hr2 hqm hrm q9 r9 ha hb hm
  go_enter Try.func22, Try.ntmps22
  go_wp2
  go_region
  go_wp2
  rw [E.out.1, E.out.2]
  go_ret
  exact ⟨rfl, hs.out.drew.1.2⟩
/-- What NodeAt tells. -/
noncomputable def natV (F : Fd) (n : Int) : Value := if (fdB F && thB F n) = true then .tuple #[.complex .f64 (nodeP F n.toNat).1 (nodeP F n.toNat).2, .bool true] else .tuple #[.complex .f64 0 0, .bool false]
set_option maxRecDepth 100000 in
set_option maxHeartbeats 4000000 in
theorem s_nat (F : Fd) (n : Int) (w : World) (hw : FdWf F) (h : FdIn w F) :
    Calls Try.prog 8 #[.agg #[.int .i64 F.wd, .int .i64 F.hi, .int .i64 F.me, .slice F.A F.n F.cap], .int .i64 n] w fun e w' => e = .returned (natV F n) ∧ Below w.heap.size w w' := by
  have HO := Lib.hid (fun w (h : FdIn w F) => s_fld F w hw h)
  have HI := Lib.hid (fun w => s_in12 n 0 (F.wd * F.hi - 1) (thB F n) w rfl)
  have HX := Lib.hid (fun (hF : FdP F) (k : Nat) (hk : k ≤ 144) w (h : FdIn w F) => s_nod F k w hF hk h)
  have hs := Lib.hid (FdQ.new h (Below.refl _ _) 26)
  obtain ⟨k0, k1, k2, k3⟩ := cells4f hs.out.2
  have hF := fdB_iff (F := F)
  unfold natV
  generalize fdB F = t at *
  clear h hw
  cases t
  · rw [Bool.false_and, if_neg (by decide)]
    clear hF
    go_enter Try.func8, Try.ntmps8
    go_wp2_with fail
    refine (HO.out _ hs.out.1.1).mono ?_
    rintro e w1 ⟨rfl, b⟩
    have H1 := Lib.hid (hs.out.step b)
    clear hs b k0 k1 k2 k3
    go_wp2
    go_ret2
    exact ⟨rfl, H1.out.1.2⟩
  have hP := hF.1 rfl
  rw [Bool.true_and]
  obtain ⟨a, b, m, ha, hb, hm, h1, h2, h3, h4, h5⟩ := fd_nums hP
  have HP := Lib.hid hP
  have h4' : (a : Int) * (b : Int) = ((a * b : Nat) : Int) := rfl
  have hth : thB F n = true → 0 ≤ n ∧ n.toNat ≤ 144 := fun h => by
    unfold thB at h
    rw [h4] at h
    have := of_decide_eq_true h
    generalize a * b = P at *
    omega
  rw [h4] at HI
  generalize a * b = P at *
  clear ha hb hm h1 h2 h3
  have HT := Lib.hid hth
  clear hF hP hth
  generalize thB F n = u at *
  cases u
  · rw [if_neg (by decide)]
    go_enter Try.func8, Try.ntmps8
    go_wp2_with fail
    refine (HO.out _ hs.out.1.1).mono ?_
    rintro e w1 ⟨rfl, bl⟩
    have H1 := Lib.hid (hs.out.step bl)
    clear hs bl k0 k1 k2 k3
    obtain ⟨k0, k1, k2, k3⟩ := cells4f H1.out.2
    go_wp2_with fail
    refine (HI.out _).mono ?_
    rintro e w2 ⟨rfl, rfl⟩
    go_wp2
    go_ret2
    exact ⟨rfl, H1.out.1.2⟩
  · rw [if_pos rfl]
    obtain ⟨n0, n1⟩ := HT.out rfl
    obtain ⟨k, rfl⟩ : ∃ k : Nat, n = (k : Int) := ⟨n.toNat, by omega⟩
    rw [Int.toNat_natCast] at n1 ⊢
    have HY := Lib.hid (fun w => HX.out HP.out k n1 w)
    go_enter Try.func8, Try.ntmps8
    go_wp2_with fail
    refine (HO.out _ hs.out.1.1).mono ?_
    rintro e w1 ⟨rfl, bl⟩
    have H1 := Lib.hid (hs.out.step bl)
    clear hs bl k0 k1 k2 k3
    obtain ⟨k0, k1, k2, k3⟩ := cells4f H1.out.2
    go_wp2_with fail
    refine (HI.out _).mono ?_
    rintro e w2 ⟨rfl, rfl⟩
    go_wp2_with fail
    refine (HY.out _ H1.out.1.1).mono ?_
    rintro e w3 ⟨rfl, bl⟩
    have H2 := Lib.hid (H1.out.step bl)
    clear H1 bl k0 k1 k2 k3
    go_wp2
    go_ret2
    exact ⟨rfl, H2.out.1.2⟩
end Go.Proofs.Ytibkhmdnfloemaa

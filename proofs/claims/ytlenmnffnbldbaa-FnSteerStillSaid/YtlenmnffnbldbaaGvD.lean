/- The heading that leaves a track least: what is chosen; the measure, the search and Steer (impl). -/
import Derived.Test.YtlenmnffnbldbaaGvC
import Derived.BigQuiet
import Derived.Deep.RegionHeld3
namespace Go.Proofs.Ytlenmnffnbldbaa
open Go.RowKit Ieee
set_option linter.unusedVariables false
set_option linter.unusedSimpArgs false

/-- The first of those that may be taken for which a number is least. -/
def bsF (p : Nat → Bool) (x : Nat → Nat) : Nat → Option Nat
  | 0 => none
  | n + 1 => match bsF p x n with
    | none => if p n then some n else none
    | some b => if p n && decide (x n < x b) then some n else some b
theorem bsF_none {p : Nat → Bool} {x : Nat → Nat} : ∀ {n : Nat}, bsF p x n = none → ∀ k, k < n → p k = false
  | 0, h, k, hk => by omega
  | n + 1, h, k, hk => by
    unfold bsF at h
    cases e : bsF p x n with
    | none =>
      rw [e] at h
      have hp : p n = false := by
        cases hp : p n
        · rfl
        · rw [hp] at h; cases h
      rcases Nat.lt_or_ge k n with h1 | h1
      · exact bsF_none e k h1
      · obtain rfl : k = n := by omega
        exact hp
    | some c =>
      rw [e] at h
      dsimp only at h
      exfalso
      by_cases hc : (p n && decide (x n < x c)) = true
      · rw [if_pos hc] at h; cases h
      · rw [if_neg hc] at h; cases h
theorem bsF_some {p : Nat → Bool} {x : Nat → Nat} : ∀ {n b : Nat}, bsF p x n = some b → b < n ∧ p b = true ∧ ∀ k, k < n → p k = true → x b < x k ∨ (x b = x k ∧ b ≤ k)
  | 0, b, h => by cases h
  | n + 1, b, h => by
    unfold bsF at h
    cases e : bsF p x n with
    | none =>
      rw [e] at h
      cases hp : p n
      · rw [hp] at h; cases h
      · rw [hp] at h
        have : n = b := by simpa using h
        subst this
        refine ⟨by omega, hp, fun k hk hpk => ?_⟩
        rcases Nat.lt_or_ge k n with h1 | h1
        · exact absurd hpk (by rw [bsF_none e k h1]; decide)
        · obtain rfl : k = n := by omega
          exact .inr ⟨rfl, Nat.le_refl _⟩
    | some c =>
      obtain ⟨c1, c2, c3⟩ := bsF_some e
      rw [e] at h
      dsimp only at h
      by_cases hc : (p n && decide (x n < x c)) = true
      · rw [if_pos hc] at h
        have : n = b := by simpa using h
        subst this
        rw [Bool.and_eq_true, decide_eq_true_eq] at hc
        refine ⟨by omega, hc.1, fun k hk hpk => ?_⟩
        rcases Nat.lt_or_ge k n with h1 | h1
        · rcases c3 k h1 hpk with h2 | h2
          · left; omega
          · left; omega
        · obtain rfl : k = n := by omega
          exact .inr ⟨rfl, Nat.le_refl _⟩
      · rw [if_neg hc] at h
        have : c = b := by simpa using h
        subst this
        refine ⟨by omega, c2, fun k hk hpk => ?_⟩
        rcases Nat.lt_or_ge k n with h1 | h1
        · exact c3 k h1 hpk
        · obtain rfl : k = n := by omega
          have h2 : ¬ x k < x c := fun h3 => hc (by rw [hpk]; simpa using h3)
          rcases Nat.lt_or_eq_of_le (Nat.le_of_not_lt h2) with h3 | h3
          · exact .inl h3
          · exact .inr ⟨h3, by omega⟩
theorem bsF_nothing {p : Nat → Bool} {x : Nat → Nat} {n : Nat} (h : bsF p x n = none) (k : Nat) (hk : k < n) : p k = false := bsF_none h k hk

/-- May a heading be taken; how far it leaves the track. -/
def mayP (s u v j : Nat) (k : Nat) : Bool := f64.order (alW s u v j k) 0 == some .gt
def offX (s u v j : Nat) (k : Nat) : Nat := (fval (ofW s u v j k)).natAbs
/-- The heading that is told. -/
def stW (s u v j : Nat) : Option Nat := bsF (mayP s u v j) (offX s u v j) 360

/-- The memory of a search. -/
structure StB (w : World) (bt bs bu ba : Nat) (s u v j : Nat) : Prop where
  t : ∀ k, k < 360 → w.cell? ⟨bt, k, none⟩ = some (tv k)
  s : w.cell? ⟨bs, 0, none⟩ = some (.float .f32 s)
  u : w.cell? ⟨bu, 0, none⟩ = some (.complex .f32 u v)
  a : w.cell? ⟨ba, 0, none⟩ = some (tv j)
theorem StB.drewN {w : World} {bt bs bu ba s u v j : Nat} (h : StB w bt bs bu ba s u v j) (n : Nat) : StB (w.drewN n) bt bs bu ba s u v j := ⟨h.t, h.s, h.u, h.a⟩
/-- Some world that is the old one but for draws. -/
def Drw (w w' : World) : Prop := ∃ n, w' = w.drewN n
theorem drewN_drewN (w : World) (n m : Nat) : (w.drewN n).drewN m = w.drewN (n + m) := by
  simp [World.drewN, Nat.add_assoc]
theorem Drw.trans {a b c : World} (h : Drw a b) (k : Drw b c) : Drw a c := by
  obtain ⟨n, rfl⟩ := h
  obtain ⟨m, rfl⟩ := k
  exact ⟨n + m, drewN_drewN _ _ _⟩

theorem i_wide (g1 g2 h1 h2 : Nat) (w : World) (q1 : floatToFloatBits .f32 g1 .f64 = some h1) (q2 : floatToFloatBits .f32 g2 .f64 = some h2) :
    Calls Try.prog 42 #[.complex .f32 g1 g2] w fun e w' => e = .returned (.complex .f64 h1 h2) ∧ w = w' := by
  have hu9 : (Try.prog.underlying 59).isSome = true := by rw [Try.underlying59]; rfl
  have qw := fun w => run_convert_complex (P := Try.prog) (w := w) 59 50 .f32 .f64 _ _ _ _ hu9 Try.underlying50 (show cConvBits .f32 g1 g2 .f64 = some (h1, h2) by unfold cConvBits; rw [q1, q2]; rfl)
  clear q1 q2
  go_enter Try.func42, Try.ntmps42
  go_wp2
  go_ret
  exact ⟨rfl, rfl⟩
set_option maxRecDepth 100000 in
set_option maxHeartbeats 4000000 in
theorem i_meas (k bt bs bu ba s u v j : Nat) (w : World) (hk : k < 360) (hj : j < 360) (hs : okBs s) (hv : okV u v) (hB : StB w bt bs bu ba s u v j) :
    Calls Try.prog 40 #[.int .i64 k, .pointer (some ⟨bt, 0, none⟩), .pointer (some ⟨bs, 0, none⟩), .pointer (some ⟨bu, 0, none⟩), .pointer (some ⟨ba, 0, none⟩)] w fun e w' => e = .returned (.tuple #[.float .f64 (ofW s u v j k % 9223372036854775808), .bool (mayP s u v j k)]) ∧ Drw w w' := by
  have G := grd_ok hs hk hv
  have D := dc_grd hs hj hk hv
  have ck := hB.t k hk
  have cs := hB.s
  have cu := hB.u
  have ca := hB.a
  have hu9 : (Try.prog.underlying 59).isSome = true := by rw [Try.underlying59]; rfl
  have cv := fun w => i_velon k s w (vel_ok hs hk)
  have q := fun w => run_complex_sum (P := Try.prog) w .add (Or.inl rfl) 25 .f32 (velW s k).1 (velW s k).2 u v _ _ (by unfold cSumBits; rw [G.a1, G.a2]; rfl)
  have cw := fun w => i_wide _ _ _ _ w G.w1 G.w2
  have cd := fun w => i_dot (trn j).1 (trn j).2 (widW (grdW s u v k)).1 (widW (grdW s u v k)).2 _ _ _ w D.d1 D.d2 D.d3
  have cc := fun w => i_cross (trn j).1 (trn j).2 (widW (grdW s u v k)).1 (widW (grdW s u v k)).2 _ _ _ w D.c1 D.c2 D.c3
  have cab := fun w => abs_any (ofW s u v j k) w D.cl
  have e1 : dotW (trn j) (widW (grdW s u v k)) = alW s u v j k := rfl
  have e2 : crsW (trn j) (widW (grdW s u v k)) = ofW s u v j k := rfl
  rw [e1] at cd
  rw [e2] at cc
  have hp : (FloatKind.f64.format.order (alW s u v j k) 0 == some .gt) = mayP s u v j k := rfl
  clear G D hB e1 e2 hu9
  have k1 : (k : Int) < 360 := by omega
  have k0 : (0 : Int) ≤ (k : Int) := by omega
  have kd1 : decide ((k : Int) < 360) = true := decide_eq_true k1
  have kd0 : decide ((0 : Int) ≤ (k : Int)) = true := decide_eq_true k0
  unfold tv at ck ca cv
  unfold widW at cd cc
  dsimp only at cd cc
  generalize mayP s u v j k = mp at *
  generalize alW s u v j k = al at *
  generalize ofW s u v j k = of at *
  generalize of % 9223372036854775808 = oa at *
  generalize (trn k).1 = a1 at *
  generalize (trn k).2 = a2 at *
  generalize (trn j).1 = c1 at *
  generalize (trn j).2 = c2 at *
  generalize (velW s k).1 = x at *
  generalize (velW s k).2 = y at *
  generalize (grdW s u v k).1 = g1 at *
  generalize (grdW s u v k).2 = g2 at *
  generalize wid g1 = h1 at *
  generalize wid g2 = h2 at *
  go_enter Try.func40, Try.ntmps40
  go_wp2
  go_quiet (first
    | (go_at_call 41; with_reducible exact Calls.quiet_of_same ((cv _).mono fun _ _ h => ⟨h.1, h.2.symm⟩))
    | (go_at_call 42; with_reducible exact Calls.quiet_of_same ((cw _).mono fun _ _ h => ⟨h.1, h.2.symm⟩)))
  go_wp2
  have ca2 : (w.drewN nq).cell? ⟨ba, 0, none⟩ = some (.complex .f64 c1 c2) := ca
  have HD := Lib.hid (show Drw w (w.drewN nq) from ⟨nq, rfl⟩)
  clear ck cs cu ca cv cw q
  generalize w.drewN nq = w1 at *
  go_quiet (first
    | (go_at_call 44; with_reducible exact Calls.quiet_of_same ((cc _).mono fun _ _ h => ⟨h.1, h.2.symm⟩))
    | (go_at_call 45; with_reducible exact Calls.quiet_of_same ((cd _).mono fun _ _ h => ⟨h.1, h.2.symm⟩))
    | (go_at_call 43; with_reducible exact Calls.quiet_of_same ((cab _).mono fun _ _ h => ⟨h.1, h.2.symm⟩)))
  go_wp2
  go_ret2
  exact ⟨rfl, HD.out.trans ⟨_, rfl⟩⟩
end Go.Proofs.Ytlenmnffnbldbaa

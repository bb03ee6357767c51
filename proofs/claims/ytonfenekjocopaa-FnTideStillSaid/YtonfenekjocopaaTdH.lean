/- Tides in memory; TideOk (impl). -/
import Derived.Test.YtonfenekjocopaaTdE
import Derived.Test.YtonfenekjocopaaVk
namespace Go.Proofs.Ytonfenekjocopaa
open Go.RowKit Ieee
set_option linter.unusedSimpArgs false
set_option linter.unusedVariables false
attribute [local go_sem] st_cplx

/-- What could be read can be read again. -/
def HiSame (B : Nat) (w w' : World) : Prop := w.heap.size ≤ w'.heap.size ∧ ∀ k, B ≤ k → k < w.heap.size → w'.heap[k]? = w.heap[k]?
theorem HiSame.refl (B : Nat) (w : World) : HiSame B w w := ⟨Nat.le_refl _, fun _ _ _ => rfl⟩
theorem HiSame.grown {B : Nat} {w w' : World} {r : Option Nat} (h : w.grownBy w' r) (hr : ∀ k, r = some k → k < B) : HiSame B w w' := ⟨h.size, fun k hk hlt => h.block k hlt fun e => by have := hr k e.symm; omega⟩
theorem HiSame.below {B : Nat} {w w' : World} (h : Below w.heap.size w w') : HiSame B w w' := ⟨h.size, fun k _ hlt => h.block k hlt⟩
theorem HiSame.trans {B : Nat} {a b c : World} (h : HiSame B a b) (k : HiSame B b c) : HiSame B a c := ⟨Nat.le_trans h.1 k.1, fun j hj hlt => (k.2 j hj (Nat.lt_of_lt_of_le hlt h.1)).trans (h.2 j hj hlt)⟩
theorem HiSame.drewN (B : Nat) (w : World) (n : Nat) : HiSame B w (w.drewN n) := ⟨Nat.le_refl _, fun _ _ _ => rfl⟩
theorem HiSame.cell {B : Nat} {w w' : World} (h : HiSame B w w') {g o : Nat} {v : Value} (hB : B ≤ g) (hc : w.cell? ⟨g, o, none⟩ = some v) : w'.cell? ⟨g, o, none⟩ = some v :=
  (World.cell?_of_block (h.2 g hB (World.block_lt_of_cell? w _ hc))).trans hc

/-! ### Stations and tides -/
def StnOk (Z : Stn) : Prop := (Z.a < 18446744073709551616 ∧ Z.b < 18446744073709551616) ∧ ∀ h, h < 13 → Z.x h < 4294967296 ∧ Z.y h < 4294967296
def litS (Z : Stn) : Array Value := #[.complex .f64 Z.a Z.b, .complex .f32 (Z.x 0) (Z.y 0), .complex .f32 (Z.x 1) (Z.y 1), .complex .f32 (Z.x 2) (Z.y 2), .complex .f32 (Z.x 3) (Z.y 3), .complex .f32 (Z.x 4) (Z.y 4), .complex .f32 (Z.x 5) (Z.y 5), .complex .f32 (Z.x 6) (Z.y 6), .complex .f32 (Z.x 7) (Z.y 7), .complex .f32 (Z.x 8) (Z.y 8), .complex .f32 (Z.x 9) (Z.y 9), .complex .f32 (Z.x 10) (Z.y 10), .complex .f32 (Z.x 11) (Z.y 11), .complex .f32 (Z.x 12) (Z.y 12)]
def flA (Z : Stn) : Array Value := #[.complex .f32 (Z.x 0) (Z.y 0), .complex .f32 (Z.x 1) (Z.y 1), .complex .f32 (Z.x 2) (Z.y 2), .complex .f32 (Z.x 3) (Z.y 3), .complex .f32 (Z.x 4) (Z.y 4), .complex .f32 (Z.x 5) (Z.y 5), .complex .f32 (Z.x 6) (Z.y 6), .complex .f32 (Z.x 7) (Z.y 7), .complex .f32 (Z.x 8) (Z.y 8), .complex .f32 (Z.x 9) (Z.y 9), .complex .f32 (Z.x 10) (Z.y 10), .complex .f32 (Z.x 11) (Z.y 11), .complex .f32 (Z.x 12) (Z.y 12)]
theorem StIs.ok {cs : Array Value} {Z : Stn} (h : StIs cs Z) : StnOk Z ∧ cs = litS Z := ⟨⟨h.2.1, fun k hk => (h.2.2.2 k hk).1⟩, h.lit⟩
theorem flA_at (Z : Stn) (h : Nat) (hh : h < 13) : (flA Z)[h]? = some (.complex .f32 (Z.x h) (Z.y h)) := by
  match h, hh with
  | 0, _ => rfl
  | 1, _ => rfl
  | 2, _ => rfl
  | 3, _ => rfl
  | 4, _ => rfl
  | 5, _ => rfl
  | 6, _ => rfl
  | 7, _ => rfl
  | 8, _ => rfl
  | 9, _ => rfl
  | 10, _ => rfl
  | 11, _ => rfl
  | 12, _ => rfl
theorem lit_is {Z : Stn} (h : StnOk Z) : StIs (litS Z) Z := ⟨rfl, h.1, rfl, fun k hk => ⟨h.2 k hk, by
  match k, hk with
  | 0, _ => rfl
  | 1, _ => rfl
  | 2, _ => rfl
  | 3, _ => rfl
  | 4, _ => rfl
  | 5, _ => rfl
  | 6, _ => rfl
  | 7, _ => rfl
  | 8, _ => rfl
  | 9, _ => rfl
  | 10, _ => rfl
  | 11, _ => rfl
  | 12, _ => rfl
  ⟩⟩
theorem flA_is {Z : Stn} (h : StnOk Z) : FlIs (flA Z) Z.x Z.y := ⟨rfl, fun k hk => ⟨h.2 k hk, flA_at Z k hk⟩⟩
instance : Inhabited Stn := ⟨⟨0, 0, fun _ => 0, fun _ => 0⟩⟩
/-- A tide. -/
structure Tid where
  S : Option Addr
  ns : Nat
  cs : Nat
  H : Option Addr
  nh : Nat
  ch : Nat
  st : Nat → Stn
  hi : Nat → Int
/-- .. in memory, from B on. -/
def TidIn (B : Nat) (w : World) (T : Tid) : Prop :=
  ((∀ i, i < T.ns → StnOk (T.st i)) ∧ (∀ i, i < T.nh → -9223372036854775808 ≤ T.hi i ∧ T.hi i ≤ 9223372036854775807) ∧ T.ns ≤ 1000 ∧ T.nh ≤ 1000) ∧
  (0 < T.ns → ∃ g, T.S = some ⟨g, 0, none⟩ ∧ B ≤ g ∧ ∀ i, i < T.ns → w.rangeAt g (i * 14) (litS (T.st i)).toList) ∧
  (0 < T.nh → ∃ g, T.H = some ⟨g, 0, none⟩ ∧ B ≤ g ∧ ∀ i, i < T.nh → w.cell? ⟨g, i, none⟩ = some (.int .i64 (T.hi i)))
theorem TidIn.same {B : Nat} {w w' : World} {T : Tid} (h : TidIn B w T) (k : HiSame B w w') : TidIn B w' T := by
  obtain ⟨h0, h1, h2⟩ := h
  refine ⟨h0, fun hn => ?_, fun hn => ?_⟩
  · obtain ⟨g, e, hB, hr⟩ := h1 hn
    exact ⟨g, e, hB, fun i hi j v hv => k.cell hB (hr i hi j v hv)⟩
  · obtain ⟨g, e, hB, hr⟩ := h2 hn
    exact ⟨g, e, hB, fun i hi => k.cell hB (hr i hi)⟩
theorem TidIn.low {B B' : Nat} {w : World} {T : Tid} (h : TidIn B w T) (hB : B' ≤ B) : TidIn B' w T := by
  obtain ⟨h0, h1, h2⟩ := h
  refine ⟨h0, fun hn => ?_, fun hn => ?_⟩
  · obtain ⟨g, e, hg, hr⟩ := h1 hn; exact ⟨g, e, by omega, hr⟩
  · obtain ⟨g, e, hg, hr⟩ := h2 hn; exact ⟨g, e, by omega, hr⟩
theorem tid_of {w : World} {B ns nh : Nat} {vS vH : Value} (hS : OwnS w B vS ns) (hH : OwnH w B vH nh) (h1 : ns ≤ 1000) (h2 : nh ≤ 1000) : ∃ T : Tid, vS = .slice T.S T.ns T.cs ∧ vH = .slice T.H T.nh T.ch ∧ T.ns = ns ∧ T.nh = nh ∧ TidIn B w T := by
  obtain ⟨AS, cS, e1, _⟩ := hS.value
  obtain ⟨AH, cH, e2, _⟩ := hH.value
  obtain ⟨st, hst⟩ := Go.Deep.choose_lt (α := Stn) (n := ns) (p := fun i Z => StnOk Z ∧ ∃ g, AS = some ⟨g, 0, none⟩ ∧ B ≤ g ∧ w.rangeAt g (i * 14) (litS Z).toList) (fun i hi => by
    obtain ⟨g, cap, es, e3, _, _, hB, _, hes, hr⟩ := hS.elem hi
    obtain ⟨Z, hZ⟩ := hes.is
    obtain ⟨ho, rfl⟩ := hZ.ok
    rw [e1] at e3
    injection e3 with e3
    exact ⟨Z, ho, g, e3, hB, hr⟩)
  obtain ⟨hi, hhi⟩ := Go.Deep.choose_lt (α := Int) (n := nh) (p := fun i z => (-9223372036854775808 ≤ z ∧ z ≤ 9223372036854775807) ∧ ∃ g, AH = some ⟨g, 0, none⟩ ∧ B ≤ g ∧ w.cell? ⟨g, i, none⟩ = some (.int .i64 z)) (fun i hi => by
    obtain ⟨g, cap, cs, e3, _, _, hB, hg, _, hr⟩ := hH.form (by omega)
    obtain ⟨x, hx, z, hz, rfl⟩ := hr i (by omega)
    rw [e2] at e3
    injection e3 with e3
    exact ⟨z, hz, g, e3, hB, (cell_of_row w g i _ _ _ hg).trans hx⟩)
  refine ⟨⟨AS, ns, cS, AH, nh, cH, st, hi⟩, e1, e2, rfl, rfl, ⟨fun i h => (hst i h).1, fun i h => (hhi i h).1, h1, h2⟩, fun hn => ?_, fun hn => ?_⟩
  · obtain ⟨_, g, e, hB, _⟩ := hst 0 hn
    refine ⟨g, e, hB, fun i h => ?_⟩
    obtain ⟨_, g', e', _, hr⟩ := hst i h
    have e : AS = some ⟨g, 0, none⟩ := e
    rw [e] at e'
    cases e'
    exact hr
  · obtain ⟨_, g, e, hB, _⟩ := hhi 0 hn
    refine ⟨g, e, hB, fun i h => ?_⟩
    obtain ⟨_, g', e', _, hr⟩ := hhi i h
    have e : AH = some ⟨g, 0, none⟩ := e
    rw [e] at e'
    cases e'
    exact hr
/-- What TideOk asks. -/
def StOne (Z : Stn) : Prop := (okP Z.a ∧ okP Z.b) ∧ FlOk Z.x Z.y
def StsOk (T : Tid) : Prop := (1 ≤ T.ns ∧ T.ns ≤ 20) ∧ ∀ i, i < T.ns → StOne (T.st i)
def HiOne (T : Tid) (i : Nat) : Prop := (0 ≤ T.hi i ∧ T.hi i ≤ 10000000) ∧ (0 < i → T.hi (i - 1) + 21600 ≤ T.hi i)
def HisOk (T : Tid) : Prop := (1 ≤ T.nh ∧ T.nh ≤ 60) ∧ ∀ i, i < T.nh → HiOne T i
def TidOk (T : Tid) : Prop := StsOk T ∧ HisOk T

set_option maxHeartbeats 400000 in
theorem i_timeOk (n : Int) (t : Bool) (ht : t = true ↔ 0 ≤ n ∧ n ≤ 10000000) (w : World) :
    Calls Try.prog 106 #[.int .i64 n] w fun e w' => e = .returned (.bool t) ∧ w = w' := by
  have HT := Lib.hid ht
  clear ht
  by_cases h1 : 0 ≤ n
  · by_cases h2 : n ≤ 10000000
    · obtain rfl : t = true := HT.out.2 ⟨h1, h2⟩
      go_enter Try.func106, Try.ntmps106
      go_wp2
      go_ret
      exact ⟨rfl, rfl⟩
    · obtain rfl : t = false := by cases t; rfl; exact absurd (HT.out.1 rfl).2 h2
      go_enter Try.func106, Try.ntmps106
      go_wp2
      go_ret
      exact ⟨rfl, rfl⟩
  · obtain rfl : t = false := by cases t; rfl; exact absurd (HT.out.1 rfl).1 h1
    go_enter Try.func106, Try.ntmps106
    go_wp2
    go_ret
    exact ⟨rfl, rfl⟩

set_option maxRecDepth 100000 in
set_option maxHeartbeats 2000000 in
theorem i_highsOk (B : Nat) (T : Tid) (w : World) (hT : TidIn B w T) :
    Calls Try.prog 113 #[.slice T.H T.nh T.ch] w fun e w' => SaysW (HisOk T) w e w' := by
  have HI := Lib.hid hT
  have hn9 := hT.1.2.2.2
  clear hT
  by_cases h0 : T.nh = 0
  · have hno : ¬ HisOk T := fun h => by have := h.1.1; omega
    have HN := Lib.hid hno
    clear hno
    rw [h0]
    go_enter Try.func113, Try.ntmps113
    go_wp2_with fail
    go_ret
    exact SaysW.no HN.out rfl (Below.refl _ _)
  by_cases h60 : 60 < T.nh
  · have hno : ¬ HisOk T := fun h => by have := h.1.2; omega
    have HN := Lib.hid hno
    have e1 : (60 : Int) < (T.nh : Int) := by omega
    have e2 : ¬ (T.nh : Int) = 0 := by omega
    clear hno
    generalize T.nh = nh at *
    go_enter Try.func113, Try.ntmps113
    go_wp2_with fail
    go_ret
    exact SaysW.no HN.out rfl (Below.refl _ _)
  have e1 : ¬ (60 : Int) < (T.nh : Int) := by omega
  have e2 : ¬ (T.nh : Int) = 0 := by omega
  obtain ⟨gH, eH, _, hcH⟩ := HI.out.2.2 (by omega)
  rw [eH]
  have HC := Lib.hid hcH
  clear hcH
  have HE := Lib.hid (show HisOk T ↔ ∀ i, i < T.nh → HiOne T i from ⟨fun h => h.2, fun h => ⟨by omega, h⟩⟩)
  go_enter Try.func113, Try.ntmps113
  go_wp2_with fail
  go_loop [3, 4, 15] (fun _ _ i => ∃ k : Nat, k ≤ T.nh ∧ i = .int .i64 k ∧ ∀ j, j < k → HiOne T j) (fun _ _ i => T.nh - (intOf i).toNat)
  case atStart => exact ⟨0, by omega, rfl, fun j hj => by omega⟩
  case round =>
    obtain ⟨k, hk, rfl, hall⟩ := hrel
    have HA := Lib.hid hall
    clear hall
    by_cases hlt : k < T.nh
    · have k1 : (k : Int) < (T.nh : Int) := by omega
      have k0 : (0 : Int) ≤ (k : Int) := by omega
      have ck := HC.out k hlt
      by_cases ht : 0 ≤ T.hi k ∧ T.hi k ≤ 10000000
      · have hto := i_timeOk (T.hi k) true (by simp [ht])
        have HTT := Lib.hid ht
        obtain ⟨t0, t1⟩ := ht
        by_cases hk0 : k = 0
        · subst hk0
          have HO := Lib.hid (show HiOne T 0 from ⟨HTT.out, fun h => by omega⟩)
          generalize T.hi 0 = z at *
          go_wp2_with (go_at_call 106; ((with_reducible refine (hto _).mono ?_); rintro e w' ⟨rfl, rfl⟩))
          go_round
          case rel => exact ⟨1, by omega, by go_num, fun j hj => by rw [show j = 0 by omega]; exact HO.out⟩
          case measure => simp [intOf]; omega
        · have hp := (HA.out (k - 1) (by omega)).1
          have ck1 := HC.out (k - 1) (by omega)
          have hidx : (k : Int) - 1 = ((k - 1 : Nat) : Int) := by omega
          have hidx2 : ((k - 1 : Nat) : Int) < (T.nh : Int) := by omega
          have hidx3 : IntKind.i64.wrap ((k - 1 : Nat) : Int) = ((k - 1 : Nat) : Int) := IntWalk.i64_in _ (by omega)
          have hidx4 : (0 : Int) ≤ ((k - 1 : Nat) : Int) := by omega
          have hkp : (0 : Int) < (k : Int) := by omega
          obtain ⟨s0, s1⟩ := hp
          by_cases hd : T.hi k - T.hi (k - 1) < 21600
          · have HO := Lib.hid (show ¬ HisOk T from fun h => by have := (h.2 k hlt).2 (by omega); omega)
            generalize T.hi (k - 1) = y at *
            generalize T.hi k = z at *
            go_wp2_with (go_at_call 106; ((with_reducible refine (hto _).mono ?_); rintro e w' ⟨rfl, rfl⟩))
            go_ret
            exact SaysW.no HO.out rfl (Below.refl _ _)
          · have HO := Lib.hid (show HiOne T k from ⟨HTT.out, fun h => by omega⟩)
            generalize T.hi (k - 1) = y at *
            generalize T.hi k = z at *
            go_wp2_with (go_at_call 106; ((with_reducible refine (hto _).mono ?_); rintro e w' ⟨rfl, rfl⟩))
            go_round
            case rel => exact ⟨k + 1, by omega, by go_num, fun j hj => by
              rcases Nat.lt_or_ge j k with h' | h'
              · exact HA.out j h'
              · rw [show j = k by omega]; exact HO.out⟩
            case measure => simp [intOf]; omega
      · have hto := i_timeOk (T.hi k) false (by simpa using ht)
        have HO := Lib.hid (show ¬ HisOk T from fun h => ht (h.2 k hlt).1)
        clear ht
        generalize T.hi k = z at *
        go_wp2_with (go_at_call 106; ((with_reducible refine (hto _).mono ?_); rintro e w' ⟨rfl, rfl⟩))
        go_ret
        exact SaysW.no HO.out rfl (Below.refl _ _)
    · obtain rfl : k = T.nh := by omega
      go_wp2_with fail
      go_ret
      exact SaysW.yes (HE.out.2 HA.out) rfl (Below.refl _ _)
end Go.Proofs.Ytonfenekjocopaa

/- Stations as data; spec.l05FlowOk; FlowAt on both sides. -/
import Derived.Test.YtonfenekjocopaaTdC
import Derived.Test.YtonfenekjocopaaClamp
namespace Go.Proofs.Ytonfenekjocopaa
open Go.RowKit Ieee
set_option linter.unusedSimpArgs false
set_option linter.unusedVariables false

/-- The answer to a question, nothing old turned. -/
def SaysW (p : Prop) (w : World) (e : Ending) (w' : World) : Prop := ∃ t : Bool, (t = true ↔ p) ∧ e = .returned (.bool t) ∧ Below w.heap.size w w'
theorem SaysW.yes {p : Prop} {w : World} {e : Ending} {w' : World} (h : p) (he : e = .returned (.bool true)) (d : Below w.heap.size w w') : SaysW p w e w' := ⟨true, ⟨fun _ => h, fun _ => rfl⟩, he, d⟩
theorem SaysW.no {p : Prop} {w : World} {e : Ending} {w' : World} (h : ¬ p) (he : e = .returned (.bool false)) (d : Below w.heap.size w w') : SaysW p w e w' := ⟨false, ⟨fun e => (by cases e), fun e => absurd e h⟩, he, d⟩
/-- A station, as words. -/
structure Stn where
  a : Nat
  b : Nat
  x : Nat → Nat
  y : Nat → Nat
def StIs (cs : Array Value) (Z : Stn) : Prop := cs.size = 14 ∧ (Z.a < 18446744073709551616 ∧ Z.b < 18446744073709551616) ∧ cs[0]? = some (.complex .f64 Z.a Z.b) ∧ ∀ h, h < 13 → (Z.x h < 4294967296 ∧ Z.y h < 4294967296) ∧ cs[1 + h]? = some (.complex .f32 (Z.x h) (Z.y h))
theorem StV.is {cs : Array Value} (h : StV cs) : ∃ Z, StIs cs Z := by
  obtain ⟨hs, hc⟩ := h
  have h0 : cs[0]? = some cs[0] := Array.getElem?_eq_getElem (by omega)
  obtain ⟨a, b, hab, e⟩ := (hc 0 _ h0).1 rfl
  obtain ⟨f, hf⟩ := Go.Deep.choose_lt (α := Nat × Nat) (n := 13) (p := fun h v => (v.1 < 4294967296 ∧ v.2 < 4294967296) ∧ cs[1 + h]? = some (.complex .f32 v.1 v.2)) (fun h hh => by
    have h1 : cs[1 + h]? = some cs[1 + h] := Array.getElem?_eq_getElem (by omega)
    obtain ⟨a, b, hab, e⟩ := (hc (1 + h) _ h1).2 (by omega)
    exact ⟨(a, b), hab, by rw [h1, e]⟩)
  exact ⟨⟨a, b, fun h => (f h).1, fun h => (f h).2⟩, hs, hab, by rw [h0, e], fun h hh => hf h hh⟩
/-- Its flow, as the array that is loaded. -/
theorem StIs.flow {cs : Array Value} {Z : Stn} (h : StIs cs Z) : ∃ fs : Array Value, FlIs fs Z.x Z.y ∧ fs.toList.length = 13 ∧ ∀ (w : World) (g : Nat) (t : TypeId), w.heap[g]? = some (.cells cs t (0, 0)) → w.rangeAt g 1 fs.toList := by
  refine ⟨(cs.toList.drop 1).toArray, ⟨by simp [h.1], fun k hk => ⟨(h.2.2.2 k hk).1, ?_⟩⟩, by simp [h.1], fun w g t hb j v hv => ?_⟩
  · rw [← (h.2.2.2 k hk).2]
    simp [Nat.add_comm]
  · rw [cell_of_row w g (1 + j) _ _ _ hb]
    simpa [Nat.add_comm] using hv
theorem StIs.st {cs : Array Value} {Z : Stn} (h : StIs cs Z) : StV cs := by
  refine ⟨h.1, fun c x hx => ⟨fun e => ?_, fun e => ?_⟩⟩
  · subst e
    rw [h.2.2.1] at hx
    cases hx
    exact ⟨_, _, h.2.1, rfl⟩
  · obtain ⟨k, rfl⟩ : ∃ k, c = 1 + k := ⟨c - 1, by omega⟩
    have hk : k < 13 := by
      rcases Nat.lt_or_ge (1 + k) cs.size with h' | h'
      · have := h.1; omega
      · rw [Array.getElem?_eq_none h'] at hx; cases hx
    obtain ⟨h1, h2⟩ := h.2.2.2 k hk
    rw [h2] at hx
    cases hx
    exact ⟨_, _, h1, rfl⟩

/-- Seconds from the table's first hour on. -/
def nOf (o : Int) : Int := clampOf o (-21600) 21600 + 21600
theorem nOf_le (o : Int) : 0 ≤ nOf o ∧ nOf o ≤ 43200 := by
  unfold nOf clampOf
  split
  · omega
  · split <;> omega
/-- The velocity that FlowAt tells. -/
def FlowN (Z : Stn) (n : Int) (u v : Nat) : Prop :=
  (n % 3600 = 0 ∧ u = Z.x (n / 3600).toNat ∧ v = Z.y (n / 3600).toNat) ∨
  (0 < n % 3600 ∧ ∃ q, floatBits .quo .f32 (floatOfInt .f32 (n % 3600)) 1163984896 = some q ∧ q < 4294967296 ∧ okK q ∧
    DampIs (Z.x (n / 3600).toNat) (Z.x ((n / 3600).toNat + 1)) q u ∧ DampIs (Z.y (n / 3600).toNat) (Z.y ((n / 3600).toNat + 1)) q v)
def FlowIs (Z : Stn) (o : Int) (u v : Nat) : Prop := FlowN Z (nOf o) u v
theorem flow_ex {Z : Stn} (h : FlOk Z.x Z.y) (o : Int) : ∃ u v, FlowIs Z o u v ∧ u < 4294967296 ∧ v < 4294967296 := by
  obtain ⟨n0, n1⟩ := nOf_le o
  by_cases hr : nOf o % 3600 = 0
  · have hk := h (nOf o / 3600).toNat (by omega)
    exact ⟨_, _, .inl ⟨hr, rfl, rfl⟩, hk.1.1, hk.1.2⟩
  · obtain ⟨q, q1, q2, q3⟩ := ratio_ok (n := nOf o % 3600) (by omega) (by omega)
    have hk := h (nOf o / 3600).toNat (by omega)
    have hl := h ((nOf o / 3600).toNat + 1) (by omega)
    obtain ⟨u, u1, u2, _⟩ := damp_is hk.2.1 hl.2.1 q3
    obtain ⟨v, v1, v2, _⟩ := damp_is hk.2.2 hl.2.2 q3
    exact ⟨u, v, .inr ⟨by omega, q, q1, q2, q3, u1, v1⟩, u2, v2⟩
set_option maxRecDepth 100000 in
set_option maxHeartbeats 1000000 in
theorem i_FlowAt_no (cs : Array Value) (Z : Stn) (o : Int) (w : World) (hc : StIs cs Z) (hno : ¬ FlOk Z.x Z.y) :
    Calls Try.prog 88 #[.agg cs, .int .i64 o] w fun e w' => e = .returned (.tuple #[.complex .f32 0 0, .bool false]) ∧ Below w.heap.size w w' := by
  have hb : (w.alloc (.cells cs 110)).heap[w.heap.size]? = some (.cells cs 110 (0, 0)) := heap_alloc_new w _
  have hbl : Below w.heap.size w (w.alloc (.cells cs 110)) := (Below.refl w.heap.size w).alloc (Nat.le_refl _) _
  have HC := Lib.hid (And.intro hc hno)
  clear hc hno
  obtain ⟨fs, hf1, hf2, hf3⟩ := HC.out.1.flow
  have hra := hf3 _ _ _ hb
  have hfl := fun w => i_flowOk fs _ _ w hf1
  have HL := Lib.hid hf2
  clear hf1 hf2 hf3
  go_enter Try.func88, Try.ntmps88
  go_wp2_with (first
    | (refine wpList_load_mid rfl _ _ rfl w.heap.size 1 rfl fs.toList _ hra Try.underlying108 rfl (by rw [HL.out]; exact Try.infoAr) ?_)
    | (go_at_call 109; (with_reducible refine (hfl _).mono ?_); rintro e w2 ⟨t, ht, rfl, b2⟩; obtain rfl : t = false := by cases t; rfl; exact absurd (ht.1 rfl) HC.out.2))
  go_ret2
  exact ⟨rfl, hbl.trans (b2.mono hbl.size)⟩
theorem below_drew' {w w' : World} (h : Below w.drew.heap.size w.drew w') : Below w.heap.size w w' := ⟨h.os, h.tape, h.output, h.size, h.block⟩
set_option maxRecDepth 100000 in
set_option maxHeartbeats 2000000 in
theorem i_FlowAt_yes (cs : Array Value) (Z : Stn) (o : Int) (u v : Nat) (w : World) (hc : StIs cs Z) (hok : FlOk Z.x Z.y) (hf : FlowIs Z o u v) :
    Calls Try.prog 88 #[.agg cs, .int .i64 o] w fun e w' => e = .returned (.tuple #[.complex .f32 u v, .bool true]) ∧ Below w.heap.size w w' := by
  have hb : (w.alloc (.cells cs 110)).heap[w.heap.size]? = some (.cells cs 110 (0, 0)) := heap_alloc_new w _
  have hbl : Below w.heap.size w (w.alloc (.cells cs 110)) := (Below.refl w.heap.size w).alloc (Nat.le_refl _) _
  have HC := Lib.hid (And.intro hc hok)
  obtain ⟨fs, hf1, hf2, hf3⟩ := hc.flow
  have hra := hf3 _ _ _ hb
  have hfl := fun w => i_flowOk fs _ _ w hf1
  have HL := Lib.hid hf2
  clear hf1 hf2 hf3
  obtain ⟨n0, n1⟩ := nOf_le o
  have HF := Lib.hid (show FlowN Z (nOf o) u v from hf)
  have hz : ∀ z : Int, (if -21600 < if 21600 < o then 21600 else o then if 21600 < o then 21600 else o else -21600) = z → z + 21600 = nOf o := by
    intro z e
    rw [← e]
    unfold nOf clampOf
    repeat' split
    all_goals omega
  clear hc hok hf
  go_enter Try.func88, Try.ntmps88
  go_upto_region 3 with (first
    | (refine wpList_load_mid rfl _ _ rfl w.heap.size 1 rfl fs.toList _ hra Try.underlying108 rfl (by rw [HL.out]; exact Try.infoAr) ?_)
    | (go_at_call 109; (with_reducible refine (hfl _).mono ?_); rintro e w2 ⟨t, ht, rfl, b2⟩; obtain rfl : t = true := ht.2 HC.out.2))
  go_upto_region 4 with fail
  have hb2 := (b2.block w.heap.size (by simp)).trans hb
  have hbl2 := hbl.trans (b2.mono hbl.size)
  generalize hz1 : (if -21600 < if 21600 < o then 21600 else o then if 21600 < o then 21600 else o else -21600) = z at *
  have hz2 := hz _ rfl
  generalize (if 21600 < o then 21600 else o) = z' at *
  rw [hz2]
  clear hz hz1 hz2 hra hfl b2 hbl hb ht
  generalize nOf o = n at *
  obtain ⟨k, hk⟩ : ∃ k : Nat, n / 3600 = k := ⟨(n / 3600).toNat, by omega⟩
  have e1 : n.tdiv 3600 = (k : Int) := by rw [Int.tdiv_eq_ediv_of_nonneg n0]; exact hk
  have e2 : n.tmod 3600 = n % 3600 := Int.tmod_eq_emod_of_nonneg n0
  have hkn : (n / 3600).toNat = k := by omega
  have HB := Lib.hid (And.intro hb2 hbl2)
  have k0 : (0 : Int) ≤ (k : Int) := by omega
  have k1 : (k : Int) < 13 := by omega
  have ck : w2.cell? ⟨w.heap.size, 1 + k, none⟩ = some (.complex .f32 (Z.x k) (Z.y k)) := (cell_of_row w2 _ (1 + k) _ _ _ HB.out.1).trans (HC.out.1.2.2.2 k (by omega)).2
  have hcase := HF.out
  rw [FlowN, hkn] at hcase
  clear HF hb2 hbl2
  rcases hcase with ⟨hr, hu, hv⟩ | ⟨hr, q, q1, q2, q3, q4, q5⟩
  · generalize Z.x k = a at *
    generalize Z.y k = b at *
    subst hu hv
    go_wp2_with fail
    go_ret2
    exact ⟨rfl, HB.out.2⟩
  · have hr2 : n % 3600 < 3600 := by omega
    have hkl : k < 12 := by omega
    have k2 : (k : Int) + 1 < 13 := by omega
    have k3 : (0 : Int) ≤ (k : Int) + 1 := by omega
    have ck1 : w2.cell? ⟨w.heap.size, 1 + (k + 1), none⟩ = some (.complex .f32 (Z.x (k + 1)) (Z.y (k + 1))) := (cell_of_row w2 _ (1 + (k + 1)) _ _ _ HB.out.1).trans (HC.out.1.2.2.2 (k + 1) (by omega)).2
    have hD := fun w => i_Damp_yes _ _ _ _ q u v w (HC.out.2 k (by omega)) (HC.out.2 (k + 1) (by omega)) q2 q3 q4 q5
    have hqr := fun w => run_float_arith (P := Try.prog) w .quo 35 .f32 _ _ _ q1
    have hr3 : ¬ n % 3600 = 0 := by omega
    have wk : IntKind.i64.wrap ((k : Int) + 1) = (k : Int) + 1 := IntWalk.i64_in _ (by omega)
    have k5 : ((k : Int) + 1).toNat = k + 1 := by omega
    clear q1 q2 q3 q4 q5
    generalize Z.x k = a at *
    generalize Z.y k = b at *
    generalize Z.x (k + 1) = c at *
    generalize Z.y (k + 1) = d at *
    generalize n % 3600 = r at *
    go_upto_region 7 with fail
    go_region_with ((go_at_call 110; (with_reducible refine (hD _).mono ?_); rintro e w3 ⟨rfl, b3⟩))
    all_goals
      go_wp2_with fail
      go_ret2
      exact ⟨rfl, HB.out.2.trans ((show Below w2.drew.heap.size w2 _ from below_drew' b3).mono HB.out.2.size)⟩
end Go.Proofs.Ytonfenekjocopaa

/- Lists of legs: allOk (impl), l07Legs (spec). -/
import Derived.Test.YtonfenekjocopaaLgB
namespace Go.Proofs.Ytonfenekjocopaa
open Go.RowKit Ieee
set_option linter.unusedVariables false
set_option linter.unusedSimpArgs false
attribute [local go_sem] st_cplx

/-- The legs that lie in a block, from a cell on. -/
def LegsIn (w : World) (g o n : Nat) (ls : Nat → Int × Nat × Int) : Prop := ∀ j, j < n → w.cell? ⟨g, o + j * 3, none⟩ = some (.int .i64 (ls j).1) ∧ w.cell? ⟨g, o + j * 3 + 1, none⟩ = some (.float .f32 (ls j).2.1) ∧ w.cell? ⟨g, o + j * 3 + 2, none⟩ = some (.int .i64 (ls j).2.2) ∧ (ls j).2.1 < 4294967296
theorem LegsIn.same {w w' : World} {g o n : Nat} {ls : Nat → Int × Nat × Int} (h : LegsIn w g o n ls) (hs : w'.heap[g]? = w.heap[g]?) : LegsIn w' g o n ls := fun j hj => by
  obtain ⟨a, b, c, d⟩ := h j hj
  have e : ∀ k, w'.cell? ⟨g, k, none⟩ = w.cell? ⟨g, k, none⟩ := fun k => by simp only [World.cell?, hs]
  exact ⟨(e _).trans a, (e _).trans b, (e _).trans c, d⟩
theorem LegsIn.lt {w : World} {g o n : Nat} {ls : Nat → Int × Nat × Int} (h : LegsIn w g o n ls) (hn : 0 < n) : g < w.heap.size := by
  obtain ⟨a, _⟩ := h 0 hn
  rcases Nat.lt_or_ge g w.heap.size with h' | h'
  · exact h'
  · simp [World.cell?, Array.getElem?_eq_none h'] at a
theorem LegsIn.below {w w' : World} {B g o n : Nat} {ls : Nat → Int × Nat × Int} (h : LegsIn w g o n ls) (hb : Below B w w') (hB : w.heap.size ≤ B) : LegsIn w' g o n ls := fun j hj => by
  have hg := h.lt (by omega)
  exact h.same (hb.block g (by omega)) j hj
def LegsOk (n : Nat) (ls : Nat → Int × Nat × Int) : Prop := n ≤ 50 ∧ ∀ j, j < n → lgB (ls j).2.1 (ls j).2.2 = true
noncomputable def lsB (n : Nat) (ls : Nat → Int × Nat × Int) : Bool := @decide (LegsOk n ls) (Classical.propDecidable _)
theorem lsB_iff {n : Nat} {ls : Nat → Int × Nat × Int} : lsB n ls = true ↔ LegsOk n ls := by unfold lsB; exact @decide_eq_true_iff _ (Classical.propDecidable _)
theorem lsB_no {n : Nat} {ls : Nat → Int × Nat × Int} (h : ¬ LegsOk n ls) : lsB n ls = false := by
  cases e : lsB n ls
  · rfl
  · exact absurd (lsB_iff.1 e) h

set_option maxRecDepth 100000 in
set_option maxHeartbeats 1000000 in
theorem i_allL (ls : Nat → Int × Nat × Int) (A : Option Addr) (g o n cap : Nat) (w : World) (hn : n ≤ 1000000) (hA : 0 < n → A = some ⟨g, o, none⟩) (hw : LegsIn w g o n ls) :
    Calls Try.prog 38 #[.slice A n cap, .func (.func 31) #[] #[]] w fun e w' => e = .returned (.bool (lsB n ls)) ∧ Below w.heap.size w w' := by
  have HW := Lib.hid hw
  clear hw
  by_cases hbig : n ≤ 50
  · go_enter Try.func38, Try.ntmps38
    go_wp2
    go_loopw [6, 12] (fun v i wr => ∃ k : Nat, k ≤ n ∧ i = .int .i64 k ∧ (∀ j, j < k → lgB (ls j).2.1 (ls j).2.2 = true) ∧ Below w.heap.size w wr) (fun _ i _ => n - (intOf i).toNat)
    case atStart => exact ⟨0, Nat.zero_le _, rfl, (fun j h => by omega), Below.refl _ _⟩
    case round =>
      obtain ⟨k, hk, rfl, hall, hbel⟩ := hrel
      have HA := Lib.hid hall
      have hsz := hbel.size
      clear hall
      by_cases hlt : k < n
      · obtain rfl := hA (by omega)
        obtain ⟨c0, c1, c2, hs⟩ := (HW.out.below hbel (Nat.le_refl _)) k hlt
        have HB := Lib.hid hbel
        clear hbel
        generalize hh : (ls k).1 = hd at *
        have cl := fun w => i_legOk hd (ls k).2.1 (ls k).2.2 w hs
        have a1 := fun (x y z : Value) => st_new Try.prog wr x y z (.float .f32 (ls k).2.1) 45 1 (by omega) rfl
        have a2 := fun (x y z : Value) => st_new Try.prog wr x y z (.int .i64 (ls k).2.2) 45 2 (by omega) rfl
        cases hv : lgB (ls k).2.1 (ls k).2.2
        · have hno := Lib.hid (lsB_no (n := n) (ls := ls) (fun h => by rw [h.2 k hlt] at hv; cases hv))
          rw [hv] at cl
          clear hv hs
          generalize (ls k).2.1 = s at *
          generalize (ls k).2.2 = m at *
          go_wp2_with fail
          refine (cl _).mono ?_
          rintro e w2 ⟨rfl, b2⟩
          have b3 := ((HB.out.alloc hsz (.cells #[.int .i64 hd, .float .f32 s, .int .i64 m] 45)).trans (b2.mono (by simp; omega)))
          clear b2 cl a1 a2
          go_wp2
          go_ret
          exact ⟨by rw [hno.out]; rfl, b3⟩
        · have HV := Lib.hid hv
          rw [hv] at cl
          clear hv hs
          generalize hss : (ls k).2.1 = s at *
          generalize hmm : (ls k).2.2 = m at *
          have HH := Lib.hid (And.intro hss hmm)
          clear hss hmm
          go_wp2_with fail
          refine (cl _).mono ?_
          rintro e w2 ⟨rfl, b2⟩
          have b3 := ((HB.out.alloc hsz (.cells #[.int .i64 hd, .float .f32 s, .int .i64 m] 45)).trans (b2.mono (by simp; omega)))
          clear b2 cl a1 a2
          go_wp2
          go_roundw
          case rel => exact ⟨k + 1, by omega, by go_num, (fun j hj => by
            rcases Nat.lt_or_ge j k with h | h
            · exact HA.out j h
            · obtain rfl : j = k := by omega
              rw [HH.out.1, HH.out.2]; exact HV.out), b3⟩
          case measure => simp [intOf]; omega
      · obtain rfl : k = n := by omega
        have hy := Lib.hid (lsB_iff.2 ⟨hbig, HA.out⟩)
        go_wp2
        go_ret
        exact ⟨by rw [hy.out]; rfl, hbel⟩
  · have hy := Lib.hid (lsB_no (n := n) (ls := ls) (fun h => hbig h.1))
    go_enter Try.func38, Try.ntmps38
    go_wp2
    go_ret
    exact ⟨by rw [hy.out]; rfl, Below.refl _ _⟩
set_option maxRecDepth 100000 in
set_option maxHeartbeats 1000000 in
theorem s_allL (ls : Nat → Int × Nat × Int) (A : Option Addr) (g o n cap : Nat) (w : World) (hn : n ≤ 1000000) (hA : 0 < n → A = some ⟨g, o, none⟩) (hw : LegsIn w g o n ls) :
    Calls Try.prog 41 #[.slice A n cap] w fun e w' => e = .returned (.bool (lsB n ls)) ∧ Below w.heap.size w w' := by
  have HW := Lib.hid hw
  clear hw
  go_enter Try.func41, Try.ntmps41
  go_wp2
  go_loopw [3] (fun i wr => ∃ k : Nat, k ≤ n ∧ i = .int .i64 k ∧ (∀ j, j < k → lgB (ls j).2.1 (ls j).2.2 = true) ∧ Below w.heap.size w wr) (fun i _ => n - (intOf i).toNat)
  case atStart => exact ⟨0, Nat.zero_le _, rfl, (fun j h => by omega), Below.refl _ _⟩
  case round =>
    obtain ⟨k, hk, rfl, hall, hbel⟩ := hrel
    have HA := Lib.hid hall
    have hsz := hbel.size
    clear hall
    by_cases hlt : k < n
    · obtain rfl := hA (by omega)
      obtain ⟨c0, c1, c2, hs⟩ := (HW.out.below hbel (Nat.le_refl _)) k hlt
      have HB := Lib.hid hbel
      clear hbel
      generalize hh : (ls k).1 = hd at *
      have cl := fun w => s_legOk hd (ls k).2.1 (ls k).2.2 w hs
      cases hv : lgB (ls k).2.1 (ls k).2.2
      · have hno := Lib.hid (lsB_no (n := n) (ls := ls) (fun h => by rw [h.2 k hlt] at hv; cases hv))
        rw [hv] at cl
        clear hv hs
        generalize (ls k).2.1 = s at *
        generalize (ls k).2.2 = m at *
        go_wp2_with fail
        refine (cl _).mono ?_
        rintro e w2 ⟨rfl, b2⟩
        have b3 := HB.out.trans (b2.mono hsz)
        clear b2 cl
        go_wp2
        go_ret
        exact ⟨by rw [hno.out]; rfl, b3⟩
      · have HV := Lib.hid hv
        rw [hv] at cl
        clear hv hs
        generalize hss : (ls k).2.1 = s at *
        generalize hmm : (ls k).2.2 = m at *
        have HH := Lib.hid (And.intro hss hmm)
        clear hss hmm
        go_wp2_with fail
        refine (cl _).mono ?_
        rintro e w2 ⟨rfl, b2⟩
        have b3 := HB.out.trans (b2.mono hsz)
        clear b2 cl
        go_wp2
        go_roundw
        case rel => exact ⟨k + 1, by omega, by go_num, (fun j hj => by
          rcases Nat.lt_or_ge j k with h | h
          · exact HA.out j h
          · obtain rfl : j = k := by omega
            rw [HH.out.1, HH.out.2]; exact HV.out), b3⟩
        case measure => simp [intOf]; omega
    · obtain rfl : k = n := by omega
      by_cases hbig : k ≤ 50
      · have hy := Lib.hid (lsB_iff.2 ⟨hbig, HA.out⟩)
        have hb' : (k : Int) ≤ 50 := by omega
        go_wp2
        go_ret
        exact ⟨by rw [hy.out]; simp [hb'], hbel⟩
      · have hy := Lib.hid (lsB_no (n := k) (ls := ls) (fun h => hbig h.1))
        have hb' : ¬ (k : Int) ≤ 50 := by omega
        go_wp2
        go_ret
        exact ⟨by rw [hy.out]; simp [hb'], hbel⟩
end Go.Proofs.Ytonfenekjocopaa

/- The walks of l01Pick, DrawParseFixed and of the law FnFixedParsed. -/
import Derived.Test.YtciebalkfeoabaaDoorFixT
namespace Go.Proofs.YtciebalkfeoabaaDoor
open Go.RowKit

theorem grown_of_below {w w' : World} (hb : Below w.heap.size w w') : w.grownBy w' none := ⟨hb.os, hb.tape, hb.output, hb.size, fun k hk _ => hb.block k hk⟩
theorem Cur.below {w w' : World} {B g len cap : Nat} {A : Option Addr} (h : Cur w B g A len cap) (hb : Below w.heap.size w w') : Cur w' B g A len cap :=
  h.grown_far (grown_of_below hb) (by simp) (fun _ h => by cases h)

set_option maxHeartbeats 1000000 in
/-- A pick out of a slice of strings in a block of its own. -/
theorem d_pick (w : World) (B g len cap b n m : Nat) (A : Option Addr) (t : TypeId) (xs : List ByteArray) (hc : Cur w B g A len cap) (hn : n = xs.length) (h0 : 0 < n) (h1 : n < 1000) (hbg : b ≠ g)
    (hx : ∀ x ∈ xs, x.size ≤ 40) (hb : w.heap[b]? = some (.cells (xs.map Value.string).toArray t (0, 0))) :
    Calls Tryd.prog 44 #[.pointer (some ⟨g, 0, none⟩), .slice (some ⟨b, 0, none⟩) n m] w fun e w' => ∃ s : ByteArray, s.size ≤ 40 ∧ e = .returned (.string s) ∧ Cur w' B g A len cap ∧ w.grownBy w' (some g) := by
  have HB := Lib.hid hb
  clear hb
  go_enter Tryd.func44, Tryd.ntmps44
  go_wp2_with fail
  refine (d_below _ _ B g len cap A hc (by omega)).mono ?_
  rintro e w1 ⟨x, x0, x1, x2, rfl, cur1, gr1⟩
  obtain ⟨k, rfl⟩ : ∃ k : Nat, x = k := ⟨x.toNat, by omega⟩
  have hk : k < n := by have := x1 (by omega); omega
  have hcell : w1.cell? ⟨b, k, none⟩ = some (.string (xs.getD k ⟨#[]⟩)) := by
    have hlt : b < w.heap.size := by
      rcases Nat.lt_or_ge b w.heap.size with h | h
      · exact h
      · have := HB.out; rw [Array.getElem?_eq_none h] at this; cases this
    rw [cell_of_row w1 b k _ _ _ ((gr1.block b hlt (by simpa using hbg)).trans HB.out)]
    simp [List.getD, List.getElem?_eq_getElem (show k < xs.length by omega)]
  have hmem : xs.getD k ⟨#[]⟩ ∈ xs := by
    rw [List.getD, List.getElem?_eq_getElem (show k < xs.length by omega)]; exact List.getElem_mem _
  have r0 := hx _ hmem
  generalize xs.getD k ⟨#[]⟩ = v at *
  clear x1 x2 hx hmem HB
  have k0 : (0 : Int) ≤ (k : Int) := by omega
  have k1 : (k : Int) < (n : Int) := by omega
  go_wp2
  go_ret
  exact ⟨v, r0, rfl, cur1, gr1⟩

def parseTexts : List ByteArray := [⟨#[]⟩, ⟨#[45]⟩, ⟨#[48, 46, 48, 48]⟩, ⟨#[48, 46, 48, 48, 48, 48]⟩, ⟨#[45, 48, 46, 48, 48, 48]⟩, ⟨#[48, 48, 46, 48, 48, 48]⟩, ⟨#[49, 48, 48, 48, 48, 48, 48, 46, 48, 48, 48]⟩, ⟨#[49, 48, 48, 48, 48, 48, 48, 46, 48, 48, 49]⟩, ⟨#[45, 49, 48, 48, 48, 48, 48, 48, 46, 48, 48, 48]⟩, ⟨#[57, 57, 57, 57, 57, 57, 57, 46, 57, 57, 57]⟩, ⟨#[57, 57, 57, 57, 57, 57, 57, 57, 46, 57, 57, 57]⟩, ⟨#[49, 44, 48, 48, 48]⟩, ⟨#[43, 49, 46, 48, 48, 48]⟩, ⟨#[46, 53, 48, 48]⟩, ⟨#[48, 46, 53, 97, 48]⟩, ⟨#[49, 46, 48, 48, 48, 32]⟩]

set_option maxRecDepth 100000 in
set_option maxHeartbeats 2000000 in
theorem d_parsefix (w : World) (len cap : Nat) (A : Option Addr) (hcode : Code w w.heap.size A len) :
    Calls Tryd.prog 27 #[.slice A len cap] w fun e w' => ∃ s : ByteArray, s.size ≤ 41 ∧ e = .returned (.string s) ∧ Below w.heap.size w w' := by
  go_enter Tryd.func27, Tryd.ntmps27
  go_wp2_with fail
  refine (d_new w w.heap.size len cap A (Nat.le_refl _) hcode).mono ?_
  rintro e w1 ⟨g, rfl, cur1, b1⟩
  go_wp2_with fail
  refine (d_below _ _ _ g len cap A cur1 (by omega)).mono ?_
  rintro e w2 ⟨x, x0, x1, x2, rfl, cur2, gr2⟩
  have x3 := x1 (by omega)
  clear x1 x2
  have b2 := below_cur b1 (Nat.le_refl _) gr2 cur2.1
  go_wp2_with fail
  have hz := fixText_le (x - 2000000)
  refine (s_ff (x - 2000000) _).mono ?_
  rintro e w3 ⟨rfl, b3⟩
  have cur3 := cur2.below b3
  have b13 := b2.trans (b3.mono b2.size)
  generalize fixText (x - 2000000) = s at *
  go_wp2_with fail
  refine (d_below _ _ _ g len cap A cur3 (by omega)).mono ?_
  rintro e w4 ⟨y, y0, y1, y2, rfl, cur4, gr4⟩
  have y3 := y1 (by omega)
  clear y1 y2
  have b14 := below_cur b13 (Nat.le_refl _) gr4 cur4.1
  by_cases hy0 : y = 0
  · subst hy0
    go_wp2_with fail
    have hlt := cur4.lt
    refine (d_pick _ _ g len cap w4.heap.size 16 16 A 9 parseTexts (cur4.alloc _) rfl (by omega) (by omega) (by omega) (by decide) (heap_alloc_new w4 _)).mono ?_
    rintro e w5 ⟨v, v0, rfl, cur5, gr5⟩
    go_wp2
    go_ret
    exact ⟨v, by omega, rfl, below_cur b14 (Nat.le_refl _) (grown_trans (World.grownBy_alloc w4 _ _) gr5) cur4.1⟩
  · have e0 : (y == 0) = false := by simpa using hy0
    by_cases hy1 : y = 1
    · subst hy1
      go_wp2
      go_ret
      exact ⟨s ++ ⟨#[48]⟩, by rw [ByteArray.size_append]; have : (⟨#[48]⟩ : ByteArray).size = 1 := rfl; omega, rfl, b14⟩
    · have e1 : (y == 1) = false := by simpa using hy1
      by_cases hy2 : y = 2
      · subst hy2
        go_wp2
        go_ret
        exact ⟨⟨#[48]⟩ ++ s, by rw [ByteArray.size_append]; have : (⟨#[48]⟩ : ByteArray).size = 1 := rfl; omega, rfl, b14⟩
      · have e2 : (y == 2) = false := by simpa using hy2
        go_wp2
        go_ret
        exact ⟨s, by omega, rfl, b14⟩

theorem fix_m50 : (⟨#[45, 48, 46, 48, 53, 48]⟩ : ByteArray) = fixText (-50) := by
  refine str_ext ?_
  have := fixText_neg 50 (by omega) (by omega)
  rw [show (-50 : Int) = -((50 : Nat) : Int) from rfl, this]
  unfold fixL
  rw [show 50 / 1000 = 0 from rfl, Lib.decDigits_one (by omega)]
  rfl
theorem pf_m50 : pfOk ⟨#[45, 48, 46, 48, 53, 48]⟩ = true ∧ pfVal ⟨#[45, 48, 46, 48, 53, 48]⟩ = -50 := by
  rw [fix_m50]; exact pf_text (by omega) (by omega)
theorem pf_facts {s : ByteArray} (h : pfOk s = true) : fixText (pfVal s) = s ∧ 1 ≤ s.size := by
  have h' := h
  unfold pfOk at h'
  simp only [decide_eq_true_eq] at h'
  obtain ⟨n, h0, h1, rfl⟩ := h'
  obtain ⟨_, e⟩ := pf_text h0 h1
  exact ⟨by rw [e], (fixText_size h0 h1).1⟩
theorem pf_none {s : ByteArray} (h : pfOk s = false) : pfVal s = 0 ∧ ¬ fixText 0 = s := by
  refine ⟨by unfold pfVal; rw [h]; rfl, fun e => ?_⟩
  have := (pf_text (n := 0) (by omega) (by omega)).1
  rw [e, h] at this
  cases this

abbrev Tabs_FnFixedParsed (w : World) : Prop := TabI w ∧ w.ShapedOpen Tryd.prog
set_option maxRecDepth 100000 in
set_option maxHeartbeats 2000000 in
theorem w_FnFixedParsed (a0 : Option Addr) (len cap : Nat) (zs : List Int) (w : World) (hr : IsRow .u8 w a0 len cap zs) (hts : Tabs_FnFixedParsed w) :
    Calls Tryd.prog 7 #[.slice a0 len cap] w fun e w' => e = .returned (.bool true) ∧ Below w.heap.size w w' := by
  obtain ⟨ht, hsh⟩ := hts
  have hm := TabM.of hsh
  clear hsh
  by_cases hbig : len ≤ 1048576
  · have hcode := code_of_row hr hbig
    obtain ⟨m1, m2⟩ := pf_m50
    go_enter Tryd.func7, Tryd.ntmps7
    go_wp2_with (first
      | (go_at_call 13; go_in)
      | (go_at_call 27; ((with_reducible refine (d_parsefix _ len cap a0 hcode).mono ?_); rintro e w1 ⟨s, hz, rfl, b1⟩)))
    refine (i_pf s _ (by omega) (TabI.below ht b1) (TabM.below hm b1)).mono ?_
    rintro e w2 ⟨rfl, b2⟩
    have b12 := b1.trans (b2.mono b1.size)
    go_wp2_with fail
    refine (i_pf ⟨#[45, 48, 46, 48, 53, 48]⟩ _ (by decide) (TabI.below ht b12) (TabM.below hm b12)).mono ?_
    rintro e w3 ⟨rfl, b3⟩
    have b13 := b12.trans (b3.mono b12.size)
    have ht3 := TabI.below ht b13
    cases hp : pfOk s
    · obtain ⟨p1, p2⟩ := pf_none hp
      have hb := bne_str p2
      clear p2
      cases hs : s.toList.isEmpty
      · go_wp2_with (go_at_call 25; ((with_reducible refine (i_ff _ _ ht3).mono ?_); rintro e w4 ⟨rfl, b4⟩))
        go_ret
        exact ⟨rfl, b13.trans (b4.mono b13.size)⟩
      · go_wp2
        go_ret
        exact ⟨rfl, b13⟩
    · obtain ⟨p1, p2⟩ := pf_facts hp
      have hs := some_str p2
      have hb := beq_str p1
      clear p1
      go_wp2_with (go_at_call 25; ((with_reducible refine (i_ff _ _ ht3).mono ?_); rintro e w4 ⟨rfl, b4⟩))
      go_ret
      exact ⟨rfl, b13.trans (b4.mono b13.size)⟩
  · go_enter Tryd.func7, Tryd.ntmps7
    go_wp2
    go_ret
    exact ⟨rfl, Below.refl _ _⟩
end Go.Proofs.YtciebalkfeoabaaDoor

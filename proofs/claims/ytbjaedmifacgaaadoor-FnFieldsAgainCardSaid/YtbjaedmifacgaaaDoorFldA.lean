/- The walk of the law FnFieldsAgain. -/
import Derived.Test.YtbjaedmifacgaaaDoorFldM
import Derived.Test.YtbjaedmifacgaaaDoorDrL
namespace Go.Proofs.YtbjaedmifacgaaaDoor
open Go.RowKit

set_option maxRecDepth 100000 in
set_option maxHeartbeats 1000000 in
theorem l_same (w : World) (n c1 c2 : Nat) (A B : Option Addr) (xs : List ByteArray) (ha : StrRow w A n xs) (hb : StrRow w B n xs) (hn : n ≤ 9223372036854775806) :
    Calls Tryd.prog 9 #[.slice A n c1, .slice B n c2] w fun e w' => e = .returned (.bool true) ∧ Below w.heap.size w w' := by
  go_enter Tryd.func9, Tryd.ntmps9
  go_wp2
  go_loopw [5] (fun i wr => ∃ k : Nat, k ≤ n ∧ i = .int .i64 k ∧ Below w.heap.size w wr) (fun i _ => n - (intOf i).toNat)
  case atStart => exact ⟨0, Nat.zero_le _, rfl, Below.refl _ _⟩
  case round =>
    obtain ⟨k, hk, rfl, hbel⟩ := hrel
    by_cases hlt : k < n
    · obtain ⟨b1, rfl, h1⟩ := (ha.below hbel).2 (by omega)
      obtain ⟨b2, rfl, h2⟩ := (hb.below hbel).2 (by omega)
      obtain ⟨t, e1, g1⟩ := h1 k hlt
      obtain ⟨t', e2, g2⟩ := h2 k hlt
      obtain rfl : t = t' := Option.some.inj (e1.symm.trans e2)
      have k0 : (0 : Int) ≤ (k : Int) := by omega
      have k1 : (k : Int) < (n : Int) := by omega
      clear h1 h2 e1 e2 ha hb
      have hq : (t.toList == t.toList) = true := by simp
      go_wp2
      go_quiet (fail)
      go_wp2
      go_roundw
      case rel => exact ⟨k + 1, by omega, by go_num, hbel.trans ((below_dn _ _).mono hbel.size)⟩
      case measure => simp [intOf]; omega
    · obtain rfl : k = n := by omega
      go_wp2
      go_ret
      exact ⟨rfl, hbel⟩

theorem SpOut.row {s : ByteArray} {B : Nat} {w : World} {e : Ending} (h : SpOut s B w e) : ∃ n c A xs ok, SpRes s n xs ok ∧ e = .returned (.tuple #[.slice A n c, .bool ok]) ∧ n ≤ 24 ∧ StrRow w A n xs := by
  obtain ⟨n, c, A, xs, ok, h1, h2, h3, h4⟩ := h
  refine ⟨n, c, A, xs, ok, h1, h2, h3, ?_⟩
  have hl : xs.length = n := by
    rcases h1 with ⟨_, _, rfl, rfl⟩ | ⟨_, _, rfl, rfl⟩ <;> rfl
  rcases h4 with ⟨rfl, h0⟩ | ⟨g, rfl, _, hb⟩
  · exact ⟨hl, fun h => absurd h0 h⟩
  · have := hb.row
    rw [hl] at this
    exact this
theorem itoa3 : (⟨(Lib.itoa (-3)).toArray⟩ : ByteArray) = ⟨#[45, 51]⟩ := by
  simp [Lib.itoa, Lib.decDigits]
abbrev Tabs_FnFieldsAgain (w : World) : Prop := TabI w ∧ TabS w
set_option maxRecDepth 100000 in
set_option maxHeartbeats 2000000 in
theorem w_FnFieldsAgain (a0 : Option Addr) (len cap : Nat) (zs : List Int) (w : World) (hr : IsRow .u8 w a0 len cap zs) (ht : Tabs_FnFieldsAgain w) :
    Calls Tryd.prog 3 #[.slice a0 len cap] w fun e w' => e = .returned (.bool true) ∧ Below w.heap.size w w' := by
  by_cases hbig : len ≤ 1048576
  · have hcode := code_of_row hr hbig
    go_enter Tryd.func3, Tryd.ntmps3
    go_wp2_with (first
      | (go_at_call 4; go_in)
      | (go_at_call 5; ((with_reducible refine (d_line _ len cap a0 hcode).mono ?_); rintro e w1 ⟨s, hs, rfl, b1⟩)))
    clear hcode
    refine (i_sp s _ (by omega) (TabS.below ht.2 b1)).mono ?_
    rintro e w2 ⟨ho, b2'⟩
    obtain ⟨n, c, A, xs, ok, hres, rfl, hn24, hrow⟩ := ho.row
    have b2 := b1.trans (b2'.mono b1.size)
    clear ho
    go_wp2_with fail
    refine (s_sp s _ (by omega)).mono ?_
    rintro e w3 ⟨⟨n2, c2, A2, xs2, ok2, hres2, rfl, _⟩, b3'⟩
    have b3 := b2.trans (b3'.mono b2.size)
    have hrow3 := hrow.below b3'
    obtain ⟨rfl, rfl, rfl⟩ := hres.same hres2
    clear hres2 hrow b2'
    rcases hres with ⟨hok, rfl, rfl, rfl⟩ | ⟨hok, rfl, rfl, rfl⟩
    · -- a good line
      have hg := Lib.hid (fld_good hok)
      have HK := Lib.hid hok
      have HR := Lib.hid hrow3
      have hl24 : ((fldS s).length : Int) ≤ 24 := by omega
      clear hok
      go_wp2
      go_loop [8, 9] (fun v i => ∃ (k : Nat) (t : ByteArray), k ≤ (fldS s).length ∧ i = .int .i64 k ∧ v = .string t ∧ JoinTo (fldS s) k t) (fun _ i => (fldS s).length - (intOf i).toNat)
      case atStart => exact ⟨0, _, by omega, rfl, rfl, JoinTo.start _⟩
      case round =>
        obtain ⟨k, t, hk, rfl, rfl, hj⟩ := hrel
        have HJ := Lib.hid hj
        have hts := hj.2
        clear hj
        by_cases hlt : k < (fldS s).length
        · obtain ⟨b, rfl, hcell⟩ := HR.out.2 (by omega)
          obtain ⟨x, hx, hc⟩ := hcell k hlt
          have hxs := (hg.out x (List.mem_of_getElem? hx)).2.2
          have HX := Lib.hid (HJ.out.step hx hxs)
          have k0 : (0 : Int) ≤ (k : Int) := by omega
          have k1 : (k : Int) < ((fldS s).length : Int) := by omega
          clear hcell hx hrow3
          generalize (fldS s).length = N at *
          go_wp2
          go_round
          case rel => exact ⟨k + 1, _, by omega, by go_num, rfl, HX.out⟩
          case measure => simp [intOf]; omega
        · obtain rfl : k = (fldS s).length := by omega
          go_wp2_with fail
          refine (i_sp t _ (by omega) (TabS.below ht.2 b3)).mono ?_
          rintro e w4 ⟨ho, b4'⟩
          obtain ⟨n', c', A', ys, ok', hres, rfl, hn24', hrow'⟩ := ho.row
          have b4 := b3.trans (b4'.mono b3.size)
          have hrow4 := HR.out.below b4'
          clear ho
          by_cases h6 : t.size ≤ 600
          · obtain ⟨j1, j2⟩ := join_fields HK.out HJ.out h6
            rcases hres with ⟨_, rfl, rfl, rfl⟩ | ⟨hno, _⟩
            · rw [j2] at hrow'
              have hsame := fun (w : World) (h1 : StrRow w A (fldS s).length (fldS s)) (h2 : StrRow w A' (fldS s).length (fldS s)) => l_same w (fldS s).length c c' A A' (fldS s) h1 h2 (by omega)
              rw [j2]
              have hcall := hsame w4 hrow4 hrow'
              have h6' : (t.size : Int) ≤ 600 := by omega
              clear hsame hrow4 hrow' j1 j2 hrow3 HR HK hg
              generalize (fldS s).length = N at *
              go_wp2_with (go_at_call 9; ((with_reducible refine hcall.mono ?_); rintro e w5 ⟨rfl, b5⟩))
              go_ret
              exact ⟨rfl, b4.trans (b5.mono b4.size)⟩
            · exact absurd j1 hno
          · have h6' : (600 : Int) < (t.size : Int) := by omega
            clear hres hrow' hrow4 hrow3 HR HK hg
            go_wp2
            go_ret
            exact ⟨rfl, b4⟩
    · -- a line that is refused
      have hq : ((⟨#[45, 51]⟩ : ByteArray).toList == (⟨#[45, 51]⟩ : ByteArray).toList) = true := by simp
      have hi := fun w ht => i_fmt (-3) w (by omega) (by omega) ht
      rw [itoa3] at hi
      have hcall := hi w3 (TabI.below ht.1 b3)
      clear hi hrow3
      go_wp2_with (go_at_call 8; ((with_reducible refine hcall.mono ?_); rintro e w4 ⟨rfl, b4'⟩))
      go_ret
      exact ⟨rfl, b3.trans (b4'.mono b3.size)⟩
  · go_enter Tryd.func3, Tryd.ntmps3
    go_wp2
    go_ret
    exact ⟨rfl, Below.refl _ _⟩
end Go.Proofs.YtbjaedmifacgaaaDoor

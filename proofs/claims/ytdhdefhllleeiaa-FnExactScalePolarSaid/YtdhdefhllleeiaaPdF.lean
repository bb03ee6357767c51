/- The drawing of polars: l04Near, l04Angle. -/
import Derived.Test.YtdhdefhllleeiaaPdE
namespace Go.Proofs.Ytdhdefhllleeiaa
open Go.RowKit Ieee
set_option linter.unusedSimpArgs false
set_option linter.unusedVariables false

section
variable {P : Program}
theorem res_cell_tmp {fn : Func} {p u : Tmp} {ty : TypeId} (h : fn.results = #[.cell p ty, .tmp u]) (tmps : Array Value) (w : World) (g : Nat) (t : TypeId) (cs : Array Value) (fr : Nat × Nat) (d : TypeDesc)
    (hp : tmps.getD p undef = .pointer (some ⟨g, 0, none⟩)) (hg : w.heap[g]? = some (.cells cs t fr))
    (hu : P.underlying ty = some d) (hd : (match d with | .struct _ | .array _ _ => true | _ => false) = true) (hi : (P.info? ty).map (·.size) = some cs.size) :
    (results fn tmps).run P w = .ok (.tuple #[.agg cs, tmps.getD u undef]) w := by
  have hp' : tmps[p]?.getD undef = .pointer (some ⟨g, 0, none⟩) := by simpa using hp
  simp [results, h, hp', asAddr, run_loadVar_row w g t ty cs fr d hg hu hd hi]
theorem res_cell_tmp2 {fn : Func} {p u v : Tmp} {ty : TypeId} (h : fn.results = #[.cell p ty, .tmp u, .tmp v]) (tmps : Array Value) (w : World) (g : Nat) (t : TypeId) (cs : Array Value) (fr : Nat × Nat) (d : TypeDesc)
    (hp : tmps.getD p undef = .pointer (some ⟨g, 0, none⟩)) (hg : w.heap[g]? = some (.cells cs t fr))
    (hu : P.underlying ty = some d) (hd : (match d with | .struct _ | .array _ _ => true | _ => false) = true) (hi : (P.info? ty).map (·.size) = some cs.size) :
    (results fn tmps).run P w = .ok (.tuple #[.agg cs, tmps.getD u undef, tmps.getD v undef]) w := by
  have hp' : tmps[p]?.getD undef = .pointer (some ⟨g, 0, none⟩) := by simpa using hp
  simp [results, h, hp', asAddr, run_loadVar_row w g t ty cs fr d hg hu hd hi]
end
theorem gr_drew {w w' : World} {r : Option Nat} (h : w.grownBy w' r) : w.grownBy w'.drew r := ⟨h.os, h.tape, h.output, h.size, h.block⟩
set_option maxRecDepth 100000 in
set_option maxHeartbeats 4000000 in
theorem d_near (w : World) (C g len cap B n na m : Nat) (A : Option Addr) (vW vA vS : Value) (hc : Cur w C g A len cap) (hp : PolT B w vW vA vS n na m) (hB : g < B) (hBs : B ≤ w.heap.size) :
    Calls Try.prog 85 #[.pointer (some ⟨g, 0, none⟩), .agg #[vW, vA, vS]] w fun e w' => ∃ x : Nat, x < 4294967296 ∧ e = .returned (.float .f32 x) ∧ Cur w' C g A len cap ∧ w.grownBy w' (some g) := by
  obtain ⟨AW, cW, rfl, _⟩ := hp.2.1
  obtain ⟨AA, cA, rfl, _⟩ := hp.2.2.1
  obtain ⟨AS, cS, rfl, _⟩ := hp.2.2.2
  have hgl := hc.lt
  have hn := hp.1.1
  have g0 := World.grownBy_alloc w (.cells #[.slice AW n cW, .slice AA na cA, .slice AS m cS] 28) (some g)
  have cu0 := hc.alloc (.cells #[.slice AW n cW, .slice AA na cA, .slice AS m cS] 28)
  have HP := Lib.hid (hp.same (fun k _ hk => (Below.heap_alloc w (.cells #[.slice AW n cW, .slice AA na cA, .slice AS m cS] 28) k hk)))
  have hbx := heap_alloc_new w (.cells #[.slice AW n cW, .slice AA na cA, .slice AS m cS] 28)
  have hs1 : (w.alloc (.cells #[.slice AW n cW, .slice AA na cA, .slice AS m cS] 28)).heap.size = w.heap.size + 1 := by simp
  have HBX := Lib.hid hbx
  clear hp hbx
  go_enter Try.func85, Try.ntmps85
  by_cases h0 : n = 0
  · subst h0
    go_wp2_with fail
    refine (d_single 120 _ C g len cap A cu0 (by omega) (by omega)).mono ?_
    rintro e w2 ⟨x, xl, rfl, cu, gr⟩
    go_wp2
    go_ret
    exact ⟨x, xl, rfl, cu, grown_trans g0 gr⟩
  have hn0 : ((n : Int) == 0) = false := by rw [beq_eq_false_iff_ne]; omega
  have hn1 : ¬ (n : Int) = 0 := by omega
  go_wp2_with fail
  refine (d_once 20 _ C g len cap A cu0 (by omega)).mono ?_
  rintro e w2 ⟨t, rfl, cu1, gr⟩
  have gr1 := grown_trans g0 gr
  have HB1 := Lib.hid (box_far HBX.out gr (fun e => by cases e; omega))
  have HP1 := Lib.hid (HP.out.same (grown_hi gr (fun k e => by cases e; omega)))
  clear g0 cu0 gr HP HBX
  cases t
  · go_upto_region 3 with fail
    obtain ⟨gW, oW, _, rfl, _⟩ := tl_at HP1.out.2.1 (j := 0) (by omega)
    have k0 := cell_of_row w2 _ 0 _ _ _ HB1.out
    have cd := (cur_drew cu1 gr1).1
    go_cut [5] (fun s5 wx => ∃ x : Nat, x < 4294967296 ∧ s5 = .float .f32 x ∧ Cur wx C g A len cap ∧ w.grownBy wx (some g))
    case first =>
      go_region_with ((go_at_call 52; refine (d_below n _ C g len cap A cd (by omega)).mono ?_; rintro e w3 ⟨i, i0, i1, i2, rfl, cu, gr⟩; obtain ⟨i, rfl⟩ : ∃ k : Nat, i = k := ⟨i.toNat, by omega⟩; have i3 : i < n := (by have := i1 (by omega); omega); have i4 : (i : Int) < (n : Int) := (by omega); have k3 := cell_of_row w3 _ 0 _ _ _ (box_far (w1 := w2.drew) HB1.out gr (fun e => by cases e; omega)); have h3 := HP1.out.same (grown_hi (w := w2.drew) gr (fun k e => by cases e; omega)); obtain ⟨_, _, _, e5, _, z1, y, y1, rfl⟩ := tl_at h3.2.1 (j := i) i3; cases e5; clear i1 i2 h3))
      all_goals (go_wp2_with fail; go_meet; exact ⟨y, y1, rfl, cu, grown_trans gr1 (grown_trans (grown_drewN w2 1 _) gr)⟩)
    case rest =>
    clear k0 cd cu1 gr1 HB1 HP1
    obtain ⟨x, xl, rfl, cu1, gr1⟩ := hcut
    go_wp2_with fail
    refine (d_below 4 _ C g len cap A cu1 (by omega)).mono ?_
    rintro e w4 ⟨v, v0, v1, v2, rfl, cu2, gr2⟩
    have gr3 := grown_trans gr1 gr2
    clear v1 v2 gr1 gr2 cu1
    by_cases e0 : v = 0
    · subst e0
      go_wp2
      go_ret
      exact ⟨x, xl, rfl, cu2, gr3⟩
    by_cases e1 : v = 1
    · subst e1
      rcases quo_any x 1073741824 with ⟨r, rl, hr⟩ | ⟨nb, hnb, hr⟩
      · go_wp2
        go_ret
        exact ⟨r, rl, rfl, cu2, gr3⟩
      · go_wp2
        go_ret
        exact ⟨_, hnb _, rfl, (cur_drew cu2 gr3).1, (cur_drew cu2 gr3).2⟩
    · go_wp2_with fail
      refine (d_below 161 _ C g len cap A cu2 (by omega)).mono ?_
      rintro e w5 ⟨v', v0', v1', v2', rfl, cu5, gr5⟩
      obtain ⟨r, hq, hl⟩ := quo_eight v'
      have hqr := fun w => run_float_arith (P := Try.prog) w .quo 31 .f32 _ _ _ hq
      clear hq
      go_wp2
      go_ret
      exact ⟨r, hl, rfl, cu5, grown_trans gr3 gr5⟩
  · go_wp2_with fail
    refine (d_single 120 _ C g len cap A cu1 (by omega) (by omega)).mono ?_
    rintro e w3 ⟨x, xl, rfl, cu, gr⟩
    go_wp2
    go_ret
    exact ⟨x, xl, rfl, cu, grown_trans gr1 gr⟩
end Go.Proofs.Ytdhdefhllleeiaa

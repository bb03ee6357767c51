/- RunDamp (impl and spec). -/
import Derived.Test.YtgohekdikgfcnaaWnL
import Derived.Test.YtgohekdikgfcnaaDmM
import Derived.Test.YtgohekdikgfcnaaDrN
namespace Go.Proofs.Ytgohekdikgfcnaa
open Go.RowKit Ieee

attribute [local go_sem] st_cplx
/-- A part that is damped. -/
def dampW (l x k : Nat) : Nat := ((floatBits .sub .f32 x l).bind fun d => (floatBits .mul .f32 d k).bind fun p => floatBits .add .f32 l p).getD 0
theorem dampW_of {l x k r : Nat} (h : DampIs l x k r) : dampW l x k = r := by
  obtain ⟨d, p, h1, h2, h3⟩ := h
  unfold dampW
  rw [h1]; show ((floatBits .mul .f32 d k).bind fun p => floatBits .add .f32 l p).getD 0 = r
  rw [h2]; show (floatBits .add .f32 l p).getD 0 = r
  rw [h3]; rfl
theorem dampW_is {l x k : Nat} (hl : S.okP l) (hx : S.okP x) (hk : okK k) : DampIs l x k (dampW l x k) ∧ dampW l x k < 4294967296 := by
  obtain ⟨r, h1, h2, _⟩ := damp_is hl hx hk
  rw [dampW_of h1]; exact ⟨h1, h2⟩
theorem dampW_still {l x k : Nat} (hl : S.okP l) (hx : S.okP x) (hk : S.fval k = 0) (hk2 : okK k) : S.okP (dampW l x k) ∧ S.fval (dampW l x k) = S.fval l := by
  obtain ⟨r, h1, _, h3, h4⟩ := damp_still hl hx hk2 (.inl hk)
  rw [dampW_of h1]; exact ⟨okP_same h3 h4 hl, h4⟩
/-- The damped winds, one behind the other. -/
def outs (ws : Nat → Nat × Nat) (k : Nat) : Nat → Nat × Nat
  | 0 => ws 0
  | j + 1 => (dampW (outs ws k j).1 (ws (j + 1)).1 k, dampW (outs ws k j).2 (ws (j + 1)).2 k)
/-- All can be damped. -/
def Runs (ws : Nat → Nat × Nat) (k n : Nat) : Prop := 0 < n ∧ WindsOk n ws ∧ okK k ∧ ∀ j, j + 1 < n → okV (outs ws k j).1 (outs ws k j).2
theorem outs_still {ws : Nat → Nat × Nat} {n : Nat} (h : WindsOk n ws) (j : Nat) (hj : j < n) : okV (outs ws 0 j).1 (outs ws 0 j).2 ∧ S.fval (outs ws 0 j).1 = S.fval (ws 0).1 ∧ S.fval (outs ws 0 j).2 = S.fval (ws 0).2 := by
  induction j with
  | zero => exact ⟨h.2 0 hj, rfl, rfl⟩
  | succ j ih =>
    obtain ⟨i1, i2, i3⟩ := ih (by omega)
    have hx := h.2 (j + 1) hj
    obtain ⟨a1, a2⟩ := dampW_still i1.2.1 hx.2.1 S.nought_val okK_zero
    obtain ⟨b1, b2⟩ := dampW_still i1.2.2 hx.2.2 S.nought_val okK_zero
    exact ⟨⟨⟨(dampW_is i1.2.1 hx.2.1 okK_zero).2, (dampW_is i1.2.2 hx.2.2 okK_zero).2⟩, a1, b1⟩, a2.trans i2, b2.trans i3⟩
theorem outs_lt {ws : Nat → Nat × Nat} {k n : Nat} (h : WindsOk n ws) (hk : okK k) {j : Nat} (hj : j < n) (hall : ∀ i, i < j → okV (outs ws k i).1 (outs ws k i).2) : Two (outs ws k j) := by
  cases j with
  | zero => exact (h.2 0 hj).1
  | succ j =>
    have i1 := hall j (by omega)
    have hx := h.2 (j + 1) hj
    exact ⟨(dampW_is i1.2.1 hx.2.1 hk).2, (dampW_is i1.2.2 hx.2.2 hk).2⟩
theorem runs_still {ws : Nat → Nat × Nat} {k n : Nat} (h : Runs ws k n) : Runs ws 0 n :=
  ⟨h.1, h.2.1, okK_zero, fun j hj => (outs_still h.2.1 j (by omega)).1⟩
/-- What RunDamp hands back. -/
def RunIs (w w' : World) (ws : Nat → Nat × Nat) (k n : Nat) (v : Value) : Prop :=
  (Runs ws k n ∧ ∃ h c, v = .slice (some ⟨h, 0, none⟩) n c ∧ w.heap.size ≤ h ∧ h < w'.heap.size ∧ ∀ j, j < n → w'.cell? ⟨h, j, none⟩ = some (cv (outs ws k j))) ∨
  (¬ Runs ws k n ∧ v = .slice none 0 0)
def outL (ws : Nat → Nat × Nat) (k : Nat) (n : Nat) : List (Nat × Nat) := (List.range n).map (outs ws k)
theorem outL_succ (ws : Nat → Nat × Nat) (k n : Nat) : outL ws k (n + 1) = outL ws k n ++ [outs ws k n] := by unfold outL; rw [List.range_succ, List.map_append]; rfl
theorem outL_get (ws : Nat → Nat × Nat) (k n j : Nat) (h : j < n) : (outL ws k n)[j]? = some (outs ws k j) := by
  unfold outL; rw [List.getElem?_map, List.getElem?_range h]; rfl

set_option maxRecDepth 100000 in
set_option maxHeartbeats 4000000 in
theorem i_run (ws : Nat → Nat × Nat) (g n cap k : Nat) (w : World) (hn : 0 < n) (hn2 : n ≤ 1000000) (hcap : n ≤ cap) (hgs : g < w.heap.size) (hk : k < 4294967296) (hw : Winds w g n ws) :
    Calls Try.prog 23 #[.slice (some ⟨g, 0, none⟩) n cap, .float .f32 k] w fun e w' => ∃ v, e = .returned v ∧ RunIs w w' ws k n v ∧ Below w.heap.size w w' := by
  have HW := Lib.hid hw
  obtain ⟨i0, hi, hz0, hz1, hz2⟩ := info_parts Try.infoC64
  obtain ⟨iv, hv, hv0, hv1, hv2⟩ := info_parts Try.infoVel
  obtain ⟨hc0, _, _⟩ := hw 0 hn
  have hmf : ∀ (fn : Fn) (first cap : Array Value) (w : World), (Instr.makeFunc fn first cap).run Try.prog w = .ok (.func fn first cap) w := fun _ _ _ _ => rfl
  clear hw
  go_enter Try.func23, Try.ntmps23
  go_wp2_with fail
  refine (i_winds ws g n cap _ hn2 HW.out).mono ?_
  rintro e w1 ⟨t, ht, rfl, e1, g1⟩
  cases t
  · have hno : ¬ Runs ws k n := fun h => absurd (ht.2 h.2.1) (by decide)
    have HN := Lib.hid hno
    have b1 : Below w.heap.size w w1 := (Below.refl _ w).grown g1 (Nat.le_refl _) (fun _ h => by cases h)
    clear ht e1 g1 hno
    go_wp2
    go_ret
    exact ⟨_, rfl, .inr ⟨HN.out, rfl⟩, b1⟩
  · obtain rfl := e1 rfl
    have hok : WindsOk n ws := ht.1 rfl
    have HO := Lib.hid hok
    clear ht e1 g1 hok
    go_wp2_with fail
    refine (i_share k _ hk).mono ?_
    rintro e w2 ⟨t, ht, rfl, rfl⟩
    cases t
    · have hno : ¬ Runs ws k n := fun h => absurd (ht.2 h.2.2.1) (by decide)
      have HN := Lib.hid hno
      clear ht hno
      go_wp2
      go_ret
      exact ⟨_, rfl, .inr ⟨HN.out, rfl⟩, Below.refl _ _⟩
    · have hkk : okK k := ht.1 rfl
      have HK := Lib.hid hkk
      clear ht hkk
      have hsA : (w1.alloc (.cells #[.complex .f32 (ws 0).1 (ws 0).2] 47)).heap.size = w1.heap.size + 1 := by
        show (w1.heap.push _).size = _
        simp
      have hbA := heap_alloc_new w1 (.cells #[.complex .f32 (ws 0).1 (ws 0).2] 47)
      have hbB := (Below.heap_alloc (w1.alloc (.cells #[.complex .f32 (ws 0).1 (ws 0).2] 47)) (.cells #[.complex .f32 (ws 0).1 (ws 0).2] 26) w1.heap.size (by omega)).trans hbA
      have hnB := heap_alloc_new (w1.alloc (.cells #[.complex .f32 (ws 0).1 (ws 0).2] 47)) (.cells #[.complex .f32 (ws 0).1 (ws 0).2] 26)
      rw [hsA] at hnB
      have hownB : ((w1.alloc (.cells #[.complex .f32 (ws 0).1 (ws 0).2] 47)).alloc (.cells #[.complex .f32 (ws 0).1 (ws 0).2] 26)).ownsRow (w1.heap.size + 1) 26 1 (.slice (some ⟨w1.heap.size + 1, 0, none⟩) 1 1) 1 ((outL ws k 1).map cv) :=
        ⟨by simp [outL], .inr ⟨w1.heap.size + 1, 1, _, rfl, Nat.le_refl _, hnB, by simp, by simp [maxLen], by simp, by simp [outL, outs, cv]⟩⟩
      have belB : Below w1.heap.size w1 ((w1.alloc (.cells #[.complex .f32 (ws 0).1 (ws 0).2] 47)).alloc (.cells #[.complex .f32 (ws 0).1 (ws 0).2] 26)) := ((Below.refl _ w1).alloc (Nat.le_refl _) _).alloc (by omega) _
      have HS := Lib.hid (And.intro hbB (And.intro hownB belB))
      clear hsA hbA hbB hnB hownB belB
      go_wp2
      case inl =>
        go_loopw [7, 9, 34] (fun r x i wr => ∃ j : Nat, j + 1 ≤ n ∧ i = .int .i64 j ∧ wr.heap[w1.heap.size]? = some (.cells #[.complex .f32 (outs ws k j).1 (outs ws k j).2] 47 (0, 0)) ∧ wr.ownsRow (w1.heap.size + 1) 26 1 r (j + 1) ((outL ws k (j + 1)).map cv) ∧ Below w1.heap.size w1 wr ∧ ∀ i, i < j → okV (outs ws k i).1 (outs ws k i).2)
          (fun _ _ i _ => n - (intOf i).toNat)
        case atStart => exact ⟨0, by omega, rfl, HS.out.1, HS.out.2.1, HS.out.2.2, fun j h => by omega⟩
        case round =>
          obtain ⟨j, hj, rfl, hb, hown, bel, hall⟩ := hrel
          have HA := Lib.hid hall
          clear hall
          by_cases hlt : j + 1 < n
          · exfalso; omega
          · obtain rfl : n = j + 1 := by omega
            have hjn : ¬ ((j : Int) < ((j + 1 - 1 : Nat) : Int)) := by omega
            obtain ⟨h, c, rfl, _, hl, hsz, hcell⟩ := winds_own hown (by omega)
            have HC := Lib.hid hcell
            clear hcell hown
            go_wp2
            go_ret
            exact ⟨_, rfl, .inl ⟨⟨hn, HO.out, HK.out, fun i hi => HA.out i (by omega)⟩, h, c, rfl, by omega, hsz, fun i hi => HC.out i _ (outL_get ws k _ i hi)⟩, bel⟩
      case inr =>
        go_loopw [7, 9, 34] (fun r x i wr => ∃ j : Nat, j + 1 ≤ n ∧ i = .int .i64 j ∧ wr.heap[w1.heap.size]? = some (.cells #[.complex .f32 (outs ws k j).1 (outs ws k j).2] 47 (0, 0)) ∧ wr.ownsRow (w1.heap.size + 1) 26 1 r (j + 1) ((outL ws k (j + 1)).map cv) ∧ Below w1.heap.size w1 wr ∧ ∀ i, i < j → okV (outs ws k i).1 (outs ws k i).2)
          (fun _ _ i _ => n - (intOf i).toNat)
        case atStart => exact ⟨0, by omega, rfl, HS.out.1, HS.out.2.1, HS.out.2.2, fun j h => by omega⟩
        case round =>
          obtain ⟨j, hj, rfl, hb, hown, bel, hall⟩ := hrel
          have HA := Lib.hid hall
          clear hall
          by_cases hlt : j + 1 < n
          · obtain ⟨hc, hx1, hx2⟩ := HW.out (j + 1) hlt
            have oX := HO.out.2 (j + 1) hlt
            have hcr : wr.cell? ⟨g, 1 + j, none⟩ = some (.complex .f32 (ws (j + 1)).1 (ws (j + 1)).2) := by rw [Nat.add_comm]; exact (bel.cell (p := ⟨g, j + 1, none⟩) hgs).trans hc
            have hjn : (j : Int) < ((n - 1 : Nat) : Int) := by omega
            have hsz := bel.size
            by_cases o : okV (outs ws k j).1 (outs ws k j).2
            · have HB := Lib.hid (And.intro hb (And.intro hown bel))
              have D := fun t w hg => i_damp_yes (outs ws k j).1 (outs ws k j).2 (ws (j + 1)).1 (ws (j + 1)).2 k (outs ws k (j + 1)).1 (outs ws k (j + 1)).2 w1.heap.size t w o oX hk HK.out (dampW_is o.2.1 oX.2.1 HK.out).1 (dampW_is o.2.2 oX.2.2 HK.out).1 hg
              have HALL : ∀ i, i < j + 1 → okV (outs ws k i).1 (outs ws k i).2 := fun i hi => by
                rcases Nat.lt_or_ge i j with h | h
                · exact HA.out i h
                · obtain rfl : i = j := by omega
                  exact o
              have HA2 := Lib.hid HALL
              clear hb hown bel o HALL hx1 hx2 oX hc
              generalize hov : outs ws k (j + 1) = ov at *
              generalize (ws (j + 1)).1 = c at *
              generalize (ws (j + 1)).2 = d at *
              have HV := Lib.hid hov
              clear hov
              go_wp2_with fail
              refine (D _ _ HB.out.1).mono ?_
              rintro e w2 ⟨rfl, hw2⟩
              have hb2 : w2.heap[w1.heap.size]? = some (.cells #[.complex .f32 ov.1 ov.2] 47 (0, 0)) := by rw [hw2]; exact blk_one HB.out.1 _
              have c2 : w2.cell? ⟨w1.heap.size, 0, none⟩ = some (.complex .f32 ov.1 ov.2) := cell_of_row _ _ 0 _ _ _ hb2
              have hne : u7.ownBlock ≠ some w1.heap.size := fun e => by have := (HB.out.2.1.lt _ e).1; omega
              have hown2 : w2.ownsRow (w1.heap.size + 1) 26 1 u7 (j + 1) ((outL ws k (j + 1)).map cv) := by rw [hw2]; exact ownsRow_setCell_other HB.out.2.1 hne _
              have bel2 : Below w1.heap.size w1 w2 := by rw [hw2]; exact HB.out.2.2.setCell (Nat.le_refl _) _
              have hsz2 : w1.heap.size + 1 ≤ w2.heap.size := by
                rcases Nat.lt_or_ge w1.heap.size w2.heap.size with h | h
                · exact h
                · rw [Array.getElem?_eq_none h] at hb2; cases hb2
              clear hw2 D
              go_wp2_with (at_builtin; refine wpList_append_own _ rfl _ _ 36 rfl (w1.heap.size + 1) 26 i0 (.complex .f32 0 0) 1 8 Try.underlying36 hi hz0 hz1 hz2 rfl (by decide) _ _ _ rfl (hown2.alloc _) ⟨w2.heap.size, 0, none⟩ 1 1 [.complex .f32 ov.1 ov.2] rfl rfl (World.news_of_block (cs := #[.complex .f32 ov.1 ov.2]) (t := 26) (fr := (0, 0)) (heap_alloc_new w2 _)) (by simp [Value.oneCell']) (by unfold maxLen; omega) (by omega) (by simp; omega) ?_; intro v' w7 hown7 hgrow _)
              have hgA := World.grownBy_alloc w2 (.cells #[.complex .f32 ov.1 ov.2] 26) none
              have hb7 : w7.heap[w1.heap.size]? = some (.cells #[.complex .f32 ov.1 ov.2] 47 (0, 0)) := (hgrow.block _ (Nat.lt_of_lt_of_le (by omega) hgA.size) (fun e => hne e.symm)).trans ((hgA.block _ (by omega) (by simp)).trans hb2)
              have bel7 : Below w1.heap.size w1 w7 := (bel2.alloc (by omega) _).grown hgrow (bel2.alloc (by omega) _).size (fun b e => by have := (hown2.lt b e).1; omega)
              have HF := Lib.hid (And.intro hb7 (And.intro hown7 bel7))
              clear hb7 bel7 hown7 hgrow hgA hown2 bel2 hb2 c2
              go_wp2
              go_roundw
              case rel => exact ⟨j + 1, by omega, by go_num, by rw [HV.out]; exact HF.out.1, by rw [outL_succ, List.map_append, HV.out]; exact HF.out.2.1, HF.out.2.2, HA2.out⟩
              case measure => simp [intOf]; omega
            · have hno : ¬ Runs ws k n := fun h => o (h.2.2.2 j hlt)
              have HN := Lib.hid hno
              have HB := Lib.hid (And.intro hb bel)
              have hno2 : ¬ (okV (outs ws k j).1 (outs ws k j).2 ∧ okV (ws (j + 1)).1 (ws (j + 1)).2 ∧ okK k) := fun h => o h.1
              have ol := outs_lt HO.out HK.out (j := j) (by omega) HA.out
              have D := fun t w hg => i_damp_no (outs ws k j).1 (outs ws k j).2 (ws (j + 1)).1 (ws (j + 1)).2 k w1.heap.size t w ol.1 ol.2 hx1 hx2 hk hno2 hg
              clear hb hown bel o hno hno2 hx1 hx2 oX hc ol
              generalize (ws (j + 1)).1 = c at *
              generalize (ws (j + 1)).2 = d at *
              go_wp2_with fail
              refine (D _ _ HB.out.1).mono ?_
              rintro e w2 ⟨rfl, g2⟩
              have b2 : Below w1.heap.size w1 w2 := HB.out.2.grown g2 HB.out.2.size (fun _ h => by cases h)
              clear g2 D
              go_wp2
              go_ret
              exact ⟨_, rfl, .inr ⟨HN.out, rfl⟩, b2⟩
          · obtain rfl : n = j + 1 := by omega
            have hjn : ¬ ((j : Int) < ((j + 1 - 1 : Nat) : Int)) := by omega
            obtain ⟨h, c, rfl, _, hl, hsz, hcell⟩ := winds_own hown (by omega)
            have HC := Lib.hid hcell
            clear hcell hown
            go_wp2
            go_ret
            exact ⟨_, rfl, .inl ⟨⟨hn, HO.out, HK.out, fun i hi => HA.out i (by omega)⟩, h, c, rfl, by omega, hsz, fun i hi => HC.out i _ (outL_get ws k _ i hi)⟩, bel⟩
end Go.Proofs.Ytgohekdikgfcnaa

/- Sails, moments and a plan drawn: DrawPlanOk, over a contract of l11Sails. -/
import Derived.Test.YtlliiecdadiagaaLqB
import Derived.Test.YtlliiecdadiagaaLpY
namespace Go.Proofs.Ytlliiecdadiagaa
open Go.RowKit
set_option linter.unusedVariables false
set_option linter.unusedSimpArgs false

def IsPl (c : Nat) (x : Value) : Prop := ∃ n : Int, x = .int .i64 n
theorem ints_of : ∀ xs : List Value, (∀ (c : Nat) (x : Value), xs[c]? = some x → ∃ n : Int, x = Value.int .i64 n) → ∃ l : List Int, xs = l.map (Value.int .i64)
  | [], _ => ⟨[], rfl⟩
  | x :: xs, h => by
    obtain ⟨n, rfl⟩ := h 0 x rfl
    obtain ⟨l, rfl⟩ := ints_of xs (fun c y hy => h (c + 1) y hy)
    exact ⟨n :: l, rfl⟩
/-- A sail, a moment and a number of the plan, read. -/
def RgS (gs j gt k gp : Nat) (s : Sl) (m1 : Nat) (m2 z : Int) (wx : World) : Prop :=
  wx.cell? ⟨gs, j * 5, none⟩ = some (.string s.nm) ∧ wx.cell? ⟨gs, j * 5 + 1, none⟩ = some (.float .f32 s.lo) ∧ wx.cell? ⟨gs, j * 5 + 2, none⟩ = some (.float .f32 s.hi) ∧ wx.cell? ⟨gs, j * 5 + 3, none⟩ = some (.int .i64 s.fr) ∧ wx.cell? ⟨gs, j * 5 + 4, none⟩ = some (.int .i64 s.to) ∧
  wx.cell? ⟨gt, k * 2, none⟩ = some (.float .f32 m1) ∧ wx.cell? ⟨gt, k * 2 + 1, none⟩ = some (.int .i64 m2) ∧ wx.cell? ⟨gp, k, none⟩ = some (.int .i64 z)
theorem RgS.grown {gs j gt k gp : Nat} {s : Sl} {m1 : Nat} {m2 z : Int} {w1 w2 : World} {r : Option Nat} (h : RgS gs j gt k gp s m1 m2 z w1) (gr : w1.grownBy w2 r) (hs : r ≠ some gs) (ht : r ≠ some gt) (hp : r ≠ some gp) : RgS gs j gt k gp s m1 m2 z w2 := by
  obtain ⟨h1, h2, h3, h4, h5, h6, h7, h8⟩ := h
  have e : ∀ b o, b < w1.heap.size → r ≠ some b → w2.cell? ⟨b, o, none⟩ = w1.cell? ⟨b, o, none⟩ := fun b o hb hr => by simp only [World.cell?, gr.block b hb (Ne.symm hr)]
  have l1 := World.block_lt_of_cell? _ _ h1
  have l2 := World.block_lt_of_cell? _ _ h6
  have l3 := World.block_lt_of_cell? _ _ h8
  exact ⟨(e _ _ l1 hs).trans h1, (e _ _ l1 hs).trans h2, (e _ _ l1 hs).trans h3, (e _ _ l1 hs).trans h4, (e _ _ l1 hs).trans h5, (e _ _ l2 ht).trans h6, (e _ _ l2 ht).trans h7, (e _ _ l3 hp).trans h8⟩
/-- What stands while a plan is drawn. -/
def PpV (w : World) (g : Nat) (A : Option Addr) (len cap : Nat) (v : Value) (n : Nat) (vm : Value) (nm : Nat) (vp : Value) (np : Nat) (wx : World) : Prop :=
  Below w.heap.size w wx ∧ Cur wx w.heap.size g A len cap ∧ OwnSa wx w.heap.size v n ∧ OwnMo wx w.heap.size vm nm ∧ OwnC IsPl 3 1 wx w.heap.size vp np
theorem cur_block {w : World} {B g len cap : Nat} {A : Option Addr} (h : Cur w B g A len cap) : ∃ cs, w.heap[g]? = some (.cells cs 97 (0, 0)) := ⟨_, h.2.2.choose_spec.choose_spec.2.2.2.2⟩
theorem PpV.draw {w w1 w2 : World} {g len cap n nm np : Nat} {A : Option Addr} {v vm vp : Value} (h : PpV w g A len cap v n vm nm vp np w1) (c : Cur w2 w.heap.size g A len cap) (k : w1.grownBy w2 (some g)) : PpV w g A len cap v n vm nm vp np w2 := by
  obtain ⟨h1, h2, h3, h4, h5⟩ := h
  obtain ⟨cs, hb⟩ := cur_block h2
  exact ⟨h1.grown k h1.size (fun j e => by cases e; exact h2.1), c, h3.kept k (fun j e q => by cases e; exact h3.ne hb (by decide) q), h4.kept k (fun j e q => by cases e; exact h4.ne hb (by decide) q), h5.kept k (fun j e q => by cases e; exact h5.ne hb (by decide) q)⟩
theorem PpV.step {w w1 w2 : World} {g len cap n nm np : Nat} {A : Option Addr} {v vm vp : Value} (h : PpV w g A len cap v n vm nm vp np w1) (b : Below w1.heap.size w1 w2) : PpV w g A len cap v n vm nm vp np w2 := by
  obtain ⟨h1, h2, h3, h4, h5⟩ := h
  exact ⟨h1.trans (b.mono h1.size), h2.grown_far (gr_of_bel b none) (by simp) (fun _ e => by cases e), h3.kept (gr_of_bel b none) (fun _ e => by cases e), h4.kept (gr_of_bel b none) (fun _ e => by cases e), h5.kept (gr_of_bel b none) (fun _ e => by cases e)⟩
theorem PpV.drew {w w1 : World} {g len cap n nm np : Nat} {A : Option Addr} {v vm vp : Value} (h : PpV w g A len cap v n vm nm vp np w1) : PpV w g A len cap v n vm nm vp np w1.drew :=
  h.draw (h.2.1.grown_far (grown_drewN w1 1 none) (by simp) (fun _ e => by cases e)) ⟨rfl, rfl, rfl, Nat.le_refl _, fun _ _ _ => rfl⟩
theorem PpV.alloc {w w1 : World} {g len cap n nm np : Nat} {A : Option Addr} {v vm vp : Value} (h : PpV w g A len cap v n vm nm vp np w1) (o : Obj) : PpV w g A len cap v n vm nm vp np (w1.alloc o) :=
  h.step ((Below.refl _ _).alloc (Nat.le_refl _) o)
def PqV (w : World) (g : Nat) (A : Option Addr) (len cap : Nat) (v : Value) (n : Nat) (vm : Value) (nm : Nat) (vp : Value) (np : Nat) (gs j gt k gp : Nat) (s : Sl) (m1 : Nat) (m2 z : Int) (wx : World) : Prop := PpV w g A len cap v n vm nm vp np wx ∧ RgS gs j gt k gp s m1 m2 z wx
theorem PqV.step {w w1 w2 : World} {g len cap n nm np : Nat} {A : Option Addr} {v vm vp : Value} {gs j gt k gp : Nat} {s : Sl} {m1 : Nat} {m2 z : Int} (h : PqV w g A len cap v n vm nm vp np gs j gt k gp s m1 m2 z w1) (b : Below w1.heap.size w1 w2) : PqV w g A len cap v n vm nm vp np gs j gt k gp s m1 m2 z w2 := ⟨h.1.step b, h.2.grown (gr_of_bel b none) (by simp) (by simp) (by simp)⟩
/-- Only the plan has been written. -/
theorem PpV.plan {w w1 w2 : World} {g len cap n nm np np' : Nat} {A : Option Addr} {v vm vp vp' : Value} (h : PpV w g A len cap v n vm nm vp np w1) (k : w1.grownBy w2 vp.ownBlock) (ho : OwnC IsPl 3 1 w2 w.heap.size vp' np') : PpV w g A len cap v n vm nm vp' np' w2 := by
  obtain ⟨h1, h2, h3, h4, h5⟩ := h
  obtain ⟨cs, hb⟩ := cur_block h2
  have q1 := h5.ne hb (by decide)
  refine ⟨h1.grown k h1.size (fun j e => (h5.lt e).1), h2.grown_far k q1 (fun j e => (h5.lt e).1), h3.kept k (fun j e q => ?_), h4.kept k (fun j e q => ?_), ho⟩
  · obtain ⟨cs2, hb2⟩ := h5.block e
    exact h3.ne hb2 (by decide) q
  · obtain ⟨cs2, hb2⟩ := h5.block e
    exact h4.ne hb2 (by decide) q
theorem PpV.set {w w1 : World} {g len cap n nm np gp c : Nat} {A : Option Addr} {v vm vp : Value} {z : Int} (h : PpV w g A len cap v n vm nm vp np w1) (e : vp.ownBlock = some gp) : PpV w g A len cap v n vm nm vp np (w1.setCell ⟨gp, c, none⟩ (.int .i64 z)) :=
  h.plan (by rw [e]; exact grown_set w1 gp c _) (h.2.2.2.2.set e ⟨z, rfl⟩)
theorem PpV.at {w w1 : World} {g len cap n nm np cp gp j : Nat} {A Ap : Option Addr} {v vm : Value} (h : PpV w g A len cap v n vm nm (.slice Ap np cp) np w1) (e : (Value.slice Ap np cp).ownBlock = some gp) (hj : j < np) : ∃ z : Int, w1.cell? ⟨gp, j, none⟩ = some (.int .i64 z) ∧ w1.frozen? ⟨gp, j, none⟩ = false := by
  obtain ⟨g', cap', cs, e2, a1, a2, a3, a4, a5, a6⟩ := h.2.2.2.2.form (by omega)
  rw [e2] at e
  cases e
  obtain ⟨x, hx, z, rfl⟩ := a6 j (by omega)
  exact ⟨z, (cell_of_row w1 _ _ _ _ _ a4).trans hx, by simp [World.frozen?, a4]⟩
theorem PpV.form {w w1 : World} {g len cap n nm np cp : Nat} {A Ap : Option Addr} {v vm : Value} (h : PpV w g A len cap v n vm nm (.slice Ap np cp) np w1) (hn : 0 < np) : ∃ gp, Ap = some ⟨gp, 0, none⟩ ∧ (Value.slice Ap np cp).ownBlock = some gp := by
  obtain ⟨g', cap', cs, e2, a1, a2, a3, a4, a5, a6⟩ := h.2.2.2.2.form hn
  cases e2
  exact ⟨g', rfl, rfl⟩
theorem PkE.mk {w w' : World} {v vm vp : Value} {n nm : Nat} {l : List Int} (hn : n ≤ 20) (hm : nm ≤ 61) (hl : l.length ≤ 100) (h1 : OwnSa w' w.heap.size v n) (h2 : OwnMo w' w.heap.size vm nm) (h3 : w'.ownsRow w.heap.size 3 1 vp l.length (l.map (Value.int .i64))) (h4 : Below w.heap.size w w') : PkE 3 w (.returned (.tuple #[v, vm, vp])) w' :=
  ⟨v, n, vm, nm, vp, l, hn, hm, hl, rfl, h1, h2, h3, h4⟩
theorem own_ints {w : World} {B : Nat} {v : Value} {n : Nat} (h : OwnC IsPl 3 1 w B v n) : ∃ l : List Int, l.length = n ∧ w.ownsRow B 3 1 v l.length (l.map (Value.int .i64)) := by
  obtain ⟨xs, hx, ho⟩ := h
  obtain ⟨l, rfl⟩ := ints_of xs (fun c x h => hx c x h)
  have hl : l.length = n := by have := ho.1; rw [List.length_map] at this; omega
  exact ⟨l, hl, by rw [hl]; exact ho⟩
theorem own_of_ints {w : World} {B : Nat} {v : Value} {l : List Int} (h : w.ownsRow B 3 1 v l.length (l.map (Value.int .i64))) : OwnC IsPl 3 1 w B v l.length :=
  ⟨_, fun c x hx => by rw [List.getElem?_map] at hx; cases e : l[c]? with | none => rw [e] at hx; cases hx | some z => (rw [e] at hx; cases hx; exact ⟨z, rfl⟩), h⟩
set_option maxRecDepth 100000 in
set_option maxHeartbeats 8000000 in
theorem d_planS (hS : ∀ (w : World) (B g len cap : Nat) (A : Option Addr), Cur w B g A len cap → Calls Try.prog 53 #[.pointer (some ⟨g, 0, none⟩)] w fun e w' => ∃ (v : Value) (n : Nat), n ≤ 20 ∧ e = .returned v ∧ OwnSa w' w.heap.size v n ∧ Cur w' B g A len cap ∧ w.grownBy w' (some g))
    (w : World) (len cap : Nat) (A : Option Addr) (hcode : Code w w.heap.size A len) :
    Calls Try.prog 16 #[.slice A len cap] w (PkE 3 w) := by
  obtain ⟨i0, hi, hz0, hz1, hz2⟩ := info_parts Try.infoInt11
  go_enter Try.func16, Try.ntmps16
  go_wp2_with fail
  refine (d_new _ w.heap.size len cap A (Nat.le_refl _) hcode).mono ?_
  rintro e w1 ⟨g, rfl, cu1, b1⟩
  have R1 := Lib.hid (And.intro b1 cu1)
  clear b1 cu1 hcode
  go_wp2_with fail
  refine (hS _ _ g len cap A R1.out.2).mono ?_
  rintro e w2 ⟨v, n, hn, rfl, o2, cu2, gr2⟩
  have hg1 := R1.out.2.1
  have hne : ∀ j, v.ownBlock = some j → j ≠ g := fun j h => by have := (o2.lt h).1; have := R1.out.2.lt; omega
  have R2 := Lib.hid (And.intro (R1.out.1.grown gr2 R1.out.1.size (fun j e => by cases e; omega)) (And.intro cu2 (o2.low R1.out.1.size)))
  clear o2 cu2 gr2 R1
  obtain ⟨Av, cv, rfl, _⟩ := R2.out.2.2.value
  have HNE := Lib.hid hne
  clear hne
  go_wp2_with fail
  refine (d_moms _ _ g len cap A R2.out.2.1).mono ?_
  rintro e w4 ⟨vm, nm, hm, rfl, o4, cu4, gr4⟩
  have R4 := Lib.hid (show PpV w g A len cap (.slice Av n cv) n vm nm (.slice none 0 0) 0 w4 from ⟨R2.out.1.grown gr4 R2.out.1.size (fun j e => by cases e; omega), cu4, R2.out.2.2.kept gr4 (fun j e k => by cases e; exact HNE.out _ k rfl), o4.low R2.out.1.size, own_none _ _ _ _ _⟩)
  clear o4 cu4 gr4 R2 HNE
  obtain ⟨At, ct, rfl, _⟩ := R4.out.2.2.2.1.value
  obtain ⟨_, _, gs, f, e1, hA, hv, hf, _⟩ := OwnSa.list R4.out.2.2.1
  cases e1
  obtain ⟨_, _, gt, ms, e2, hT, hv2, hmf, _⟩ := OwnMo.list R4.out.2.2.2.1
  cases e2
  have HR := Lib.hid (s_run f 0 ms Av gs 0 n cv At gt 0 nm ct w4 (by omega) hA hv (fun j h => (hf j h).wf) (by omega) hT hv2 hmf)
  have HL := Lib.hid (show (runW n f 0 nm ms).length ≤ 61 by have := runW_length n f 0 nm ms; omega)
  clear hA hv hf hT hv2 hmf
  generalize runW n f 0 nm ms = L at *
  go_wp2_with fail
  refine HR.out.mono ?_
  rintro e w5 ⟨vp, rfl, hown, b5⟩
  have R5 := Lib.hid (show PpV w g A len cap (.slice Av n cv) n (.slice At nm ct) nm vp L.length w5 from by
    obtain ⟨h1, h2, h3, h4, _⟩ := R4.out.step b5
    exact ⟨h1, h2, h3, h4, (own_of_ints hown).low R4.out.1.size⟩)
  have hL := HL.out
  clear HR hown b5 R4 HL
  obtain ⟨Ap, cp, rfl, _⟩ := R5.out.2.2.2.2.value
  generalize L.length = np at *
  go_wp2
  go_loopw [9, 10] (fun i _ wr => ∃ k : Nat, k ≤ np ∧ i = .int .i64 k ∧ PpV w g A len cap (.slice Av n cv) n (.slice At nm ct) nm (.slice Ap np cp) np wr) (fun i _ _ => np - (intOf i).toNat)
  case atStart => exact ⟨0, Nat.zero_le _, rfl, R5.out⟩
  case round =>
    obtain ⟨k, hk, rfl, hst⟩ := hrel
    have HS := Lib.hid hst
    clear hst R5
    by_cases hlt : k < np
    · have x1 : (k : Int) < (np : Int) := by omega
      have x0 : (0 : Int) ≤ (k : Int) := by omega
      by_cases hlm : k < nm
      · have x2 : (k : Int) < (nm : Int) := by omega
        obtain ⟨gp, rfl, hgp⟩ := HS.out.form (by omega)
        have HGP := Lib.hid hgp
        clear hgp
        go_upto_region 8 with fail
        go_cut [40] (fun s40 wx => ∃ b : Bool, s40 = .bool b ∧ PpV w g A len cap (.slice Av n cv) n (.slice At nm ct) nm (.slice (some ⟨gp, 0, none⟩) np cp) np wx)
        case first =>
          go_wp2_with fail
          refine (d_once 2 _ _ g len cap A HS.out.2.1 (by omega)).mono ?_
          rintro e w6 ⟨t, rfl, cu, gr⟩
          have H6 := Lib.hid (HS.out.draw cu gr)
          clear cu gr HS
          obtain ⟨z, hz, _⟩ := H6.out.at HGP.out hlt
          cases t
          · by_cases hz0 : z < 0
            · go_wp2_with fail
              go_meet
              exact ⟨_, rfl, H6.out⟩
            · go_wp2_with fail
              go_meet
              exact ⟨_, rfl, H6.out⟩
          · go_wp2_with fail
            go_meet
            exact ⟨_, rfl, H6.out⟩
        case rest =>
        obtain ⟨b, rfl, hst⟩ := hcut
        clear HS
        have HS := Lib.hid hst
        clear hst
        cases b
        · go_wp2_with fail
          go_roundw
          case rel => exact ⟨k + 1, by omega, by go_num, HS.out⟩
          case measure => simp [intOf]; omega
        go_wp2_with fail
        go_loopw [10] (fun i wr => ∃ j : Nat, j ≤ n ∧ i = .int .i64 j ∧ PpV w g A len cap (.slice Av n cv) n (.slice At nm ct) nm (.slice (some ⟨gp, 0, none⟩) np cp) np wr) (fun i _ => n - (intOf i).toNat)
        case atStart => exact ⟨0, Nat.zero_le _, rfl, HS.out⟩
        case round =>
          obtain ⟨j, hj, rfl, hst⟩ := hrel
          clear HS
          have HS := Lib.hid hst
          clear hst
          by_cases hjn : j < n
          · have y1 : (j : Int) < (n : Int) := by omega
            have y0 : (0 : Int) ≤ (j : Int) := by omega
            go_upto_region 12 with fail
            go_cut [66] (fun s66 wx => ∃ b : Bool, s66 = .bool b ∧ PpV w g A len cap (.slice Av n cv) n (.slice At nm ct) nm (.slice (some ⟨gp, 0, none⟩) np cp) np wx)
            case first =>
              have H1 := Lib.hid HS.out.drew
              clear HS
              obtain ⟨Av, cv, gs, f, e1, hA, hv, hf, ob1⟩ := OwnSa.list H1.out.2.2.1
              cases e1
              obtain ⟨At, ct, gt, ms, e2, hT, hv2, hmf, ob2⟩ := OwnMo.list H1.out.2.2.2.1
              cases e2
              obtain rfl := hA (by omega)
              obtain rfl := hT (by omega)
              obtain ⟨s, hs1⟩ : ∃ s, f j = s := ⟨_, rfl⟩
              obtain ⟨⟨m1, m2⟩, hmk⟩ : ∃ m, ms k = m := ⟨_, rfl⟩
              have wf := (hf j hjn).wf
              have wm := hmf k hlm
              rw [hs1] at wf
              rw [hmk] at wm
              obtain ⟨d0, d1, d2, d3, d4⟩ := hv.at hjn hs1
              obtain ⟨q0, q1⟩ := hv2.at hlm hmk
              rw [Nat.zero_add] at d0 d1 d2 d3 d4 q0 q1
              have HF := Lib.hid (fun w => s_wide s (m1, m2) w wf wm)
              dsimp only at HF
              clear hv hv2 hf hmf hs1 hmk wf wm hA hT
              generalize wideB s (m1, m2) = t at *
              go_wp2
              obtain ⟨z, hz, hzf⟩ := H1.out.at HGP.out hlt
              have K1 := Lib.hid (show RgS gs j gt k gp s m1 m2 z wr.drew from ⟨d0, d1, d2, d3, d4, q0, q1, hz⟩)
              have NB := Lib.hid (show (some g : Option Nat) ≠ some gs ∧ (some g : Option Nat) ≠ some gt ∧ (some g : Option Nat) ≠ some gp by
                obtain ⟨cs, hb⟩ := cur_block H1.out.2.1
                have n1 := H1.out.2.2.1.ne hb (by decide)
                have n2 := H1.out.2.2.2.1.ne hb (by decide)
                have n3 := H1.out.2.2.2.2.ne hb (by decide)
                rw [ob1 (by omega)] at n1
                rw [ob2 (by omega)] at n2
                rw [HGP.out] at n3
                exact ⟨fun e => n1 e.symm, fun e => n2 e.symm, fun e => n3 e.symm⟩)
              clear d0 d1 d2 d3 d4 q0 q1 hz hzf ob1 ob2
              have hst : PqV w g A len cap (.slice (some ⟨gs, 0, none⟩) n cv) n (.slice (some ⟨gt, 0, none⟩) nm ct) nm (.slice (some ⟨gp, 0, none⟩) np cp) np gs j gt k gp s m1 m2 z wr.drew := ⟨H1.out, K1.out⟩
              have rs0 := fun x : Held (fun wx => PqV w g A len cap (.slice (some ⟨gs, 0, none⟩) n cv) n (.slice (some ⟨gt, 0, none⟩) nm ct) nm (.slice (some ⟨gp, 0, none⟩) np cp) np gs j gt k gp s m1 m2 z wx) => x.h.2.1
              have rs1 := fun x : Held (fun wx => PqV w g A len cap (.slice (some ⟨gs, 0, none⟩) n cv) n (.slice (some ⟨gt, 0, none⟩) nm ct) nm (.slice (some ⟨gp, 0, none⟩) np cp) np gs j gt k gp s m1 m2 z wx) => x.h.2.2.1
              have rs2 := fun x : Held (fun wx => PqV w g A len cap (.slice (some ⟨gs, 0, none⟩) n cv) n (.slice (some ⟨gt, 0, none⟩) nm ct) nm (.slice (some ⟨gp, 0, none⟩) np cp) np gs j gt k gp s m1 m2 z wx) => x.h.2.2.2.1
              have rs3 := fun x : Held (fun wx => PqV w g A len cap (.slice (some ⟨gs, 0, none⟩) n cv) n (.slice (some ⟨gt, 0, none⟩) nm ct) nm (.slice (some ⟨gp, 0, none⟩) np cp) np gs j gt k gp s m1 m2 z wx) => x.h.2.2.2.2.1
              have rs4 := fun x : Held (fun wx => PqV w g A len cap (.slice (some ⟨gs, 0, none⟩) n cv) n (.slice (some ⟨gt, 0, none⟩) nm ct) nm (.slice (some ⟨gp, 0, none⟩) np cp) np gs j gt k gp s m1 m2 z wx) => x.h.2.2.2.2.2.1
              have rm0 := fun x : Held (fun wx => PqV w g A len cap (.slice (some ⟨gs, 0, none⟩) n cv) n (.slice (some ⟨gt, 0, none⟩) nm ct) nm (.slice (some ⟨gp, 0, none⟩) np cp) np gs j gt k gp s m1 m2 z wx) => x.h.2.2.2.2.2.2.1
              have rm1 := fun x : Held (fun wx => PqV w g A len cap (.slice (some ⟨gs, 0, none⟩) n cv) n (.slice (some ⟨gt, 0, none⟩) nm ct) nm (.slice (some ⟨gp, 0, none⟩) np cp) np gs j gt k gp s m1 m2 z wx) => x.h.2.2.2.2.2.2.2.1
              have rp0 := fun x : Held (fun wx => PqV w g A len cap (.slice (some ⟨gs, 0, none⟩) n cv) n (.slice (some ⟨gt, 0, none⟩) nm ct) nm (.slice (some ⟨gp, 0, none⟩) np cp) np gs j gt k gp s m1 m2 z wx) => x.h.2.2.2.2.2.2.2.2
              cases t
              ·
                haveI hne : Nonempty (Held (fun wx => PqV w g A len cap (.slice (some ⟨gs, 0, none⟩) n cv) n (.slice (some ⟨gt, 0, none⟩) nm ct) nm (.slice (some ⟨gp, 0, none⟩) np cp) np gs j gt k gp s m1 m2 z wx)) := ⟨⟨_, hst⟩⟩
                refine wp_region_class (fun wx => PqV w g A len cap (.slice (some ⟨gs, 0, none⟩) n cv) n (.slice (some ⟨gt, 0, none⟩) nm ct) nm (.slice (some ⟨gp, 0, none⟩) np cp) np gs j gt k gp s m1 m2 z wx) (by kernel_rfl) (by kernel_rfl) hst ?_
                repeat (go_big_quiet_step (first
                  | (go_at_call 36; with_reducible exact held_call PqV.step (HF.out _))))
                refine wpQuiet_nil ?_
                intro wy hw'
                obtain ⟨⟨wq, hst6⟩, rfl⟩ := hw'
                (try dsimp only)
                clear hne hst rs0 rs1 rs2 rs3 rs4 rm0 rm1 rp0
                go_wp2_with fail
                go_meet
                exact ⟨_, rfl, hst6.1⟩
              by_cases hz0 : z < 0
              · have hz1 : decide (z < 0) = true := decide_eq_true hz0
                haveI hne : Nonempty (Held (fun wx => PqV w g A len cap (.slice (some ⟨gs, 0, none⟩) n cv) n (.slice (some ⟨gt, 0, none⟩) nm ct) nm (.slice (some ⟨gp, 0, none⟩) np cp) np gs j gt k gp s m1 m2 z wx)) := ⟨⟨_, hst⟩⟩
                refine wp_region_class (fun wx => PqV w g A len cap (.slice (some ⟨gs, 0, none⟩) n cv) n (.slice (some ⟨gt, 0, none⟩) nm ct) nm (.slice (some ⟨gp, 0, none⟩) np cp) np gs j gt k gp s m1 m2 z wx) (by kernel_rfl) (by kernel_rfl) hst ?_
                repeat (go_big_quiet_step (first
                  | (go_at_call 36; with_reducible exact held_call PqV.step (HF.out _))))
                refine wpQuiet_nil ?_
                intro wy hw'
                obtain ⟨⟨wq, hst6⟩, rfl⟩ := hw'
                (try dsimp only)
                clear hne hst rs0 rs1 rs2 rs3 rs4 rm0 rm1 rp0
                go_wp2_with fail
                go_meet
                exact ⟨_, rfl, hst6.1⟩
              have hz1 : decide (z < 0) = false := decide_eq_false hz0
              clear hst rs0 rs1 rs2 rs3 rs4 rm0 rm1 rp0
              · go_region_held3 (fun wx => wx.cell? ⟨gs, j * 5, none⟩ = some (.string s.nm) ∧ wx.cell? ⟨gs, j * 5 + 1, none⟩ = some (.float .f32 s.lo) ∧ wx.cell? ⟨gs, j * 5 + 2, none⟩ = some (.float .f32 s.hi) ∧ wx.cell? ⟨gs, j * 5 + 3, none⟩ = some (.int .i64 s.fr) ∧ wx.cell? ⟨gs, j * 5 + 4, none⟩ = some (.int .i64 s.to) ∧ wx.cell? ⟨gt, k * 2, none⟩ = some (.float .f32 m1) ∧ wx.cell? ⟨gt, k * 2 + 1, none⟩ = some (.int .i64 m2) ∧ wx.cell? ⟨gp, k, none⟩ = some (.int .i64 z)) (first | exact K1.out | exact K5.out | exact K6.out) ((first
                  | (go_at_call 36; (with_reducible refine (HF.out _).mono ?_); rintro e w5 ⟨rfl, b5⟩; have H5 := Lib.hid (H1.out.step b5); have K5 := Lib.hid (K1.out.grown (gr_of_bel b5 none) (by simp) (by simp) (by simp)); have C5 := Lib.hid (d_once 2 w5 _ g len cap A H5.out.2.1 (by omega)); clear b5)
                  | (go_at_call 55; (with_reducible refine C5.out.mono ?_); rintro e w6 ⟨b, rfl, cu, gr⟩; have H6 := Lib.hid (H5.out.draw cu gr); have K6 := Lib.hid (K5.out.grown gr NB.out.1 NB.out.2.1 NB.out.2.2); clear cu gr)))
                all_goals (
                  go_wp2_with fail
                  go_meet
                  exact ⟨_, rfl, H6.out⟩)
            case rest =>
            obtain ⟨b, rfl, hst⟩ := hcut
            clear HS
            have HS := Lib.hid hst
            clear hst
            cases b
            · go_wp2_with fail
              go_roundw
              case rel => exact ⟨j + 1, by omega, by go_num, HS.out⟩
              case measure => simp [intOf]; omega
            · obtain ⟨z, hz, hzf⟩ := HS.out.at HGP.out hlt
              have H7 := Lib.hid (HS.out.set (c := k) (z := (j : Int)) HGP.out)
              clear HS
              go_wp2_with fail
              go_roundw
              case rel => exact ⟨j + 1, by omega, by go_num, H7.out⟩
              case measure => simp [intOf]; omega
          · obtain rfl : j = n := by omega
            have y1 : ¬ (j : Int) < (j : Int) := by omega
            go_wp2_with fail
            go_roundw
            case rel => exact ⟨k + 1, by omega, by go_num, HS.out⟩
            case measure => simp [intOf]; omega
      · have x2 : ¬ (k : Int) < (nm : Int) := by omega
        by_cases h0 : 0 < np
        · have p1 : (0 : Int) < (np : Int) := by omega
          have p2 : decide ((np : Int) > 0) = true := decide_eq_true p1
          obtain ⟨gp, rfl, hgp⟩ := HS.out.form h0
          have HGP := Lib.hid hgp
          clear hgp
          go_wp2_with fail
          refine (d_once 8 _ _ g len cap A HS.out.2.1 (by omega)).mono ?_
          rintro e w6 ⟨t, rfl, cu, gr⟩
          have H6 := Lib.hid (HS.out.draw cu gr)
          clear cu gr HS
          go_upto_if 77 with fail
          go_cut [] (fun wx => PpV w g A len cap (.slice Av n cv) n (.slice At nm ct) nm (.slice (some ⟨gp, 0, none⟩) np cp) np wx)
          case first =>
            cases t
            · go_wp2_with fail
              go_meet
              exact H6.out
            · go_wp2_with fail
              refine (d_spot11 n (by omega) _ _ g len cap A H6.out.2.1).mono ?_
              rintro e w7 ⟨r, r0, r1, rfl, cu, gr⟩
              have H7 := Lib.hid (H6.out.draw cu gr)
              clear cu gr H6
              obtain ⟨z, hz, hzf⟩ := H7.out.at HGP.out h0
              have H8 := Lib.hid (H7.out.set (c := 0) (z := r) HGP.out)
              clear H7
              go_wp2_with fail
              go_meet
              exact H8.out
          case rest =>
          have HS := Lib.hid hcut
          clear hcut H6
          go_wp2_with fail
          refine (d_once 20 _ _ g len cap A HS.out.2.1 (by omega)).mono ?_
          rintro e w8 ⟨t, rfl, cu, gr⟩
          have H8 := Lib.hid (HS.out.draw cu gr)
          clear cu gr HS
          cases t
          · obtain ⟨l, hl, ho⟩ := own_ints H8.out.2.2.2.2
            have HO := Lib.hid ho
            clear ho
            go_wp2_with fail
            have HE := Lib.hid (PkE.mk hn hm (show l.length ≤ 100 by omega) H8.out.2.2.1 H8.out.2.2.2.1 HO.out H8.out.1)
            refine bodyPost_ret (results_tmp3 rfl _ _ _) rfl ?_
            exact HE.out
          · obtain ⟨xs, hx, hown⟩ := H8.out.2.2.2.2
            have HX := Lib.hid hx
            have hxl : xs.length = np * 1 := hown.1
            have hsz8 : w.heap.size ≤ w8.heap.size := H8.out.1.size
            clear hx
            go_wp2_with (at_builtin; refine wpList_append_own _ rfl _ _ 26 rfl w.heap.size 3 i0 (.int .i64 0) 1 8 Try.underlying26 hi hz0 hz1 hz2 rfl (by decide) _ _ _ rfl (hown.alloc _) ⟨w8.heap.size, 0, none⟩ 1 1 [.int .i64 0] rfl rfl (World.news_of_block (cs := #[.int .i64 0]) (t := 3) (fr := (0, 0)) (heap_alloc_new w8 _)) (by simp [Value.oneCell']) (by unfold maxLen; omega) (by omega) (by simp; omega) ?_; intro v' w9 hown2 hgrow _)
            have H9 := Lib.hid ((H8.out.alloc _).plan hgrow (own_add hown2 HX.out (fun c x h => by match c with | 0 => (cases h; exact ⟨0, rfl⟩) | c + 1 => simp at h) (Nat.mod_one _)))
            clear hown2 hgrow hown HX
            obtain ⟨l, hl, ho⟩ := own_ints H9.out.2.2.2.2
            have HO := Lib.hid ho
            clear ho
            go_wp2_with fail
            have HE := Lib.hid (PkE.mk hn hm (show l.length ≤ 100 by omega) H9.out.2.2.1 H9.out.2.2.2.1 HO.out H9.out.1)
            refine bodyPost_ret (results_tmp3 rfl _ _ _) rfl ?_
            exact HE.out
        · exact absurd (show 0 < np by omega) h0
    · have x1 : ¬ (k : Int) < (np : Int) := by omega
      by_cases h0 : 0 < np
      · have p1 : (0 : Int) < (np : Int) := by omega
        have p2 : decide ((np : Int) > 0) = true := decide_eq_true p1
        obtain ⟨gp, rfl, hgp⟩ := HS.out.form h0
        have HGP := Lib.hid hgp
        clear hgp
        go_wp2_with fail
        refine (d_once 8 _ _ g len cap A HS.out.2.1 (by omega)).mono ?_
        rintro e w6 ⟨t, rfl, cu, gr⟩
        have H6 := Lib.hid (HS.out.draw cu gr)
        clear cu gr HS
        go_upto_if 77 with fail
        go_cut [] (fun wx => PpV w g A len cap (.slice Av n cv) n (.slice At nm ct) nm (.slice (some ⟨gp, 0, none⟩) np cp) np wx)
        case first =>
          cases t
          · go_wp2_with fail
            go_meet
            exact H6.out
          · go_wp2_with fail
            refine (d_spot11 n (by omega) _ _ g len cap A H6.out.2.1).mono ?_
            rintro e w7 ⟨r, r0, r1, rfl, cu, gr⟩
            have H7 := Lib.hid (H6.out.draw cu gr)
            clear cu gr H6
            obtain ⟨z, hz, hzf⟩ := H7.out.at HGP.out h0
            have H8 := Lib.hid (H7.out.set (c := 0) (z := r) HGP.out)
            clear H7
            go_wp2_with fail
            go_meet
            exact H8.out
        case rest =>
        have HS := Lib.hid hcut
        clear hcut H6
        go_wp2_with fail
        refine (d_once 20 _ _ g len cap A HS.out.2.1 (by omega)).mono ?_
        rintro e w8 ⟨t, rfl, cu, gr⟩
        have H8 := Lib.hid (HS.out.draw cu gr)
        clear cu gr HS
        cases t
        · obtain ⟨l, hl, ho⟩ := own_ints H8.out.2.2.2.2
          have HO := Lib.hid ho
          clear ho
          go_wp2_with fail
          have HE := Lib.hid (PkE.mk hn hm (show l.length ≤ 100 by omega) H8.out.2.2.1 H8.out.2.2.2.1 HO.out H8.out.1)
          refine bodyPost_ret (results_tmp3 rfl _ _ _) rfl ?_
          exact HE.out
        · obtain ⟨xs, hx, hown⟩ := H8.out.2.2.2.2
          have HX := Lib.hid hx
          have hxl : xs.length = np * 1 := hown.1
          have hsz8 : w.heap.size ≤ w8.heap.size := H8.out.1.size
          clear hx
          go_wp2_with (at_builtin; refine wpList_append_own _ rfl _ _ 26 rfl w.heap.size 3 i0 (.int .i64 0) 1 8 Try.underlying26 hi hz0 hz1 hz2 rfl (by decide) _ _ _ rfl (hown.alloc _) ⟨w8.heap.size, 0, none⟩ 1 1 [.int .i64 0] rfl rfl (World.news_of_block (cs := #[.int .i64 0]) (t := 3) (fr := (0, 0)) (heap_alloc_new w8 _)) (by simp [Value.oneCell']) (by unfold maxLen; omega) (by omega) (by simp; omega) ?_; intro v' w9 hown2 hgrow _)
          have H9 := Lib.hid ((H8.out.alloc _).plan hgrow (own_add hown2 HX.out (fun c x h => by match c with | 0 => (cases h; exact ⟨0, rfl⟩) | c + 1 => simp at h) (Nat.mod_one _)))
          clear hown2 hgrow hown HX
          obtain ⟨l, hl, ho⟩ := own_ints H9.out.2.2.2.2
          have HO := Lib.hid ho
          clear ho
          go_wp2_with fail
          have HE := Lib.hid (PkE.mk hn hm (show l.length ≤ 100 by omega) H9.out.2.2.1 H9.out.2.2.2.1 HO.out H9.out.1)
          refine bodyPost_ret (results_tmp3 rfl _ _ _) rfl ?_
          exact HE.out
      · obtain rfl : np = 0 := by omega
        have p1 : ¬ (0 : Int) < ((0 : Nat) : Int) := by omega
        go_wp2_with fail
        refine (d_once 20 _ _ g len cap A HS.out.2.1 (by omega)).mono ?_
        rintro e w8 ⟨t, rfl, cu, gr⟩
        have H8 := Lib.hid (HS.out.draw cu gr)
        clear cu gr HS
        cases t
        · obtain ⟨l, hl, ho⟩ := own_ints H8.out.2.2.2.2
          have HO := Lib.hid ho
          clear ho
          go_wp2_with fail
          have HE := Lib.hid (PkE.mk hn hm (show l.length ≤ 100 by omega) H8.out.2.2.1 H8.out.2.2.2.1 HO.out H8.out.1)
          refine bodyPost_ret (results_tmp3 rfl _ _ _) rfl ?_
          exact HE.out
        · obtain ⟨xs, hx, hown⟩ := H8.out.2.2.2.2
          have HX := Lib.hid hx
          have hxl : xs.length = 0 * 1 := hown.1
          have hsz8 : w.heap.size ≤ w8.heap.size := H8.out.1.size
          clear hx
          go_wp2_with (at_builtin; refine wpList_append_own _ rfl _ _ 26 rfl w.heap.size 3 i0 (.int .i64 0) 1 8 Try.underlying26 hi hz0 hz1 hz2 rfl (by decide) _ _ _ rfl (hown.alloc _) ⟨w8.heap.size, 0, none⟩ 1 1 [.int .i64 0] rfl rfl (World.news_of_block (cs := #[.int .i64 0]) (t := 3) (fr := (0, 0)) (heap_alloc_new w8 _)) (by simp [Value.oneCell']) (by unfold maxLen; omega) (by omega) (by simp; omega) ?_; intro v' w9 hown2 hgrow _)
          have H9 := Lib.hid ((H8.out.alloc _).plan hgrow (own_add hown2 HX.out (fun c x h => by match c with | 0 => (cases h; exact ⟨0, rfl⟩) | c + 1 => simp at h) (Nat.mod_one _)))
          clear hown2 hgrow hown HX
          obtain ⟨l, hl, ho⟩ := own_ints H9.out.2.2.2.2
          have HO := Lib.hid ho
          clear ho
          go_wp2_with fail
          have HE := Lib.hid (PkE.mk hn hm (show l.length ≤ 100 by omega) H9.out.2.2.1 H9.out.2.2.2.1 HO.out H9.out.1)
          refine bodyPost_ret (results_tmp3 rfl _ _ _) rfl ?_
          exact HE.out
end Go.Proofs.Ytlliiecdadiagaa

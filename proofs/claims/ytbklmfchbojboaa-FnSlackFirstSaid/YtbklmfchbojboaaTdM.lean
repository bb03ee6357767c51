/- The nearest station (impl). -/
import Derived.Test.YtbklmfchbojboaaTdL
import Derived.Deep.RegionHeld3
namespace Go.Proofs.Ytbklmfchbojboaa
open Go.RowKit Ieee
set_option linter.unusedSimpArgs false
set_option linter.unusedVariables false
attribute [local go_sem] st_cplx

set_option maxRecDepth 100000 in
set_option maxHeartbeats 1000000 in
theorem i_distance (Z : Stn) (a b s c : Nat) (w : World) (hZ : StnOk Z) (hd : DistIs Z a b s) (hc : w.cell? ⟨c, 0, none⟩ = some (.complex .f64 a b)) :
    Calls Try.prog 62 #[.agg (litS Z), .pointer (some ⟨c, 0, none⟩)] w fun e w' => e = .returned (.float .f64 s) ∧ Below w.heap.size w w' := by
  obtain ⟨dx, dy, p, q, h1, h2, h3, h4, h5⟩ := hd
  have hb : Below w.heap.size w (w.alloc (.cells (litS Z) 28)) := (Below.refl w.heap.size w).alloc (Nat.le_refl _) _
  have hg := heap_alloc_new w (.cells (litS Z) 28)
  have k0 : (w.alloc (.cells (litS Z) 28)).cell? ⟨w.heap.size, 0, none⟩ = some (.complex .f64 Z.a Z.b) := cell_of_row _ _ 0 _ _ _ hg
  have kc : (w.alloc (.cells (litS Z) 28)).cell? ⟨c, 0, none⟩ = some (.complex .f64 a b) := (World.cell?_of_block (hb.block c (World.block_lt_of_cell? w _ hc))).trans hc
  have hq := fun w => run_complex_sum (P := Try.prog) w .sub (Or.inr rfl) 24 .f64 Z.a Z.b a b dx dy (by unfold cSumBits; rw [h1, h2]; rfl)
  have hD := fun w => i_dot dx dy dx dy p q s w h3 h4 h5
  have HB := Lib.hid hb
  have hsz : (litS Z).size = 14 := rfl
  have HZ := Lib.hid (lit_is hZ).st
  have hst := run_storeCells_new (P := Try.prog) w 28 (zeroS 0 0) (litS Z) (by exact Try.infoStS) (by rfl) HZ.out.one
  clear h1 h2 h3 h4 h5 hb hg hc
  go_enter Try.func62, Try.ntmps62
  generalize litS Z = cs at *
  go_wp2_with (go_at_call 63; (with_reducible refine (hD _).mono ?_); rintro e w' ⟨rfl, rfl⟩)
  go_ret
  exact ⟨rfl, HB.out⟩

theorem row_range {w : World} {g : Nat} {cs : Array Value} {t : TypeId} (h : w.heap[g]? = some (.cells cs t (0, 0))) : w.rangeAt g 0 cs.toList := fun j v hv => by
  rw [Nat.zero_add]
  exact (cell_of_row w g j _ _ _ h).trans (by simpa using hv)
theorem cellsR {w : World} {g o : Nat} {Z : Stn} (h : w.rangeAt g o (litS Z).toList) : w.cell? ⟨g, o, none⟩ = some (.complex .f64 Z.a Z.b) ∧ w.cell? ⟨g, o + 1, none⟩ = some (.complex .f32 (Z.x 0) (Z.y 0)) ∧ w.cell? ⟨g, o + 2, none⟩ = some (.complex .f32 (Z.x 1) (Z.y 1)) ∧ w.cell? ⟨g, o + 3, none⟩ = some (.complex .f32 (Z.x 2) (Z.y 2)) ∧ w.cell? ⟨g, o + 4, none⟩ = some (.complex .f32 (Z.x 3) (Z.y 3)) ∧ w.cell? ⟨g, o + 5, none⟩ = some (.complex .f32 (Z.x 4) (Z.y 4)) ∧ w.cell? ⟨g, o + 6, none⟩ = some (.complex .f32 (Z.x 5) (Z.y 5)) ∧ w.cell? ⟨g, o + 7, none⟩ = some (.complex .f32 (Z.x 6) (Z.y 6)) ∧ w.cell? ⟨g, o + 8, none⟩ = some (.complex .f32 (Z.x 7) (Z.y 7)) ∧ w.cell? ⟨g, o + 9, none⟩ = some (.complex .f32 (Z.x 8) (Z.y 8)) ∧ w.cell? ⟨g, o + 10, none⟩ = some (.complex .f32 (Z.x 9) (Z.y 9)) ∧ w.cell? ⟨g, o + 11, none⟩ = some (.complex .f32 (Z.x 10) (Z.y 10)) ∧ w.cell? ⟨g, o + 12, none⟩ = some (.complex .f32 (Z.x 11) (Z.y 11)) ∧ w.cell? ⟨g, o + 13, none⟩ = some (.complex .f32 (Z.x 12) (Z.y 12)) :=
  ⟨by simpa using h 0 _ rfl, by simpa using h 1 _ rfl, by simpa using h 2 _ rfl, by simpa using h 3 _ rfl, by simpa using h 4 _ rfl, by simpa using h 5 _ rfl, by simpa using h 6 _ rfl, by simpa using h 7 _ rfl, by simpa using h 8 _ rfl, by simpa using h 9 _ rfl, by simpa using h 10 _ rfl, by simpa using h 11 _ rfl, by simpa using h 12 _ rfl, by simpa using h 13 _ rfl⟩
theorem TidIn.st {B : Nat} {w : World} {T : Tid} (h : TidIn B w T) {g : Nat} (hg : T.S = some ⟨g, 0, none⟩) {k : Nat} (hk : k < T.ns) : w.rangeAt g (k * 14) (litS (T.st k)).toList := by
  obtain ⟨g', e, _, hr⟩ := h.2.1 (by omega)
  rw [hg] at e
  cases e
  exact hr k hk
/-- What stands while two distances are asked for. -/
def FrS (w w5 : World) (q gS o : Nat) (Zk Zb : Stn) (wx : World) : Prop := wx.rangeAt q 0 (litS Zk).toList ∧ wx.rangeAt gS o (litS Zb).toList ∧ HiSame 0 w5 wx ∧ Below w.heap.size w wx
theorem FrS.drew {w w5 : World} {q gS o : Nat} {Zk Zb : Stn} {wx : World} (h : FrS w w5 q gS o Zk Zb wx) : FrS w w5 q gS o Zk Zb wx.drew :=
  ⟨h.1, h.2.1, h.2.2.1.trans (HiSame.grown (grown_drew wx none) (fun k e => by cases e)), ⟨h.2.2.2.os, h.2.2.2.tape, h.2.2.2.output, h.2.2.2.size, h.2.2.2.block⟩⟩
theorem FrS.same {w w5 : World} {q gS o : Nat} {Zk Zb : Stn} {wx : World} (h : FrS w w5 q gS o Zk Zb wx) : HiSame 0 w5 wx := h.2.2.1
theorem FrS.below {w w5 : World} {q gS o : Nat} {Zk Zb : Stn} {wx : World} (h : FrS w w5 q gS o Zk Zb wx) : Below w.heap.size w wx := h.2.2.2
theorem range_same {w w' : World} {g o : Nat} {cs : List Value} (h : w.rangeAt g o cs) (k : HiSame 0 w w') : w'.rangeAt g o cs := fun j v hv => k.cell (Nat.zero_le _) (h j v hv)
theorem FrS.step {w w5 : World} {q gS o : Nat} {Zk Zb : Stn} {wx wy : World} (h : FrS w w5 q gS o Zk Zb wx) (b : Below wx.heap.size wx wy) : FrS w w5 q gS o Zk Zb wy :=
  ⟨range_same h.1 (HiSame.below b), range_same h.2.1 (HiSame.below b), h.2.2.1.trans (HiSame.below b), h.2.2.2.trans (b.mono h.2.2.2.size)⟩
set_option maxRecDepth 100000 in
set_option maxHeartbeats 8000000 in
theorem i_firstF (B : Nat) (T : Tid) (a b c : Nat) (ds : Nat → Nat) (w : World) (hT : TidIn B w T) (hok : StsOk T) (hds : NrOk T a b ds) (hc : w.cell? ⟨c, 0, none⟩ = some (.complex .f64 a b)) :
    Calls Try.prog 61 #[.slice T.S T.ns T.cs, .func (Fn.func 62) #[] #[.pointer (some ⟨c, 0, none⟩)]] w fun e w' => e = .returned (.int .i64 (nr T ds)) ∧ Below w.heap.size w w' := by
  obtain ⟨gS, eS, _, _⟩ := hT.2.1 (by have := hok.1.1; omega)
  have hn := hok.1
  have HI := Lib.hid hT
  have HCB := Lib.hid hc
  have HDS := Lib.hid hds
  have HG := Lib.hid eS
  rw [eS]
  clear hT hok hc eS hds
  obtain ⟨hn1, hn2⟩ := hn
  go_enter Try.func61, Try.ntmps61
  go_wp2_with fail
  go_loopw [5, 6, 7, 10] (fun s _ _ i wr => ∃ (k : Nat), k ≤ T.ns ∧ i = .int .i64 k ∧ s = .int .i64 (fstR (ltD ds) k) ∧ HiSame 0 w wr ∧ Below w.heap.size w wr) (fun _ _ _ i _ => T.ns - (intOf i).toNat)
  case atStart => exact ⟨0, by omega, rfl, rfl, HiSame.refl _ _, Below.refl _ _⟩
  case round =>
    obtain ⟨k, hk, rfl, rfl, hsame, hbel⟩ := hrel
    by_cases hlt : k < T.ns
    · have k1 : (k : Int) < (T.ns : Int) := by omega
      have k0 : (0 : Int) ≤ (k : Int) := by omega
      have hbl : fstR (ltD ds) k < T.ns := by
        rcases Nat.eq_zero_or_pos k with h | h
        · subst h; show 0 < T.ns; omega
        · have := fstR_lt (ltD ds) h; omega
      have hstep : ((FloatKind.f64.format.order (ds k) (ds (fstR (ltD ds) k)) == some .lt) = true ∧ fstR (ltD ds) (k + 1) = k) ∨ ((FloatKind.f64.format.order (ds k) (ds (fstR (ltD ds) k)) == some .lt) = false ∧ fstR (ltD ds) (k + 1) = fstR (ltD ds) k) := by
        rw [fstR_step]
        cases h : ltD ds k (fstR (ltD ds) k)
        · exact .inr ⟨h, by simp⟩
        · exact .inl ⟨h, by simp⟩
      generalize fstR (ltD ds) k = m at *
      have hTr := HI.out.same ⟨hsame.1, fun j _ hj => hsame.2 j (Nat.zero_le _) hj⟩
      have hr := hTr.st HG.out hlt
      have hrm := hTr.st HG.out hbl
      have hzk := hTr.1.1 k hlt
      have hzb := hTr.1.1 m hbl
      have hdk := HDS.out k hlt
      have hdb := HDS.out m hbl
      generalize hZk : T.st k = Zk at *
      generalize hZb : T.st m = Zb at *
      generalize hdk0 : ds k = dk at *
      generalize hdb0 : ds m = db at *
      clear hZk hZb hdk0 hdb0
      have hst := run_storeCells_new (P := Try.prog) wr 28 (zeroS 0 0) (litS Zk) (by exact Try.infoStS) (by rfl) (lit_is hzk).st.one
      have b1 : (m : Int) < (T.ns : Int) := by omega
      have b0 : (0 : Int) ≤ (m : Int) := by omega
      have hga := World.grownBy_alloc wr (.cells (litS Zk) 28) none
      have hs5 := HiSame.grown (B := 0) hga (fun k e => by cases e)
      have hF : FrS w (wr.alloc (.cells (litS Zk) 28)) wr.heap.size gS (m * 14) Zk Zb (wr.alloc (.cells (litS Zk) 28)) :=
        ⟨row_range (heap_alloc_new wr _), range_same hrm hs5, HiSame.refl _ _, hbel.alloc hbel.size _⟩
      have HF := Lib.hid hF
      have HN := Lib.hid (And.intro hlt (hsame.trans hs5))
      have HZ := Lib.hid (And.intro hzk hzb)
      have HH := Lib.hid hstep
      have m1 := Lib.hid (fun wx (h : FrS w (wr.alloc (.cells (litS Zk) 28)) wr.heap.size gS (m * 14) Zk Zb wx) => (show Calls Try.prog 62 #[.agg #[.complex .f64 Zk.a Zk.b, .complex .f32 (Zk.x 0) (Zk.y 0), .complex .f32 (Zk.x 1) (Zk.y 1), .complex .f32 (Zk.x 2) (Zk.y 2), .complex .f32 (Zk.x 3) (Zk.y 3), .complex .f32 (Zk.x 4) (Zk.y 4), .complex .f32 (Zk.x 5) (Zk.y 5), .complex .f32 (Zk.x 6) (Zk.y 6), .complex .f32 (Zk.x 7) (Zk.y 7), .complex .f32 (Zk.x 8) (Zk.y 8), .complex .f32 (Zk.x 9) (Zk.y 9), .complex .f32 (Zk.x 10) (Zk.y 10), .complex .f32 (Zk.x 11) (Zk.y 11), .complex .f32 (Zk.x 12) (Zk.y 12)], .pointer (some ⟨c, 0, none⟩)] wx fun e w' => e = .returned (.float .f64 dk) ∧ Below wx.heap.size wx w' from
        i_distance Zk a b dk c wx hzk hdk (((hsame.trans hs5).trans h.2.2.1).cell (Nat.zero_le _) HCB.out)))
      have m2 := Lib.hid (fun wx (h : FrS w (wr.alloc (.cells (litS Zk) 28)) wr.heap.size gS (m * 14) Zk Zb wx) => (show Calls Try.prog 62 #[.agg #[.complex .f64 Zb.a Zb.b, .complex .f32 (Zb.x 0) (Zb.y 0), .complex .f32 (Zb.x 1) (Zb.y 1), .complex .f32 (Zb.x 2) (Zb.y 2), .complex .f32 (Zb.x 3) (Zb.y 3), .complex .f32 (Zb.x 4) (Zb.y 4), .complex .f32 (Zb.x 5) (Zb.y 5), .complex .f32 (Zb.x 6) (Zb.y 6), .complex .f32 (Zb.x 7) (Zb.y 7), .complex .f32 (Zb.x 8) (Zb.y 8), .complex .f32 (Zb.x 9) (Zb.y 9), .complex .f32 (Zb.x 10) (Zb.y 10), .complex .f32 (Zb.x 11) (Zb.y 11), .complex .f32 (Zb.x 12) (Zb.y 12)], .pointer (some ⟨c, 0, none⟩)] wx fun e w' => e = .returned (.float .f64 db) ∧ Below wx.heap.size wx w' from
        i_distance Zb a b db c wx hzb hdb (((hsame.trans hs5).trans h.2.2.1).cell (Nat.zero_le _) HCB.out)))
      clear hsame hbel hTr hga hs5 hF hzk hzb hstep hlt hbl hrm hdk hdb
      unfold zeroS at hst
      go_upto_region 5 with (refine wpList_load_mid rfl _ _ rfl gS (k * 14) rfl (litS Zk).toList _ hr Try.underlying28 rfl Try.infoStS ?_)
      generalize wr.alloc (.cells (litS Zk) 28) = w5 at *
      generalize wr.heap.size = q at *
      clear hr hst
      have a0 : ∀ w', FrS w w5 q gS (m * 14) Zk Zb w' → w'.cell? ⟨q, 0, none⟩ = some (.complex .f64 Zk.a Zk.b) := fun w' h => by simpa using h.1 0 _ rfl
      have a1 : ∀ w', FrS w w5 q gS (m * 14) Zk Zb w' → w'.cell? ⟨q, 1, none⟩ = some (.complex .f32 (Zk.x 0) (Zk.y 0)) := fun w' h => by simpa using h.1 1 _ rfl
      have a2 : ∀ w', FrS w w5 q gS (m * 14) Zk Zb w' → w'.cell? ⟨q, 2, none⟩ = some (.complex .f32 (Zk.x 1) (Zk.y 1)) := fun w' h => by simpa using h.1 2 _ rfl
      have a3 : ∀ w', FrS w w5 q gS (m * 14) Zk Zb w' → w'.cell? ⟨q, 3, none⟩ = some (.complex .f32 (Zk.x 2) (Zk.y 2)) := fun w' h => by simpa using h.1 3 _ rfl
      have a4 : ∀ w', FrS w w5 q gS (m * 14) Zk Zb w' → w'.cell? ⟨q, 4, none⟩ = some (.complex .f32 (Zk.x 3) (Zk.y 3)) := fun w' h => by simpa using h.1 4 _ rfl
      have a5 : ∀ w', FrS w w5 q gS (m * 14) Zk Zb w' → w'.cell? ⟨q, 5, none⟩ = some (.complex .f32 (Zk.x 4) (Zk.y 4)) := fun w' h => by simpa using h.1 5 _ rfl
      have a6 : ∀ w', FrS w w5 q gS (m * 14) Zk Zb w' → w'.cell? ⟨q, 6, none⟩ = some (.complex .f32 (Zk.x 5) (Zk.y 5)) := fun w' h => by simpa using h.1 6 _ rfl
      have a7 : ∀ w', FrS w w5 q gS (m * 14) Zk Zb w' → w'.cell? ⟨q, 7, none⟩ = some (.complex .f32 (Zk.x 6) (Zk.y 6)) := fun w' h => by simpa using h.1 7 _ rfl
      have a8 : ∀ w', FrS w w5 q gS (m * 14) Zk Zb w' → w'.cell? ⟨q, 8, none⟩ = some (.complex .f32 (Zk.x 7) (Zk.y 7)) := fun w' h => by simpa using h.1 8 _ rfl
      have a9 : ∀ w', FrS w w5 q gS (m * 14) Zk Zb w' → w'.cell? ⟨q, 9, none⟩ = some (.complex .f32 (Zk.x 8) (Zk.y 8)) := fun w' h => by simpa using h.1 9 _ rfl
      have a10 : ∀ w', FrS w w5 q gS (m * 14) Zk Zb w' → w'.cell? ⟨q, 10, none⟩ = some (.complex .f32 (Zk.x 9) (Zk.y 9)) := fun w' h => by simpa using h.1 10 _ rfl
      have a11 : ∀ w', FrS w w5 q gS (m * 14) Zk Zb w' → w'.cell? ⟨q, 11, none⟩ = some (.complex .f32 (Zk.x 10) (Zk.y 10)) := fun w' h => by simpa using h.1 11 _ rfl
      have a12 : ∀ w', FrS w w5 q gS (m * 14) Zk Zb w' → w'.cell? ⟨q, 12, none⟩ = some (.complex .f32 (Zk.x 11) (Zk.y 11)) := fun w' h => by simpa using h.1 12 _ rfl
      have a13 : ∀ w', FrS w w5 q gS (m * 14) Zk Zb w' → w'.cell? ⟨q, 13, none⟩ = some (.complex .f32 (Zk.x 12) (Zk.y 12)) := fun w' h => by simpa using h.1 13 _ rfl
      have e0 : ∀ w', FrS w w5 q gS (m * 14) Zk Zb w' → w'.cell? ⟨gS, m * 14, none⟩ = some (.complex .f64 Zb.a Zb.b) := fun w' h => by simpa using h.2.1 0 _ rfl
      have e1 : ∀ w', FrS w w5 q gS (m * 14) Zk Zb w' → w'.cell? ⟨gS, m * 14 + 1, none⟩ = some (.complex .f32 (Zb.x 0) (Zb.y 0)) := fun w' h => by simpa using h.2.1 1 _ rfl
      have e2 : ∀ w', FrS w w5 q gS (m * 14) Zk Zb w' → w'.cell? ⟨gS, m * 14 + 2, none⟩ = some (.complex .f32 (Zb.x 1) (Zb.y 1)) := fun w' h => by simpa using h.2.1 2 _ rfl
      have e3 : ∀ w', FrS w w5 q gS (m * 14) Zk Zb w' → w'.cell? ⟨gS, m * 14 + 3, none⟩ = some (.complex .f32 (Zb.x 2) (Zb.y 2)) := fun w' h => by simpa using h.2.1 3 _ rfl
      have e4 : ∀ w', FrS w w5 q gS (m * 14) Zk Zb w' → w'.cell? ⟨gS, m * 14 + 4, none⟩ = some (.complex .f32 (Zb.x 3) (Zb.y 3)) := fun w' h => by simpa using h.2.1 4 _ rfl
      have e5 : ∀ w', FrS w w5 q gS (m * 14) Zk Zb w' → w'.cell? ⟨gS, m * 14 + 5, none⟩ = some (.complex .f32 (Zb.x 4) (Zb.y 4)) := fun w' h => by simpa using h.2.1 5 _ rfl
      have e6 : ∀ w', FrS w w5 q gS (m * 14) Zk Zb w' → w'.cell? ⟨gS, m * 14 + 6, none⟩ = some (.complex .f32 (Zb.x 5) (Zb.y 5)) := fun w' h => by simpa using h.2.1 6 _ rfl
      have e7 : ∀ w', FrS w w5 q gS (m * 14) Zk Zb w' → w'.cell? ⟨gS, m * 14 + 7, none⟩ = some (.complex .f32 (Zb.x 6) (Zb.y 6)) := fun w' h => by simpa using h.2.1 7 _ rfl
      have e8 : ∀ w', FrS w w5 q gS (m * 14) Zk Zb w' → w'.cell? ⟨gS, m * 14 + 8, none⟩ = some (.complex .f32 (Zb.x 7) (Zb.y 7)) := fun w' h => by simpa using h.2.1 8 _ rfl
      have e9 : ∀ w', FrS w w5 q gS (m * 14) Zk Zb w' → w'.cell? ⟨gS, m * 14 + 9, none⟩ = some (.complex .f32 (Zb.x 8) (Zb.y 8)) := fun w' h => by simpa using h.2.1 9 _ rfl
      have e10 : ∀ w', FrS w w5 q gS (m * 14) Zk Zb w' → w'.cell? ⟨gS, m * 14 + 10, none⟩ = some (.complex .f32 (Zb.x 9) (Zb.y 9)) := fun w' h => by simpa using h.2.1 10 _ rfl
      have e11 : ∀ w', FrS w w5 q gS (m * 14) Zk Zb w' → w'.cell? ⟨gS, m * 14 + 11, none⟩ = some (.complex .f32 (Zb.x 10) (Zb.y 10)) := fun w' h => by simpa using h.2.1 11 _ rfl
      have e12 : ∀ w', FrS w w5 q gS (m * 14) Zk Zb w' → w'.cell? ⟨gS, m * 14 + 12, none⟩ = some (.complex .f32 (Zb.x 11) (Zb.y 11)) := fun w' h => by simpa using h.2.1 12 _ rfl
      have e13 : ∀ w', FrS w w5 q gS (m * 14) Zk Zb w' → w'.cell? ⟨gS, m * 14 + 13, none⟩ = some (.complex .f32 (Zb.x 12) (Zb.y 12)) := fun w' h => by simpa using h.2.1 13 _ rfl
      have hF0 := HF.out
      rcases HH.out with ⟨hord, hs⟩ | ⟨hord, hs⟩
      all_goals
        have HS := Lib.hid hs
        clear hs
        go_region_held3 (fun wx => FrS w w5 q gS (m * 14) Zk Zb wx)
          (first | assumption | exact FrS.drew (by assumption) | exact FrS.step (by assumption) (by assumption))
          (first
            | (go_at_call 62; with_reducible refine (m1.out _ (by assumption)).mono ?_; rintro e w6 ⟨rfl, b6⟩)
            | (go_at_call 62; with_reducible refine (m2.out _ (by assumption)).mono ?_; rintro e w6 ⟨rfl, b6⟩))
        all_goals
          go_wp2_with fail
          go_roundw
          case rel => exact ⟨k + 1, by have := HN.out.1; omega, by go_num, by rw [HS.out], HN.out.2.trans (FrS.same (by assumption)), FrS.below (by assumption)⟩
          case measure => have := HN.out.1; simp [intOf]; omega
    · obtain rfl : k = T.ns := by omega
      go_wp2_with fail
      go_ret
      exact ⟨rfl, hbel⟩
end Go.Proofs.Ytbklmfchbojboaa

/- The walk of an exact law of chapter 11, over a contract of the program's function: FewestChanges. -/
import Derived.Test.YtlliiecdadiagaaLpR
namespace Go.Proofs.Ytlliiecdadiagaa
open Go.RowKit
set_option linter.unusedVariables false
set_option linter.unusedSimpArgs false

set_option maxRecDepth 100000 in
set_option maxHeartbeats 8000000 in
theorem wo_FnExactFewestChanges (hI : ∀ (f : Nat → Sl) (ms : Nat → Mm) (A : Option Addr) (g o n cap : Nat) (TA : Option Addr) (tg tO nm tcap : Nat) (w : World), n ≤ 1048576 → n ≤ cap → (0 < n → A = some ⟨g, o, none⟩) → SlsIn w g o n f → (∀ j, j < n → SlWf (f j)) → nm ≤ 1048576 → nm ≤ tcap → (0 < nm → TA = some ⟨tg, tO, none⟩) → MmsIn w tg tO nm ms → (∀ j, j < nm → MmWf (ms j)) → Calls Try.prog 17 #[.slice A n cap, .slice TA nm tcap] w (FwE 3 w ((fwW n f nm ms).getD []) (fwW n f nm ms).isSome))
    (x : Option Addr × Nat × Nat × (Nat → Sl)) (y : Option Addr × Nat × Nat × (Nat → Mm)) (w : World) (hx : SlsArg w x.1 x.2.1 x.2.2.2) (hy : MmsArg w y.1 y.2.1 y.2.2.2) :
    Calls Try.prog 14 #[.slice x.1 x.2.1 x.2.2.1, .slice y.1 y.2.1 y.2.2.1] w fun e w' => e = .returned (.bool true) ∧ Below w.heap.size w w' := by
  obtain ⟨A, n, cap, f⟩ := x
  obtain ⟨TA, nm, tcap, ms⟩ := y
  dsimp only at *
  obtain ⟨hn, ⟨g, o, hA, hw⟩, hf⟩ := hx
  obtain ⟨hnm, ⟨tg, tO, hT, hv⟩, hmf⟩ := hy
  have HZ := Lib.hid (fun w (h : SlsIn w g o n f) => l_szS11 f 1048576 A g o n cap w hn hA h hf (by omega) (by omega))
  have HC := Lib.hid (fun (hn : n ≤ 1048576) w (h : SlsIn w g o n f) => l_toS11 f A g o n cap w hn hA h)
  have HQ := Lib.hid (fun (hn : n ≤ 1048576) b b' w (h : OwnSl w b n f) (h' : OwnSl w b' n f) => l_eqS11 f (some ⟨b, 0, none⟩) (some ⟨b', 0, none⟩) b 0 b' 0 n n n w hn (fun _ => rfl) (fun _ => rfl) h.ins h'.ins hf)
  have HZ2 := Lib.hid (fun (r : Int) (h0 : 0 ≤ r) (h9 : r ≤ 1048576) w => l_szMm TA nm tcap r w h0 h9 hnm)
  have HC2 := Lib.hid (fun (hn : nm ≤ 1048576) w (h : MmsIn w tg tO nm ms) => l_toM11 ms TA tg tO nm tcap w hn hT h)
  have HQ2 := Lib.hid (fun (hn : nm ≤ 1048576) b b' w (h : OwnMl w b nm ms) (h' : OwnMl w b' nm ms) => l_eqM11 ms (some ⟨b, 0, none⟩) (some ⟨b', 0, none⟩) b 0 b' 0 nm nm nm w hn (fun _ => rfl) (fun _ => rfl) h.ins h'.ins hmf)
  have HS := Lib.hid (fun (hn : n ≤ 1048576) (hm : nm ≤ 1048576) b b' w (h : OwnSl w b n f) (h' : OwnMl w b' nm ms) => s_few f ms (some ⟨b, 0, none⟩) b 0 n n (some ⟨b', 0, none⟩) b' 0 nm nm w hn (fun _ => rfl) h.ins hf hm (fun _ => rfl) h'.ins hmf)
  have HI := Lib.hid (fun (hn : n ≤ 1048576) (hm : nm ≤ 1048576) b b' w (h : OwnSl w b n f) (h' : OwnMl w b' nm ms) => hI f ms (some ⟨b, 0, none⟩) b 0 n n (some ⟨b', 0, none⟩) b' 0 nm nm w hn (Nat.le_refl _) (fun _ => rfl) h.ins hf hm (Nat.le_refl _) (fun _ => rfl) h'.ins hmf)
  have hL9 := fwW_length n f nm ms
  generalize (fwW n f nm ms).isSome = t at *
  generalize (fwW n f nm ms).getD [] = L at *
  obtain ⟨nl, hnl⟩ : ∃ nl, L.length = nl := ⟨_, rfl⟩
  generalize hF : (fun j => L.getD j 0) = F at *
  have HB := Lib.hid (fun (B : Nat) (w : World) (v : Value) (h : w.ownsRow B 3 1 v L.length (L.map (Value.int .i64))) => show ∃ (A : Option Addr) (cap g : Nat), v = .slice A nl cap ∧ InB w A nl g F ∧ (0 < nl → B ≤ g ∧ g < w.heap.size) from by
    obtain ⟨A, cap, g, rfl, h1, h2⟩ := InB.of_owns h
    rw [hF] at h1
    rw [hnl] at h1 h2
    exact ⟨A, cap, g, by rw [hnl], h1, fun h => (h2 h).2⟩)
  rw [hnl] at hL9
  have hLm := Lib.hid hL9
  clear hL9
  have hw0 := Lib.hid (And.intro hw hv)
  clear hI hA hw hf hT hv hmf
  cases t
  all_goals (
  go_enter Try.func14, Try.ntmps14
  go_wp2_with fail
  refine (HZ.out _ hw0.out.1).mono ?_
  rintro e w1 ⟨⟨r, hr, rfl⟩, bl⟩
  have hbel := Lib.hid bl
  clear bl HZ
  rcases hr with rfl | ⟨r0, hr1⟩
  · go_wp2
    go_ret
    exact ⟨rfl, hbel.out⟩
  have r2 : ¬ r < 0 := by omega
  have r3 : r ≤ 1048576 := by omega
  have hcm := Lib.hid (show n ≤ 1048576 by omega)
  clear hr1 hn
  go_wp2_with fail
  refine (HZ2.out r r0 r3 _).mono ?_
  rintro e w1 ⟨⟨u, hu, rfl⟩, rfl⟩
  rcases hu with rfl | ⟨u0, hu1⟩
  · go_wp2
    go_ret
    exact ⟨rfl, hbel.out⟩
  have u2 : ¬ u < 0 := by omega
  have htm := Lib.hid (show nm ≤ 1048576 by omega)
  clear hu1 hnm HZ2 r0 r3
  have hlm := Lib.hid (show nl ≤ 1048576 by have := hLm.out; have := htm.out; omega)
  go_wp2_with fail
  refine (HC.out hcm.out _ (hw0.out.1.below hbel.out (Nat.le_refl _))).mono ?_
  rintro e w2 ⟨rfl, o10, bl⟩
  have o1 := Lib.hid o10
  clear o10
  have hbel2 := Lib.hid (hbel.out.trans (bl.mono hbel.out.size))
  clear bl hbel
  have hbel := hbel2
  clear hbel2
  generalize w1.heap.size = b_o1 at *
  go_wp2_with fail
  refine (HC2.out htm.out _ (hw0.out.2.below hbel.out (Nat.le_refl _))).mono ?_
  rintro e w3 ⟨rfl, o20, bl⟩
  have o2 := Lib.hid o20
  clear o20
  have hbel2 := Lib.hid (hbel.out.trans (bl.mono hbel.out.size))
  have o12 := Lib.hid (o1.out.below bl)
  clear bl hbel o1
  have hbel := hbel2
  have o1 := o12
  clear hbel2 o12
  generalize w2.heap.size = b_o2 at *
  go_wp2_with fail
  refine (HS.out hcm.out htm.out _ _ _ o1.out o2.out).mono ?_
  rintro e w4 ⟨vs, rfl, hvs, bl⟩
  obtain ⟨As, cs, gs, rfl, is0, hgs0⟩ := HB.out _ _ _ hvs
  have is := Lib.hid is0
  have hgs := Lib.hid hgs0
  clear hvs is0 hgs0
  have hbel2 := Lib.hid (hbel.out.trans (bl.mono hbel.out.size))
  have o12 := Lib.hid (o1.out.below bl)
  have o22 := Lib.hid (o2.out.below bl)
  clear bl hbel o1 o2
  have hbel := hbel2
  have o1 := o12
  have o2 := o22
  clear hbel2 o12 o22
  clear o1 o2 HS
  go_wp2_with fail
  refine (HC.out hcm.out _ (hw0.out.1.below hbel.out (Nat.le_refl _))).mono ?_
  rintro e w5 ⟨rfl, p10, bl⟩
  have p1 := Lib.hid p10
  have hg1 := Lib.hid (show (0 < nl → gs < w4.heap.size) ∧ w.heap.size ≤ w4.heap.size from ⟨fun h => (hgs.out h).2, hbel.out.size⟩)
  clear p10 hgs
  have hbel2 := Lib.hid (hbel.out.trans (bl.mono hbel.out.size))
  have is2 := Lib.hid (is.out.below bl (Nat.le_refl _))
  clear bl hbel is
  have hbel := hbel2
  have is := is2
  clear hbel2 is2
  generalize w4.heap.size = b1 at *
  go_wp2_with fail
  refine (HC2.out htm.out _ (hw0.out.2.below hbel.out (Nat.le_refl _))).mono ?_
  rintro e w6 ⟨rfl, p20, bl⟩
  have p2 := Lib.hid p20
  have hg2 := Lib.hid (show b1 < w5.heap.size ∧ w.heap.size ≤ w5.heap.size from ⟨by obtain ⟨cs, hb, _⟩ := p1.out; exact heap_lt hb, hbel.out.size⟩)
  clear p20
  have hbel2 := Lib.hid (hbel.out.trans (bl.mono hbel.out.size))
  have is2 := Lib.hid (is.out.below bl (Nat.le_refl _))
  have p12 := Lib.hid (p1.out.below bl)
  clear bl hbel is p1
  have hbel := hbel2
  have is := is2
  have p1 := p12
  clear hbel2 is2 p12
  generalize w5.heap.size = b2 at *
  have p2p := p2
  have hbp := hbel
  go_wp2_with fail
  refine (HI.out hcm.out htm.out _ _ _ p1.out p2.out).mono ?_
  rintro e w7 ⟨vi, rfl, hvi, bl⟩
  obtain ⟨Ai, ci, gi, rfl, ii0, hgi0⟩ := HB.out _ _ _ hvi
  have ii := Lib.hid ii0
  have hgi := Lib.hid hgi0
  clear hvi ii0 hgi0
  have hbel2 := Lib.hid (hbel.out.trans (bl.mono hbel.out.size))
  have is2 := Lib.hid (is.out.below bl (Nat.le_refl _))
  have p12 := Lib.hid (p1.out.below bl)
  have p22 := Lib.hid (p2.out.below bl)
  clear bl hbel is p1 p2
  have hbel := hbel2
  have is := is2
  have p1 := p12
  have p2 := p22
  clear hbel2 is2 p12 p22
  have hg3 := Lib.hid (show b1 < b2 ∧ (0 < nl → b2 < gi ∧ gs < b1 ∧ w.heap.size ≤ gi) from ⟨hg2.out.1, fun h => ⟨Nat.lt_of_lt_of_le (by obtain ⟨cs, hb, _⟩ := p2p.out; exact heap_lt hb) (hgi.out h).1, hg1.out.1 h, Nat.le_trans hbp.out.size (hgi.out h).1⟩⟩)
  clear p2p hbp hgi
  go_wp2_with fail
  refine (l_eqIn F Ai As nl ci cs gi gs _ ii.out is.out hlm.out).mono ?_
  rintro e w8 ⟨rfl, bl⟩
  have hbel2 := Lib.hid (hbel.out.trans (bl.mono hbel.out.size))
  have is2 := Lib.hid (is.out.below bl (Nat.le_refl _))
  have p12 := Lib.hid (p1.out.below bl)
  have p22 := Lib.hid (p2.out.below bl)
  have ii2 := Lib.hid (ii.out.below bl (Nat.le_refl _))
  clear bl hbel is p1 p2 ii
  have hbel := hbel2
  have is := is2
  have p1 := p12
  have p2 := p22
  have ii := ii2
  clear hbel2 is2 p12 p22 ii2
  go_wp2_with fail
  refine (HC.out hcm.out _ (hw0.out.1.below hbel.out (Nat.le_refl _))).mono ?_
  rintro e w9 ⟨rfl, q10, bl⟩
  have q1 := Lib.hid q10
  clear q10
  have hbel2 := Lib.hid (hbel.out.trans (bl.mono hbel.out.size))
  have is2 := Lib.hid (is.out.below bl (Nat.le_refl _))
  have p12 := Lib.hid (p1.out.below bl)
  have p22 := Lib.hid (p2.out.below bl)
  have ii2 := Lib.hid (ii.out.below bl (Nat.le_refl _))
  clear bl hbel is p1 p2 ii
  have hbel := hbel2
  have is := is2
  have p1 := p12
  have p2 := p22
  have ii := ii2
  clear hbel2 is2 p12 p22 ii2
  generalize w8.heap.size = b_q1 at *
  go_wp2_with fail
  refine (HQ.out hcm.out _ _ _ p1.out q1.out).mono ?_
  rintro e w10 ⟨rfl, bl⟩
  have hbel2 := Lib.hid (hbel.out.trans (bl.mono hbel.out.size))
  have is2 := Lib.hid (is.out.below bl (Nat.le_refl _))
  have p12 := Lib.hid (p1.out.below bl)
  have p22 := Lib.hid (p2.out.below bl)
  have ii2 := Lib.hid (ii.out.below bl (Nat.le_refl _))
  have q12 := Lib.hid (q1.out.below bl)
  clear bl hbel is p1 p2 ii q1
  have hbel := hbel2
  have is := is2
  have p1 := p12
  have p2 := p22
  have ii := ii2
  have q1 := q12
  clear hbel2 is2 p12 p22 ii2 q12
  clear q1
  go_wp2_with fail
  refine (HC2.out htm.out _ (hw0.out.2.below hbel.out (Nat.le_refl _))).mono ?_
  rintro e w11 ⟨rfl, q20, bl⟩
  have q2 := Lib.hid q20
  clear q20
  have hbel2 := Lib.hid (hbel.out.trans (bl.mono hbel.out.size))
  have is2 := Lib.hid (is.out.below bl (Nat.le_refl _))
  have p12 := Lib.hid (p1.out.below bl)
  have p22 := Lib.hid (p2.out.below bl)
  have ii2 := Lib.hid (ii.out.below bl (Nat.le_refl _))
  clear bl hbel is p1 p2 ii
  have hbel := hbel2
  have is := is2
  have p1 := p12
  have p2 := p22
  have ii := ii2
  clear hbel2 is2 p12 p22 ii2
  generalize w10.heap.size = b_q2 at *
  go_wp2_with fail
  refine (HQ2.out htm.out _ _ _ p2.out q2.out).mono ?_
  rintro e w12 ⟨rfl, bl⟩
  have hbel2 := Lib.hid (hbel.out.trans (bl.mono hbel.out.size))
  have is2 := Lib.hid (is.out.below bl (Nat.le_refl _))
  have p12 := Lib.hid (p1.out.below bl)
  have p22 := Lib.hid (p2.out.below bl)
  have ii2 := Lib.hid (ii.out.below bl (Nat.le_refl _))
  have q22 := Lib.hid (q2.out.below bl)
  clear bl hbel is p1 p2 ii q2
  have hbel := hbel2
  have is := is2
  have p1 := p12
  have p2 := p22
  have ii := ii2
  have q2 := q22
  clear hbel2 is2 p12 p22 ii2 q22
  clear q2
  go_wp2_with fail
  refine (l_mkSl (some ⟨b1, 0, none⟩) n n b1 1 _ (fun _ => ⟨rfl, by obtain ⟨cs, hb, hr⟩ := p1.out; exact ⟨cs, _, hb, by rw [hr.1]; exact Nat.le_refl _⟩⟩) hcm.out (by omega) (by omega)).mono ?_
  rintro e w13 ⟨rfl, gr⟩
  have i2s := Lib.hid (is.out.same (fun h => GrI.heap gr (by obtain ⟨_, cs, t, hb, _⟩ := is.out h; exact block_lt hb) (by have := hg3.out.2 h; omega)))
  have i2i := Lib.hid (ii.out.same (fun h => GrI.heap gr (by obtain ⟨_, cs, t, hb, _⟩ := ii.out h; exact block_lt hb) (by have := hg3.out; have := hg3.out.2 h; omega)))
  have k2 := Lib.hid (show Blk w13 b2 (nm * 2) from by obtain ⟨cs, hb, hr⟩ := p2.out; exact ⟨cs, _, (GrI.heap gr (heap_lt hb) (by have := hg3.out.1; omega)).trans hb, by rw [hr.1]; exact Nat.le_refl _⟩)
  have hbel2 := Lib.hid (bel_gr hbel.out gr (fun _ => hg1.out.2))
  clear gr is ii p1 p2 hbel
  go_wp2_with fail
  refine (l_mkMm (some ⟨b2, 0, none⟩) nm nm b2 (1 + 5 * (n : Int)) _ (fun _ => ⟨rfl, k2.out⟩) htm.out (by omega) (by have := hcm.out; omega)).mono ?_
  rintro e w14 ⟨rfl, gr⟩
  have is := Lib.hid (i2s.out.same (fun h => GrI.heap gr (by obtain ⟨_, cs, t, hb, _⟩ := i2s.out h; exact block_lt hb) (by have := hg3.out.1; have := hg3.out.2 h; omega)))
  have ii := Lib.hid (i2i.out.same (fun h => GrI.heap gr (by obtain ⟨_, cs, t, hb, _⟩ := i2i.out h; exact block_lt hb) (by have := hg3.out.1; have := hg3.out.2 h; omega)))
  have hbel := Lib.hid (bel_gr hbel2.out gr (fun _ => hg2.out.2))
  clear gr i2s i2i k2 hbel2
  have kk : ¬ (1 + 5 * (n : Int) + 2 * (nm : Int)) < 0 := by omega
  go_wp2_with fail
  refine (l_eqIn F Ai As nl ci cs gi gs _ ii.out is.out hlm.out).mono ?_
  rintro e w15 ⟨rfl, bl⟩
  have hbel2 := Lib.hid (hbel.out.trans (bl.mono hbel.out.size))
  have is2 := Lib.hid (is.out.below bl (Nat.le_refl _))
  have ii2 := Lib.hid (ii.out.below bl (Nat.le_refl _))
  clear bl hbel is ii
  have hbel := hbel2
  have is := is2
  have ii := ii2
  clear hbel2 is2 ii2
  clear kk
  go_wp2_with fail
  refine (l_mkI Ai nl ci gi 1 F _ ii.out hlm.out (by omega) (by omega)).mono ?_
  rintro e w16 ⟨rfl, i20, gr⟩
  have i2i := Lib.hid i20
  have i2s := Lib.hid (is.out.same (fun h => GrI.heap gr (by obtain ⟨_, cs, t, hb, _⟩ := is.out h; exact block_lt hb) (by have := hg3.out.1; have := hg3.out.2 h; omega)))
  have hbel2 := Lib.hid (bel_gr hbel.out gr (fun h => (hg3.out.2 h).2.2))
  clear gr is ii hbel i20
  have is := i2s
  have ii := i2i
  have hbel := hbel2
  clear i2s i2i hbel2
  have m1 : ¬ (1 + (nl : Int)) < 0 := by omega
  have m2 : (1 + (nl : Int) != 1 + (nl : Int)) = false := by simp
  go_wp2_with fail
  refine (l_hdI Ai nl ci gi 1 _ ii.out hlm.out (by omega) (by omega)).mono ?_
  rintro e w16x ⟨rfl, rfl⟩
  go_wp2_with fail
  refine (HC.out hcm.out _ (hw0.out.1.below hbel.out (Nat.le_refl _))).mono ?_
  rintro e w17 ⟨rfl, p10, bl⟩
  have p1 := Lib.hid p10
  clear p10
  have hbel2 := Lib.hid (hbel.out.trans (bl.mono hbel.out.size))
  have is2 := Lib.hid (is.out.below bl (Nat.le_refl _))
  have ii2 := Lib.hid (ii.out.below bl (Nat.le_refl _))
  clear bl hbel is ii
  have hbel := hbel2
  have is := is2
  have ii := ii2
  clear hbel2 is2 ii2
  generalize w16.heap.size = b_p1 at *
  go_wp2_with fail
  refine (HC2.out htm.out _ (hw0.out.2.below hbel.out (Nat.le_refl _))).mono ?_
  rintro e w18 ⟨rfl, p20, bl⟩
  have p2 := Lib.hid p20
  clear p20
  have hbel2 := Lib.hid (hbel.out.trans (bl.mono hbel.out.size))
  have is2 := Lib.hid (is.out.below bl (Nat.le_refl _))
  have ii2 := Lib.hid (ii.out.below bl (Nat.le_refl _))
  have p12 := Lib.hid (p1.out.below bl)
  clear bl hbel is ii p1
  have hbel := hbel2
  have is := is2
  have ii := ii2
  have p1 := p12
  clear hbel2 is2 ii2 p12
  generalize w17.heap.size = b_p2 at *
  go_wp2_with fail
  refine (HI.out hcm.out htm.out _ _ _ p1.out p2.out).mono ?_
  rintro e w19 ⟨vh, rfl, hvh, bl⟩
  obtain ⟨Ah, ch, gh, rfl, ih0, hgh0⟩ := HB.out _ _ _ hvh
  have ih := Lib.hid ih0
  have hgh := Lib.hid hgh0
  clear hvh ih0 hgh0
  have hbel2 := Lib.hid (hbel.out.trans (bl.mono hbel.out.size))
  have is2 := Lib.hid (is.out.below bl (Nat.le_refl _))
  have ii2 := Lib.hid (ii.out.below bl (Nat.le_refl _))
  have p12 := Lib.hid (p1.out.below bl)
  have p22 := Lib.hid (p2.out.below bl)
  clear bl hbel is ii p1 p2
  have hbel := hbel2
  have is := is2
  have ii := ii2
  have p1 := p12
  have p2 := p22
  clear hbel2 is2 ii2 p12 p22
  go_wp2_with fail
  refine (l_eqIn F Ah As nl ch cs gh gs _ ih.out is.out hlm.out).mono ?_
  rintro e w20 ⟨rfl, bl⟩
  have hbel2 := Lib.hid (hbel.out.trans (bl.mono hbel.out.size))
  have is2 := Lib.hid (is.out.below bl (Nat.le_refl _))
  have ii2 := Lib.hid (ii.out.below bl (Nat.le_refl _))
  have p12 := Lib.hid (p1.out.below bl)
  have p22 := Lib.hid (p2.out.below bl)
  have ih2 := Lib.hid (ih.out.below bl (Nat.le_refl _))
  clear bl hbel is ii p1 p2 ih
  have hbel := hbel2
  have is := is2
  have ii := ii2
  have p1 := p12
  have p2 := p22
  have ih := ih2
  clear hbel2 is2 ii2 p12 p22 ih2
  go_wp2_with fail
  refine (l_hdI Ai nl ci gi 1 _ ii.out hlm.out (by omega) (by omega)).mono ?_
  rintro e w20x ⟨rfl, rfl⟩
  go_wp2
  go_ret
  exact ⟨rfl, hbel.out⟩)
end Go.Proofs.Ytlliiecdadiagaa

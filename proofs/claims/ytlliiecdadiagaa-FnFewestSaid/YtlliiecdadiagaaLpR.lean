/- The walks of exact laws of chapter 11, over contracts of the program's functions: Changes, PlanOk. -/
import Derived.Test.YtlliiecdadiagaaLpN
import Derived.Test.YtlliiecdadiagaaLpL
import Derived.Test.YtlliiecdadiagaaLpG
import Derived.Test.YtlliiecdadiagaaDr1
namespace Go.Proofs.Ytlliiecdadiagaa
open Go.RowKit
set_option linter.unusedVariables false
set_option linter.unusedSimpArgs false

theorem row_pl {w : World} {A : Option Addr} {len cap : Nat} {zs : List Int} (h : IsRow .i64 w A len cap zs) : len ≤ 9223372036854775807 ∧ ∃ g o, (0 < len → A = some ⟨g, o, none⟩) ∧ PlIn w g o len (fun j => zs.getD j 0) := by
  rcases h with ⟨_, h0, _⟩ | ⟨⟨b, off, spot⟩, rfl, hl, hc, hz, hcell, _⟩
  · exact ⟨by omega, 0, 0, fun h => by omega, fun j hj => by omega⟩
  · have hm : maxLen = 9223372036854775807 := rfl
    refine ⟨by omega, ?_⟩
    by_cases h0 : 0 < len
    · have c0 := hcell 0 (by omega)
      have hs : spot = none := by simpa [Addr.add] using World.cell?_spot c0
      subst hs
      have hadd : ∀ j, (⟨b, off, none⟩ : Addr).add j = ⟨b, off + j, none⟩ := fun j => by unfold Addr.add; split <;> simp_all
      refine ⟨b, off, fun _ => rfl, fun j hj => ?_⟩
      have c := hcell j (by omega)
      rwa [hadd] at c
    · exact ⟨0, 0, fun h => absurd h h0, fun j hj => by omega⟩
theorem run_length (n : Nat) (f : Nat → Sl) (ms : Nat → Mm) : ∀ r i a, (runFrom n f ms r i a).length = r
  | 0, _, _ => rfl
  | r + 1, i, a => by unfold runFrom; simp [run_length n f ms r]
theorem runW_length (n : Nat) (f : Nat → Sl) (a : Int) (nm : Nat) (ms : Nat → Mm) : (runW n f a nm ms).length ≤ nm := by
  unfold runW
  split
  · rw [run_length]; exact Nat.le_refl _
  · exact Nat.zero_le _
theorem fwF_length (n : Nat) (f : Nat → Sl) (nm : Nat) (ms : Nat → Mm) : ∀ r p l, p ≤ nm → fwF n f nm ms r p = some l → l.length ≤ nm - p
  | 0, p, l, hp, h => by unfold fwF at h; cases h; exact Nat.zero_le _
  | r + 1, p, l, hp, h => by
    unfold fwF at h
    split at h
    · split at h
      · cases h
      · obtain ⟨m, hm, rfl⟩ := Option.map_eq_some_iff.1 h
        have hb := bs2_ok f ms nm p n
        have := fwF_length n f nm ms r _ m (by omega) hm
        rw [List.length_append, List.length_replicate]
        omega
    · cases h; exact Nat.zero_le _
theorem fwW_length (n : Nat) (f : Nat → Sl) (nm : Nat) (ms : Nat → Mm) : ((fwW n f nm ms).getD []).length ≤ nm := by
  unfold fwW
  split
  · cases h : fwF n f nm ms nm 0 with
    | none => exact Nat.zero_le _
    | some l => exact fwF_length n f nm ms nm 0 l (Nat.zero_le _) h
  · exact Nat.zero_le _
theorem GrI.heap {w w' : World} {n g k : Nat} (h : GrI w n g w') (hk : k < w.heap.size) (hg : k ≠ g) : w'.heap[k]? = w.heap[k]? := World.grownBy.block h k hk (by split <;> simp_all [Ne.symm])
theorem bel_gr {w w1 w2 : World} {n g : Nat} (h : Below w.heap.size w w1) (k : GrI w1 n g w2) (hg : 0 < n → w.heap.size ≤ g) : Below w.heap.size w w2 := h.grown k h.size (fun j e => by split at e <;> simp_all)
set_option maxRecDepth 100000 in
set_option maxHeartbeats 4000000 in
theorem wo_FnExactChanges (hI : ∀ (p : Nat → Int) (PA : Option Addr) (pg pO np pcap : Nat) (w : World), np ≤ 1048576 → (0 < np → PA = some ⟨pg, pO, none⟩) → PlIn w pg pO np p → Calls Try.prog 20 #[.slice PA np pcap] w fun e w' => e = .returned (.int .i64 (chgN p np)) ∧ Below w.heap.size w w')
    (PA : Option Addr) (np pcap : Nat) (zs : List Int) (w : World) (hx : IsRow .i64 w PA np pcap zs) :
    Calls Try.prog 13 #[.slice PA np pcap] w fun e w' => e = .returned (.bool true) ∧ Below w.heap.size w w' := by
  obtain ⟨hnp, pg, pO, hP, hp⟩ := row_pl hx
  clear hx
  generalize (fun j => zs.getD j 0) = p at hp
  have HC3 := Lib.hid (fun (hn : np ≤ 1048576) w (h : PlIn w pg pO np p) => l_toI11 p PA pg pO np pcap w hn hP h)
  have HQ3 := Lib.hid (fun (hn : np ≤ 1048576) b b' w (h : PlIn w b 0 np p) (h' : PlIn w b' 0 np p) => l_eqP11 p (some ⟨b, 0, none⟩) (some ⟨b', 0, none⟩) b 0 b' 0 np np np w hn (fun _ => rfl) (fun _ => rfl) h h')
  have HS := Lib.hid (fun (hn : np ≤ 1048576) b w (h : PlIn w b 0 np p) => s_chg p (some ⟨b, 0, none⟩) b 0 np np w hn (fun _ => rfl) h)
  have HI := Lib.hid (fun (hn : np ≤ 1048576) b w (h : PlIn w b 0 np p) => hI p (some ⟨b, 0, none⟩) b 0 np np w hn (fun _ => rfl) h)
  generalize chgN p np = t at *
  have e9 : (t == t) = true := by simp
  have hw0 := Lib.hid hp
  clear hI hP hp
  have hbel := Lib.hid (Below.refl w.heap.size w)
  by_cases hbig : 1048576 < (np : Int)
  · go_enter Try.func13, Try.ntmps13
    go_wp2
    go_ret
    exact ⟨rfl, hbel.out⟩
  have hpm := Lib.hid (show np ≤ 1048576 by omega)
  go_enter Try.func13, Try.ntmps13
  go_wp2_with fail
  refine (HC3.out hpm.out _ hw0.out).mono ?_
  rintro e w1 ⟨rfl, o1, bl⟩
  have hb2 := Lib.hid bl
  clear bl hbel
  have hbel := hb2
  clear hb2
  have own1 := Lib.hid o1
  clear o1
  go_wp2_with fail
  refine (HS.out hpm.out _ _ own1.out).mono ?_
  rintro e w2 ⟨rfl, bl⟩
  have hbel2 := Lib.hid (hbel.out.trans (bl.mono hbel.out.size))
  have own12 := Lib.hid (own1.out.below bl (Nat.le_refl _))
  clear bl hbel own1
  have hbel := hbel2
  have own1 := own12
  clear hbel2 own12
  clear own1 HS
  go_wp2_with fail
  refine (HC3.out hpm.out _ (hw0.out.below hbel.out (Nat.le_refl _))).mono ?_
  rintro e w3 ⟨rfl, own20, bl⟩
  have own2 := Lib.hid own20
  clear own20
  have hbel2 := Lib.hid (hbel.out.trans (bl.mono hbel.out.size))
  clear bl hbel
  have hbel := hbel2
  clear hbel2
  generalize w2.heap.size = b_own2 at *
  go_wp2_with fail
  refine (HI.out hpm.out _ _ own2.out).mono ?_
  rintro e w4 ⟨rfl, bl⟩
  have hbel2 := Lib.hid (hbel.out.trans (bl.mono hbel.out.size))
  have own22 := Lib.hid (own2.out.below bl (Nat.le_refl _))
  clear bl hbel own2
  have hbel := hbel2
  have own2 := own22
  clear hbel2 own22
  go_wp2_with fail
  refine (HC3.out hpm.out _ (hw0.out.below hbel.out (Nat.le_refl _))).mono ?_
  rintro e w5 ⟨rfl, own30, bl⟩
  have own3 := Lib.hid own30
  clear own30
  have hbel2 := Lib.hid (hbel.out.trans (bl.mono hbel.out.size))
  have own22 := Lib.hid (own2.out.below bl (Nat.le_refl _))
  clear bl hbel own2
  have hbel := hbel2
  have own2 := own22
  clear hbel2 own22
  generalize w4.heap.size = b_own3 at *
  go_wp2_with fail
  refine (HQ3.out hpm.out _ _ _ own2.out own3.out).mono ?_
  rintro e w6 ⟨rfl, bl⟩
  have hbel2 := Lib.hid (hbel.out.trans (bl.mono hbel.out.size))
  have own22 := Lib.hid (own2.out.below bl (Nat.le_refl _))
  have own32 := Lib.hid (own3.out.below bl (Nat.le_refl _))
  clear bl hbel own2 own3
  have hbel := hbel2
  have own2 := own22
  have own3 := own32
  clear hbel2 own22 own32
  go_wp2
  go_ret
  exact ⟨rfl, hbel.out⟩
set_option maxRecDepth 100000 in
set_option maxHeartbeats 4000000 in
theorem wo_FnExactPlanOk (hI : ∀ (f : Nat → Sl) (ms : Nat → Mm) (p : Nat → Int) (A : Option Addr) (g o n cap : Nat) (TA : Option Addr) (tg tO nm tcap : Nat) (PA : Option Addr) (pg pO np pcap : Nat) (w : World), n ≤ 1048576 → n ≤ cap → (0 < n → A = some ⟨g, o, none⟩) → SlsIn w g o n f → (∀ j, j < n → SlWf (f j)) → nm ≤ 1048576 → (0 < nm → TA = some ⟨tg, tO, none⟩) → MmsIn w tg tO nm ms → (∀ j, j < nm → MmWf (ms j)) → np ≤ 1048576 → (0 < np → PA = some ⟨pg, pO, none⟩) → PlIn w pg pO np p → Calls Try.prog 19 #[.slice A n cap, .slice TA nm tcap, .slice PA np pcap] w fun e w' => e = .returned (.bool (planB n f nm ms np p)) ∧ Below w.heap.size w w')
    (x : Option Addr × Nat × Nat × (Nat → Sl)) (y : Option Addr × Nat × Nat × (Nat → Mm)) (PA : Option Addr) (np pcap : Nat) (zs : List Int) (w : World) (hx : SlsArg w x.1 x.2.1 x.2.2.2) (hy : MmsArg w y.1 y.2.1 y.2.2.2) (hz : IsRow .i64 w PA np pcap zs) :
    Calls Try.prog 12 #[.slice x.1 x.2.1 x.2.2.1, .slice y.1 y.2.1 y.2.2.1, .slice PA np pcap] w fun e w' => e = .returned (.bool true) ∧ Below w.heap.size w w' := by
  obtain ⟨A, n, cap, f⟩ := x
  obtain ⟨TA, nm, tcap, ms⟩ := y
  dsimp only at *
  obtain ⟨hn, ⟨g, o, hA, hw⟩, hf⟩ := hx
  obtain ⟨hnm, ⟨tg, tO, hT, hv⟩, hmf⟩ := hy
  obtain ⟨hnp, pg, pO, hP, hp⟩ := row_pl hz
  clear hz
  generalize (fun j => zs.getD j 0) = p at hp
  have HZ := Lib.hid (fun w (h : SlsIn w g o n f) => l_szS11 f 1048576 A g o n cap w hn hA h hf (by omega) (by omega))
  have HC := Lib.hid (fun (hn : n ≤ 1048576) w (h : SlsIn w g o n f) => l_toS11 f A g o n cap w hn hA h)
  have HQ := Lib.hid (fun (hn : n ≤ 1048576) b b' w (h : OwnSl w b n f) (h' : OwnSl w b' n f) => l_eqS11 f (some ⟨b, 0, none⟩) (some ⟨b', 0, none⟩) b 0 b' 0 n n n w hn (fun _ => rfl) (fun _ => rfl) h.ins h'.ins hf)
  have HZ2 := Lib.hid (fun (r : Int) (h0 : 0 ≤ r) (h9 : r ≤ 1048576) w => l_szMm TA nm tcap r w h0 h9 hnm)
  have HC2 := Lib.hid (fun (hn : nm ≤ 1048576) w (h : MmsIn w tg tO nm ms) => l_toM11 ms TA tg tO nm tcap w hn hT h)
  have HQ2 := Lib.hid (fun (hn : nm ≤ 1048576) b b' w (h : OwnMl w b nm ms) (h' : OwnMl w b' nm ms) => l_eqM11 ms (some ⟨b, 0, none⟩) (some ⟨b', 0, none⟩) b 0 b' 0 nm nm nm w hn (fun _ => rfl) (fun _ => rfl) h.ins h'.ins hmf)
  have HC3 := Lib.hid (fun (hn : np ≤ 1048576) w (h : PlIn w pg pO np p) => l_toI11 p PA pg pO np pcap w hn hP h)
  have HQ3 := Lib.hid (fun (hn : np ≤ 1048576) b b' w (h : PlIn w b 0 np p) (h' : PlIn w b' 0 np p) => l_eqP11 p (some ⟨b, 0, none⟩) (some ⟨b', 0, none⟩) b 0 b' 0 np np np w hn (fun _ => rfl) (fun _ => rfl) h h')
  have HS := Lib.hid (fun (hn : n ≤ 1048576) (hm : nm ≤ 1048576) (hq : np ≤ 1048576) b b' b'' w (h : OwnSl w b n f) (h' : OwnMl w b' nm ms) (h'' : PlIn w b'' 0 np p) => s_plan f ms p (some ⟨b, 0, none⟩) b 0 n n (some ⟨b', 0, none⟩) b' 0 nm nm (some ⟨b'', 0, none⟩) b'' 0 np np w hn (fun _ => rfl) h.ins hf hm (fun _ => rfl) h'.ins hmf hq (fun _ => rfl) h'')
  have HI := Lib.hid (fun (hn : n ≤ 1048576) (hm : nm ≤ 1048576) (hq : np ≤ 1048576) b b' b'' w (h : OwnSl w b n f) (h' : OwnMl w b' nm ms) (h'' : PlIn w b'' 0 np p) => hI f ms p (some ⟨b, 0, none⟩) b 0 n n (some ⟨b', 0, none⟩) b' 0 nm nm (some ⟨b'', 0, none⟩) b'' 0 np np w hn (Nat.le_refl _) (fun _ => rfl) h.ins hf hm (fun _ => rfl) h'.ins hmf hq (fun _ => rfl) h'')
  generalize planB n f nm ms np p = t at *
  have hw0 := Lib.hid (And.intro hw (And.intro hv hp))
  clear hI hA hw hf hT hv hmf hP hp
  by_cases hbig : 1048576 < (np : Int)
  · go_enter Try.func12, Try.ntmps12
    go_wp2
    go_ret
    exact ⟨rfl, Below.refl _ _⟩
  have hpm := Lib.hid (show np ≤ 1048576 by omega)
  clear hnp
  cases t
  all_goals (
  go_enter Try.func12, Try.ntmps12
  go_wp2_with fail
  refine (HZ.out _ hw0.out.1).mono ?_
  rintro e w1 ⟨⟨r, hr, rfl⟩, bl⟩
  have hbel := Lib.hid bl
  clear bl HZ
  rcases hr with rfl | ⟨r0, hr1⟩
  · go_wp2
    go_ret
    exact ⟨rfl, hbel.out⟩
  have r2 : ¬ r < 0 := by omega
  have r3 : r ≤ 1048576 := by omega
  have hcm := Lib.hid (show n ≤ 1048576 by omega)
  clear hr1 hn
  go_wp2_with fail
  refine (HZ2.out r r0 r3 _).mono ?_
  rintro e w1 ⟨⟨u, hu, rfl⟩, rfl⟩
  rcases hu with rfl | ⟨u0, hu1⟩
  · go_wp2
    go_ret
    exact ⟨rfl, hbel.out⟩
  have u2 : ¬ u < 0 := by omega
  have htm := Lib.hid (show nm ≤ 1048576 by omega)
  clear hu1 hnm HZ2 r0 r3
  go_wp2_with fail
  refine (HC.out hcm.out _ (hw0.out.1.below hbel.out (Nat.le_refl _))).mono ?_
  rintro e w2 ⟨rfl, o10, bl⟩
  have o1 := Lib.hid o10
  clear o10
  have hbel2 := Lib.hid (hbel.out.trans (bl.mono hbel.out.size))
  clear bl hbel
  have hbel := hbel2
  clear hbel2
  generalize w1.heap.size = b_o1 at *
  go_wp2_with fail
  refine (HC2.out htm.out _ (hw0.out.2.1.below hbel.out (Nat.le_refl _))).mono ?_
  rintro e w3 ⟨rfl, o20, bl⟩
  have o2 := Lib.hid o20
  clear o20
  have hbel2 := Lib.hid (hbel.out.trans (bl.mono hbel.out.size))
  have o12 := Lib.hid (o1.out.below bl)
  clear bl hbel o1
  have hbel := hbel2
  have o1 := o12
  clear hbel2 o12
  generalize w2.heap.size = b_o2 at *
  go_wp2_with fail
  refine (HC3.out hpm.out _ (hw0.out.2.2.below hbel.out (Nat.le_refl _))).mono ?_
  rintro e w4 ⟨rfl, o30, bl⟩
  have o3 := Lib.hid o30
  clear o30
  have hbel2 := Lib.hid (hbel.out.trans (bl.mono hbel.out.size))
  have o12 := Lib.hid (o1.out.below bl)
  have o22 := Lib.hid (o2.out.below bl)
  clear bl hbel o1 o2
  have hbel := hbel2
  have o1 := o12
  have o2 := o22
  clear hbel2 o12 o22
  generalize w3.heap.size = b_o3 at *
  go_wp2_with fail
  refine (HS.out hcm.out htm.out hpm.out _ _ _ _ o1.out o2.out o3.out).mono ?_
  rintro e w5 ⟨rfl, bl⟩
  have hbel2 := Lib.hid (hbel.out.trans (bl.mono hbel.out.size))
  have o12 := Lib.hid (o1.out.below bl)
  have o22 := Lib.hid (o2.out.below bl)
  have o32 := Lib.hid (o3.out.below bl (Nat.le_refl _))
  clear bl hbel o1 o2 o3
  have hbel := hbel2
  have o1 := o12
  have o2 := o22
  have o3 := o32
  clear hbel2 o12 o22 o32
  clear o1 o2 o3 HS
  go_wp2_with fail
  refine (HC.out hcm.out _ (hw0.out.1.below hbel.out (Nat.le_refl _))).mono ?_
  rintro e w6 ⟨rfl, p10, bl⟩
  have p1 := Lib.hid p10
  clear p10
  have hbel2 := Lib.hid (hbel.out.trans (bl.mono hbel.out.size))
  clear bl hbel
  have hbel := hbel2
  clear hbel2
  generalize w5.heap.size = b_p1 at *
  go_wp2_with fail
  refine (HC2.out htm.out _ (hw0.out.2.1.below hbel.out (Nat.le_refl _))).mono ?_
  rintro e w7 ⟨rfl, p20, bl⟩
  have p2 := Lib.hid p20
  clear p20
  have hbel2 := Lib.hid (hbel.out.trans (bl.mono hbel.out.size))
  have p12 := Lib.hid (p1.out.below bl)
  clear bl hbel p1
  have hbel := hbel2
  have p1 := p12
  clear hbel2 p12
  generalize w6.heap.size = b_p2 at *
  go_wp2_with fail
  refine (HC3.out hpm.out _ (hw0.out.2.2.below hbel.out (Nat.le_refl _))).mono ?_
  rintro e w8 ⟨rfl, p30, bl⟩
  have p3 := Lib.hid p30
  clear p30
  have hbel2 := Lib.hid (hbel.out.trans (bl.mono hbel.out.size))
  have p12 := Lib.hid (p1.out.below bl)
  have p22 := Lib.hid (p2.out.below bl)
  clear bl hbel p1 p2
  have hbel := hbel2
  have p1 := p12
  have p2 := p22
  clear hbel2 p12 p22
  generalize w7.heap.size = b_p3 at *
  go_wp2_with fail
  refine (HI.out hcm.out htm.out hpm.out _ _ _ _ p1.out p2.out p3.out).mono ?_
  rintro e w9 ⟨rfl, bl⟩
  have hbel2 := Lib.hid (hbel.out.trans (bl.mono hbel.out.size))
  have p12 := Lib.hid (p1.out.below bl)
  have p22 := Lib.hid (p2.out.below bl)
  have p32 := Lib.hid (p3.out.below bl (Nat.le_refl _))
  clear bl hbel p1 p2 p3
  have hbel := hbel2
  have p1 := p12
  have p2 := p22
  have p3 := p32
  clear hbel2 p12 p22 p32
  clear HI
  go_wp2_with fail
  refine (HC.out hcm.out _ (hw0.out.1.below hbel.out (Nat.le_refl _))).mono ?_
  rintro e w10 ⟨rfl, q10, bl⟩
  have q1 := Lib.hid q10
  clear q10
  have hbel2 := Lib.hid (hbel.out.trans (bl.mono hbel.out.size))
  have p12 := Lib.hid (p1.out.below bl)
  have p22 := Lib.hid (p2.out.below bl)
  have p32 := Lib.hid (p3.out.below bl (Nat.le_refl _))
  clear bl hbel p1 p2 p3
  have hbel := hbel2
  have p1 := p12
  have p2 := p22
  have p3 := p32
  clear hbel2 p12 p22 p32
  generalize w9.heap.size = b_q1 at *
  go_wp2_with fail
  refine (HQ.out hcm.out _ _ _ p1.out q1.out).mono ?_
  rintro e w11 ⟨rfl, bl⟩
  have hbel2 := Lib.hid (hbel.out.trans (bl.mono hbel.out.size))
  have p12 := Lib.hid (p1.out.below bl)
  have p22 := Lib.hid (p2.out.below bl)
  have p32 := Lib.hid (p3.out.below bl (Nat.le_refl _))
  have q12 := Lib.hid (q1.out.below bl)
  clear bl hbel p1 p2 p3 q1
  have hbel := hbel2
  have p1 := p12
  have p2 := p22
  have p3 := p32
  have q1 := q12
  clear hbel2 p12 p22 p32 q12
  go_wp2_with fail
  refine (HC2.out htm.out _ (hw0.out.2.1.below hbel.out (Nat.le_refl _))).mono ?_
  rintro e w12 ⟨rfl, q20, bl⟩
  have q2 := Lib.hid q20
  clear q20
  have hbel2 := Lib.hid (hbel.out.trans (bl.mono hbel.out.size))
  have p12 := Lib.hid (p1.out.below bl)
  have p22 := Lib.hid (p2.out.below bl)
  have p32 := Lib.hid (p3.out.below bl (Nat.le_refl _))
  have q12 := Lib.hid (q1.out.below bl)
  clear bl hbel p1 p2 p3 q1
  have hbel := hbel2
  have p1 := p12
  have p2 := p22
  have p3 := p32
  have q1 := q12
  clear hbel2 p12 p22 p32 q12
  generalize w11.heap.size = b_q2 at *
  go_wp2_with fail
  refine (HQ2.out htm.out _ _ _ p2.out q2.out).mono ?_
  rintro e w13 ⟨rfl, bl⟩
  have hbel2 := Lib.hid (hbel.out.trans (bl.mono hbel.out.size))
  have p12 := Lib.hid (p1.out.below bl)
  have p22 := Lib.hid (p2.out.below bl)
  have p32 := Lib.hid (p3.out.below bl (Nat.le_refl _))
  have q12 := Lib.hid (q1.out.below bl)
  have q22 := Lib.hid (q2.out.below bl)
  clear bl hbel p1 p2 p3 q1 q2
  have hbel := hbel2
  have p1 := p12
  have p2 := p22
  have p3 := p32
  have q1 := q12
  have q2 := q22
  clear hbel2 p12 p22 p32 q12 q22
  go_wp2_with fail
  refine (HC3.out hpm.out _ (hw0.out.2.2.below hbel.out (Nat.le_refl _))).mono ?_
  rintro e w14 ⟨rfl, q30, bl⟩
  have q3 := Lib.hid q30
  clear q30
  have hbel2 := Lib.hid (hbel.out.trans (bl.mono hbel.out.size))
  have p12 := Lib.hid (p1.out.below bl)
  have p22 := Lib.hid (p2.out.below bl)
  have p32 := Lib.hid (p3.out.below bl (Nat.le_refl _))
  have q12 := Lib.hid (q1.out.below bl)
  have q22 := Lib.hid (q2.out.below bl)
  clear bl hbel p1 p2 p3 q1 q2
  have hbel := hbel2
  have p1 := p12
  have p2 := p22
  have p3 := p32
  have q1 := q12
  have q2 := q22
  clear hbel2 p12 p22 p32 q12 q22
  generalize w13.heap.size = b_q3 at *
  go_wp2_with fail
  refine (HQ3.out hpm.out _ _ _ p3.out q3.out).mono ?_
  rintro e w15 ⟨rfl, bl⟩
  have hbel2 := Lib.hid (hbel.out.trans (bl.mono hbel.out.size))
  have p12 := Lib.hid (p1.out.below bl)
  have p22 := Lib.hid (p2.out.below bl)
  have p32 := Lib.hid (p3.out.below bl (Nat.le_refl _))
  have q12 := Lib.hid (q1.out.below bl)
  have q22 := Lib.hid (q2.out.below bl)
  have q32 := Lib.hid (q3.out.below bl (Nat.le_refl _))
  clear bl hbel p1 p2 p3 q1 q2 q3
  have hbel := hbel2
  have p1 := p12
  have p2 := p22
  have p3 := p32
  have q1 := q12
  have q2 := q22
  have q3 := q32
  clear hbel2 p12 p22 p32 q12 q22 q32
  go_wp2
  go_ret
  exact ⟨rfl, hbel.out⟩)
end Go.Proofs.Ytlliiecdadiagaa

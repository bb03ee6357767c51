/- Runs, plans, changes (spec): RunSails, PlanOk, Changes. -/
import Derived.Test.YtlliiecdadiagaaLpE
import Derived.Test.YtlliiecdadiagaaOwnA
namespace Go.Proofs.Ytlliiecdadiagaa
open Go.RowKit
set_option linter.unusedVariables false
set_option linter.unusedSimpArgs false

noncomputable def runFrom (n : Nat) (f : Nat → Sl) (ms : Nat → Mm) : Nat → Nat → Int → List Int
  | 0, _, _ => []
  | r + 1, i, a => keepW n f a (ms i) :: runFrom n f ms r (i + 1) (keepW n f a (ms i))
noncomputable def runW (n : Nat) (f : Nat → Sl) (a : Int) (nm : Nat) (ms : Nat → Mm) : List Int := if soB n f = true ∧ nm ≤ 60 then runFrom n f ms nm 0 a else []
def PlanP (n : Nat) (f : Nat → Sl) (nm : Nat) (ms : Nat → Mm) (np : Nat) (p : Nat → Int) : Prop := (soB n f = true ∧ nm ≤ 60 ∧ np = nm) ∧ ∀ i, i < np → (0 ≤ p i ∧ p i < (n : Int)) ∧ wideB (f (p i).toNat) (ms i) = true
noncomputable def planB (n : Nat) (f : Nat → Sl) (nm : Nat) (ms : Nat → Mm) (np : Nat) (p : Nat → Int) : Bool := @decide (PlanP n f nm ms np p) (Classical.propDecidable _)
theorem planB_iff {n : Nat} {f : Nat → Sl} {nm : Nat} {ms : Nat → Mm} {np : Nat} {p : Nat → Int} : planB n f nm ms np p = true ↔ PlanP n f nm ms np p := by unfold planB; exact @decide_eq_true_iff _ (Classical.propDecidable _)
theorem planB_no {n : Nat} {f : Nat → Sl} {nm : Nat} {ms : Nat → Mm} {np : Nat} {p : Nat → Int} (h : ¬ PlanP n f nm ms np p) : planB n f nm ms np p = false := by
  cases e : planB n f nm ms np p
  · rfl
  · exact absurd (planB_iff.1 e) h
/-- How many of the first so many numbers differ from the one before them. -/
def chgN (p : Nat → Int) : Nat → Int
  | 0 => 0
  | i + 1 => chgN p i + (if 0 < i ∧ ¬ p i = p (i - 1) then 1 else 0)
theorem chg_bd (p : Nat → Int) : ∀ i, 0 ≤ chgN p i ∧ chgN p i ≤ i
  | 0 => ⟨Int.le_refl _, Int.le_refl _⟩
  | i + 1 => by
    have := chg_bd p i
    unfold chgN
    split <;> omega
/-- Whole numbers in a block, from a cell on. -/
def PlIn (w : World) (g o n : Nat) (p : Nat → Int) : Prop := ∀ j, j < n → w.cell? ⟨g, o + j, none⟩ = some (.int .i64 (p j))
theorem PlIn.lt {w : World} {g o n : Nat} {p : Nat → Int} (h : PlIn w g o n p) (hn : 0 < n) : g < w.heap.size := by
  have a := h 0 hn
  rcases Nat.lt_or_ge g w.heap.size with h' | h'
  · exact h'
  · simp [World.cell?, Array.getElem?_eq_none h'] at a
theorem PlIn.below {w w' : World} {B g o n : Nat} {p : Nat → Int} (h : PlIn w g o n p) (hb : Below B w w') (hB : w.heap.size ≤ B) : PlIn w' g o n p := fun j hj => by
  have hg := h.lt (by omega)
  exact (Below.cell (p := ⟨g, o + j, none⟩) hb (show g < B by omega)).trans (h j hj)
/-- Sails and moments. -/
def SmS (w : World) (g o n : Nat) (f : Nat → Sl) (tg tO nm : Nat) (ms : Nat → Mm) (wr : World) : Prop := SlsIn wr g o n f ∧ MmsIn wr tg tO nm ms ∧ Below w.heap.size w wr
theorem SmS.step {w w1 w2 : World} {g o n : Nat} {f : Nat → Sl} {tg tO nm : Nat} {ms : Nat → Mm} (h : SmS w g o n f tg tO nm ms w1) (b : Below w1.heap.size w1 w2) : SmS w g o n f tg tO nm ms w2 := ⟨h.1.below b (Nat.le_refl _), h.2.1.below b (Nat.le_refl _), h.2.2.trans (b.mono h.2.2.size)⟩
theorem SmS.drew {w w1 : World} {g o n : Nat} {f : Nat → Sl} {tg tO nm : Nat} {ms : Nat → Mm} (h : SmS w g o n f tg tO nm ms w1) : SmS w g o n f tg tO nm ms w1.drew := ⟨h.1, h.2.1, h.2.2.drew⟩
theorem SmS.far {w w1 w2 : World} {g o n : Nat} {f : Nat → Sl} {tg tO nm : Nat} {ms : Nat → Mm} {r : Option Nat} (h : SmS w g o n f tg tO nm ms w1) (gr : w1.grownBy w2 r) (hr : ∀ k, r = some k → w.heap.size ≤ k)
    (hg : 0 < n → g < w.heap.size) (ht : 0 < nm → tg < w.heap.size) : SmS w g o n f tg tO nm ms w2 := by
  have hsz := h.2.2.size
  refine ⟨fun j hj => ?_, fun j hj => ?_, h.2.2.grown gr hsz (fun k e => hr k e)⟩
  · have := hg (by omega)
    exact h.1.same (gr.block g (by omega) (fun e => by have := hr _ e.symm; omega)) j hj
  · have := ht (by omega)
    exact h.2.1.same (gr.block tg (by omega) (fun e => by have := hr _ e.symm; omega)) j hj
/-- .. and a plan. -/
def SmP (w : World) (g o n : Nat) (f : Nat → Sl) (tg tO nm : Nat) (ms : Nat → Mm) (pg pO np : Nat) (p : Nat → Int) (wr : World) : Prop := SmS w g o n f tg tO nm ms wr ∧ PlIn wr pg pO np p
theorem SmP.step {w w1 w2 : World} {g o n : Nat} {f : Nat → Sl} {tg tO nm : Nat} {ms : Nat → Mm} {pg pO np : Nat} {p : Nat → Int} (h : SmP w g o n f tg tO nm ms pg pO np p w1) (b : Below w1.heap.size w1 w2) : SmP w g o n f tg tO nm ms pg pO np p w2 := ⟨h.1.step b, h.2.below b (Nat.le_refl _)⟩
theorem SmP.drew {w w1 : World} {g o n : Nat} {f : Nat → Sl} {tg tO nm : Nat} {ms : Nat → Mm} {pg pO np : Nat} {p : Nat → Int} (h : SmP w g o n f tg tO nm ms pg pO np p w1) : SmP w g o n f tg tO nm ms pg pO np p w1.drew := ⟨h.1.drew, h.2⟩
theorem own_none_ne (v : Value) : v.ownBlock = none ∨ v.ownBlock ≠ none := by
  cases v.ownBlock with
  | none => exact .inl rfl
  | some k => exact .inr (fun e => by cases e)
theorem below_drewK {B : Nat} {w w1 : World} (h : Below B w w1) (n : Nat) : Below B w (w1.drewN n) := ⟨h.os, h.tape, h.output, h.size, h.block⟩
theorem gr_of_bel {w w' : World} (h : Below w.heap.size w w') (r : Option Nat) : w.grownBy w' r := ⟨h.os, h.tape, h.output, h.size, fun k hk _ => h.block k hk⟩
/-- What a call that makes a list of whole numbers tells. -/
def PlE (t : TypeId) (w : World) (l : List Int) (e : Ending) (w' : World) : Prop := ∃ v, e = .returned v ∧ w'.ownsRow w.heap.size t 1 v l.length (l.map (Value.int .i64)) ∧ Below w.heap.size w w'
theorem own_empty {W : World} {B : Nat} {t : TypeId} {g : Nat} (hB : B ≤ g) (h : W.heap[g]? = some (.cells #[] t (0, 0))) : W.ownsRow B t 1 (.slice (some ⟨g, 0, none⟩) 0 0) 0 [] := ⟨by simp, .inr ⟨g, 0, #[], rfl, hB, h, by simp, by simp [maxLen], by simp, by simp⟩⟩
theorem Try.infoInt11 : (Try.prog.info? 3).map (fun i => (i.zero, i.size, i.bytes)) = some (some (.int .i64 0), 1, 8) := by kernel_rfl
set_option maxRecDepth 100000 in
set_option maxHeartbeats 2000000 in
theorem s_run (f : Nat → Sl) (a : Int) (ms : Nat → Mm) (A : Option Addr) (g o n cap : Nat) (TA : Option Addr) (tg tO nm tcap : Nat) (w : World) (hn : n ≤ 1048576) (hA : 0 < n → A = some ⟨g, o, none⟩) (hw : SlsIn w g o n f) (hf : ∀ j, j < n → SlWf (f j))
    (hm : nm ≤ 1048576) (hT : 0 < nm → TA = some ⟨tg, tO, none⟩) (hv : MmsIn w tg tO nm ms) (hmf : ∀ j, j < nm → MmWf (ms j)) :
    Calls Try.prog 41 #[.slice A n cap, .int .i64 a, .slice TA nm tcap] w (PlE 3 w (runW n f a nm ms)) := by
  obtain ⟨i0, hi, hz0, hz1, hz2⟩ := info_parts Try.infoInt11
  have HO := Lib.hid (fun w (h : SlsIn w g o n f) => s_so f A g o n cap w hn hA h hf)
  have HK := Lib.hid (fun (a : Int) (i : Nat) (hi : i < nm) w (h : SlsIn w g o n f) => s_keep f a (ms i) A g o n cap w hn hA h hf (hmf i hi))
  have HG := Lib.hid (And.intro (fun h : 0 < n => hw.lt h) (fun h : 0 < nm => hv.lt h))
  have hs := Lib.hid ((show SmS w g o n f tg tO nm ms w from ⟨hw, hv, Below.refl _ _⟩).step ((Below.refl _ _).alloc (Nat.le_refl _) (.cells #[] 3)))
  have ho := Lib.hid (own_empty (Nat.le_refl _) (heap_alloc_new w (.cells #[] 3)))
  obtain ⟨L, hL⟩ : ∃ L, runW n f a nm ms = L := ⟨_, rfl⟩
  rw [hL]
  have HLD := Lib.hid hL
  clear hw hv hf hmf hL
  go_enter Try.func41, Try.ntmps41
  go_wp2_with fail
  generalize hW : w.alloc (.cells #[] 3) = W at *
  clear hW
  refine (HO.out _ hs.out.1).mono ?_
  rintro e w1 ⟨rfl, b⟩
  have hs1 := Lib.hid (hs.out.step b)
  have ho1 := Lib.hid (ho.out.kept (gr_of_bel b none) (.inr (fun e => by cases e)))
  clear hs b ho
  cases hso : soB n f
  · have HN := Lib.hid (show L = [] by rw [← HLD.out]; unfold runW; rw [hso]; rfl)
    clear hso HO HK
    go_wp2
    go_ret
    exact ⟨_, rfl, by rw [HN.out]; exact ho1.out, hs1.out.2.2⟩
  by_cases h60 : 60 < nm
  · have HN := Lib.hid (show L = [] by rw [← HLD.out]; unfold runW; rw [if_neg (fun h => by have := h.2; omega)])
    have k1 : (60 : Int) < (nm : Int) := by omega
    have k2 : decide ((nm : Int) > 60) = true := decide_eq_true k1
    clear hso HO HK
    go_wp2
    go_ret
    exact ⟨_, rfl, by rw [HN.out]; exact ho1.out, hs1.out.2.2⟩
  have k1 : ¬ (60 : Int) < (nm : Int) := by omega
  have k2 : decide ((nm : Int) > 60) = false := decide_eq_false k1
  have HL := Lib.hid (show runFrom n f ms nm 0 a = L by rw [← HLD.out]; unfold runW; rw [if_pos ⟨hso, by omega⟩])
  clear hso HLD HO
  go_wp2
  clear k1 k2
  go_loopw [1, 7, 8] (fun z v i wr => ∃ (k : Nat) (a' : Int) (xs : List Int), k ≤ nm ∧ z = .int .i64 a' ∧ i = .int .i64 k ∧ xs.length = k ∧ L = xs ++ runFrom n f ms (nm - k) k a' ∧ wr.ownsRow w.heap.size 3 1 v k (xs.map (Value.int .i64)) ∧ SmS w g o n f tg tO nm ms wr) (fun _ _ i _ => nm - (intOf i).toNat)
  case atStart => exact ⟨0, a, [], Nat.zero_le _, rfl, rfl, rfl, HL.out.symm, ho1.out, hs1.out⟩
  case round =>
    obtain ⟨k, a', xs, hk, rfl, rfl, hxs, hLL, hown, hst⟩ := hrel
    clear hs1 ho1 HL
    have hnw : ∀ j, u7.ownBlock = some j → w.heap.size ≤ j := fun j e => (hown.lt j e).1
    by_cases hlt : k < nm
    · obtain rfl := hT (by omega)
      have z1 : (k : Int) < (nm : Int) := by omega
      have z0 : (0 : Int) ≤ (k : Int) := by omega
      have hp : runFrom n f ms (nm - k) k a' = keepW n f a' (ms k) :: runFrom n f ms (nm - (k + 1)) (k + 1) (keepW n f a' (ms k)) := by
        rw [show nm - k = (nm - (k + 1)) + 1 by omega]; rfl
      have HC := Lib.hid (HK.out a' k hlt wr hst.1)
      obtain ⟨⟨m1, m2⟩, hmk⟩ : ∃ m, ms k = m := ⟨_, rfl⟩
      obtain ⟨d0, d1⟩ := hst.2.1.at hlt hmk
      rw [hmk] at HC hp
      dsimp only at HC
      generalize keepW n f a' (m1, m2) = r at *
      have HS := Lib.hid hst
      have HO := Lib.hid hown
      have HN := Lib.hid hnw
      clear hst hown hnw hmk
      go_wp2_with fail
      refine HC.out.mono ?_
      rintro e w2 ⟨rfl, b2⟩
      have hst2 := Lib.hid (HS.out.step b2)
      have hown1 := HO.out.kept (gr_of_bel b2 none) (own_none_ne _)
      have hsz2 : w.heap.size ≤ w2.heap.size := hst2.out.2.2.size
      have HX := Lib.hid (show L = (xs ++ [r]) ++ runFrom n f ms (nm - (k + 1)) (k + 1) r by rw [hLL, hp, List.append_assoc]; rfl)
      clear HC HS HO b2 d0 d1 hp hLL
      go_wp2_with (at_builtin; refine wpList_append_own _ rfl _ _ 26 rfl w.heap.size 3 i0 (.int .i64 0) 1 8 Try.underlying26 hi hz0 hz1 hz2 rfl (by decide) _ _ _ rfl (hown1.alloc _) ⟨w2.heap.size, 0, none⟩ 1 1 [.int .i64 r] rfl rfl (World.news_of_block (cs := #[.int .i64 r]) (t := 3) (fr := (0, 0)) (heap_alloc_new w2 _)) (by simp [Value.oneCell']) (by unfold maxLen; omega) (by omega) (by simp; omega) ?_; intro v' w3 hown2 hgrow _)
      have hst3 := Lib.hid ((hst2.out.step ((Below.refl _ _).alloc (Nat.le_refl _) _)).far hgrow HN.out HG.out.1 HG.out.2)
      have HW := Lib.hid (show w3.ownsRow w.heap.size 3 1 v' (k + 1) ((xs ++ [r]).map (Value.int .i64)) by rw [List.map_append]; exact hown2)
      clear hown1 hown2 hgrow hst2
      go_wp2
      go_roundw
      case rel => exact ⟨k + 1, r, xs ++ [r], by omega, rfl, by go_num, by simp [hxs], HX.out, HW.out, hst3.out⟩
      case measure => simp [intOf]; omega
    · obtain rfl : k = nm := by omega
      have z1 : ¬ (k : Int) < (k : Int) := by omega
      have HX := Lib.hid (show L = xs by rw [hLL, Nat.sub_self]; exact List.append_nil _)
      have HW := Lib.hid hown
      clear hown hLL
      go_wp2
      go_ret
      exact ⟨_, rfl, by rw [HX.out, hxs]; exact HW.out, hst.2.2⟩
set_option maxRecDepth 100000 in
set_option maxHeartbeats 2000000 in
theorem s_plan (f : Nat → Sl) (ms : Nat → Mm) (p : Nat → Int) (A : Option Addr) (g o n cap : Nat) (TA : Option Addr) (tg tO nm tcap : Nat) (PA : Option Addr) (pg pO np pcap : Nat) (w : World) (hn : n ≤ 1048576) (hA : 0 < n → A = some ⟨g, o, none⟩) (hw : SlsIn w g o n f) (hf : ∀ j, j < n → SlWf (f j))
    (hm : nm ≤ 1048576) (hT : 0 < nm → TA = some ⟨tg, tO, none⟩) (hv : MmsIn w tg tO nm ms) (hmf : ∀ j, j < nm → MmWf (ms j)) (hq : np ≤ 1048576) (hP : 0 < np → PA = some ⟨pg, pO, none⟩) (hp : PlIn w pg pO np p) :
    Calls Try.prog 49 #[.slice A n cap, .slice TA nm tcap, .slice PA np pcap] w fun e w' => e = .returned (.bool (planB n f nm ms np p)) ∧ Below w.heap.size w w' := by
  have HO := Lib.hid (fun w (h : SlsIn w g o n f) => s_so f A g o n cap w hn hA h hf)
  have hs := Lib.hid (show SmP w g o n f tg tO nm ms pg pO np p w from ⟨⟨hw, hv, Below.refl _ _⟩, hp⟩)
  have HF := Lib.hid (And.intro hf hmf)
  clear hw hv hp hf hmf
  cases hso : soB n f
  · have HN := Lib.hid (planB_no (n := n) (f := f) (nm := nm) (ms := ms) (np := np) (p := p) (fun h => by rw [h.1.1] at hso; cases hso))
    rw [hso] at HO
    clear hso
    go_enter Try.func49, Try.ntmps49
    go_wp2_with fail
    refine (HO.out _ hs.out.1.1).mono ?_
    rintro e w1 ⟨rfl, b⟩
    have hs1 := Lib.hid (hs.out.step b)
    clear hs b
    go_wp2
    go_ret
    exact ⟨by rw [HN.out]; rfl, hs1.out.1.2.2⟩
  rw [hso] at HO
  by_cases h60 : 60 < nm
  · have HN := Lib.hid (planB_no (n := n) (f := f) (nm := nm) (ms := ms) (np := np) (p := p) (fun h => by have := h.1.2.1; omega))
    have k1 : (60 : Int) < (nm : Int) := by omega
    have k2 : decide ((nm : Int) > 60) = true := decide_eq_true k1
    clear hso
    go_enter Try.func49, Try.ntmps49
    go_wp2_with fail
    refine (HO.out _ hs.out.1.1).mono ?_
    rintro e w1 ⟨rfl, b⟩
    have hs1 := Lib.hid (hs.out.step b)
    clear hs b
    go_wp2
    go_ret
    exact ⟨by rw [HN.out]; rfl, hs1.out.1.2.2⟩
  have k1 : ¬ (60 : Int) < (nm : Int) := by omega
  have k2 : decide ((nm : Int) > 60) = false := decide_eq_false k1
  by_cases hnp : np = nm
  · subst hnp
    have k3 : ((np : Int) == (np : Int)) = true := by simp
    have HV := Lib.hid (And.intro hso h60)
    clear hso h60
    go_enter Try.func49, Try.ntmps49
    go_wp2_with fail
    refine (HO.out _ hs.out.1.1).mono ?_
    rintro e w1 ⟨rfl, b⟩
    have hs1 := Lib.hid (hs.out.step b)
    clear hs b
    go_wp2
    clear k1 k2 k3
    go_loopw [7] (fun i wr => ∃ k : Nat, k ≤ np ∧ i = .int .i64 k ∧ (∀ i, i < k → (0 ≤ p i ∧ p i < (n : Int)) ∧ wideB (f (p i).toNat) (ms i) = true) ∧ SmP w g o n f tg tO np ms pg pO np p wr) (fun i _ => np - (intOf i).toNat)
    case atStart => exact ⟨0, Nat.zero_le _, rfl, (fun j h => by omega), hs1.out⟩
    case round =>
      obtain ⟨k, hk, rfl, hall, hst⟩ := hrel
      have HA := Lib.hid hall
      clear hall hs1
      by_cases hlt : k < np
      · obtain rfl := hT (by omega)
        obtain rfl := hP (by omega)
        have z1 : (k : Int) < (np : Int) := by omega
        have z0 : (0 : Int) ≤ (k : Int) := by omega
        obtain ⟨q, hq1⟩ : ∃ q, p k = q := ⟨_, rfl⟩
        have HQ := Lib.hid hq1
        clear hq1
        have v1 : IntKind.i64.wrap ((n : Int) - 1) = (n : Int) - 1 := IntWalk.i64_in _ (by omega)
        have HI := Lib.hid (fun w => s_inB q 0 ((n : Int) - 1) (decide (0 ≤ q ∧ q ≤ (n : Int) - 1)) w rfl)
        have rp : ∀ x : Held (fun wx => SmP w g o n f tg tO np ms pg pO np p wx), x.w.cell? ⟨pg, pO + k, none⟩ = some (.int .i64 q) := fun x => by rw [← HQ.out]; exact x.h.2 k hlt
        by_cases hin : 0 ≤ q ∧ q < (n : Int)
        · rw [decide_eq_true (show 0 ≤ q ∧ q ≤ (n : Int) - 1 by omega)] at HI
          obtain rfl := hA (by omega)
          obtain ⟨j, rfl⟩ : ∃ j : Nat, q = (j : Int) := ⟨q.toNat, by omega⟩
          have hj : j < n := by omega
          have y1 : (j : Int) < (n : Int) := hin.2
          have y0 : (0 : Int) ≤ (j : Int) := hin.1
          obtain ⟨s, hs1⟩ : ∃ s, f j = s := ⟨_, rfl⟩
          obtain ⟨⟨m1, m2⟩, hmk⟩ : ∃ m, ms k = m := ⟨_, rfl⟩
          have HS := Lib.hid (And.intro hs1 hmk)
          have wf := HF.out.1 j hj
          have wm := HF.out.2 k hlt
          rw [hs1] at wf
          rw [hmk] at wm
          have HX := Lib.hid (fun w => s_wide s (m1, m2) w wf wm)
          clear hs1 hmk wf wm
          dsimp only at HX
          have hwd : wideB (f (p k).toNat) (ms k) = wideB s (m1, m2) := by rw [HQ.out, Int.toNat_natCast, HS.out.1, HS.out.2]
          have HWD := Lib.hid hwd
          clear hwd
          generalize wideB s (m1, m2) = t at *
          have rs0 := fun x : Held (fun wx => SmP w g o n f tg tO np ms pg pO np p wx) => (x.h.1.1.at hj HS.out.1).1
          have rs1 := fun x : Held (fun wx => SmP w g o n f tg tO np ms pg pO np p wx) => (x.h.1.1.at hj HS.out.1).2.1
          have rs2 := fun x : Held (fun wx => SmP w g o n f tg tO np ms pg pO np p wx) => (x.h.1.1.at hj HS.out.1).2.2.1
          have rs3 := fun x : Held (fun wx => SmP w g o n f tg tO np ms pg pO np p wx) => (x.h.1.1.at hj HS.out.1).2.2.2.1
          have rs4 := fun x : Held (fun wx => SmP w g o n f tg tO np ms pg pO np p wx) => (x.h.1.1.at hj HS.out.1).2.2.2.2
          have rm0 := fun x : Held (fun wx => SmP w g o n f tg tO np ms pg pO np p wx) => (x.h.1.2.1.at hlt HS.out.2).1
          have rm1 := fun x : Held (fun wx => SmP w g o n f tg tO np ms pg pO np p wx) => (x.h.1.2.1.at hlt HS.out.2).2
          haveI hne : Nonempty (Held (fun wx => SmP w g o n f tg tO np ms pg pO np p wx)) := ⟨⟨_, hst⟩⟩
          go_wp2
          refine wp_region_class (fun wx => SmP w g o n f tg tO np ms pg pO np p wx) (by kernel_rfl) (by kernel_rfl) (SmP.drew hst) ?_
          repeat (go_big_quiet_step (first
            | (go_at_call 62; with_reducible exact held_call SmP.step (HI.out _))
            | (go_at_call 36; with_reducible exact held_call SmP.step (HX.out _))))
          refine wpQuiet_nil ?_
          intro wy hw'
          obtain ⟨⟨wq, hst6⟩, rfl⟩ := hw'
          (try dsimp only)
          clear hne hst
          clear rp rs0 rs1 rs2 rs3 rs4 rm0 rm1
          cases t
          · have HN := Lib.hid (planB_no (n := n) (f := f) (nm := np) (ms := ms) (np := np) (p := p) (fun h => by have := (h.2 k hlt).2; rw [HWD.out] at this; cases this))
            go_wp2
            go_ret
            exact ⟨by rw [HN.out]; rfl, hst6.1.2.2⟩
          · have HG := Lib.hid (show (0 ≤ p k ∧ p k < (n : Int)) ∧ wideB (f (p k).toNat) (ms k) = true from ⟨by rw [HQ.out]; exact hin, HWD.out⟩)
            go_wp2_with fail
            go_roundw
            case rel => exact ⟨k + 1, by omega, by go_num, (fun i hi => by
              rcases Nat.lt_or_ge i k with h' | h'
              · exact HA.out i h'
              · rw [show i = k by omega]; exact HG.out), hst6⟩
            case measure => simp [intOf]; omega
        · rw [decide_eq_false (show ¬ (0 ≤ q ∧ q ≤ (n : Int) - 1) by omega)] at HI
          have HN := Lib.hid (planB_no (n := n) (f := f) (nm := np) (ms := ms) (np := np) (p := p) (fun h => by have := (h.2 k hlt).1; rw [HQ.out] at this; exact hin this))
          haveI hne : Nonempty (Held (fun wx => SmP w g o n f tg tO np ms pg pO np p wx)) := ⟨⟨_, hst⟩⟩
          go_wp2
          refine wp_region_class (fun wx => SmP w g o n f tg tO np ms pg pO np p wx) (by kernel_rfl) (by kernel_rfl) (SmP.drew hst) ?_
          repeat (go_big_quiet_step (first
            | (go_at_call 62; with_reducible exact held_call SmP.step (HI.out _))))
          refine wpQuiet_nil ?_
          intro wy hw'
          obtain ⟨⟨wq, hst6⟩, rfl⟩ := hw'
          (try dsimp only)
          clear hne hst
          go_wp2
          go_ret
          exact ⟨by rw [HN.out]; rfl, hst6.1.2.2⟩
      · obtain rfl : k = np := by omega
        have z1 : ¬ (k : Int) < (k : Int) := by omega
        have HN := Lib.hid (planB_iff.2 (show PlanP n f k ms k p from ⟨⟨HV.out.1, (by have := HV.out.2; omega), rfl⟩, HA.out⟩))
        go_wp2
        go_ret
        exact ⟨by rw [HN.out]; rfl, hst.1.2.2⟩
  · have HN := Lib.hid (planB_no (n := n) (f := f) (nm := nm) (ms := ms) (np := np) (p := p) (fun h => hnp h.1.2.2))
    have k3 : ((np : Int) == (nm : Int)) = false := by rw [beq_eq_false_iff_ne]; omega
    have k4 : ¬ (np : Int) = (nm : Int) := by omega
    clear hso
    go_enter Try.func49, Try.ntmps49
    go_wp2_with fail
    refine (HO.out _ hs.out.1.1).mono ?_
    rintro e w1 ⟨rfl, b⟩
    have hs1 := Lib.hid (hs.out.step b)
    clear hs b
    go_wp2
    go_ret
    exact ⟨by rw [HN.out]; rfl, hs1.out.1.2.2⟩
set_option maxRecDepth 100000 in
set_option maxHeartbeats 1000000 in
theorem s_chg (p : Nat → Int) (PA : Option Addr) (pg pO np pcap : Nat) (w : World) (hq : np ≤ 1048576) (hP : 0 < np → PA = some ⟨pg, pO, none⟩) (hp : PlIn w pg pO np p) :
    Calls Try.prog 51 #[.slice PA np pcap] w fun e w' => e = .returned (.int .i64 (chgN p np)) ∧ Below w.heap.size w w' := by
  have hs := Lib.hid (show PlIn w pg pO np p ∧ Below w.heap.size w w from ⟨hp, Below.refl _ _⟩)
  clear hp
  go_enter Try.func51, Try.ntmps51
  go_wp2
  go_loopw [3, 4] (fun z i wr => ∃ k : Nat, 1 ≤ k ∧ (k ≤ np ∨ k = 1) ∧ i = .int .i64 k ∧ z = .int .i64 (chgN p k) ∧ (PlIn wr pg pO np p ∧ Below w.heap.size w wr)) (fun _ i _ => np - (intOf i).toNat)
  case atStart => exact ⟨1, Nat.le_refl _, .inr rfl, rfl, rfl, hs.out⟩
  case round =>
    obtain ⟨k, hk, hk2, rfl, rfl, hst⟩ := hrel
    clear hs
    by_cases hlt : k < np
    · obtain rfl := hP (by omega)
      obtain ⟨j, rfl⟩ : ∃ j : Nat, k = j + 1 := ⟨k - 1, by omega⟩
      have z1 : ((j + 1 : Nat) : Int) < (np : Int) := by omega
      have z0 : (0 : Int) ≤ ((j + 1 : Nat) : Int) := by omega
      have z2 : ((j + 1 : Nat) : Int) - 1 = (j : Int) := by omega
      have z3 : (j : Int) < (np : Int) := by omega
      have z4 : (0 : Int) ≤ (j : Int) := by omega
      have z5 : IntKind.i64.wrap (((j + 1 : Nat) : Int) - 1) = (j : Int) := by rw [z2]; exact IntWalk.i64_in _ (by omega)
      have d0 := hst.1 (j + 1) hlt
      have d1 := hst.1 j (by omega)
      have hb := chg_bd p (j + 1)
      have e0 : chgN p (j + 1 + 1) = chgN p (j + 1) + (if p (j + 1) = p j then 0 else 1) := by
        show chgN p (j + 1) + (if 0 < j + 1 ∧ ¬ p (j + 1) = p (j + 1 - 1) then 1 else 0) = _
        rw [Nat.add_sub_cancel]
        by_cases h : p (j + 1) = p j
        · rw [if_pos h, if_neg (fun h' => h'.2 h)]
        · rw [if_neg h, if_pos ⟨Nat.succ_pos _, h⟩]
      generalize chgN p (j + 1) = cc at *
      generalize hc2 : chgN p (j + 1 + 1) = c2 at *
      have HC2 := Lib.hid hc2
      clear hc2
      have hbd : cc ≤ 1048577 := by omega
      generalize hx : p (j + 1) = x at *
      generalize p j = y at *
      have d0' : wr.cell? ⟨pg, pO + (j + 1), none⟩ = some (.int .i64 x) := d0
      have HST := Lib.hid hst
      have hkk : ((j + 1 : Nat) : Int) = (j : Int) + 1 := by omega
      by_cases hxy : x = y
      · rw [if_pos hxy] at e0
        have g1 : (x == y) = true := by rw [beq_iff_eq]; exact hxy
        have HE := Lib.hid (show c2 = cc by omega)
        clear e0 hb
        go_wp2
        go_quiet (fail)
        go_wp2_with fail
        go_roundw
        case rel => exact ⟨j + 2, by omega, by omega, by go_num, by rw [show j + 2 = j + 1 + 1 from rfl, HC2.out, HE.out], HST.out.1, below_drewK HST.out.2 _⟩
        case measure => simp [intOf]; omega
      · rw [if_neg hxy] at e0
        have g1 : (x == y) = false := by rw [beq_eq_false_iff_ne]; exact hxy
        have HE := Lib.hid (show c2 = cc + 1 by omega)
        clear e0
        go_wp2
        go_quiet (fail)
        go_wp2_with fail
        go_roundw
        case rel => exact ⟨j + 2, by omega, by omega, by go_num, by rw [show j + 2 = j + 1 + 1 from rfl, HC2.out, HE.out], HST.out.1, below_drewK HST.out.2 _⟩
        case measure => simp [intOf]; omega
    · have z1 : ¬ (k : Int) < (np : Int) := by omega
      have HE := Lib.hid (show chgN p k = chgN p np by
        rcases hk2 with h | h
        · rw [show k = np by omega]
        · rcases Nat.eq_zero_or_pos np with h0 | h0
          · rw [h, h0]; rfl
          · rw [show k = np by omega])
      go_wp2
      go_ret
      exact ⟨by rw [HE.out]; rfl, hst.2⟩
end Go.Proofs.Ytlliiecdadiagaa

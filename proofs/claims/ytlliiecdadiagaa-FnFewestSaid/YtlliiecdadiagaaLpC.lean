/- Lists of sails (spec): SailsOk. -/
import Derived.Test.YtlliiecdadiagaaLpB
import Derived.Test.YtlliiecdadiagaaOwnA
namespace Go.Proofs.Ytlliiecdadiagaa
open Go.RowKit
set_option linter.unusedVariables false
set_option linter.unusedSimpArgs false

theorem st_new5 (P : Program) (W : World) (x y z u r v : Value) (t : TypeId) (k : Nat) (hk : k < 5) (hv : v.oneCell' = true) :
    (store ⟨W.heap.size, k, none⟩ v).run P (W.alloc (.cells #[x, y, z, u, r] t)) = .ok () ((W.alloc (.cells #[x, y, z, u, r] t)).setCell ⟨W.heap.size, k, none⟩ v) :=
  store_at (n := 5) (heap_alloc_new W (.cells #[x, y, z, u, r] t)) rfl hk v hv
/-- What stands while sails are looked at. -/
def SoS (w : World) (g o n : Nat) (f : Nat → Sl) (wr : World) : Prop := SlsIn wr g o n f ∧ Below w.heap.size w wr
theorem SoS.step {w w1 w2 : World} {g o n : Nat} {f : Nat → Sl} (h : SoS w g o n f w1) (b : Below w1.heap.size w1 w2) : SoS w g o n f w2 := ⟨h.1.below b (Nat.le_refl _), h.2.trans (b.mono h.2.size)⟩
theorem SoS.drew {w w1 : World} {g o n : Nat} {f : Nat → Sl} (h : SoS w g o n f w1) : SoS w g o n f w1.drew := ⟨h.1, h.2.drew⟩
theorem SoS.below {w w1 : World} {g o n : Nat} {f : Nat → Sl} (h : SoS w g o n f w1) : Below w.heap.size w w1 := h.2
/-- .. and a box. -/
def SoQ (w : World) (g o n : Nat) (f : Nat → Sl) (q : Nat) (c : Array Value) (ty : TypeId) (wr : World) : Prop := SoS w g o n f wr ∧ wr.heap[q]? = some (.cells c ty (0, 0))
theorem SoQ.step {w w1 w2 : World} {g o n : Nat} {f : Nat → Sl} {q : Nat} {c : Array Value} {ty : TypeId} (h : SoQ w g o n f q c ty w1) (b : Below w1.heap.size w1 w2) : SoQ w g o n f q c ty w2 := ⟨h.1.step b, (b.block _ (heap_lt h.2)).trans h.2⟩
theorem SoQ.drew {w w1 : World} {g o n : Nat} {f : Nat → Sl} {q : Nat} {c : Array Value} {ty : TypeId} (h : SoQ w g o n f q c ty w1) : SoQ w g o n f q c ty w1.drew := ⟨h.1.drew, h.2⟩
theorem SoQ.new {w w1 : World} {g o n : Nat} {f : Nat → Sl} (h : SoS w g o n f w1) (c : Array Value) (ty : TypeId) : SoQ w g o n f w1.heap.size c ty (w1.alloc (.cells c ty)) := ⟨h.step ((Below.refl _ _).alloc (Nat.le_refl _) _), heap_alloc_new w1 _⟩
set_option maxRecDepth 100000 in
set_option maxHeartbeats 4000000 in
theorem s_so (f : Nat → Sl) (A : Option Addr) (g o n cap : Nat) (w : World) (hn : n ≤ 1048576) (hA : 0 < n → A = some ⟨g, o, none⟩) (hw : SlsIn w g o n f) (hf : ∀ j, j < n → SlWf (f j)) :
    Calls Try.prog 23 #[.slice A n cap] w fun e w' => e = .returned (.bool (soB n f)) ∧ Below w.heap.size w w' := by
  have hst0 := Lib.hid (show SoS w g o n f w from ⟨hw, Below.refl _ _⟩)
  have HF := Lib.hid hf
  clear hw hf
  go_enter Try.func23, Try.ntmps23
  go_wp2
  go_loopw [3, 4, 5] (fun i _ _ wr => ∃ k : Nat, k ≤ n ∧ i = .int .i64 k ∧ (∀ i, i < k → slB (f i) = true ∧ ∀ j, j < i → ¬ (f j).nm.data.toList = (f i).nm.data.toList) ∧ SoS w g o n f wr) (fun i _ _ _ => n - (intOf i).toNat)
  case atStart => exact ⟨0, Nat.zero_le _, rfl, (fun j h => by omega), hst0.out⟩
  case round =>
    obtain ⟨k, hk, rfl, hall, hst⟩ := hrel
    have HA := Lib.hid hall
    clear hall hst0
    by_cases hlt : k < n
    · obtain rfl := hA (by omega)
      have z1 : (k : Int) < (n : Int) := by omega
      have z0 : (0 : Int) ≤ (k : Int) := by omega
      obtain ⟨s, hs⟩ : ∃ s, f k = s := ⟨_, rfl⟩
      have HS := Lib.hid hs
      obtain ⟨wf1, wf2, wf3, wf4, wf5⟩ := HF.out k hlt
      rw [hs] at wf1 wf2 wf3 wf4 wf5
      obtain ⟨d0, d1, d2, d3, d4⟩ := hst.1.at hlt hs
      have K := Lib.hid (SoQ.new hst #[.string s.nm, .float .f32 s.lo, .float .f32 s.hi, .int .i64 s.fr, .int .i64 s.to] 40)
      have hno := fun (h : soB n f = true) => ((soB_iff.1 h).2 k hlt).1
      rw [hs] at hno
      unfold slB at hno
      have HNO := Lib.hid hno
      have HM := Lib.hid (fun w => s_name s.nm w wf1)
      have HI1 := Lib.hid (fun w => s_inS s.fr 0 180 (decide (0 ≤ s.fr ∧ s.fr ≤ 180)) w rfl)
      have HI2 := Lib.hid (fun w => s_inS s.to s.fr 180 (decide (s.fr ≤ s.to ∧ s.to ≤ 180)) w rfl)
      obtain ⟨t0, ht0⟩ : ∃ t, nmB s.nm = t := ⟨_, rfl⟩
      obtain ⟨t1, ht1⟩ : ∃ t, geW s.lo 0 = t := ⟨_, rfl⟩
      obtain ⟨t2, ht2⟩ : ∃ t, gtW s.hi s.lo = t := ⟨_, rfl⟩
      obtain ⟨t3, ht3⟩ : ∃ t, leW s.hi 1128792064 = t := ⟨_, rfl⟩
      obtain ⟨t4, ht4⟩ : ∃ t, decide (0 ≤ s.fr ∧ s.fr ≤ 180) = t := ⟨_, rfl⟩
      obtain ⟨t5, ht5⟩ : ∃ t, decide (s.fr ≤ s.to ∧ s.to ≤ 180) = t := ⟨_, rfl⟩
      have HB := Lib.hid (show slB s = (t0 && (t1 && t2 && t3) && t4 && t5) by unfold slB; rw [ht0, ht1, ht2, ht3, ht4, ht5])
      rw [ht0] at HM
      rw [ht4] at HI1
      rw [ht5] at HI2
      unfold geW at ht1
      unfold gtW at ht2
      unfold leW at ht3
      clear hs hno HNO hst ht0 ht4 ht5 wf1 wf2 wf3 wf4 wf5
      have hno : (t0 && (t1 && t2 && t3) && t4 && t5) = false → soB n f = false := fun h => soB_no (fun hs => by
        have := (hs.2 k hlt).1
        rw [HS.out, HB.out, h] at this
        cases this)
      have HNO := Lib.hid hno
      clear hno
      obtain ⟨c0, c1, c2, c3, c4⟩ := cells5 K.out.2
      have a1 := fun (x y z u r : Value) => st_new5 Try.prog wr x y z u r (.float .f32 s.lo) 40 1 (by omega) rfl
      have a2 := fun (x y z u r : Value) => st_new5 Try.prog wr x y z u r (.float .f32 s.hi) 40 2 (by omega) rfl
      have a3 := fun (x y z u r : Value) => st_new5 Try.prog wr x y z u r (.int .i64 s.fr) 40 3 (by omega) rfl
      have a4 := fun (x y z u r : Value) => st_new5 Try.prog wr x y z u r (.int .i64 s.to) 40 4 (by omega) rfl
      go_wp2_with fail
      generalize hW : wr.alloc _ = W at *
      generalize wr.heap.size = q at *
      clear hW a1 a2 a3 a4
      refine (HM.out _).mono ?_
      rintro e w1 ⟨rfl, rfl⟩
      cases t0
      · have HN := Lib.hid (HNO.out rfl)
        go_wp2
        go_ret
        exact ⟨by rw [HN.out]; rfl, K.out.1.below⟩
      cases t1
      · have HN := Lib.hid (HNO.out rfl)
        go_wp2
        go_ret
        exact ⟨by rw [HN.out]; rfl, K.out.1.below⟩
      cases t2
      · have HN := Lib.hid (HNO.out rfl)
        go_wp2
        go_ret
        exact ⟨by rw [HN.out]; rfl, K.out.1.below⟩
      cases t3
      · have HN := Lib.hid (HNO.out rfl)
        go_wp2
        go_ret
        exact ⟨by rw [HN.out]; rfl, K.out.1.below⟩
      go_wp2_with fail
      refine (HI1.out _).mono ?_
      rintro e w2 ⟨rfl, rfl⟩
      cases t4
      · have HN := Lib.hid (HNO.out rfl)
        go_wp2
        go_ret
        exact ⟨by rw [HN.out]; rfl, K.out.1.below⟩
      go_wp2_with fail
      refine (HI2.out _).mono ?_
      rintro e w3 ⟨rfl, rfl⟩
      cases t5
      · have HN := Lib.hid (HNO.out rfl)
        go_wp2
        go_ret
        exact ⟨by rw [HN.out]; rfl, K.out.1.below⟩
      clear c0 c1 c2 c3 c4 d0 d1 d2 d3 d4 ht1 ht2 ht3
      go_wp2_with fail
      go_loopw [5] (fun i wr => ∃ j : Nat, j ≤ k ∧ i = .int .i64 j ∧ (∀ j', j' < j → ¬ (f j').nm.data.toList = s.nm.data.toList) ∧ SoQ w g o n f q #[.string s.nm, .float .f32 s.lo, .float .f32 s.hi, .int .i64 s.fr, .int .i64 s.to] 40 wr) (fun i _ => k - (intOf i).toNat)
      case atStart => exact ⟨0, Nat.zero_le _, rfl, (fun j h => by omega), K.out⟩
      case round =>
        obtain ⟨j, hj, rfl, hne, hst⟩ := hrel
        have HE := Lib.hid hne
        clear hne K
        by_cases hlj : j < k
        · have y1 : (j : Int) < (k : Int) := by omega
          have y2 : (j : Int) < (n : Int) := by omega
          have y0 : (0 : Int) ≤ (j : Int) := by omega
          obtain ⟨u, hu⟩ : ∃ u, f j = u := ⟨_, rfl⟩
          have HU := Lib.hid hu
          clear hu
          have r0 := fun x : Held (fun wx => SoQ w g o n f q #[.string s.nm, .float .f32 s.lo, .float .f32 s.hi, .int .i64 s.fr, .int .i64 s.to] 40 wx) => (x.h.1.1.at (show j < n by omega) HU.out).1
          have r1 := fun x : Held (fun wx => SoQ w g o n f q #[.string s.nm, .float .f32 s.lo, .float .f32 s.hi, .int .i64 s.fr, .int .i64 s.to] 40 wx) => (cells5 x.h.2).1
          obtain ⟨v, hv⟩ : ∃ v, (u.nm.toList == s.nm.toList) = v := ⟨_, rfl⟩
          have hvd : (u.nm.data.toList = s.nm.data.toList) ↔ v = true := by rw [← hv, ByteArray.toList_eq, ByteArray.toList_eq, beq_iff_eq]
          have HVD := Lib.hid hvd
          clear hvd
          go_wp2
          haveI hne : Nonempty (Held (fun wx => SoQ w g o n f q #[.string s.nm, .float .f32 s.lo, .float .f32 s.hi, .int .i64 s.fr, .int .i64 s.to] 40 wx)) := ⟨⟨_, hst⟩⟩
          refine wp_region_class (fun wx => SoQ w g o n f q #[.string s.nm, .float .f32 s.lo, .float .f32 s.hi, .int .i64 s.fr, .int .i64 s.to] 40 wx) (by kernel_rfl) (by kernel_rfl) (SoQ.drew hst) ?_
          repeat (go_big_quiet_step (fail))
          refine wpQuiet_nil ?_
          intro wy hw'
          obtain ⟨⟨wq, hst6⟩, rfl⟩ := hw'
          (try dsimp only)
          clear r0 r1 hne hst
          cases v
          · have HG := Lib.hid (show ¬ u.nm.data.toList = s.nm.data.toList from fun h => by have := HVD.out.1 h; cases this)
            go_wp2_with fail
            go_roundw
            case rel => exact ⟨j + 1, by omega, by go_num, (fun j' hj' => by
              rcases Nat.lt_or_ge j' j with h' | h'
              · exact HE.out j' h'
              · rw [show j' = j by omega, HU.out]; exact HG.out), hst6⟩
            case measure => simp [intOf]; omega
          · have HN := Lib.hid (soB_no (n := n) (f := f) (fun hs => (hs.2 k hlt).2 j hlj (by rw [HU.out, HS.out]; exact HVD.out.2 rfl)))
            go_wp2
            go_ret
            exact ⟨by rw [HN.out]; rfl, hst6.1.below⟩
        · obtain rfl : j = k := by omega
          have y1 : ¬ (j : Int) < (j : Int) := by omega
          have HG := Lib.hid (show slB (f j) = true ∧ ∀ j', j' < j → ¬ (f j').nm.data.toList = (f j).nm.data.toList from ⟨by rw [HS.out, HB.out]; rfl, by rw [HS.out]; exact HE.out⟩)
          have HQ := Lib.hid hst
          clear hst
          go_wp2_with fail
          go_roundw
          case rel => exact ⟨j + 1, by omega, by go_num, (fun i hi => by
            rcases Nat.lt_or_ge i j with h' | h'
            · exact HA.out i h'
            · rw [show i = j by omega]; exact HG.out), HQ.out.1⟩
          case measure => simp [intOf]; omega
    · obtain rfl : k = n := by omega
      have z1 : ¬ (k : Int) < (k : Int) := by omega
      have HN := Lib.hid (show soB k f = decide (k ≤ 12) by
        by_cases h : k ≤ 12
        · rw [decide_eq_true h]; exact soB_iff.2 ⟨h, HA.out⟩
        · rw [decide_eq_false h]; exact soB_no (fun hs => h hs.1))
      by_cases h12 : (k : Int) ≤ 12
      · have HN2 := Lib.hid (show soB k f = true by rw [HN.out]; exact decide_eq_true (by omega))
        go_wp2
        go_ret
        exact ⟨by rw [HN2.out]; rfl, hst.below⟩
      · have HN2 := Lib.hid (show soB k f = false by rw [HN.out]; exact decide_eq_false (by omega))
        go_wp2
        go_ret
        exact ⟨by rw [HN2.out]; rfl, hst.below⟩
end Go.Proofs.Ytlliiecdadiagaa

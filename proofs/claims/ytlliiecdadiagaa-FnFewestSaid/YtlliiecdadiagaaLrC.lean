/- Lists of sails (impl): Sail.ok, Sail.namesake, slices.ContainsFunc with it, SailsOk. -/
import Derived.Test.YtlliiecdadiagaaLrB
namespace Go.Proofs.Ytlliiecdadiagaa
open Go.RowKit
set_option linter.unusedVariables false
set_option linter.unusedSimpArgs false

set_option maxRecDepth 100000 in
set_option maxHeartbeats 2000000 in
theorem i_sok (s : Sl) (w : World) (hs1 : SlWf s) :
    Calls Try.prog 67 #[.agg #[.string s.nm, .float .f32 s.lo, .float .f32 s.hi, .int .i64 s.fr, .int .i64 s.to]] w fun e w' => e = .returned (.bool (slB s)) ∧ Below w.heap.size w w' := by
  have hs := Lib.hid (Bx1.new w #[.string s.nm, .float .f32 s.lo, .float .f32 s.hi, .int .i64 s.fr, .int .i64 s.to] 40)
  obtain ⟨c0, c1, c2, c3, c4⟩ := cells5 hs.out.1
  obtain ⟨t0, ht0⟩ : ∃ t, nmB s.nm = t := ⟨_, rfl⟩
  obtain ⟨t1, ht1⟩ : ∃ t, leW 0 s.lo = t := ⟨_, rfl⟩
  obtain ⟨t2, ht2⟩ : ∃ t, ltW s.lo s.hi = t := ⟨_, rfl⟩
  obtain ⟨t3, ht3⟩ : ∃ t, leW s.hi 1128792064 = t := ⟨_, rfl⟩
  obtain ⟨ta, hta⟩ : ∃ t, (decide (0 ≤ s.fr) && decide (s.fr ≤ s.to) && decide (s.to ≤ 180)) = t := ⟨_, rfl⟩
  have HB := Lib.hid (show slB s = (t0 && (t1 && t2 && t3) && ta) by
    unfold slB
    rw [ht0, ← le_ge, ht1, ← lt_gt, ht2, ht3, ← hta]
    by_cases a1 : 0 ≤ s.fr <;> by_cases a2 : s.fr ≤ s.to <;> by_cases a3 : s.to ≤ 180
    all_goals first
      | rw [decide_eq_true (show 0 ≤ s.fr ∧ s.fr ≤ 180 by omega), decide_eq_true (show s.fr ≤ s.to ∧ s.to ≤ 180 by omega), decide_eq_true a1, decide_eq_true a2, decide_eq_true a3]; simp
      | (rw [decide_eq_false (show ¬ (s.fr ≤ s.to ∧ s.to ≤ 180) by omega), show (decide (0 ≤ s.fr) && decide (s.fr ≤ s.to) && decide (s.to ≤ 180)) = false by simp; omega]; simp)
      | (rw [decide_eq_false (show ¬ (0 ≤ s.fr ∧ s.fr ≤ 180) by omega), show (decide (0 ≤ s.fr) && decide (s.fr ≤ s.to) && decide (s.to ≤ 180)) = false by simp; omega]; simp))
  have HM := Lib.hid (fun w => i_name s.nm w hs1.1)
  rw [ht0] at HM
  have HTA := Lib.hid hta
  unfold leW at ht1 ht3
  unfold ltW at ht2
  clear ht0 hta hs1
  go_enter Try.func67, Try.ntmps67
  go_upto_region 1 with fail
  go_cut [3] (fun s3 wx => s3 = .bool (t1 && t2 && t3) ∧ Bx1 w #[.string s.nm, .float .f32 s.lo, .float .f32 s.hi, .int .i64 s.fr, .int .i64 s.to] 40 wx)
  case first =>
    cases t1
    · go_wp2_with fail
      go_meet
      exact ⟨rfl, hs.out⟩
    cases t2
    · go_wp2_with fail
      go_meet
      exact ⟨rfl, hs.out⟩
    cases t3
    all_goals (
      go_wp2_with fail
      go_meet
      exact ⟨rfl, hs.out⟩)
  case rest =>
  obtain ⟨rfl, hb⟩ := hcut
  clear c0 c1 c2 c3 c4 ht1 ht2 ht3 hs
  have hs := Lib.hid hb
  clear hb
  obtain ⟨c0, c1, c2, c3, c4⟩ := cells5 hs.out.1
  generalize (t1 && t2 && t3) = tw at *
  go_upto_region 2 with fail
  go_cut [4] (fun s4 wx => s4 = .bool ta ∧ Bx1 w #[.string s.nm, .float .f32 s.lo, .float .f32 s.hi, .int .i64 s.fr, .int .i64 s.to] 40 wx)
  case first =>
    by_cases a1 : 0 ≤ s.fr
    · by_cases a2 : s.fr ≤ s.to
      · by_cases a3 : s.to ≤ 180
        · have HE := Lib.hid (show true = ta by rw [← HTA.out, decide_eq_true a1, decide_eq_true a2, decide_eq_true a3]; rfl)
          go_wp2_with fail
          go_meet
          exact ⟨by rw [← HE.out], hs.out⟩
        · have HE := Lib.hid (show false = ta by rw [← HTA.out, decide_eq_false a3]; simp)
          go_wp2_with fail
          go_meet
          exact ⟨by rw [← HE.out], hs.out⟩
      · have HE := Lib.hid (show false = ta by rw [← HTA.out, decide_eq_false a2]; simp)
        go_wp2_with fail
        go_meet
        exact ⟨by rw [← HE.out], hs.out⟩
    · have HE := Lib.hid (show false = ta by rw [← HTA.out, decide_eq_false a1]; simp)
      go_wp2_with fail
      go_meet
      exact ⟨by rw [← HE.out], hs.out⟩
  case rest =>
  obtain ⟨rfl, hb⟩ := hcut
  clear c0 c1 c2 c3 c4 hs HTA
  have hs := Lib.hid hb
  clear hb
  obtain ⟨c0, c1, c2, c3, c4⟩ := cells5 hs.out.1
  cases tw
  · have HN := Lib.hid (show slB s = false by rw [HB.out]; simp)
    go_wp2
    go_ret
    exact ⟨by rw [HN.out]; rfl, hs.out.2⟩
  cases ta
  · have HN := Lib.hid (show slB s = false by rw [HB.out]; simp)
    go_wp2
    go_ret
    exact ⟨by rw [HN.out]; rfl, hs.out.2⟩
  have HN := Lib.hid (show slB s = t0 by rw [HB.out]; simp)
  go_wp2_with fail
  refine (HM.out _).mono ?_
  rintro e w1 ⟨rfl, rfl⟩
  go_wp2
  go_ret
  exact ⟨by rw [HN.out]; rfl, hs.out.2⟩
theorem nm_beq (a b : ByteArray) : (a.toList == b.toList) = true ↔ a.data.toList = b.data.toList := by rw [ByteArray.toList_eq, ByteArray.toList_eq, beq_iff_eq]
set_option maxRecDepth 100000 in
set_option maxHeartbeats 2000000 in
theorem i_same (s u : Sl) (w : World) :
    Calls Try.prog 69 #[.agg #[.string s.nm, .float .f32 s.lo, .float .f32 s.hi, .int .i64 s.fr, .int .i64 s.to], .agg #[.string u.nm, .float .f32 u.lo, .float .f32 u.hi, .int .i64 u.fr, .int .i64 u.to]] w fun e w' => e = .returned (.bool (s.nm.toList == u.nm.toList)) ∧ Below w.heap.size w w' := by
  have hs := Lib.hid (Bx2.new w #[.string s.nm, .float .f32 s.lo, .float .f32 s.hi, .int .i64 s.fr, .int .i64 s.to] 40 #[.string u.nm, .float .f32 u.lo, .float .f32 u.hi, .int .i64 u.fr, .int .i64 u.to] 40)
  obtain ⟨c0, c1, c2, c3, c4⟩ := cells5 hs.out.1
  obtain ⟨k0, k1, k2, k3, k4⟩ := cells5 hs.out.2.1
  go_enter Try.func69, Try.ntmps69
  go_wp2
  go_ret
  exact ⟨rfl, hs.out.2.2⟩
set_option maxRecDepth 100000 in
set_option maxHeartbeats 2000000 in
theorem i_idxN (s : Sl) (f : Nat → Sl) (A : Option Addr) (g o n cap : Nat) (w : World) (hn : n ≤ 1048576) (hA : 0 < n → A = some ⟨g, o, none⟩) (hw : SlsIn w g o n f) :
    Calls Try.prog 64 #[.slice A n cap, .func (.func 69) #[.agg #[.string s.nm, .float .f32 s.lo, .float .f32 s.hi, .int .i64 s.fr, .int .i64 s.to]] #[]] w fun e w' => ∃ r : Int, e = .returned (.int .i64 r) ∧ (0 ≤ r ↔ ∃ j, j < n ∧ s.nm.data.toList = (f j).nm.data.toList) ∧ Below w.heap.size w w' := by
  have hs := Lib.hid (show SoS w g o n f w from ⟨hw, Below.refl _ _⟩)
  clear hw
  go_enter Try.func64, Try.ntmps64
  go_wp2
  go_loopw [8, 5] (fun i _ wr => ∃ k : Nat, k ≤ n ∧ i = .int .i64 k ∧ (∀ j, j < k → ¬ s.nm.data.toList = (f j).nm.data.toList) ∧ SoS w g o n f wr) (fun i _ _ => n - (intOf i).toNat)
  case atStart => exact ⟨0, Nat.zero_le _, rfl, (fun j h => by omega), hs.out⟩
  case round =>
    obtain ⟨k, hk, rfl, hno, hst⟩ := hrel
    have HNO := Lib.hid hno
    clear hno hs
    by_cases hlt : k < n
    · obtain rfl := hA (by omega)
      have z1 : (k : Int) < (n : Int) := by omega
      have z0 : (0 : Int) ≤ (k : Int) := by omega
      obtain ⟨u, hu⟩ : ∃ u, f k = u := ⟨_, rfl⟩
      obtain ⟨d0, d1, d2, d3, d4⟩ := hst.1.at hlt hu
      have HU := Lib.hid hu
      have HC := Lib.hid (fun w => i_same s u w)
      have hv := nm_beq s.nm u.nm
      generalize (s.nm.toList == u.nm.toList) = t at *
      have HV := Lib.hid hv
      have HS := Lib.hid hst
      clear hu hv hst
      cases t
      · have HG := Lib.hid (show ¬ s.nm.data.toList = u.nm.data.toList from fun h => by have := HV.out.2 h; cases this)
        go_wp2_with fail
        refine (HC.out _).mono ?_
        rintro e w1 ⟨rfl, b⟩
        have HS2 := Lib.hid (HS.out.step b)
        clear HS b d0 d1 d2 d3 d4 HC HV
        go_wp2
        go_roundw
        case rel => exact ⟨k + 1, by omega, by go_num, (fun j hj => by
          rcases Nat.lt_or_ge j k with h' | h'
          · exact HNO.out j h'
          · rw [show j = k by omega, HU.out]; exact HG.out), HS2.out⟩
        case measure => simp [intOf]; omega
      · have HG := Lib.hid (show s.nm.data.toList = u.nm.data.toList from HV.out.1 rfl)
        go_wp2_with fail
        refine (HC.out _).mono ?_
        rintro e w1 ⟨rfl, b⟩
        have HS2 := Lib.hid (HS.out.step b)
        clear HS b d0 d1 d2 d3 d4 HC HV
        go_wp2
        go_ret
        exact ⟨k, rfl, ⟨fun _ => ⟨k, hlt, by rw [HU.out]; exact HG.out⟩, fun _ => by omega⟩, HS2.out.2⟩
    · obtain rfl : k = n := by omega
      have z1 : ¬ (k : Int) < (k : Int) := by omega
      go_wp2
      go_ret
      exact ⟨-1, rfl, ⟨fun h => by omega, fun ⟨j, hj, h⟩ => absurd (congrArg Array.toList h) (HNO.out j hj)⟩, hst.2⟩
noncomputable def dupB (f : Nat → Sl) (n : Nat) (s : Sl) : Bool := @decide (∃ j, j < n ∧ s.nm.data.toList = (f j).nm.data.toList) (Classical.propDecidable _)
theorem dupB_iff {f : Nat → Sl} {n : Nat} {s : Sl} : dupB f n s = true ↔ ∃ j, j < n ∧ s.nm.data.toList = (f j).nm.data.toList := by unfold dupB; exact @decide_eq_true_iff _ (Classical.propDecidable _)
set_option maxRecDepth 100000 in
set_option maxHeartbeats 2000000 in
theorem i_dup (s : Sl) (f : Nat → Sl) (A : Option Addr) (g o n cap : Nat) (w : World) (hn : n ≤ 1048576) (hA : 0 < n → A = some ⟨g, o, none⟩) (hw : SlsIn w g o n f) :
    Calls Try.prog 68 #[.slice A n cap, .func (.func 69) #[.agg #[.string s.nm, .float .f32 s.lo, .float .f32 s.hi, .int .i64 s.fr, .int .i64 s.to]] #[]] w fun e w' => e = .returned (.bool (dupB f n s)) ∧ Below w.heap.size w w' := by
  have HC := Lib.hid (fun w (h : SlsIn w g o n f) => i_idxN s f A g o n cap w hn hA h)
  have HD := Lib.hid (dupB_iff (f := f) (n := n) (s := s))
  generalize dupB f n s = t at *
  go_enter Try.func68, Try.ntmps68
  go_wp2_with fail
  refine (HC.out _ hw).mono ?_
  rintro e w1 ⟨r, rfl, hr, b⟩
  by_cases h0 : 0 ≤ r
  · have HN := Lib.hid (show true = t from (HD.out.2 (hr.1 h0)).symm)
    have h1 : decide (r ≥ 0) = true := decide_eq_true h0
    clear hr
    go_wp2
    go_ret
    exact ⟨by rw [← HN.out]; rfl, b⟩
  · have HN := Lib.hid (show false = t by
      cases e : t
      · rfl
      · exact absurd (hr.2 (HD.out.1 e)) h0)
    have h1 : decide (r ≥ 0) = false := decide_eq_false h0
    clear hr
    go_wp2
    go_ret
    exact ⟨by rw [← HN.out]; rfl, b⟩
set_option maxRecDepth 100000 in
set_option maxHeartbeats 4000000 in
theorem i_so (f : Nat → Sl) (A : Option Addr) (g o n cap : Nat) (w : World) (hn : n ≤ 1048576) (hcap : n ≤ cap) (hA : 0 < n → A = some ⟨g, o, none⟩) (hw : SlsIn w g o n f) (hf : ∀ j, j < n → SlWf (f j)) :
    Calls Try.prog 28 #[.slice A n cap] w fun e w' => e = .returned (.bool (soB n f)) ∧ Below w.heap.size w w' := by
  have hst0 := Lib.hid (show SoS w g o n f w from ⟨hw, Below.refl _ _⟩)
  by_cases h12 : 12 < n
  · have HN := Lib.hid (soB_no (n := n) (f := f) (fun hs => by have := hs.1; omega))
    have k1 : (12 : Int) < (n : Int) := by omega
    have k2 : decide ((n : Int) > 12) = true := decide_eq_true k1
    go_enter Try.func28, Try.ntmps28
    go_wp2
    go_ret
    exact ⟨by rw [HN.out]; rfl, hst0.out.2⟩
  have k2 : decide ((n : Int) > 12) = false := decide_eq_false (by omega)
  have HF := Lib.hid hf
  have HD := Lib.hid (fun s k (hk : k < n) w (h : SlsIn w g o n f) => i_dup s f A g o k cap w (by omega) (fun _ => hA (by omega)) (fun j hj => h j (by omega)))
  clear hw hf
  go_enter Try.func28, Try.ntmps28
  go_wp2
  clear k2
  go_loopw [10, 3, 4] (fun i _ _ wr => ∃ k : Nat, k ≤ n ∧ i = .int .i64 k ∧ (∀ i, i < k → slB (f i) = true ∧ ∀ j, j < i → ¬ (f j).nm.data.toList = (f i).nm.data.toList) ∧ SoS w g o n f wr) (fun i _ _ _ => n - (intOf i).toNat)
  case atStart => exact ⟨0, Nat.zero_le _, rfl, (fun j h => by omega), hst0.out⟩
  case round =>
    obtain ⟨k, hk, rfl, hall, hst⟩ := hrel
    have HA := Lib.hid hall
    clear hall hst0
    by_cases hlt : k < n
    · obtain rfl := hA (by omega)
      have z1 : (k : Int) < (n : Int) := by omega
      have z0 : (0 : Int) ≤ (k : Int) := by omega
      have z2 : (k : Int) ≤ (cap : Int) := by omega
      have z3 : k ≤ cap := by omega
      obtain ⟨s, hs⟩ : ∃ s, f k = s := ⟨_, rfl⟩
      have HS := Lib.hid hs
      have wf := HF.out k hlt
      rw [hs] at wf
      obtain ⟨d0, d1, d2, d3, d4⟩ := hst.1.at hlt hs
      have K := Lib.hid (SoQ.new hst #[.string s.nm, .float .f32 s.lo, .float .f32 s.hi, .int .i64 s.fr, .int .i64 s.to] 40)
      have HM := Lib.hid (fun w => i_sok s w wf)
      have a0 := fun (x y z u r : Value) => st_new5 Try.prog wr x y z u r (.string s.nm) 40 0 (by omega) rfl
      have a1 := fun (x y z u r : Value) => st_new5 Try.prog wr x y z u r (.float .f32 s.lo) 40 1 (by omega) rfl
      have a2 := fun (x y z u r : Value) => st_new5 Try.prog wr x y z u r (.float .f32 s.hi) 40 2 (by omega) rfl
      have a3 := fun (x y z u r : Value) => st_new5 Try.prog wr x y z u r (.int .i64 s.fr) 40 3 (by omega) rfl
      have a4 := fun (x y z u r : Value) => st_new5 Try.prog wr x y z u r (.int .i64 s.to) 40 4 (by omega) rfl
      clear hst wf hs
      go_upto_region 6 with fail
      generalize hW : wr.alloc _ = W at *
      generalize wr.heap.size = q at *
      clear hW a0 a1 a2 a3 a4 d0 d1 d2 d3 d4
      have HD2 := Lib.hid (fun x : Held (fun wx => SoQ w g o n f q #[.string s.nm, .float .f32 s.lo, .float .f32 s.hi, .int .i64 s.fr, .int .i64 s.to] 40 wx) => HD.out s k hlt x.w x.h.1.1)
      have hmf : ∀ (fn : Fn) (first cap : Array Value) (w : World), (Instr.makeFunc fn first cap).run Try.prog w = .ok (.func fn first cap) w := fun _ _ _ _ => rfl
      have rq0 := fun x : Held (fun wx => SoQ w g o n f q #[.string s.nm, .float .f32 s.lo, .float .f32 s.hi, .int .i64 s.fr, .int .i64 s.to] 40 wx) => (cells5 x.h.2).1
      have rq1 := fun x : Held (fun wx => SoQ w g o n f q #[.string s.nm, .float .f32 s.lo, .float .f32 s.hi, .int .i64 s.fr, .int .i64 s.to] 40 wx) => (cells5 x.h.2).2.1
      have rq2 := fun x : Held (fun wx => SoQ w g o n f q #[.string s.nm, .float .f32 s.lo, .float .f32 s.hi, .int .i64 s.fr, .int .i64 s.to] 40 wx) => (cells5 x.h.2).2.2.1
      have rq3 := fun x : Held (fun wx => SoQ w g o n f q #[.string s.nm, .float .f32 s.lo, .float .f32 s.hi, .int .i64 s.fr, .int .i64 s.to] 40 wx) => (cells5 x.h.2).2.2.2.1
      have rq4 := fun x : Held (fun wx => SoQ w g o n f q #[.string s.nm, .float .f32 s.lo, .float .f32 s.hi, .int .i64 s.fr, .int .i64 s.to] 40 wx) => (cells5 x.h.2).2.2.2.2
      have hno : slB s = false ∨ dupB f k s = true → soB n f = false := fun h => soB_no (fun hs => by
        have h1 := hs.2 k hlt
        rw [HS.out] at h1
        rcases h with h | h
        · rw [h1.1] at h; cases h
        · obtain ⟨j, hj, e⟩ := dupB_iff.1 h
          exact h1.2 j hj e.symm)
      have hyes : slB s = true → dupB f k s = false → ∀ i, i < k + 1 → slB (f i) = true ∧ ∀ j, j < i → ¬ (f j).nm.data.toList = (f i).nm.data.toList := fun h h' i hi => by
        rcases Nat.lt_or_ge i k with h3 | h3
        · exact HA.out i h3
        · rw [show i = k by omega, HS.out]
          exact ⟨h, fun j hj e => by have := dupB_iff.2 ⟨j, hj, e.symm⟩; rw [h'] at this; cases this⟩
      obtain ⟨t, ht⟩ : ∃ t, slB s = t := ⟨_, rfl⟩
      obtain ⟨t', ht'⟩ : ∃ t, dupB f k s = t := ⟨_, rfl⟩
      rw [ht] at HM hno hyes
      rw [ht'] at HD2 hno hyes
      have HNO := Lib.hid hno
      have HY := Lib.hid hyes
      clear ht ht' hno hyes HS HA
      have hst := K.out
      go_wp2
      haveI hne : Nonempty (Held (fun wx => SoQ w g o n f q #[.string s.nm, .float .f32 s.lo, .float .f32 s.hi, .int .i64 s.fr, .int .i64 s.to] 40 wx)) := ⟨⟨_, hst⟩⟩
      cases t
      · have HN := Lib.hid (HNO.out (.inl rfl))
        refine wp_region_class (fun wx => SoQ w g o n f q #[.string s.nm, .float .f32 s.lo, .float .f32 s.hi, .int .i64 s.fr, .int .i64 s.to] 40 wx) (by kernel_rfl) (by kernel_rfl) (SoQ.drew hst) ?_
        repeat (go_big_quiet_step (first
          | (go_at_call 67; with_reducible exact held_call SoQ.step (HM.out _))))
        refine wpQuiet_nil ?_
        intro wy hw'
        obtain ⟨⟨wq, hst6⟩, rfl⟩ := hw'
        (try dsimp only)
        clear rq0 rq1 rq2 rq3 rq4 hne hst
        go_wp2
        go_ret
        exact ⟨by rw [HN.out]; rfl, hst6.1.below⟩
      cases t'
      · have HN := Lib.hid (HY.out rfl rfl)
        refine wp_region_class (fun wx => SoQ w g o n f q #[.string s.nm, .float .f32 s.lo, .float .f32 s.hi, .int .i64 s.fr, .int .i64 s.to] 40 wx) (by kernel_rfl) (by kernel_rfl) (SoQ.drew hst) ?_
        repeat (go_big_quiet_step (first
          | (go_at_call 67; with_reducible exact held_call SoQ.step (HM.out _))
          | (go_at_call 68; with_reducible exact held_call SoQ.step (HD2.out _))))
        refine wpQuiet_nil ?_
        intro wy hw'
        obtain ⟨⟨wq, hst6⟩, rfl⟩ := hw'
        (try dsimp only)
        clear rq0 rq1 rq2 rq3 rq4 hne hst
        go_wp2_with fail
        go_roundw
        case rel => exact ⟨k + 1, by omega, by go_num, HN.out, hst6.1⟩
        case measure => simp [intOf]; omega
      · have HN := Lib.hid (HNO.out (.inr rfl))
        refine wp_region_class (fun wx => SoQ w g o n f q #[.string s.nm, .float .f32 s.lo, .float .f32 s.hi, .int .i64 s.fr, .int .i64 s.to] 40 wx) (by kernel_rfl) (by kernel_rfl) (SoQ.drew hst) ?_
        repeat (go_big_quiet_step (first
          | (go_at_call 67; with_reducible exact held_call SoQ.step (HM.out _))
          | (go_at_call 68; with_reducible exact held_call SoQ.step (HD2.out _))))
        refine wpQuiet_nil ?_
        intro wy hw'
        obtain ⟨⟨wq, hst6⟩, rfl⟩ := hw'
        (try dsimp only)
        clear rq0 rq1 rq2 rq3 rq4 hne hst
        go_wp2
        go_ret
        exact ⟨by rw [HN.out]; rfl, hst6.1.below⟩
    · obtain rfl : k = n := by omega
      have z1 : ¬ (k : Int) < (k : Int) := by omega
      have HN := Lib.hid (soB_iff.2 (show SoOk k f from ⟨by omega, HA.out⟩))
      go_wp2
      go_ret
      exact ⟨by rw [HN.out]; rfl, hst.below⟩
end Go.Proofs.Ytlliiecdadiagaa

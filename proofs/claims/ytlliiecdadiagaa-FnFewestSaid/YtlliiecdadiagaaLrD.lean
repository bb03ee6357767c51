/- The best sail, the one that is kept (impl): BestSail, carries, KeepSail. -/
import Derived.Test.YtlliiecdadiagaaLrC
import Derived.Test.YtlliiecdadiagaaLpE
namespace Go.Proofs.Ytlliiecdadiagaa
open Go.RowKit
set_option linter.unusedVariables false
set_option linter.unusedSimpArgs false

set_option maxRecDepth 100000 in
set_option maxHeartbeats 2000000 in
theorem i_cl (s : Sl) (m : Mm) (q : Nat) (w : World) (hs1 : SlWf s) (hm1 : MmWf m) (hq : w.heap[q]? = some (.cells #[.float .f32 m.1, .int .i64 m.2] 42 (0, 0))) :
    Calls Try.prog 65 #[.agg #[.string s.nm, .float .f32 s.lo, .float .f32 s.hi, .int .i64 s.fr, .int .i64 s.to], .pointer (some ⟨q, 0, none⟩)] w fun e w' => e = .returned (.bool (fitB s m)) ∧ Below w.heap.size w w' := by
  have hs := Lib.hid (Bx1.new w #[.string s.nm, .float .f32 s.lo, .float .f32 s.hi, .int .i64 s.fr, .int .i64 s.to] 40)
  have hq1 : (w.alloc (.cells #[.string s.nm, .float .f32 s.lo, .float .f32 s.hi, .int .i64 s.fr, .int .i64 s.to] 40)).heap[q]? = some (.cells #[.float .f32 m.1, .int .i64 m.2] 42 (0, 0)) := (hs.out.2.block _ (heap_lt hq)).trans hq
  obtain ⟨c0, c1, c2, c3, c4⟩ := cells5 hs.out.1
  obtain ⟨k0, k1⟩ := cells2m hq1
  have HC := Lib.hid (fun w => i_fit s m w hs1 hm1)
  clear hq1 hq
  go_enter Try.func65, Try.ntmps65
  go_wp2_with fail
  refine (HC.out _).mono ?_
  rintro e w1 ⟨rfl, b⟩
  have HS := Lib.hid (hs.out.step b)
  clear hs b c0 c1 c2 c3 c4 k0 k1 HC
  go_wp2
  go_ret
  exact ⟨rfl, HS.out.2⟩
set_option maxRecDepth 100000 in
set_option maxHeartbeats 2000000 in
theorem i_idxB (m : Mm) (q : Nat) (f : Nat → Sl) (A : Option Addr) (g o n cap : Nat) (w : World) (hn : n ≤ 1048576) (hA : 0 < n → A = some ⟨g, o, none⟩) (hw : SlsIn w g o n f) (hf : ∀ j, j < n → SlWf (f j)) (hm : MmWf m) (hq : w.heap[q]? = some (.cells #[.float .f32 m.1, .int .i64 m.2] 42 (0, 0))) :
    Calls Try.prog 64 #[.slice A n cap, .func (.func 65) #[] #[.pointer (some ⟨q, 0, none⟩)]] w fun e w' => e = .returned (.int .i64 (bsFrom f m n 0)) ∧ Below w.heap.size w w' := by
  have hs := Lib.hid (show SoQ w g o n f q #[.float .f32 m.1, .int .i64 m.2] 42 w from ⟨⟨hw, Below.refl _ _⟩, hq⟩)
  have HF := Lib.hid hf
  obtain ⟨r, hr⟩ : ∃ r, bsFrom f m n 0 = r := ⟨_, rfl⟩
  rw [hr]
  have HR0 := Lib.hid hr
  clear hw hq hr hf
  go_enter Try.func64, Try.ntmps64
  go_wp2
  go_loopw [8, 5] (fun i _ wr => ∃ k : Nat, k ≤ n ∧ i = .int .i64 k ∧ bsFrom f m (n - k) k = r ∧ SoQ w g o n f q #[.float .f32 m.1, .int .i64 m.2] 42 wr) (fun i _ _ => n - (intOf i).toNat)
  case atStart => exact ⟨0, Nat.zero_le _, rfl, HR0.out, hs.out⟩
  case round =>
    obtain ⟨k, hk, rfl, hrr, hst⟩ := hrel
    have HR := Lib.hid hrr
    clear hrr hs HR0
    by_cases hlt : k < n
    · obtain rfl := hA (by omega)
      have z1 : (k : Int) < (n : Int) := by omega
      have z0 : (0 : Int) ≤ (k : Int) := by omega
      obtain ⟨u, hu⟩ : ∃ u, f k = u := ⟨_, rfl⟩
      have wf := HF.out k hlt
      rw [hu] at wf
      obtain ⟨d0, d1, d2, d3, d4⟩ := hst.1.1.at hlt hu
      have HC := Lib.hid (i_cl u m q wr wf hm hst.2)
      have e0 : bsFrom f m (n - k) k = if fitB (f k) m = true then (k : Int) else bsFrom f m (n - (k + 1)) (k + 1) := by
        rw [show n - k = (n - (k + 1)) + 1 by omega]; rfl
      rw [hu] at e0
      have HS := Lib.hid hst
      clear hu hst wf
      generalize fitB u m = t at *
      cases t
      · have HN := Lib.hid (show bsFrom f m (n - (k + 1)) (k + 1) = r by rw [← HR.out, e0]; rfl)
        clear e0
        go_wp2_with fail
        refine HC.out.mono ?_
        rintro e w1 ⟨rfl, b⟩
        have HS2 := Lib.hid (HS.out.step b)
        clear HS b d0 d1 d2 d3 d4 HC
        go_wp2
        go_roundw
        case rel => exact ⟨k + 1, by omega, by go_num, HN.out, HS2.out⟩
        case measure => simp [intOf]; omega
      · have HN := Lib.hid (show (k : Int) = r by rw [← HR.out, e0]; rfl)
        obtain rfl := HN.out
        clear e0
        go_wp2_with fail
        refine HC.out.mono ?_
        rintro e w1 ⟨rfl, b⟩
        have HS2 := Lib.hid (HS.out.step b)
        clear HS b d0 d1 d2 d3 d4 HC
        go_wp2
        go_ret
        exact ⟨rfl, HS2.out.1.2⟩
    · obtain rfl : k = n := by omega
      have z1 : ¬ (k : Int) < (k : Int) := by omega
      have HN := Lib.hid (show -1 = r by rw [← HR.out, Nat.sub_self]; rfl)
      obtain rfl := HN.out
      go_wp2
      go_ret
      exact ⟨rfl, hst.1.2⟩
set_option maxRecDepth 100000 in
set_option maxHeartbeats 2000000 in
theorem i_best (f : Nat → Sl) (m : Mm) (A : Option Addr) (g o n cap : Nat) (w : World) (hn : n ≤ 1048576) (hcap : n ≤ cap) (hA : 0 < n → A = some ⟨g, o, none⟩) (hw : SlsIn w g o n f) (hf : ∀ j, j < n → SlWf (f j)) (hm : MmWf m) :
    Calls Try.prog 25 #[.slice A n cap, .agg #[.float .f32 m.1, .int .i64 m.2]] w fun e w' => e = .returned (.int .i64 (bestW n f m)) ∧ Below w.heap.size w w' := by
  have HO := Lib.hid (fun w (h : SlsIn w g o n f) => i_so f A g o n cap w hn hcap hA h hf)
  have HX := Lib.hid (fun q w (h : SlsIn w g o n f) (hq : w.heap[q]? = some (.cells #[.float .f32 m.1, .int .i64 m.2] 42 (0, 0))) => i_idxB m q f A g o n cap w hn hA h hf hm hq)
  have hs := Lib.hid (show SoQ w g o n f w.heap.size #[.float .f32 m.1, .int .i64 m.2] 42 _ from SoQ.new ⟨hw, Below.refl _ _⟩ #[.float .f32 m.1, .int .i64 m.2] 42)
  have hmf : ∀ (fn : Fn) (first cap : Array Value) (w : World), (Instr.makeFunc fn first cap).run Try.prog w = .ok (.func fn first cap) w := fun _ _ _ _ => rfl
  have hW : bestW n f m = if soB n f = true then bsFrom f m n 0 else -1 := rfl
  rw [hW]
  generalize soB n f = t at *
  generalize bsFrom f m n 0 = r at *
  clear hw hf hW
  cases t
  · rw [if_neg (by decide)]
    go_enter Try.func25, Try.ntmps25
    go_wp2_with fail
    refine (HO.out _ hs.out.1.1).mono ?_
    rintro e w1 ⟨rfl, b⟩
    have HS2 := Lib.hid (hs.out.step b)
    clear hs b
    go_wp2
    go_ret
    exact ⟨rfl, HS2.out.1.below⟩
  · rw [if_pos rfl]
    go_enter Try.func25, Try.ntmps25
    go_wp2_with fail
    refine (HO.out _ hs.out.1.1).mono ?_
    rintro e w1 ⟨rfl, b⟩
    have HS2 := Lib.hid (hs.out.step b)
    clear hs b
    go_wp2_with fail
    refine (HX.out _ _ HS2.out.1.1 HS2.out.2).mono ?_
    rintro e w2 ⟨rfl, b⟩
    have HS3 := Lib.hid (HS2.out.step b)
    clear HS2 b
    go_wp2
    go_ret
    exact ⟨rfl, HS3.out.1.below⟩
/-- There is such a sail, and it fits in the wider sense. -/
def carB (n : Nat) (f : Nat → Sl) (a : Int) (m : Mm) : Bool := if 0 ≤ a ∧ a < (n : Int) then wideB (f a.toNat) m else false
theorem carB_iff {n : Nat} {f : Nat → Sl} {a : Int} {m : Mm} : carB n f a m = true ↔ (0 ≤ a ∧ a < (n : Int)) ∧ wideB (f a.toNat) m = true := by
  unfold carB
  by_cases h : 0 ≤ a ∧ a < (n : Int)
  · rw [if_pos h]; exact ⟨fun k => ⟨h, k⟩, fun k => k.2⟩
  · rw [if_neg h]; exact ⟨fun k => (by cases k), fun k => absurd k.1 h⟩
set_option maxRecDepth 100000 in
set_option maxHeartbeats 2000000 in
theorem i_car (f : Nat → Sl) (a : Int) (m : Mm) (A : Option Addr) (g o n cap : Nat) (w : World) (hn : n ≤ 1048576) (hA : 0 < n → A = some ⟨g, o, none⟩) (hw : SlsIn w g o n f) (hf : ∀ j, j < n → SlWf (f j)) (hm : MmWf m) :
    Calls Try.prog 60 #[.slice A n cap, .int .i64 a, .agg #[.float .f32 m.1, .int .i64 m.2]] w fun e w' => e = .returned (.bool (carB n f a m)) ∧ Below w.heap.size w w' := by
  have hst := SoQ.new (show SoS w g o n f w from ⟨hw, Below.refl _ _⟩) #[.float .f32 m.1, .int .i64 m.2] 42
  clear hw
  unfold carB
  by_cases h0 : 0 ≤ a
  · obtain ⟨k, rfl⟩ : ∃ k : Nat, a = (k : Int) := ⟨a.toNat, by omega⟩
    by_cases hlt : k < n
    · obtain rfl := hA (by omega)
      rw [if_pos (by omega), Int.toNat_natCast]
      have z1 : (k : Int) < (n : Int) := by omega
      have z0 : (0 : Int) ≤ (k : Int) := by omega
      have y1 : decide ((k : Int) < (n : Int)) = true := decide_eq_true z1
      have y0 : decide ((0 : Int) ≤ (k : Int)) = true := decide_eq_true z0
      obtain ⟨s, hs1⟩ : ∃ s, f k = s := ⟨_, rfl⟩
      have HS := Lib.hid hs1
      have wf := hf k hlt
      rw [hs1] at wf ⊢
      have HX := Lib.hid (fun w => i_wide s m w wf hm)
      clear hs1 wf hA hf
      generalize wideB s m = t at *
      have rq0 := fun x : Held (fun wx => SoQ w g o n f w.heap.size #[.float .f32 m.1, .int .i64 m.2] 42 wx) => (cells2m x.h.2).1
      have rq1 := fun x : Held (fun wx => SoQ w g o n f w.heap.size #[.float .f32 m.1, .int .i64 m.2] 42 wx) => (cells2m x.h.2).2
      have rs0 := fun x : Held (fun wx => SoQ w g o n f w.heap.size #[.float .f32 m.1, .int .i64 m.2] 42 wx) => (x.h.1.1.at hlt HS.out).1
      have rs1 := fun x : Held (fun wx => SoQ w g o n f w.heap.size #[.float .f32 m.1, .int .i64 m.2] 42 wx) => (x.h.1.1.at hlt HS.out).2.1
      have rs2 := fun x : Held (fun wx => SoQ w g o n f w.heap.size #[.float .f32 m.1, .int .i64 m.2] 42 wx) => (x.h.1.1.at hlt HS.out).2.2.1
      have rs3 := fun x : Held (fun wx => SoQ w g o n f w.heap.size #[.float .f32 m.1, .int .i64 m.2] 42 wx) => (x.h.1.1.at hlt HS.out).2.2.2.1
      have rs4 := fun x : Held (fun wx => SoQ w g o n f w.heap.size #[.float .f32 m.1, .int .i64 m.2] 42 wx) => (x.h.1.1.at hlt HS.out).2.2.2.2
      have n0 : decide (k < n) = true := decide_eq_true hlt
      go_enter Try.func60, Try.ntmps60
      go_wp2
      haveI hne : Nonempty (Held (fun wx => SoQ w g o n f w.heap.size #[.float .f32 m.1, .int .i64 m.2] 42 wx)) := ⟨⟨_, hst⟩⟩
      refine wp_region_class (fun wx => SoQ w g o n f w.heap.size #[.float .f32 m.1, .int .i64 m.2] 42 wx) (by kernel_rfl) (by kernel_rfl) (SoQ.drew hst) ?_
      repeat (go_big_quiet_step (first
        | (go_at_call 24; with_reducible exact held_call SoQ.step (HX.out _))))
      refine wpQuiet_nil ?_
      intro wy hw'
      obtain ⟨⟨wq, hst6⟩, rfl⟩ := hw'
      (try dsimp only)
      clear hne hst
      clear rq0 rq1 rs0 rs1 rs2 rs3 rs4
      go_wp2
      go_ret
      exact ⟨rfl, hst6.1.below⟩
    · rw [if_neg (by omega)]
      have z1 : ¬ (k : Int) < (n : Int) := by omega
      have z0 : (0 : Int) ≤ (k : Int) := by omega
      have y1 : decide ((k : Int) < (n : Int)) = false := decide_eq_false z1
      have y0 : decide ((0 : Int) ≤ (k : Int)) = true := decide_eq_true z0
      have n0 : decide (k < n) = false := decide_eq_false hlt
      go_enter Try.func60, Try.ntmps60
      go_wp2
      haveI hne : Nonempty (Held (fun wx => SoQ w g o n f w.heap.size #[.float .f32 m.1, .int .i64 m.2] 42 wx)) := ⟨⟨_, hst⟩⟩
      refine wp_region_class (fun wx => SoQ w g o n f w.heap.size #[.float .f32 m.1, .int .i64 m.2] 42 wx) (by kernel_rfl) (by kernel_rfl) (SoQ.drew hst) ?_
      repeat (go_big_quiet_step (fail))
      refine wpQuiet_nil ?_
      intro wy hw'
      obtain ⟨⟨wq, hst6⟩, rfl⟩ := hw'
      (try dsimp only)
      clear hne hst
      go_wp2
      go_ret
      exact ⟨rfl, hst6.1.below⟩
  · rw [if_neg (by omega)]
    have y0 : decide ((0 : Int) ≤ a) = false := decide_eq_false h0
    go_enter Try.func60, Try.ntmps60
    go_wp2
    haveI hne : Nonempty (Held (fun wx => SoQ w g o n f w.heap.size #[.float .f32 m.1, .int .i64 m.2] 42 wx)) := ⟨⟨_, hst⟩⟩
    refine wp_region_class (fun wx => SoQ w g o n f w.heap.size #[.float .f32 m.1, .int .i64 m.2] 42 wx) (by kernel_rfl) (by kernel_rfl) (SoQ.drew hst) ?_
    repeat (go_big_quiet_step (fail))
    refine wpQuiet_nil ?_
    intro wy hw'
    obtain ⟨⟨wq, hst6⟩, rfl⟩ := hw'
    (try dsimp only)
    clear hne hst
    go_wp2
    go_ret
    exact ⟨rfl, hst6.1.below⟩
set_option maxRecDepth 100000 in
set_option maxHeartbeats 2000000 in
theorem i_keep (f : Nat → Sl) (a : Int) (m : Mm) (A : Option Addr) (g o n cap : Nat) (w : World) (hn : n ≤ 1048576) (hcap : n ≤ cap) (hA : 0 < n → A = some ⟨g, o, none⟩) (hw : SlsIn w g o n f) (hf : ∀ j, j < n → SlWf (f j)) (hm : MmWf m) :
    Calls Try.prog 39 #[.slice A n cap, .int .i64 a, .agg #[.float .f32 m.1, .int .i64 m.2]] w fun e w' => e = .returned (.int .i64 (keepW n f a m)) ∧ Below w.heap.size w w' := by
  have HO := Lib.hid (fun w (h : SlsIn w g o n f) => i_so f A g o n cap w hn hcap hA h hf)
  have HB := Lib.hid (fun w (h : SlsIn w g o n f) => i_best f m A g o n cap w hn hcap hA h hf hm)
  have HC := Lib.hid (fun w (h : SlsIn w g o n f) => i_car f a m A g o n cap w hn hA h hf hm)
  have hs := Lib.hid (show SoQ w g o n f w.heap.size #[.float .f32 m.1, .int .i64 m.2] 42 _ from SoQ.new ⟨hw, Below.refl _ _⟩ #[.float .f32 m.1, .int .i64 m.2] 42)
  have hW : keepW n f a m = if soB n f = true then (if carB n f a m = true then a else bestW n f m) else -1 := by
    unfold keepW
    by_cases h : carB n f a m = true
    · rw [if_pos h, if_pos (carB_iff.1 h)]
    · rw [if_neg h, if_neg (fun k => h (carB_iff.2 k))]
  have hbn : soB n f = false → bestW n f m = -1 := fun h => by unfold bestW; rw [h]; rfl
  rw [hW]
  generalize soB n f = t at *
  generalize bestW n f m = bw at *
  generalize carB n f a m = u at *
  clear hw hf hW
  obtain ⟨k0, k1⟩ := cells2m hs.out.2
  cases t
  · obtain rfl := hbn rfl
    rw [if_neg (by decide)]
    go_enter Try.func39, Try.ntmps39
    go_wp2_with fail
    refine (HO.out _ hs.out.1.1).mono ?_
    rintro e w1 ⟨rfl, b⟩
    have HS2 := Lib.hid (hs.out.step b)
    clear hs b k0 k1
    obtain ⟨k0, k1⟩ := cells2m HS2.out.2
    go_wp2_with fail
    refine (HB.out _ HS2.out.1.1).mono ?_
    rintro e w2 ⟨rfl, b⟩
    have HS3 := Lib.hid (HS2.out.step b)
    clear HS2 b k0 k1
    go_wp2
    go_ret
    exact ⟨rfl, HS3.out.1.below⟩
  rw [if_pos rfl]
  clear hbn
  cases u
  · rw [if_neg (by decide)]
    go_enter Try.func39, Try.ntmps39
    go_wp2_with fail
    refine (HO.out _ hs.out.1.1).mono ?_
    rintro e w1 ⟨rfl, b⟩
    have HS2 := Lib.hid (hs.out.step b)
    clear hs b k0 k1
    obtain ⟨k0, k1⟩ := cells2m HS2.out.2
    go_wp2_with fail
    refine (HC.out _ HS2.out.1.1).mono ?_
    rintro e w2 ⟨rfl, b⟩
    have HS3 := Lib.hid (HS2.out.step b)
    clear HS2 b k0 k1
    obtain ⟨k0, k1⟩ := cells2m HS3.out.2
    go_wp2_with fail
    refine (HB.out _ HS3.out.1.1).mono ?_
    rintro e w3 ⟨rfl, b⟩
    have HS4 := Lib.hid (HS3.out.step b)
    clear HS3 b k0 k1
    go_wp2
    go_ret
    exact ⟨rfl, HS4.out.1.below⟩
  · rw [if_pos rfl]
    go_enter Try.func39, Try.ntmps39
    go_wp2_with fail
    refine (HO.out _ hs.out.1.1).mono ?_
    rintro e w1 ⟨rfl, b⟩
    have HS2 := Lib.hid (hs.out.step b)
    clear hs b k0 k1
    obtain ⟨k0, k1⟩ := cells2m HS2.out.2
    go_wp2_with fail
    refine (HC.out _ HS2.out.1.1).mono ?_
    rintro e w2 ⟨rfl, b⟩
    have HS3 := Lib.hid (HS2.out.step b)
    clear HS2 b k0 k1
    go_wp2
    go_ret
    exact ⟨rfl, HS3.out.1.below⟩
end Go.Proofs.Ytlliiecdadiagaa

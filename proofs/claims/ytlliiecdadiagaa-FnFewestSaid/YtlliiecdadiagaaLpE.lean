/- The best sail, the one that is kept (spec): BestSail, KeepSail. -/
import Derived.Test.YtlliiecdadiagaaLpD
namespace Go.Proofs.Ytlliiecdadiagaa
open Go.RowKit
set_option linter.unusedVariables false
set_option linter.unusedSimpArgs false

/-- The first sail that fits, of so many, from one on. -/
def bsFrom (f : Nat → Sl) (m : Mm) : Nat → Nat → Int
  | 0, _ => -1
  | r + 1, i => if fitB (f i) m = true then (i : Int) else bsFrom f m r (i + 1)
noncomputable def bestW (n : Nat) (f : Nat → Sl) (m : Mm) : Int := if soB n f = true then bsFrom f m n 0 else -1
noncomputable def keepW (n : Nat) (f : Nat → Sl) (a : Int) (m : Mm) : Int := if soB n f = true then (if (0 ≤ a ∧ a < (n : Int)) ∧ wideB (f a.toNat) m = true then a else bestW n f m) else -1
theorem bs_ok (f : Nat → Sl) (m : Mm) : ∀ r i, bsFrom f m r i = -1 ∨ ((i : Int) ≤ bsFrom f m r i ∧ bsFrom f m r i < (i : Int) + r)
  | 0, i => .inl rfl
  | r + 1, i => by
    have ih := bs_ok f m r (i + 1)
    unfold bsFrom
    split
    · right; omega
    · rcases ih with h | ⟨h1, h2⟩
      · exact .inl h
      · right; omega
theorem best_ok (n : Nat) (f : Nat → Sl) (m : Mm) : bestW n f m = -1 ∨ (0 ≤ bestW n f m ∧ bestW n f m < (n : Int)) := by
  unfold bestW
  split
  · have := bs_ok f m n 0; omega
  · exact .inl rfl
theorem keep_ok (n : Nat) (f : Nat → Sl) (a : Int) (m : Mm) : keepW n f a m = -1 ∨ (0 ≤ keepW n f a m ∧ keepW n f a m < (n : Int)) := by
  unfold keepW
  split
  · split
    · right; omega
    · exact best_ok n f m
  · exact .inl rfl
theorem cells2m {w : World} {g : Nat} {t : TypeId} {a b : Value} (h : w.heap[g]? = some (.cells #[a, b] t (0, 0))) : w.cell? ⟨g, 0, none⟩ = some a ∧ w.cell? ⟨g, 1, none⟩ = some b :=
  ⟨cell_of_row w _ 0 _ _ _ h, cell_of_row w _ 1 _ _ _ h⟩
theorem s_inB (n a b : Int) (t : Bool) (w : World) (ht : t = decide (a ≤ n ∧ n ≤ b)) :
    Calls Try.prog 62 #[.int .i64 n, .int .i64 a, .int .i64 b] w fun e w' => e = .returned (.bool t) ∧ Below w.heap.size w w' :=
  (s_inS n a b t w ht).mono fun e w' h => ⟨h.1, by rw [h.2]; exact Below.refl _ _⟩
set_option maxRecDepth 100000 in
set_option maxHeartbeats 1000000 in
theorem s_best (f : Nat → Sl) (m : Mm) (A : Option Addr) (g o n cap : Nat) (w : World) (hn : n ≤ 1048576) (hA : 0 < n → A = some ⟨g, o, none⟩) (hw : SlsIn w g o n f) (hf : ∀ j, j < n → SlWf (f j)) :
    Calls Try.prog 37 #[.slice A n cap, .agg #[.float .f32 m.1, .int .i64 m.2]] w fun e w' => e = .returned (.int .i64 (bestW n f m)) ∧ Below w.heap.size w w' := by
  have HO := Lib.hid (fun w (h : SlsIn w g o n f) => s_so f A g o n cap w hn hA h hf)
  have hs := Lib.hid (show SoQ w g o n f w.heap.size #[.float .f32 m.1, .int .i64 m.2] 42 _ from SoQ.new ⟨hw, Below.refl _ _⟩ #[.float .f32 m.1, .int .i64 m.2] 42)
  clear hw
  cases hso : soB n f
  · rw [show bestW n f m = -1 by unfold bestW; rw [hso]; rfl]
    rw [hso] at HO
    clear hso
    go_enter Try.func37, Try.ntmps37
    go_wp2
    go_loopw [5] (fun i wr => ∃ k : Nat, i = .int .i64 k ∧ SoQ w g o n f w.heap.size #[.float .f32 m.1, .int .i64 m.2] 42 wr) (fun _ _ => 0)
    case atStart => exact ⟨0, rfl, hs.out⟩
    case round =>
      obtain ⟨k, rfl, hst⟩ := hrel
      by_cases h0 : k < n
      · have z1 : (k : Int) < (n : Int) := by omega
        have HST := Lib.hid hst
        clear hst hs
        go_wp2_with fail
        refine (HO.out _ HST.out.1.1).mono ?_
        rintro e w1 ⟨rfl, b⟩
        have HS2 := Lib.hid (HST.out.step b)
        clear HST b
        go_wp2
        go_ret
        exact ⟨rfl, HS2.out.1.below⟩
      · have z1 : ¬ (k : Int) < (n : Int) := by omega
        go_wp2
        go_ret
        exact ⟨rfl, hst.1.below⟩
  · rw [show bestW n f m = bsFrom f m n 0 by unfold bestW; rw [hso]; rfl]
    rw [hso] at HO
    obtain ⟨r, hr⟩ : ∃ r, bsFrom f m n 0 = r := ⟨_, rfl⟩
    rw [hr]
    have HR0 := Lib.hid hr
    clear hso hr
    go_enter Try.func37, Try.ntmps37
    go_wp2
    go_loopw [5] (fun i wr => ∃ k : Nat, k ≤ n ∧ i = .int .i64 k ∧ bsFrom f m (n - k) k = r ∧ SoQ w g o n f w.heap.size #[.float .f32 m.1, .int .i64 m.2] 42 wr) (fun i _ => n - (intOf i).toNat)
    case atStart => exact ⟨0, Nat.zero_le _, rfl, HR0.out, hs.out⟩
    case round =>
      obtain ⟨k, hk, rfl, hrr, hst⟩ := hrel
      have HR := Lib.hid hrr
      clear hrr HR0
      by_cases hlt : k < n
      · obtain rfl := hA (by omega)
        have z1 : (k : Int) < (n : Int) := by omega
        have z0 : (0 : Int) ≤ (k : Int) := by omega
        obtain ⟨s, hs1⟩ : ∃ s, f k = s := ⟨_, rfl⟩
        have HS := Lib.hid hs1
        have HX := Lib.hid (fun w => s_fit s m w)
        have e0 : bsFrom f m (n - k) k = if fitB (f k) m = true then (k : Int) else bsFrom f m (n - (k + 1)) (k + 1) := by
          rw [show n - k = (n - (k + 1)) + 1 by omega]; rfl
        rw [hs1] at e0
        clear hs1
        generalize fitB s m = t at *
        have rq0 := fun x : Held (fun wx => SoQ w g o n f w.heap.size #[.float .f32 m.1, .int .i64 m.2] 42 wx) => (cells2m x.h.2).1
        have rq1 := fun x : Held (fun wx => SoQ w g o n f w.heap.size #[.float .f32 m.1, .int .i64 m.2] 42 wx) => (cells2m x.h.2).2
        have rs0 := fun x : Held (fun wx => SoQ w g o n f w.heap.size #[.float .f32 m.1, .int .i64 m.2] 42 wx) => (x.h.1.1.at hlt HS.out).1
        have rs1 := fun x : Held (fun wx => SoQ w g o n f w.heap.size #[.float .f32 m.1, .int .i64 m.2] 42 wx) => (x.h.1.1.at hlt HS.out).2.1
        have rs2 := fun x : Held (fun wx => SoQ w g o n f w.heap.size #[.float .f32 m.1, .int .i64 m.2] 42 wx) => (x.h.1.1.at hlt HS.out).2.2.1
        have rs3 := fun x : Held (fun wx => SoQ w g o n f w.heap.size #[.float .f32 m.1, .int .i64 m.2] 42 wx) => (x.h.1.1.at hlt HS.out).2.2.2.1
        have rs4 := fun x : Held (fun wx => SoQ w g o n f w.heap.size #[.float .f32 m.1, .int .i64 m.2] 42 wx) => (x.h.1.1.at hlt HS.out).2.2.2.2
        have HST := Lib.hid hst
        clear hst hs
        go_wp2_with fail
        refine (HO.out _ HST.out.1.1).mono ?_
        rintro e w1 ⟨rfl, b⟩
        have hst := HST.out.step b
        clear HST b
        go_wp2
        haveI hnehst6 : Nonempty (Held (fun wx => SoQ w g o n f w.heap.size #[.float .f32 m.1, .int .i64 m.2] 42 wx)) := ⟨⟨_, hst⟩⟩
        refine wp_region_class (fun wx => SoQ w g o n f w.heap.size #[.float .f32 m.1, .int .i64 m.2] 42 wx) (by kernel_rfl) (by kernel_rfl) (SoQ.drew hst) ?_
        repeat (go_big_quiet_step (first
          | (go_at_call 33; with_reducible exact held_call SoQ.step (HX.out _))))
        refine wpQuiet_nil ?_
        intro wyhst6 hw'
        obtain ⟨⟨wqhst6, hst6⟩, rfl⟩ := hw'
        (try dsimp only)
        clear hnehst6
        clear hst rq0 rq1 rs0 rs1 rs2 rs3 rs4
        cases t
        · have HN := Lib.hid (show bsFrom f m (n - (k + 1)) (k + 1) = r by rw [← HR.out, e0]; rfl)
          clear e0
          go_wp2_with fail
          go_roundw
          case rel => exact ⟨k + 1, by omega, by go_num, HN.out, hst6⟩
          case measure => simp [intOf]; omega
        · have HN := Lib.hid (show (k : Int) = r by rw [← HR.out, e0]; rfl)
          obtain rfl := HN.out
          clear e0
          go_wp2
          go_ret
          exact ⟨rfl, hst6.1.below⟩
      · obtain rfl : k = n := by omega
        have z1 : ¬ (k : Int) < (k : Int) := by omega
        have HN := Lib.hid (show -1 = r by rw [← HR.out, Nat.sub_self]; rfl)
        obtain rfl := HN.out
        go_wp2
        go_ret
        exact ⟨rfl, hst.1.below⟩
set_option maxRecDepth 100000 in
set_option maxHeartbeats 1000000 in
theorem s_keep (f : Nat → Sl) (a : Int) (m : Mm) (A : Option Addr) (g o n cap : Nat) (w : World) (hn : n ≤ 1048576) (hA : 0 < n → A = some ⟨g, o, none⟩) (hw : SlsIn w g o n f) (hf : ∀ j, j < n → SlWf (f j)) (hm : MmWf m) :
    Calls Try.prog 38 #[.slice A n cap, .int .i64 a, .agg #[.float .f32 m.1, .int .i64 m.2]] w fun e w' => e = .returned (.int .i64 (keepW n f a m)) ∧ Below w.heap.size w w' := by
  have HO := Lib.hid (fun w (h : SlsIn w g o n f) => s_so f A g o n cap w hn hA h hf)
  have HB := Lib.hid (fun w (h : SlsIn w g o n f) => s_best f m A g o n cap w hn hA h hf)
  have hs := Lib.hid (show SoQ w g o n f w.heap.size #[.float .f32 m.1, .int .i64 m.2] 42 _ from SoQ.new ⟨hw, Below.refl _ _⟩ #[.float .f32 m.1, .int .i64 m.2] 42)
  clear hw
  cases hso : soB n f
  · rw [show keepW n f a m = -1 by unfold keepW; rw [hso]; rfl]
    rw [hso] at HO
    clear hso HB
    go_enter Try.func38, Try.ntmps38
    go_wp2_with fail
    refine (HO.out _ hs.out.1.1).mono ?_
    rintro e w1 ⟨rfl, b⟩
    have HS2 := Lib.hid (hs.out.step b)
    clear hs b
    go_wp2
    go_ret
    exact ⟨rfl, HS2.out.1.below⟩
  have hkw : keepW n f a m = if (0 ≤ a ∧ a < (n : Int)) ∧ wideB (f a.toNat) m = true then a else bestW n f m := by unfold keepW; rw [hso]; rfl
  rw [hso] at HO
  clear hso
  rw [hkw]
  have HI := Lib.hid (fun w => s_inB a 0 ((n : Int) - 1) (decide (0 ≤ a ∧ a ≤ (n : Int) - 1)) w rfl)
  generalize bestW n f m = bw at *
  have v1 : IntKind.i64.wrap ((n : Int) - 1) = (n : Int) - 1 := IntWalk.i64_in _ (by omega)
  clear hkw
  by_cases h1 : 0 ≤ a ∧ a < (n : Int)
  · rw [decide_eq_true (show 0 ≤ a ∧ a ≤ (n : Int) - 1 by omega)] at HI
    obtain rfl := hA (by omega)
    obtain ⟨k, rfl⟩ : ∃ k : Nat, a = (k : Int) := ⟨a.toNat, by omega⟩
    have hlt : k < n := by omega
    have z1 : (k : Int) < (n : Int) := h1.2
    have z0 : (0 : Int) ≤ (k : Int) := h1.1
    rw [Int.toNat_natCast]
    obtain ⟨s, hs1⟩ : ∃ s, f k = s := ⟨_, rfl⟩
    have HS := Lib.hid hs1
    have wf := hf k hlt
    rw [hs1] at wf ⊢
    have HX := Lib.hid (fun w => s_wide s m w wf hm)
    clear hs1 wf hA hf
    generalize wideB s m = t at *
    have rq0 := fun x : Held (fun wx => SoQ w g o n f w.heap.size #[.float .f32 m.1, .int .i64 m.2] 42 wx) => (cells2m x.h.2).1
    have rq1 := fun x : Held (fun wx => SoQ w g o n f w.heap.size #[.float .f32 m.1, .int .i64 m.2] 42 wx) => (cells2m x.h.2).2
    have rs0 := fun x : Held (fun wx => SoQ w g o n f w.heap.size #[.float .f32 m.1, .int .i64 m.2] 42 wx) => (x.h.1.1.at hlt HS.out).1
    have rs1 := fun x : Held (fun wx => SoQ w g o n f w.heap.size #[.float .f32 m.1, .int .i64 m.2] 42 wx) => (x.h.1.1.at hlt HS.out).2.1
    have rs2 := fun x : Held (fun wx => SoQ w g o n f w.heap.size #[.float .f32 m.1, .int .i64 m.2] 42 wx) => (x.h.1.1.at hlt HS.out).2.2.1
    have rs3 := fun x : Held (fun wx => SoQ w g o n f w.heap.size #[.float .f32 m.1, .int .i64 m.2] 42 wx) => (x.h.1.1.at hlt HS.out).2.2.2.1
    have rs4 := fun x : Held (fun wx => SoQ w g o n f w.heap.size #[.float .f32 m.1, .int .i64 m.2] 42 wx) => (x.h.1.1.at hlt HS.out).2.2.2.2
    cases t
    · rw [if_neg (by simp)]
      go_enter Try.func38, Try.ntmps38
      go_wp2_with fail
      refine (HO.out _ hs.out.1.1).mono ?_
      rintro e w1 ⟨rfl, b⟩
      have hst := hs.out.step b
      clear hs b
      go_wp2
      haveI hnehst6 : Nonempty (Held (fun wx => SoQ w g o n f w.heap.size #[.float .f32 m.1, .int .i64 m.2] 42 wx)) := ⟨⟨_, hst⟩⟩
      refine wp_region_class (fun wx => SoQ w g o n f w.heap.size #[.float .f32 m.1, .int .i64 m.2] 42 wx) (by kernel_rfl) (by kernel_rfl) (SoQ.drew hst) ?_
      repeat (go_big_quiet_step (first
        | (go_at_call 62; with_reducible exact held_call SoQ.step (HI.out _))
        | (go_at_call 36; with_reducible exact held_call SoQ.step (HX.out _))))
      refine wpQuiet_nil ?_
      intro wyhst6 hw'
      obtain ⟨⟨wqhst6, hst6⟩, rfl⟩ := hw'
      (try dsimp only)
      clear hnehst6
      have q0 := (cells2m hst6.2).1
      have q1 := (cells2m hst6.2).2
      have HS6 := Lib.hid hst6
      clear hst6 hst
      go_wp2_with fail
      refine (HB.out _ HS6.out.1.1).mono ?_
      rintro e w2 ⟨rfl, b⟩
      have HS7 := Lib.hid (HS6.out.step b)
      clear HS6 b q0 q1
      go_wp2
      go_ret
      exact ⟨rfl, HS7.out.1.below⟩
    · rw [if_pos ⟨h1, rfl⟩]
      go_enter Try.func38, Try.ntmps38
      go_wp2_with fail
      refine (HO.out _ hs.out.1.1).mono ?_
      rintro e w1 ⟨rfl, b⟩
      have hst := hs.out.step b
      clear hs b
      go_wp2
      haveI hnehst6 : Nonempty (Held (fun wx => SoQ w g o n f w.heap.size #[.float .f32 m.1, .int .i64 m.2] 42 wx)) := ⟨⟨_, hst⟩⟩
      refine wp_region_class (fun wx => SoQ w g o n f w.heap.size #[.float .f32 m.1, .int .i64 m.2] 42 wx) (by kernel_rfl) (by kernel_rfl) (SoQ.drew hst) ?_
      repeat (go_big_quiet_step (first
        | (go_at_call 62; with_reducible exact held_call SoQ.step (HI.out _))
        | (go_at_call 36; with_reducible exact held_call SoQ.step (HX.out _))))
      refine wpQuiet_nil ?_
      intro wyhst6 hw'
      obtain ⟨⟨wqhst6, hst6⟩, rfl⟩ := hw'
      (try dsimp only)
      clear hnehst6
      go_wp2
      go_ret
      exact ⟨rfl, hst6.1.below⟩
  · rw [decide_eq_false (show ¬ (0 ≤ a ∧ a ≤ (n : Int) - 1) by omega)] at HI
    rw [if_neg (fun h => h1 h.1)]
    go_enter Try.func38, Try.ntmps38
    go_wp2_with fail
    refine (HO.out _ hs.out.1.1).mono ?_
    rintro e w1 ⟨rfl, b⟩
    have hst := hs.out.step b
    clear hs b
    go_wp2
    haveI hnehst6 : Nonempty (Held (fun wx => SoQ w g o n f w.heap.size #[.float .f32 m.1, .int .i64 m.2] 42 wx)) := ⟨⟨_, hst⟩⟩
    refine wp_region_class (fun wx => SoQ w g o n f w.heap.size #[.float .f32 m.1, .int .i64 m.2] 42 wx) (by kernel_rfl) (by kernel_rfl) (SoQ.drew hst) ?_
    repeat (go_big_quiet_step (first
      | (go_at_call 62; with_reducible exact held_call SoQ.step (HI.out _))))
    refine wpQuiet_nil ?_
    intro wyhst6 hw'
    obtain ⟨⟨wqhst6, hst6⟩, rfl⟩ := hw'
    (try dsimp only)
    clear hnehst6
    have q0 := (cells2m hst6.2).1
    have q1 := (cells2m hst6.2).2
    have HS6 := Lib.hid hst6
    clear hst6 hst
    go_wp2_with fail
    refine (HB.out _ HS6.out.1.1).mono ?_
    rintro e w2 ⟨rfl, b⟩
    have HS7 := Lib.hid (HS6.out.step b)
    clear HS6 b q0 q1
    go_wp2
    go_ret
    exact ⟨rfl, HS7.out.1.below⟩
end Go.Proofs.Ytlliiecdadiagaa

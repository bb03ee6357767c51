/- Tracks: sights in memory; TrackOk (spec). -/
import Derived.Test.YthahakefmpajfaaLiB
import Derived.Test.YthahakefmpajfaaHld
namespace Go.Proofs.Ythahakefmpajfaa
open Go.RowKit
set_option linter.unusedVariables false
set_option linter.unusedSimpArgs false

/-- A sight: a place, a time. -/
abbrev Sg := (Int × Int) × Int
/-- The sights that lie in a block, from a cell on. -/
def SigsIn (w : World) (g o n : Nat) (f : Nat → Sg) : Prop := ∀ j, j < n → w.cell? ⟨g, o + j * 3, none⟩ = some (.int .i64 (f j).1.1) ∧ w.cell? ⟨g, o + j * 3 + 1, none⟩ = some (.int .i64 (f j).1.2) ∧ w.cell? ⟨g, o + j * 3 + 2, none⟩ = some (.int .i64 (f j).2)
theorem SigsIn.same {w w' : World} {g o n : Nat} {f : Nat → Sg} (h : SigsIn w g o n f) (hs : w'.heap[g]? = w.heap[g]?) : SigsIn w' g o n f := fun j hj => by
  obtain ⟨a, b, c⟩ := h j hj
  have e : ∀ k, w'.cell? ⟨g, k, none⟩ = w.cell? ⟨g, k, none⟩ := fun k => by simp only [World.cell?, hs]
  exact ⟨(e _).trans a, (e _).trans b, (e _).trans c⟩
theorem SigsIn.lt {w : World} {g o n : Nat} {f : Nat → Sg} (h : SigsIn w g o n f) (hn : 0 < n) : g < w.heap.size := by
  obtain ⟨a, _⟩ := h 0 hn
  rcases Nat.lt_or_ge g w.heap.size with h' | h'
  · exact h'
  · simp [World.cell?, Array.getElem?_eq_none h'] at a
theorem SigsIn.below {w w' : World} {B g o n : Nat} {f : Nat → Sg} (h : SigsIn w g o n f) (hb : Below B w w') (hB : w.heap.size ≤ B) : SigsIn w' g o n f := fun j hj => by
  have hg := h.lt (by omega)
  exact h.same (hb.block g (by omega)) j hj
/-- A track that is valid. -/
def SgOk (f : Nat → Sg) (j : Nat) : Prop := plB (f j).1 = true ∧ (0 ≤ (f j).2 ∧ (f j).2 ≤ 10000000) ∧ (0 < j → (f (j - 1)).2 < (f j).2)
def TkOk (n : Nat) (f : Nat → Sg) : Prop := n ≤ 200 ∧ ∀ j, j < n → SgOk f j
noncomputable def tkB (n : Nat) (f : Nat → Sg) : Bool := @decide (TkOk n f) (Classical.propDecidable _)
theorem tkB_iff {n : Nat} {f : Nat → Sg} : tkB n f = true ↔ TkOk n f := by unfold tkB; exact @decide_eq_true_iff _ (Classical.propDecidable _)
theorem tkB_no {n : Nat} {f : Nat → Sg} (h : ¬ TkOk n f) : tkB n f = false := by
  cases e : tkB n f
  · rfl
  · exact absurd (tkB_iff.1 e) h
/-- What stands while a track is looked at. -/
def TrSt (w : World) (g o n : Nat) (f : Nat → Sg) (wr : World) : Prop := SigsIn wr g o n f ∧ Below w.heap.size w wr
theorem TrSt.step {w w1 w2 : World} {g o n : Nat} {f : Nat → Sg} (h : TrSt w g o n f w1) (b : Below w1.heap.size w1 w2) : TrSt w g o n f w2 := ⟨h.1.below b (Nat.le_refl _), h.2.trans (b.mono h.2.size)⟩
theorem TrSt.drew {w w1 : World} {g o n : Nat} {f : Nat → Sg} (h : TrSt w g o n f w1) : TrSt w g o n f w1.drew := ⟨h.1, h.2.drew⟩
theorem TrSt.below {w w1 : World} {g o n : Nat} {f : Nat → Sg} (h : TrSt w g o n f w1) : Below w.heap.size w w1 := h.2
theorem s_inW (n a b : Int) (t : Bool) (w : World) (ht : t = decide (a ≤ n ∧ n ≤ b)) :
    Calls Try.prog 45 #[.int .i64 n, .int .i64 a, .int .i64 b] w fun e w' => e = .returned (.bool t) ∧ Below w.heap.size w w' :=
  (s_in n a b t w ht).mono fun e w' ⟨h1, h2⟩ => ⟨h1, h2 ▸ Below.refl _ _⟩
set_option maxRecDepth 100000 in
set_option maxHeartbeats 4000000 in
theorem s_tk (f : Nat → Sg) (A : Option Addr) (g o n cap : Nat) (w : World) (hn : n ≤ 1048576) (hA : 0 < n → A = some ⟨g, o, none⟩) (hw : SigsIn w g o n f) :
    Calls Try.prog 65 #[.slice A n cap] w fun e w' => e = .returned (.bool (tkB n f)) ∧ Below w.heap.size w w' := by
  have HW := Lib.hid hw
  clear hw
  go_enter Try.func65, Try.ntmps65
  go_wp2
  go_loopw [3] (fun i wr => ∃ k : Nat, k ≤ n ∧ i = .int .i64 k ∧ (∀ j, j < k → SgOk f j) ∧ TrSt w g o n f wr) (fun i _ => n - (intOf i).toNat)
  case atStart => exact ⟨0, Nat.zero_le _, rfl, (fun j h => by omega), ⟨HW.out, Below.refl _ _⟩⟩
  case round =>
    obtain ⟨k, hk, rfl, hall, hst⟩ := hrel
    have HA := Lib.hid hall
    clear hall
    by_cases hlt : k < n
    · obtain rfl := hA (by omega)
      have z1 : (k : Int) < (n : Int) := by omega
      have z0 : (0 : Int) ≤ (k : Int) := by omega
      obtain ⟨⟨⟨x, y⟩, z⟩, hkk⟩ : ∃ s, f k = s := ⟨_, rfl⟩
      have HK := Lib.hid hkk
      clear hkk
      have d0 : ∀ wx, TrSt w g o n f wx → wx.cell? ⟨g, o + k * 3, none⟩ = some (.int .i64 x) := fun wx h => by have := (h.1 k hlt).1; rw [HK.out] at this; exact this
      have d1 : ∀ wx, TrSt w g o n f wx → wx.cell? ⟨g, o + k * 3 + 1, none⟩ = some (.int .i64 y) := fun wx h => by have := (h.1 k hlt).2.1; rw [HK.out] at this; exact this
      have d2 : ∀ wx, TrSt w g o n f wx → wx.cell? ⟨g, o + k * 3 + 2, none⟩ = some (.int .i64 z) := fun wx h => by have := (h.1 k hlt).2.2; rw [HK.out] at this; exact this
      have HP := Lib.hid (fun w => s_plB (x, y) w)
      cases hp : plB (x, y)
      · rw [hp] at HP
        have HN := Lib.hid (tkB_no (n := n) (f := f) (fun h => by have := (h.2 k hlt).1; rw [HK.out] at this; rw [this] at hp; cases hp))
        have HI := Lib.hid (fun w => s_inW z 0 10000000 true w)
        clear hp HI
        have HI := HP
        go_wp2
        have rd0 := fun s : Held (fun wx => TrSt w g o n f wx) => d0 s.w s.h
        have rd1 := fun s : Held (fun wx => TrSt w g o n f wx) => d1 s.w s.h
        have rd2 := fun s : Held (fun wx => TrSt w g o n f wx) => d2 s.w s.h
        haveI hne : Nonempty (Held fun wx => TrSt w g o n f wx) := ⟨⟨_, hst⟩⟩
        refine wp_region_class (fun wx => TrSt w g o n f wx) (by kernel_rfl) (by kernel_rfl) hst.drew ?_
        repeat (go_big_quiet_step (first
          | (go_at_call 14; exact held_call TrSt.step (HP.out _))
          | (go_at_call 45; exact held_call TrSt.step (HI.out _))))
        refine wpQuiet_nil ?_
        intro _ hw'
        obtain ⟨⟨wq, hst6⟩, rfl⟩ := hw'
        (try dsimp only)
        go_wp2
        go_ret
        exact ⟨by rw [HN.out]; rfl, hst6.below⟩
      · rw [hp] at HP
        have HPT := Lib.hid hp
        clear hp
        by_cases ht : 0 ≤ z ∧ z ≤ 10000000
        · have HI := Lib.hid (fun w => s_inW z 0 10000000 true w (by rw [eq_comm]; exact decide_eq_true ht))
          have HT := Lib.hid ht
          clear ht
          by_cases hk0 : k = 0
          · subst hk0
            simp only [Nat.zero_mul, Nat.add_zero] at d0 d1 d2
            have z9 : (0 : Int) < (n : Int) := by omega
            have HO := Lib.hid (show SgOk f 0 from ⟨by rw [HK.out]; exact HPT.out, by rw [HK.out]; exact HT.out, fun h => by omega⟩)
            go_wp2
            have rd0 := fun s : Held (fun wx => TrSt w g o n f wx) => d0 s.w s.h
            have rd1 := fun s : Held (fun wx => TrSt w g o n f wx) => d1 s.w s.h
            have rd2 := fun s : Held (fun wx => TrSt w g o n f wx) => d2 s.w s.h
            haveI hne : Nonempty (Held fun wx => TrSt w g o n f wx) := ⟨⟨_, hst⟩⟩
            refine wp_region_class (fun wx => TrSt w g o n f wx) (by kernel_rfl) (by kernel_rfl) hst.drew ?_
            repeat (go_big_quiet_step (first
              | (go_at_call 14; exact held_call TrSt.step (HP.out _))
              | (go_at_call 45; exact held_call TrSt.step (HI.out _))))
            refine wpQuiet_nil ?_
            intro _ hw'
            obtain ⟨⟨wq, hst6⟩, rfl⟩ := hw'
            (try dsimp only)
            all_goals
              go_wp2_with fail
              go_roundw
              case rel => exact ⟨1, by omega, by go_num, (fun j hj => by rw [show j = 0 by omega]; exact HO.out), hst6⟩
              case measure => simp [intOf]; omega
          · obtain ⟨z', hzz⟩ : ∃ t, (f (k - 1)).2 = t := ⟨_, rfl⟩
            have HZ := Lib.hid hzz
            clear hzz
            have d3 : ∀ wx, TrSt w g o n f wx → wx.cell? ⟨g, o + (k - 1) * 3 + 2, none⟩ = some (.int .i64 z') := fun wx h => by have := (h.1 (k - 1) (by omega)).2.2; rw [HZ.out] at this; exact this
            have hidx : (k : Int) - 1 = ((k - 1 : Nat) : Int) := by omega
            have hidx2 : ((k - 1 : Nat) : Int) < (n : Int) := by omega
            have hidx3 : IntKind.i64.wrap ((k - 1 : Nat) : Int) = ((k - 1 : Nat) : Int) := IntWalk.i64_in _ (by omega)
            have hidx4 : (0 : Int) ≤ ((k - 1 : Nat) : Int) := by omega
            have hkp : (0 : Int) < (k : Int) := by omega
            have hkd : decide ((0 : Int) < (k : Int)) = true := decide_eq_true hkp
            have hkn : 0 < k := by omega
            have hknd : decide (0 < k) = true := decide_eq_true hkn
            by_cases hd : z ≤ z'
            · have HN := Lib.hid (tkB_no (n := n) (f := f) (fun h => by have := (h.2 k hlt).2.2 hkn; rw [HK.out, HZ.out] at this; dsimp only at this; omega))
              have hdd : decide (z ≤ z') = true := decide_eq_true hd
              go_wp2
              have rd0 := fun s : Held (fun wx => TrSt w g o n f wx) => d0 s.w s.h
              have rd1 := fun s : Held (fun wx => TrSt w g o n f wx) => d1 s.w s.h
              have rd2 := fun s : Held (fun wx => TrSt w g o n f wx) => d2 s.w s.h
              have rd3 := fun s : Held (fun wx => TrSt w g o n f wx) => d3 s.w s.h
              haveI hne : Nonempty (Held fun wx => TrSt w g o n f wx) := ⟨⟨_, hst⟩⟩
              refine wp_region_class (fun wx => TrSt w g o n f wx) (by kernel_rfl) (by kernel_rfl) hst.drew ?_
              repeat (go_big_quiet_step (first
                | (go_at_call 14; exact held_call TrSt.step (HP.out _))
                | (go_at_call 45; exact held_call TrSt.step (HI.out _))))
              refine wpQuiet_nil ?_
              intro _ hw'
              obtain ⟨⟨wq, hst6⟩, rfl⟩ := hw'
              (try dsimp only)
              go_wp2
              go_ret
              exact ⟨by rw [HN.out]; rfl, hst6.below⟩
            · have HO := Lib.hid (show SgOk f k from ⟨by rw [HK.out]; exact HPT.out, by rw [HK.out]; exact HT.out, fun h => by rw [HK.out, HZ.out]; dsimp only; omega⟩)
              have hdd : decide (z ≤ z') = false := decide_eq_false hd
              go_wp2
              have rd0 := fun s : Held (fun wx => TrSt w g o n f wx) => d0 s.w s.h
              have rd1 := fun s : Held (fun wx => TrSt w g o n f wx) => d1 s.w s.h
              have rd2 := fun s : Held (fun wx => TrSt w g o n f wx) => d2 s.w s.h
              have rd3 := fun s : Held (fun wx => TrSt w g o n f wx) => d3 s.w s.h
              haveI hne : Nonempty (Held fun wx => TrSt w g o n f wx) := ⟨⟨_, hst⟩⟩
              refine wp_region_class (fun wx => TrSt w g o n f wx) (by kernel_rfl) (by kernel_rfl) hst.drew ?_
              repeat (go_big_quiet_step (first
                | (go_at_call 14; exact held_call TrSt.step (HP.out _))
                | (go_at_call 45; exact held_call TrSt.step (HI.out _))))
              refine wpQuiet_nil ?_
              intro _ hw'
              obtain ⟨⟨wq, hst6⟩, rfl⟩ := hw'
              (try dsimp only)
              all_goals
                go_wp2_with fail
                go_roundw
                case rel => exact ⟨k + 1, by omega, by go_num, (fun j hj => by
                  rcases Nat.lt_or_ge j k with h' | h'
                  · exact HA.out j h'
                  · rw [show j = k by omega]; exact HO.out), hst6⟩
                case measure => simp [intOf]; omega
        · have HI := Lib.hid (fun w => s_inW z 0 10000000 false w (by rw [eq_comm]; exact decide_eq_false ht))
          have HN := Lib.hid (tkB_no (n := n) (f := f) (fun h => by have := (h.2 k hlt).2.1; rw [HK.out] at this; exact ht this))
          clear ht
          go_wp2
          have rd0 := fun s : Held (fun wx => TrSt w g o n f wx) => d0 s.w s.h
          have rd1 := fun s : Held (fun wx => TrSt w g o n f wx) => d1 s.w s.h
          have rd2 := fun s : Held (fun wx => TrSt w g o n f wx) => d2 s.w s.h
          haveI hne : Nonempty (Held fun wx => TrSt w g o n f wx) := ⟨⟨_, hst⟩⟩
          refine wp_region_class (fun wx => TrSt w g o n f wx) (by kernel_rfl) (by kernel_rfl) hst.drew ?_
          repeat (go_big_quiet_step (first
            | (go_at_call 14; exact held_call TrSt.step (HP.out _))
            | (go_at_call 45; exact held_call TrSt.step (HI.out _))))
          refine wpQuiet_nil ?_
          intro _ hw'
          obtain ⟨⟨wq, hst6⟩, rfl⟩ := hw'
          (try dsimp only)
          go_wp2
          go_ret
          exact ⟨by rw [HN.out]; rfl, hst6.below⟩
    · obtain rfl : k = n := by omega
      by_cases h2 : k ≤ 200
      · have HN := Lib.hid (show tkB k f = true from tkB_iff.2 ⟨h2, HA.out⟩)
        have h3 : (k : Int) ≤ 200 := by omega
        go_wp2
        go_ret
        exact ⟨by rw [HN.out]; rfl, hst.below⟩
      · have HN := Lib.hid (tkB_no (n := k) (f := f) (fun h => h2 h.1))
        have h3 : ¬ (k : Int) ≤ 200 := by omega
        go_wp2
        go_ret
        exact ⟨by rw [HN.out]; rfl, hst.below⟩
end Go.Proofs.Ythahakefmpajfaa

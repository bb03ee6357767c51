/- Tracks (impl): TrackOk. -/
import Derived.Test.YthahakefmpajfaaLjE
namespace Go.Proofs.Ythahakefmpajfaa
open Go.RowKit
set_option linter.unusedVariables false
set_option linter.unusedSimpArgs false

/-- What stands while a sight of a track is looked at: the track, and the sight in a box. -/
def TrQ (w : World) (g o n : Nat) (f : Nat → Sg) (q : Nat) (c : Array Value) (ty : TypeId) (wr : World) : Prop := TrSt w g o n f wr ∧ wr.heap[q]? = some (.cells c ty (0, 0))
theorem TrQ.step {w w1 w2 : World} {g o n : Nat} {f : Nat → Sg} {q : Nat} {c : Array Value} {ty : TypeId} (h : TrQ w g o n f q c ty w1) (b : Below w1.heap.size w1 w2) : TrQ w g o n f q c ty w2 := ⟨h.1.step b, (b.block _ (heap_lt h.2)).trans h.2⟩
theorem TrQ.drew {w w1 : World} {g o n : Nat} {f : Nat → Sg} {q : Nat} {c : Array Value} {ty : TypeId} (h : TrQ w g o n f q c ty w1) : TrQ w g o n f q c ty w1.drew := ⟨h.1.drew, h.2⟩
theorem TrQ.new {w w1 : World} {g o n : Nat} {f : Nat → Sg} (h : TrSt w g o n f w1) (c : Array Value) (ty : TypeId) : TrQ w g o n f w1.heap.size c ty (w1.alloc (.cells c ty)) := ⟨h.step ((Below.refl _ _).alloc (Nat.le_refl _) _), heap_alloc_new w1 _⟩
theorem i_timeOkB (n : Int) (t : Bool) (w : World) (ht : t = decide (0 ≤ n ∧ n ≤ 10000000)) :
    Calls Try.prog 73 #[.int .i64 n] w fun e w' => e = .returned (.bool t) ∧ Below w.heap.size w w' := by
  have hw : (t = false ∧ ¬ 0 ≤ n) ∨ (t = false ∧ 0 ≤ n ∧ ¬ n ≤ 10000000) ∨ (t = true ∧ 0 ≤ n ∧ n ≤ 10000000) := by
    subst ht
    simp only [decide_eq_true_eq, decide_eq_false_iff_not]
    omega
  clear ht
  rcases hw with ⟨rfl, h1⟩ | ⟨rfl, h1, h2⟩ | ⟨rfl, h1, h2⟩
  all_goals
    go_enter Try.func73, Try.ntmps73
    go_wp2
    go_ret
    exact ⟨rfl, Below.refl _ _⟩
set_option maxRecDepth 100000 in
set_option maxHeartbeats 4000000 in
theorem i_tk (f : Nat → Sg) (A : Option Addr) (g o n cap : Nat) (w : World) (hn : n ≤ 1048576) (hA : 0 < n → A = some ⟨g, o, none⟩) (hw : SigsIn w g o n f) :
    Calls Try.prog 55 #[.slice A n cap] w fun e w' => e = .returned (.bool (tkB n f)) ∧ Below w.heap.size w w' := by
  have HW := Lib.hid hw
  clear hw
  by_cases h2 : n ≤ 200
  · have H2 := Lib.hid h2
    have h3 : ¬ (200 : Int) < (n : Int) := by omega
    go_enter Try.func55, Try.ntmps55
    go_wp2_with fail
    refine wp_scope_on 0 (by rfl) ?_
    go_wp2
    go_loopw [3, 4, 10] (fun _ _ i wr => ∃ k : Nat, k ≤ n ∧ i = .int .i64 k ∧ (∀ j, j < k → SgOk f j) ∧ TrSt w g o n f wr) (fun _ _ i _ => n - (intOf i).toNat)
    case atStart => exact ⟨0, Nat.zero_le _, rfl, (fun j h => by omega), ⟨HW.out, Below.refl _ _⟩⟩
    case round =>
      obtain ⟨k, hk, rfl, hall, hst⟩ := hrel
      have HA := Lib.hid hall
      clear hall
      by_cases hlt : k < n
      · obtain rfl := hA (by omega)
        have z1 : (k : Int) < (n : Int) := by omega
        have z0 : (0 : Int) ≤ (k : Int) := by omega
        obtain ⟨⟨⟨x, y⟩, z⟩, hkk⟩ : ∃ s, f k = s := ⟨_, rfl⟩
        have HK := Lib.hid hkk
        clear hkk
        have d0 : wr.cell? ⟨g, o + k * 3, none⟩ = some (.int .i64 x) := by have := (hst.1 k hlt).1; rw [HK.out] at this; exact this
        have d1 : wr.cell? ⟨g, o + k * 3 + 1, none⟩ = some (.int .i64 y) := by have := (hst.1 k hlt).2.1; rw [HK.out] at this; exact this
        have d2 : wr.cell? ⟨g, o + k * 3 + 2, none⟩ = some (.int .i64 z) := by have := (hst.1 k hlt).2.2; rw [HK.out] at this; exact this
        have hst1 := TrQ.new hst #[.int .i64 x, .int .i64 y, .int .i64 z] 86
        have HP := Lib.hid (fun w => i_plB (x, y) w)
        have rd := fun q => fun s : Held (fun wx => TrQ w g o n f q #[.int .i64 x, .int .i64 y, .int .i64 z] 86 wx) => cells_sg s.h.2
        have HR := Lib.hid rd
        clear rd
        cases hp : plB (x, y)
        · rw [hp] at HP
          have HN := Lib.hid (tkB_no (n := n) (f := f) (fun h => by have := (h.2 k hlt).1; rw [HK.out] at this; rw [this] at hp; cases hp))
          clear hp
          have HI := HP
          go_wp2
          generalize wr.heap.size = q at *
          have rd0 := fun s => (HR.out q s).1
          have rd1 := fun s => (HR.out q s).2.1
          have rd2 := fun s => (HR.out q s).2.2
          haveI hne : Nonempty (Held (fun wx => TrQ w g o n f q #[.int .i64 x, .int .i64 y, .int .i64 z] 86 wx)) := ⟨⟨_, hst1⟩⟩
          refine wp_region_class (fun wx => TrQ w g o n f q #[.int .i64 x, .int .i64 y, .int .i64 z] 86 wx) (by kernel_rfl) (by kernel_rfl) (TrQ.drew hst1) ?_
          repeat (go_big_quiet_step (first
            | (go_at_call 47; with_reducible exact held_call TrQ.step (HP.out _))
            | (go_at_call 73; with_reducible exact held_call TrQ.step (HI.out _))))
          refine wpQuiet_nil ?_
          intro _ hw'
          obtain ⟨⟨wq, hst6⟩, rfl⟩ := hw'
          (try dsimp only)
          go_wp2
          refine wp_goto (And.intro rfl ?_)
          show Go.Code.wp _ _ _ _ _
          go_wp2
          rw [Exit.noGoto_ret]
          go_ret
          exact ⟨by rw [HN.out]; rfl, hst6.1.below⟩
        · rw [hp] at HP
          have HPT := Lib.hid hp
          clear hp
          by_cases ht : 0 ≤ z ∧ z ≤ 10000000
          · have HI := Lib.hid (fun w => i_timeOkB z true w (by rw [eq_comm]; exact decide_eq_true ht))
            have HT := Lib.hid ht
            clear ht
            by_cases hk0 : k = 0
            · subst hk0
              simp only [Nat.zero_mul, Nat.add_zero] at d0 d1 d2
              have z9 : (0 : Int) < (n : Int) := by omega
              have HO := Lib.hid (show SgOk f 0 from ⟨by rw [HK.out]; exact HPT.out, by rw [HK.out]; exact HT.out, fun h => by omega⟩)
              go_wp2
              generalize wr.heap.size = q at *
              have rd0 := fun s => (HR.out q s).1
              have rd1 := fun s => (HR.out q s).2.1
              have rd2 := fun s => (HR.out q s).2.2
              haveI hne : Nonempty (Held (fun wx => TrQ w g o n f q #[.int .i64 x, .int .i64 y, .int .i64 z] 86 wx)) := ⟨⟨_, hst1⟩⟩
              refine wp_region_class (fun wx => TrQ w g o n f q #[.int .i64 x, .int .i64 y, .int .i64 z] 86 wx) (by kernel_rfl) (by kernel_rfl) (TrQ.drew hst1) ?_
              repeat (go_big_quiet_step (first
                | (go_at_call 47; with_reducible exact held_call TrQ.step (HP.out _))
                | (go_at_call 73; with_reducible exact held_call TrQ.step (HI.out _))))
              refine wpQuiet_nil ?_
              intro _ hw'
              obtain ⟨⟨wq, hst6⟩, rfl⟩ := hw'
              (try dsimp only)
              all_goals
                go_wp2_with fail
                go_roundw
                case rel => exact ⟨1, by omega, by go_num, (fun j hj => by rw [show j = 0 by omega]; exact HO.out), hst6.1⟩
                case measure => simp [intOf]; omega
            · obtain ⟨z', hzz⟩ : ∃ t, (f (k - 1)).2 = t := ⟨_, rfl⟩
              have HZ := Lib.hid hzz
              clear hzz
              have hidx : (k : Int) - 1 = ((k - 1 : Nat) : Int) := by omega
              have hidx2 : ((k - 1 : Nat) : Int) < (n : Int) := by omega
              have hidx3 : IntKind.i64.wrap ((k - 1 : Nat) : Int) = ((k - 1 : Nat) : Int) := IntWalk.i64_in _ (by omega)
              have hidx4 : (0 : Int) ≤ ((k - 1 : Nat) : Int) := by omega
              have hkp : (0 : Int) < (k : Int) := by omega
              have hkd : decide ((0 : Int) < (k : Int)) = true := decide_eq_true hkp
              have hkn : 0 < k := by omega
              have hknd : decide (0 < k) = true := decide_eq_true hkn
              have rd3 : ∀ q, ∀ s : Held (fun wx => TrQ w g o n f q #[.int .i64 x, .int .i64 y, .int .i64 z] 86 wx), s.w.cell? ⟨g, o + (k - 1) * 3 + 2, none⟩ = some (.int .i64 z') := fun q s => by have := (s.h.1.1 (k - 1) (by omega)).2.2; rw [HZ.out] at this; exact this
              have HR3 := Lib.hid rd3
              clear rd3
              by_cases hd : z ≤ z'
              · have HN := Lib.hid (tkB_no (n := n) (f := f) (fun h => by have := (h.2 k hlt).2.2 hkn; rw [HK.out, HZ.out] at this; dsimp only at this; omega))
                have hdd : decide (z ≤ z') = true := decide_eq_true hd
                go_wp2
                generalize wr.heap.size = q at *
                have rd0 := fun s => (HR.out q s).1
                have rd1 := fun s => (HR.out q s).2.1
                have rd2 := fun s => (HR.out q s).2.2
                have rd3 := HR3.out q
                haveI hne : Nonempty (Held (fun wx => TrQ w g o n f q #[.int .i64 x, .int .i64 y, .int .i64 z] 86 wx)) := ⟨⟨_, hst1⟩⟩
                refine wp_region_class (fun wx => TrQ w g o n f q #[.int .i64 x, .int .i64 y, .int .i64 z] 86 wx) (by kernel_rfl) (by kernel_rfl) (TrQ.drew hst1) ?_
                repeat (go_big_quiet_step (first
                  | (go_at_call 47; with_reducible exact held_call TrQ.step (HP.out _))
                  | (go_at_call 73; with_reducible exact held_call TrQ.step (HI.out _))))
                refine wpQuiet_nil ?_
                intro _ hw'
                obtain ⟨⟨wq, hst6⟩, rfl⟩ := hw'
                (try dsimp only)
                go_wp2
                refine wp_goto (And.intro rfl ?_)
                show Go.Code.wp _ _ _ _ _
                go_wp2
                rw [Exit.noGoto_ret]
                go_ret
                exact ⟨by rw [HN.out]; rfl, hst6.1.below⟩
              · have HO := Lib.hid (show SgOk f k from ⟨by rw [HK.out]; exact HPT.out, by rw [HK.out]; exact HT.out, fun h => by rw [HK.out, HZ.out]; dsimp only; omega⟩)
                have hdd : decide (z ≤ z') = false := decide_eq_false hd
                go_wp2
                generalize wr.heap.size = q at *
                have rd0 := fun s => (HR.out q s).1
                have rd1 := fun s => (HR.out q s).2.1
                have rd2 := fun s => (HR.out q s).2.2
                have rd3 := HR3.out q
                haveI hne : Nonempty (Held (fun wx => TrQ w g o n f q #[.int .i64 x, .int .i64 y, .int .i64 z] 86 wx)) := ⟨⟨_, hst1⟩⟩
                refine wp_region_class (fun wx => TrQ w g o n f q #[.int .i64 x, .int .i64 y, .int .i64 z] 86 wx) (by kernel_rfl) (by kernel_rfl) (TrQ.drew hst1) ?_
                repeat (go_big_quiet_step (first
                  | (go_at_call 47; with_reducible exact held_call TrQ.step (HP.out _))
                  | (go_at_call 73; with_reducible exact held_call TrQ.step (HI.out _))))
                refine wpQuiet_nil ?_
                intro _ hw'
                obtain ⟨⟨wq, hst6⟩, rfl⟩ := hw'
                (try dsimp only)
                all_goals
                  go_wp2_with fail
                  go_roundw
                  case rel => exact ⟨k + 1, by omega, by go_num, (fun j hj => by
                    rcases Nat.lt_or_ge j k with h' | h'
                    · exact HA.out j h'
                    · rw [show j = k by omega]; exact HO.out), hst6.1⟩
                  case measure => simp [intOf]; omega
          · have HI := Lib.hid (fun w => i_timeOkB z false w (by rw [eq_comm]; exact decide_eq_false ht))
            have HN := Lib.hid (tkB_no (n := n) (f := f) (fun h => by have := (h.2 k hlt).2.1; rw [HK.out] at this; exact ht this))
            clear ht
            go_wp2
            generalize wr.heap.size = q at *
            have rd0 := fun s => (HR.out q s).1
            have rd1 := fun s => (HR.out q s).2.1
            have rd2 := fun s => (HR.out q s).2.2
            haveI hne : Nonempty (Held (fun wx => TrQ w g o n f q #[.int .i64 x, .int .i64 y, .int .i64 z] 86 wx)) := ⟨⟨_, hst1⟩⟩
            refine wp_region_class (fun wx => TrQ w g o n f q #[.int .i64 x, .int .i64 y, .int .i64 z] 86 wx) (by kernel_rfl) (by kernel_rfl) (TrQ.drew hst1) ?_
            repeat (go_big_quiet_step (first
              | (go_at_call 47; with_reducible exact held_call TrQ.step (HP.out _))
              | (go_at_call 73; with_reducible exact held_call TrQ.step (HI.out _))))
            refine wpQuiet_nil ?_
            intro _ hw'
            obtain ⟨⟨wq, hst6⟩, rfl⟩ := hw'
            (try dsimp only)
            go_wp2
            refine wp_goto (And.intro rfl ?_)
            show Go.Code.wp _ _ _ _ _
            go_wp2
            rw [Exit.noGoto_ret]
            go_ret
            exact ⟨by rw [HN.out]; rfl, hst6.1.below⟩
      · obtain rfl : k = n := by omega
        have HN := Lib.hid (show tkB k f = true from tkB_iff.2 ⟨H2.out, HA.out⟩)
        go_wp2
        refine jump_out (l := 0) ?_
        go_ret
        exact ⟨by rw [HN.out]; rfl, hst.below⟩
  · have HN := Lib.hid (tkB_no (n := n) (f := f) (fun h => h2 h.1))
    have h3 : (200 : Int) < (n : Int) := by omega
    go_enter Try.func55, Try.ntmps55
    go_wp2_with fail
    refine wp_scope_on 0 (by rfl) ?_
    go_wp2
    refine wp_goto (And.intro rfl ?_)
    show Go.Code.wp _ _ _ _ _
    go_wp2
    rw [Exit.noGoto_ret]
    go_ret
    exact ⟨by rw [HN.out]; rfl, Below.refl _ _⟩
end Go.Proofs.Ythahakefmpajfaa

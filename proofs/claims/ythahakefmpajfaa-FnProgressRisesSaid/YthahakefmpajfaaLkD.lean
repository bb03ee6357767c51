/- Courses (spec): CourseOk. -/
import Derived.Test.YthahakefmpajfaaLkC
namespace Go.Proofs.Ythahakefmpajfaa
open Go.RowKit
set_option linter.unusedVariables false
set_option linter.unusedSimpArgs false

theorem MksIn.at {w : World} {g o n : Nat} {f : Nat → Mk} (h : MksIn w g o n f) {k : Nat} (hk : k < n) {x y : Int} {z : Bool} (e : f k = ((x, y), z)) : w.cell? ⟨g, o + k * 3, none⟩ = some (.int .i64 x) ∧ w.cell? ⟨g, o + k * 3 + 1, none⟩ = some (.int .i64 y) ∧ w.cell? ⟨g, o + k * 3 + 2, none⟩ = some (.bool z) := by
  have := h k hk
  rw [e] at this
  exact this
theorem SigsIn.at {w : World} {g o n : Nat} {f : Nat → Sg} (h : SigsIn w g o n f) {k : Nat} (hk : k < n) {x y z : Int} (e : f k = ((x, y), z)) : w.cell? ⟨g, o + k * 3, none⟩ = some (.int .i64 x) ∧ w.cell? ⟨g, o + k * 3 + 1, none⟩ = some (.int .i64 y) ∧ w.cell? ⟨g, o + k * 3 + 2, none⟩ = some (.int .i64 z) := by
  have := h k hk
  rw [e] at this
  exact this
set_option maxRecDepth 100000 in
set_option maxHeartbeats 4000000 in
theorem s_co (c : Crs) (A : Option Addr) (g o cap : Nat) (w : World) (hn : c.n ≤ 1048576) (hA : 0 < c.n → A = some ⟨g, o, none⟩) (hw : MksIn w g o c.n c.mf) :
    Calls Try.prog 23 #[.agg #[.int .i64 c.st.1.1, .int .i64 c.st.1.2, .int .i64 c.st.2.1, .int .i64 c.st.2.2, .slice A c.n cap, .int .i64 c.fi.1.1, .int .i64 c.fi.1.2, .int .i64 c.fi.2.1, .int .i64 c.fi.2.2]] w fun e w' => e = .returned (.bool (coB c)) ∧ Below w.heap.size w w' := by
  have HL := Lib.hid (fun w => s_liB c.st w)
  have HF := Lib.hid (fun w => s_liB c.fi w)
  have hs := Lib.hid (CoS.new (c := #[.int .i64 c.st.1.1, .int .i64 c.st.1.2, .int .i64 c.st.2.1, .int .i64 c.st.2.2, .slice A c.n cap, .int .i64 c.fi.1.1, .int .i64 c.fi.1.2, .int .i64 c.fi.2.1, .int .i64 c.fi.2.2]) (ty := 36) hw)
  clear hw
  cases h1 : liB c.st
  · have HN := Lib.hid (coB_no (c := c) (fun h => by rw [h.1] at h1; cases h1))
    rw [h1] at HL
    clear h1 HF
    go_enter Try.func23, Try.ntmps23
    obtain ⟨e0, e1, e2, e3, e4, e5, e6, e7, e8⟩ := cells9 hs.out.1.1
    go_wp2_with fail
    refine (HL.out _).mono ?_
    rintro e w1 ⟨rfl, b⟩
    have hs' := Lib.hid (hs.out.step b)
    clear hs b e0 e1 e2 e3 e4 e5 e6 e7 e8
    have hs := hs'
    clear hs'
    go_wp2
    go_ret
    exact ⟨by rw [HN.out]; rfl, hs.out.below⟩
  rw [h1] at HL
  cases h2 : liB c.fi
  · have HN := Lib.hid (coB_no (c := c) (fun h => by rw [h.2.1] at h2; cases h2))
    rw [h2] at HF
    clear h1 h2
    go_enter Try.func23, Try.ntmps23
    obtain ⟨e0, e1, e2, e3, e4, e5, e6, e7, e8⟩ := cells9 hs.out.1.1
    go_wp2_with fail
    refine (HL.out _).mono ?_
    rintro e w1 ⟨rfl, b⟩
    have hs' := Lib.hid (hs.out.step b)
    clear hs b e0 e1 e2 e3 e4 e5 e6 e7 e8
    have hs := hs'
    clear hs'
    obtain ⟨e0, e1, e2, e3, e4, e5, e6, e7, e8⟩ := cells9 hs.out.1.1
    go_wp2_with fail
    refine (HF.out _).mono ?_
    rintro e w2 ⟨rfl, b⟩
    have hs' := Lib.hid (hs.out.step b)
    clear hs b e0 e1 e2 e3 e4 e5 e6 e7 e8
    have hs := hs'
    clear hs'
    go_wp2
    go_ret
    exact ⟨by rw [HN.out]; rfl, hs.out.below⟩
  rw [h2] at HF
  by_cases h3 : 1 ≤ (c.n : Int) ∧ (c.n : Int) ≤ 20
  · have HI := Lib.hid (fun w => s_inW (c.n : Int) 1 20 true w (by rw [eq_comm]; exact decide_eq_true h3))
    have HV := Lib.hid (And.intro h1 (And.intro h2 h3))
    obtain rfl := hA (by omega)
    clear h1 h2 h3
    go_enter Try.func23, Try.ntmps23
    obtain ⟨e0, e1, e2, e3, e4, e5, e6, e7, e8⟩ := cells9 hs.out.1.1
    go_wp2_with fail
    refine (HL.out _).mono ?_
    rintro e w1 ⟨rfl, b⟩
    have hs' := Lib.hid (hs.out.step b)
    clear hs b e0 e1 e2 e3 e4 e5 e6 e7 e8
    have hs := hs'
    clear hs'
    obtain ⟨e0, e1, e2, e3, e4, e5, e6, e7, e8⟩ := cells9 hs.out.1.1
    go_wp2_with fail
    refine (HF.out _).mono ?_
    rintro e w2 ⟨rfl, b⟩
    have hs' := Lib.hid (hs.out.step b)
    clear hs b e0 e1 e2 e3 e4 e5 e6 e7 e8
    have hs := hs'
    clear hs'
    obtain ⟨e0, e1, e2, e3, e4, e5, e6, e7, e8⟩ := cells9 hs.out.1.1
    go_wp2_with fail
    refine (HI.out _).mono ?_
    rintro e w3 ⟨rfl, b⟩
    have hs' := Lib.hid (hs.out.step b)
    clear hs b e0 e1 e2 e3 e4 e5 e6 e7 e8
    have hs := hs'
    clear hs'
    obtain ⟨e0, e1, e2, e3, e4, e5, e6, e7, e8⟩ := cells9 hs.out.1.1
    go_wp2
    clear e0 e1 e2 e3 e4 e5 e6 e7 e8
    go_loopw [3] (fun i wr => ∃ k : Nat, k ≤ c.n ∧ i = .int .i64 k ∧ (∀ j, j < k → MkOk c j) ∧ CoS w #[.int .i64 c.st.1.1, .int .i64 c.st.1.2, .int .i64 c.st.2.1, .int .i64 c.st.2.2, .slice (some ⟨g, o, none⟩) c.n cap, .int .i64 c.fi.1.1, .int .i64 c.fi.1.2, .int .i64 c.fi.2.1, .int .i64 c.fi.2.2] 36 g o c.n c.mf wr) (fun i _ => c.n - (intOf i).toNat)
    case atStart => exact ⟨0, Nat.zero_le _, rfl, (fun j h => by omega), hs.out⟩
    case round =>
      obtain ⟨k, hk, rfl, hall, hst⟩ := hrel
      have HA := Lib.hid hall
      clear hall hs
      obtain ⟨e0, e1, e2, e3, e4, e5, e6, e7, e8⟩ := cells9 hst.1.1
      by_cases hlt : k < c.n
      · have z1 : (k : Int) < (c.n : Int) := by omega
        have z0 : (0 : Int) ≤ (k : Int) := by omega
        obtain ⟨⟨⟨x, y⟩, z⟩, hkk⟩ : ∃ s, c.mf k = s := ⟨_, rfl⟩
        have HK := Lib.hid hkk
        clear hkk
        have rd0 := fun s : Held (fun wx => CoS w #[.int .i64 c.st.1.1, .int .i64 c.st.1.2, .int .i64 c.st.2.1, .int .i64 c.st.2.2, .slice (some ⟨g, o, none⟩) c.n cap, .int .i64 c.fi.1.1, .int .i64 c.fi.1.2, .int .i64 c.fi.2.1, .int .i64 c.fi.2.2] 36 g o c.n c.mf wx) => (s.h.2.at hlt HK.out).1
        have rd1 := fun s : Held (fun wx => CoS w #[.int .i64 c.st.1.1, .int .i64 c.st.1.2, .int .i64 c.st.2.1, .int .i64 c.st.2.2, .slice (some ⟨g, o, none⟩) c.n cap, .int .i64 c.fi.1.1, .int .i64 c.fi.1.2, .int .i64 c.fi.2.1, .int .i64 c.fi.2.2] 36 g o c.n c.mf wx) => (s.h.2.at hlt HK.out).2.1
        have re0 := fun s : Held (fun wx => CoS w #[.int .i64 c.st.1.1, .int .i64 c.st.1.2, .int .i64 c.st.2.1, .int .i64 c.st.2.2, .slice (some ⟨g, o, none⟩) c.n cap, .int .i64 c.fi.1.1, .int .i64 c.fi.1.2, .int .i64 c.fi.2.1, .int .i64 c.fi.2.2] 36 g o c.n c.mf wx) => (cells9 s.h.1.1).1
        have re1 := fun s : Held (fun wx => CoS w #[.int .i64 c.st.1.1, .int .i64 c.st.1.2, .int .i64 c.st.2.1, .int .i64 c.st.2.2, .slice (some ⟨g, o, none⟩) c.n cap, .int .i64 c.fi.1.1, .int .i64 c.fi.1.2, .int .i64 c.fi.2.1, .int .i64 c.fi.2.2] 36 g o c.n c.mf wx) => (cells9 s.h.1.1).2.1
        have re2 := fun s : Held (fun wx => CoS w #[.int .i64 c.st.1.1, .int .i64 c.st.1.2, .int .i64 c.st.2.1, .int .i64 c.st.2.2, .slice (some ⟨g, o, none⟩) c.n cap, .int .i64 c.fi.1.1, .int .i64 c.fi.1.2, .int .i64 c.fi.2.1, .int .i64 c.fi.2.2] 36 g o c.n c.mf wx) => (cells9 s.h.1.1).2.2.1
        have re3 := fun s : Held (fun wx => CoS w #[.int .i64 c.st.1.1, .int .i64 c.st.1.2, .int .i64 c.st.2.1, .int .i64 c.st.2.2, .slice (some ⟨g, o, none⟩) c.n cap, .int .i64 c.fi.1.1, .int .i64 c.fi.1.2, .int .i64 c.fi.2.1, .int .i64 c.fi.2.2] 36 g o c.n c.mf wx) => (cells9 s.h.1.1).2.2.2.1
        have re4 := fun s : Held (fun wx => CoS w #[.int .i64 c.st.1.1, .int .i64 c.st.1.2, .int .i64 c.st.2.1, .int .i64 c.st.2.2, .slice (some ⟨g, o, none⟩) c.n cap, .int .i64 c.fi.1.1, .int .i64 c.fi.1.2, .int .i64 c.fi.2.1, .int .i64 c.fi.2.2] 36 g o c.n c.mf wx) => (cells9 s.h.1.1).2.2.2.2.1
        have re5 := fun s : Held (fun wx => CoS w #[.int .i64 c.st.1.1, .int .i64 c.st.1.2, .int .i64 c.st.2.1, .int .i64 c.st.2.2, .slice (some ⟨g, o, none⟩) c.n cap, .int .i64 c.fi.1.1, .int .i64 c.fi.1.2, .int .i64 c.fi.2.1, .int .i64 c.fi.2.2] 36 g o c.n c.mf wx) => (cells9 s.h.1.1).2.2.2.2.2.1
        have re6 := fun s : Held (fun wx => CoS w #[.int .i64 c.st.1.1, .int .i64 c.st.1.2, .int .i64 c.st.2.1, .int .i64 c.st.2.2, .slice (some ⟨g, o, none⟩) c.n cap, .int .i64 c.fi.1.1, .int .i64 c.fi.1.2, .int .i64 c.fi.2.1, .int .i64 c.fi.2.2] 36 g o c.n c.mf wx) => (cells9 s.h.1.1).2.2.2.2.2.2.1
        have re7 := fun s : Held (fun wx => CoS w #[.int .i64 c.st.1.1, .int .i64 c.st.1.2, .int .i64 c.st.2.1, .int .i64 c.st.2.2, .slice (some ⟨g, o, none⟩) c.n cap, .int .i64 c.fi.1.1, .int .i64 c.fi.1.2, .int .i64 c.fi.2.1, .int .i64 c.fi.2.2] 36 g o c.n c.mf wx) => (cells9 s.h.1.1).2.2.2.2.2.2.2.1
        have re8 := fun s : Held (fun wx => CoS w #[.int .i64 c.st.1.1, .int .i64 c.st.1.2, .int .i64 c.st.2.1, .int .i64 c.st.2.2, .slice (some ⟨g, o, none⟩) c.n cap, .int .i64 c.fi.1.1, .int .i64 c.fi.1.2, .int .i64 c.fi.2.1, .int .i64 c.fi.2.2] 36 g o c.n c.mf wx) => (cells9 s.h.1.1).2.2.2.2.2.2.2.2
        have HP := Lib.hid (fun w => s_plB (x, y) w)
        have HO := Lib.hid (fun s : Held (fun wx => CoS w #[.int .i64 c.st.1.1, .int .i64 c.st.1.2, .int .i64 c.st.2.1, .int .i64 c.st.2.2, .slice (some ⟨g, o, none⟩) c.n cap, .int .i64 c.fi.1.1, .int .i64 c.fi.1.2, .int .i64 c.fi.2.1, .int .i64 c.fi.2.2] 36 g o c.n c.mf wx) => s_org c (some ⟨g, o, none⟩) g o cap k s.w (by omega) hn (fun _ => rfl) s.h.2)
        cases hp : plB (x, y)
        · have HN := Lib.hid (coB_no (c := c) (fun h => by have := (h.2.2.2 k hlt).1; rw [HK.out] at this; rw [this] at hp; cases hp))
          rw [hp] at HP
          clear hp
          go_wp2
          haveI hne : Nonempty (Held (fun wx => CoS w #[.int .i64 c.st.1.1, .int .i64 c.st.1.2, .int .i64 c.st.2.1, .int .i64 c.st.2.2, .slice (some ⟨g, o, none⟩) c.n cap, .int .i64 c.fi.1.1, .int .i64 c.fi.1.2, .int .i64 c.fi.2.1, .int .i64 c.fi.2.2] 36 g o c.n c.mf wx)) := ⟨⟨_, hst⟩⟩
          refine wp_region_class (fun wx => CoS w #[.int .i64 c.st.1.1, .int .i64 c.st.1.2, .int .i64 c.st.2.1, .int .i64 c.st.2.2, .slice (some ⟨g, o, none⟩) c.n cap, .int .i64 c.fi.1.1, .int .i64 c.fi.1.2, .int .i64 c.fi.2.1, .int .i64 c.fi.2.2] 36 g o c.n c.mf wx) (by kernel_rfl) (by kernel_rfl) (CoS.drew hst) ?_
          repeat (go_big_quiet_step (first
            | (go_at_call 14; with_reducible exact held_call CoS.step (HP.out _))
            | (go_at_call 60; with_reducible exact held_call CoS.step (HO.out _))))
          refine wpQuiet_nil ?_
          intro _ hw'
          obtain ⟨⟨wq, hst6⟩, rfl⟩ := hw'
          (try dsimp only)
          go_wp2
          go_ret
          exact ⟨by rw [HN.out]; rfl, hst6.below⟩
        · rw [hp] at HP
          have HPT := Lib.hid hp
          clear hp
          obtain ⟨⟨q1, q2⟩, hq⟩ : ∃ q, orgW c k = q := ⟨_, rfl⟩
          rw [hq] at HO
          dsimp only at HO
          obtain ⟨v1, e1'⟩ : ∃ v, (x == q1) = v := ⟨_, rfl⟩
          obtain ⟨v2, e2'⟩ : ∃ v, (y == q2) = v := ⟨_, rfl⟩
          have hb : (v1 = true ∧ v2 = true ∧ coB c = false) ∨ ((v1 && v2) = false ∧ MkOk c k) := by
            by_cases e : ((x, y) : Int × Int) = (q1, q2)
            · injection e with ea eb
              left
              refine ⟨by rw [← e1', ea]; simp, by rw [← e2', eb]; simp, coB_no (fun h => (h.2.2.2 k hlt).2 (by rw [HK.out, hq, ea, eb]))⟩
            · right
              refine ⟨?_, by unfold MkOk; rw [HK.out, hq]; exact ⟨HPT.out, e⟩⟩
              rw [← e1', ← e2']
              by_cases y1 : x = q1 <;> by_cases y2 : y = q2 <;> simp [y1, y2]
              subst y1 y2
              exact e rfl
          have HQ := Lib.hid hq
          clear hq
          rcases hb with ⟨rfl, rfl, hN⟩ | ⟨hv, hO⟩
          · have HN := Lib.hid hN
            clear hN
            go_wp2
            haveI hne : Nonempty (Held (fun wx => CoS w #[.int .i64 c.st.1.1, .int .i64 c.st.1.2, .int .i64 c.st.2.1, .int .i64 c.st.2.2, .slice (some ⟨g, o, none⟩) c.n cap, .int .i64 c.fi.1.1, .int .i64 c.fi.1.2, .int .i64 c.fi.2.1, .int .i64 c.fi.2.2] 36 g o c.n c.mf wx)) := ⟨⟨_, hst⟩⟩
            refine wp_region_class (fun wx => CoS w #[.int .i64 c.st.1.1, .int .i64 c.st.1.2, .int .i64 c.st.2.1, .int .i64 c.st.2.2, .slice (some ⟨g, o, none⟩) c.n cap, .int .i64 c.fi.1.1, .int .i64 c.fi.1.2, .int .i64 c.fi.2.1, .int .i64 c.fi.2.2] 36 g o c.n c.mf wx) (by kernel_rfl) (by kernel_rfl) (CoS.drew hst) ?_
            repeat (go_big_quiet_step (first
              | (go_at_call 14; with_reducible exact held_call CoS.step (HP.out _))
              | (go_at_call 60; with_reducible exact held_call CoS.step (HO.out _))))
            refine wpQuiet_nil ?_
            intro _ hw'
            obtain ⟨⟨wq, hst6⟩, rfl⟩ := hw'
            (try dsimp only)
            go_wp2
            go_ret
            exact ⟨by rw [HN.out]; rfl, hst6.below⟩
          · have HOr := HO
            clear HO
            have HO := Lib.hid hO
            clear hO
            cases v1 <;> cases v2
            case true.true => cases hv
            all_goals
              go_wp2
              haveI hne : Nonempty (Held (fun wx => CoS w #[.int .i64 c.st.1.1, .int .i64 c.st.1.2, .int .i64 c.st.2.1, .int .i64 c.st.2.2, .slice (some ⟨g, o, none⟩) c.n cap, .int .i64 c.fi.1.1, .int .i64 c.fi.1.2, .int .i64 c.fi.2.1, .int .i64 c.fi.2.2] 36 g o c.n c.mf wx)) := ⟨⟨_, hst⟩⟩
              refine wp_region_class (fun wx => CoS w #[.int .i64 c.st.1.1, .int .i64 c.st.1.2, .int .i64 c.st.2.1, .int .i64 c.st.2.2, .slice (some ⟨g, o, none⟩) c.n cap, .int .i64 c.fi.1.1, .int .i64 c.fi.1.2, .int .i64 c.fi.2.1, .int .i64 c.fi.2.2] 36 g o c.n c.mf wx) (by kernel_rfl) (by kernel_rfl) (CoS.drew hst) ?_
              repeat (go_big_quiet_step (first
                | (go_at_call 14; with_reducible exact held_call CoS.step (HP.out _))
                | (go_at_call 60; with_reducible exact held_call CoS.step (HOr.out _))))
              refine wpQuiet_nil ?_
              intro _ hw'
              obtain ⟨⟨wq, hst6⟩, rfl⟩ := hw'
              (try dsimp only)
              all_goals
                go_wp2_with fail
                go_roundw
                case rel => exact ⟨k + 1, by omega, by go_num, (fun j hj => by
                  rcases Nat.lt_or_ge j k with h' | h'
                  · exact HA.out j h'
                  · rw [show j = k by omega]; exact HO.out), hst6⟩
                case measure => simp [intOf]; omega
      · obtain rfl : k = c.n := by omega
        have HN := Lib.hid (show coB c = true from coB_iff.2 ⟨HV.out.1, HV.out.2.1, (by have := HV.out.2.2; omega), HA.out⟩)
        have z1 : ¬ (c.n : Int) < (c.n : Int) := by omega
        go_wp2
        go_ret
        exact ⟨by rw [HN.out]; rfl, hst.below⟩
  · have HI := Lib.hid (fun w => s_inW (c.n : Int) 1 20 false w (by rw [eq_comm]; exact decide_eq_false h3))
    have HN := Lib.hid (coB_no (c := c) (fun h => h3 (by have := h.2.2.1; omega)))
    clear h1 h2 h3
    go_enter Try.func23, Try.ntmps23
    obtain ⟨e0, e1, e2, e3, e4, e5, e6, e7, e8⟩ := cells9 hs.out.1.1
    go_wp2_with fail
    refine (HL.out _).mono ?_
    rintro e w1 ⟨rfl, b⟩
    have hs' := Lib.hid (hs.out.step b)
    clear hs b e0 e1 e2 e3 e4 e5 e6 e7 e8
    have hs := hs'
    clear hs'
    obtain ⟨e0, e1, e2, e3, e4, e5, e6, e7, e8⟩ := cells9 hs.out.1.1
    go_wp2_with fail
    refine (HF.out _).mono ?_
    rintro e w2 ⟨rfl, b⟩
    have hs' := Lib.hid (hs.out.step b)
    clear hs b e0 e1 e2 e3 e4 e5 e6 e7 e8
    have hs := hs'
    clear hs'
    obtain ⟨e0, e1, e2, e3, e4, e5, e6, e7, e8⟩ := cells9 hs.out.1.1
    go_wp2_with fail
    refine (HI.out _).mono ?_
    rintro e w3 ⟨rfl, b⟩
    have hs' := Lib.hid (hs.out.step b)
    clear hs b e0 e1 e2 e3 e4 e5 e6 e7 e8
    have hs := hs'
    clear hs'
    go_wp2
    go_ret
    exact ⟨by rw [HN.out]; rfl, hs.out.below⟩
end Go.Proofs.Ythahakefmpajfaa

/- The law FnCutTrack: a step that is cut in its middle crosses a line alike, and at the same second. -/
import Derived.Test.YtnpgppenkpkfnaaLjT
namespace Go.Proofs.Ytnpgppenkpkfnaa
open Go.RowKit
set_option linter.unusedVariables false
set_option linter.unusedSimpArgs false

/-- A row of two sights, of three. -/
theorem sigs_two {w : World} {g : Nat} {s t : Sg} (h : w.heap[g]? = some (.cells #[.int .i64 s.1.1, .int .i64 s.1.2, .int .i64 s.2, .int .i64 t.1.1, .int .i64 t.1.2, .int .i64 t.2] 29 (0, 0))) : SigsIn w g 0 2 (two s t) := fun j hj => by
  have h2 : j = 0 ∨ j = 1 := by omega
  rcases h2 with rfl | rfl
  · exact ⟨cell_of_row _ _ 0 _ _ _ h, cell_of_row _ _ 1 _ _ _ h, cell_of_row _ _ 2 _ _ _ h⟩
  · exact ⟨cell_of_row _ _ 3 _ _ _ h, cell_of_row _ _ 4 _ _ _ h, cell_of_row _ _ 5 _ _ _ h⟩
theorem sigs_three {w : World} {g : Nat} {s m t : Sg} (h : w.heap[g]? = some (.cells #[.int .i64 s.1.1, .int .i64 s.1.2, .int .i64 s.2, .int .i64 m.1.1, .int .i64 m.1.2, .int .i64 m.2, .int .i64 t.1.1, .int .i64 t.1.2, .int .i64 t.2] 29 (0, 0))) : SigsIn w g 0 3 (three s m t) := fun j hj => by
  have h2 : j = 0 ∨ j = 1 ∨ j = 2 := by omega
  rcases h2 with rfl | rfl | rfl
  · exact ⟨cell_of_row _ _ 0 _ _ _ h, cell_of_row _ _ 1 _ _ _ h, cell_of_row _ _ 2 _ _ _ h⟩
  · exact ⟨cell_of_row _ _ 3 _ _ _ h, cell_of_row _ _ 4 _ _ _ h, cell_of_row _ _ 5 _ _ _ h⟩
  · exact ⟨cell_of_row _ _ 6 _ _ _ h, cell_of_row _ _ 7 _ _ _ h, cell_of_row _ _ 8 _ _ _ h⟩
theorem tk2_at (s t : Sg) (W : World) (q : Nat) (hq : W.heap.size = q) :
    Calls Try.prog 19 #[.slice (some ⟨q, 0, none⟩) 2 2] (W.alloc (.cells #[.int .i64 s.1.1, .int .i64 s.1.2, .int .i64 s.2, .int .i64 t.1.1, .int .i64 t.1.2, .int .i64 t.2] 29))
      fun e w' => e = .returned (.bool (tk2 s t)) ∧ Below W.heap.size W w' := by
  subst hq
  exact s_tk2 s t W
set_option maxRecDepth 100000 in
set_option maxHeartbeats 2000000 in
theorem w_FnCutTrack (a0 : Option Addr) (len cap : Nat) (zs : List Int) (w : World) (hr : IsRow .u8 w a0 len cap zs) :
    Calls Try.prog 3 #[.slice a0 len cap] w fun e w' => e = .returned (.bool true) ∧ Below w.heap.size w w' := by
  by_cases hbig : len ≤ 1048576
  · have hcode := code_of_row hr hbig
    go_enter Try.func3, Try.ntmps3
    go_wp2_with (first
      | (go_at_call 16; go_in)
      | (go_at_call 17; ((with_reducible refine (d_crossTime _ len cap a0 hcode).mono ?_); rintro e w1 ⟨l, s, t, rfl, b1⟩)))
    have hs0 := (((Bxs.nil b1).add (q := w1.heap.size) rfl #[.int .i64 l.1.1, .int .i64 l.1.2, .int .i64 l.2.1, .int .i64 l.2.2] 27).add (q := w1.heap.size + 1) (by simp) #[.int .i64 s.1.1, .int .i64 s.1.2, .int .i64 s.2] 29).add (q := w1.heap.size + 2) (by simp) #[.int .i64 t.1.1, .int .i64 t.1.2, .int .i64 t.2] 29
    have hs := Lib.hid hs0
    clear hs0 b1 hcode hr hbig
    have HM := Lib.hid (fun w => l_mid s.1 t.1 w)
    have HT := Lib.hid (fun W q (hq : W.heap.size = q) => tk2_at s t W q hq)
    have HL := Lib.hid (fun w => s_liB l w)
    have hq : tk2 s t = false ∨ (tk2 s t = true ∧ liB l = false) ∨ (tk2 s t = true ∧ liB l = true) := by cases tk2 s t <;> cases liB l <;> simp
    rcases hq with ht | ⟨ht, hl⟩ | ⟨ht, hl⟩
    · rw [ht] at HT
      clear ht HL
      generalize mwP s.1 t.1 = m at *
      generalize ewP s.1 t.1 = u at *
      obtain ⟨⟨x1, x2⟩, x3, x4⟩ := l
      obtain ⟨⟨y1, y2⟩, y3⟩ := s
      obtain ⟨⟨z1, z2⟩, z3⟩ := t
      obtain ⟨m1, m2⟩ := m
      obtain ⟨u1, u2⟩ := u
      dsimp only at *
      generalize w1.heap.size = q at *
      obtain ⟨c20, c21, c22⟩ := cells3 (hs.out.1 _ (.head _))
      obtain ⟨c10, c11, c12⟩ := cells3 (hs.out.1 _ (.tail _ (.head _)))
      obtain ⟨c00, c01, c02, c03⟩ := cells4 (hs.out.1 _ (.tail _ (.tail _ (.head _))))
      go_wp2_with fail
      refine (HM.out _).mono ?_
      rintro e w2 ⟨rfl, b⟩
      have hs1 := (hs.out.step b)
      clear hs b c00 c01 c02 c03 c10 c11 c12 c20 c21 c22
      have hs2 := (hs1.add rfl #[.int .i64 m1, .int .i64 m2] 25).add (q := w2.heap.size + 1) (by simp) #[.int .i64 u1, .int .i64 u2] 25
      have hs := Lib.hid hs2
      clear hs1 hs2
      obtain ⟨c20, c21, c22⟩ := cells3 (hs.out.1 _ (.tail _ (.tail _ (.head _))))
      obtain ⟨c10, c11, c12⟩ := cells3 (hs.out.1 _ (.tail _ (.tail _ (.tail _ (.head _)))))
      obtain ⟨c00, c01, c02, c03⟩ := cells4 (hs.out.1 _ (.tail _ (.tail _ (.tail _ (.tail _ (.head _))))))
      by_cases hh : wrap64 ((wrap64 (z3 - y3)).tdiv 2) < 1
      · go_wp2
        go_ret
        exact ⟨rfl, hs.out.2⟩
      · go_wp2_with fail
        refine (HT.out _ _ (by simp)).mono ?_
        rintro e w3 ⟨rfl, b⟩
        have hs3 := Lib.hid (hs.out.step b)
        clear hs b c00 c01 c02 c03 c10 c11 c12 c20 c21 c22
        go_wp2
        go_ret
        exact ⟨rfl, hs3.out.2⟩
    · rw [ht] at HT
      rw [hl] at HL
      clear ht hl
      generalize mwP s.1 t.1 = m at *
      generalize ewP s.1 t.1 = u at *
      obtain ⟨⟨x1, x2⟩, x3, x4⟩ := l
      obtain ⟨⟨y1, y2⟩, y3⟩ := s
      obtain ⟨⟨z1, z2⟩, z3⟩ := t
      obtain ⟨m1, m2⟩ := m
      obtain ⟨u1, u2⟩ := u
      dsimp only at *
      generalize w1.heap.size = q at *
      obtain ⟨c20, c21, c22⟩ := cells3 (hs.out.1 _ (.head _))
      obtain ⟨c10, c11, c12⟩ := cells3 (hs.out.1 _ (.tail _ (.head _)))
      obtain ⟨c00, c01, c02, c03⟩ := cells4 (hs.out.1 _ (.tail _ (.tail _ (.head _))))
      go_wp2_with fail
      refine (HM.out _).mono ?_
      rintro e w2 ⟨rfl, b⟩
      have hs1 := (hs.out.step b)
      clear hs b c00 c01 c02 c03 c10 c11 c12 c20 c21 c22
      have hs2 := (hs1.add rfl #[.int .i64 m1, .int .i64 m2] 25).add (q := w2.heap.size + 1) (by simp) #[.int .i64 u1, .int .i64 u2] 25
      have hs := Lib.hid hs2
      clear hs1 hs2
      obtain ⟨c20, c21, c22⟩ := cells3 (hs.out.1 _ (.tail _ (.tail _ (.head _))))
      obtain ⟨c10, c11, c12⟩ := cells3 (hs.out.1 _ (.tail _ (.tail _ (.tail _ (.head _)))))
      obtain ⟨c00, c01, c02, c03⟩ := cells4 (hs.out.1 _ (.tail _ (.tail _ (.tail _ (.tail _ (.head _))))))
      by_cases hh : wrap64 ((wrap64 (z3 - y3)).tdiv 2) < 1
      · go_wp2
        go_ret
        exact ⟨rfl, hs.out.2⟩
      · go_wp2_with fail
        refine (HT.out _ _ (by simp)).mono ?_
        rintro e w3 ⟨rfl, b⟩
        have hs3 := Lib.hid (hs.out.step b)
        clear hs b c00 c01 c02 c03 c10 c11 c12 c20 c21 c22
        have hs := hs3
        clear hs3
        obtain ⟨c20, c21, c22⟩ := cells3 (hs.out.1 _ (.tail _ (.tail _ (.head _))))
        obtain ⟨c10, c11, c12⟩ := cells3 (hs.out.1 _ (.tail _ (.tail _ (.tail _ (.head _)))))
        obtain ⟨c00, c01, c02, c03⟩ := cells4 (hs.out.1 _ (.tail _ (.tail _ (.tail _ (.tail _ (.head _))))))
        go_wp2_with fail
        refine (HL.out _).mono ?_
        rintro e w4 ⟨rfl, b⟩
        have hs3 := Lib.hid (hs.out.step b)
        clear hs b c00 c01 c02 c03 c10 c11 c12 c20 c21 c22
        go_wp2
        go_ret
        exact ⟨rfl, hs3.out.2⟩
    · obtain ⟨pa, pb, bs, bt, lt⟩ := tk2_iff.1 ht
      obtain ⟨pm, pu⟩ := mid_ok pa pb
      obtain ⟨ee1, ee2⟩ := mw_eq pa pb
      rw [ee1, ee2] at HM
      have hb2 := (half_bd (t.2 - s.2)).1 (by omega)
      have X1 := Lib.hid (fun w => i_cr l s.1 (endP s.1 t.1) w)
      have X2 := Lib.hid (fun w => s_cr l s.1 (endP s.1 t.1) w)
      have X3 := Lib.hid (fun w => i_cr l s.1 (midP s.1 t.1) w)
      have X4 := Lib.hid (fun w => i_cr l (midP s.1 t.1) (endP s.1 t.1) w)
      rw [cut_cr hl pa pb] at X1 X2
      have cb1 := crW_bd l s.1 (midP s.1 t.1)
      have cb2 := crW_bd l (midP s.1 t.1) (endP s.1 t.1)
      generalize crW l s.1 (midP s.1 t.1) = k1 at *
      generalize crW l (midP s.1 t.1) (endP s.1 t.1) = k2 at *
      obtain ⟨H, hH⟩ : ∃ H, (t.2 - s.2).tdiv 2 = H := ⟨_, rfl⟩
      rw [hH] at hb2
      by_cases h1 : 1 ≤ H
      · have HS2 := Lib.hid (fun g w (h : SigsIn w g 0 2 (two s (endP s.1 t.1, s.2 + 2 * H))) => i_start l (two s (endP s.1 t.1, s.2 + 2 * H)) (some ⟨g, 0, none⟩) g 0 2 2 s.2 w (by omega) (fun _ => rfl) h)
        have HS3 := Lib.hid (fun g w (h : SigsIn w g 0 3 (three s (midP s.1 t.1, s.2 + H) (endP s.1 t.1, s.2 + 2 * H))) => i_start l (three s (midP s.1 t.1, s.2 + H) (endP s.1 t.1, s.2 + 2 * H)) (some ⟨g, 0, none⟩) g 0 3 3 s.2 w (by omega) (fun _ => rfl) h)
        have HE := Lib.hid (fun g w (h : SigsIn w g 0 2 (two s (endP s.1 t.1, s.2 + 2 * H))) => i_early l (two s (endP s.1 t.1, s.2 + 2 * H)) (some ⟨g, 0, none⟩) g 0 2 2 (s.2 + H) w (by omega) (fun _ => rfl) h)
        have HD := Lib.hid (fun w => i_SideOf l (midP s.1 t.1) w)
        have hbd := hb2 
        rw [cut_start hl ht h1 (by omega)] at HS3
        have hee := cut_early hl ht h1 (by omega)
        generalize eaR l 2 (two s (endP s.1 t.1, s.2 + 2 * H)) (s.2 + H) = eb at *
        generalize sdW l (midP s.1 t.1) = sd at *
        obtain ⟨r1, r2⟩ : ∃ R, stR l 2 (two s (endP s.1 t.1, s.2 + 2 * H)) s.2 = R := ⟨_, rfl⟩
        rw [r2] at HS2 HS3
        obtain ⟨n1, n2⟩ := r1
        rw [ht] at HT
        rw [hl] at HL
        have G2 := Lib.hid (fun (g : Nat) (w : World) => @sigs_two w g s (endP s.1 t.1, s.2 + 2 * H))
        have G3 := Lib.hid (fun (g : Nat) (w : World) => @sigs_three w g s (midP s.1 t.1, s.2 + H) (endP s.1 t.1, s.2 + 2 * H))
        have HS2' := Lib.hid (fun g w h => HS2.out g w (G2.out g w h))
        have HS3' := Lib.hid (fun g w h => HS3.out g w (G3.out g w h))
        have HE' := Lib.hid (fun g w h => HE.out g w (G2.out g w h))
        clear r2 ht hl pa pb pm pu ee1 ee2 HS2 HS3 HE G2 G3
        generalize midP s.1 t.1 = m at *
        generalize endP s.1 t.1 = u at *
        obtain ⟨⟨x1, x2⟩, x3, x4⟩ := l
        obtain ⟨⟨y1, y2⟩, y3⟩ := s
        obtain ⟨⟨z1, z2⟩, z3⟩ := t
        obtain ⟨m1, m2⟩ := m
        obtain ⟨u1, u2⟩ := u
        dsimp only at *
        generalize w1.heap.size = q at *
        obtain ⟨c20, c21, c22⟩ := cells3 (hs.out.1 _ (.head _))
        obtain ⟨c10, c11, c12⟩ := cells3 (hs.out.1 _ (.tail _ (.head _)))
        obtain ⟨c00, c01, c02, c03⟩ := cells4 (hs.out.1 _ (.tail _ (.tail _ (.head _))))
        go_wp2_with fail
        refine (HM.out _).mono ?_
        rintro e w2 ⟨rfl, b⟩
        have hs1 := (hs.out.step b)
        clear hs b c00 c01 c02 c03 c10 c11 c12 c20 c21 c22
        have hs2 := (hs1.add rfl #[.int .i64 m1, .int .i64 m2] 25).add (q := w2.heap.size + 1) (by simp) #[.int .i64 u1, .int .i64 u2] 25
        have hs := Lib.hid hs2
        clear hs1 hs2
        obtain ⟨c20, c21, c22⟩ := cells3 (hs.out.1 _ (.tail _ (.tail _ (.head _))))
        obtain ⟨c10, c11, c12⟩ := cells3 (hs.out.1 _ (.tail _ (.tail _ (.tail _ (.head _)))))
        obtain ⟨c00, c01, c02, c03⟩ := cells4 (hs.out.1 _ (.tail _ (.tail _ (.tail _ (.tail _ (.head _))))))
        have f1 : ¬ (z3 - y3).tdiv 2 < 1 := by rw [hH]; omega
        have f2 : 0 ≤ (z3 - y3).tdiv 2 ∧ 2 * (z3 - y3).tdiv 2 ≤ z3 - y3 := by rw [hH]; omega
        go_wp2_with fail
        refine (HT.out _ _ (by simp)).mono ?_
        rintro e w3 ⟨rfl, b⟩
        have hs3 := Lib.hid (hs.out.step b)
        clear hs b c00 c01 c02 c03 c10 c11 c12 c20 c21 c22
        have hs := hs3
        clear hs3
        obtain ⟨c20, c21, c22⟩ := cells3 (hs.out.1 _ (.tail _ (.tail _ (.head _))))
        obtain ⟨c10, c11, c12⟩ := cells3 (hs.out.1 _ (.tail _ (.tail _ (.tail _ (.head _)))))
        obtain ⟨c00, c01, c02, c03⟩ := cells4 (hs.out.1 _ (.tail _ (.tail _ (.tail _ (.tail _ (.head _))))))
        go_wp2_with fail
        refine (HL.out _).mono ?_
        rintro e w4 ⟨rfl, b⟩
        have hs3 := Lib.hid (hs.out.step b)
        clear hs b c00 c01 c02 c03 c10 c11 c12 c20 c21 c22
        have hs := hs3
        clear hs3
        clear f1 f2 hH HT HL HM
        have g0 : 0 ≤ H ∧ 2 * H ≤ z3 - y3 := by omega
        obtain ⟨c20, c21, c22⟩ := cells3 (hs.out.1 _ (.tail _ (.tail _ (.head _))))
        obtain ⟨c10, c11, c12⟩ := cells3 (hs.out.1 _ (.tail _ (.tail _ (.tail _ (.head _)))))
        obtain ⟨c00, c01, c02, c03⟩ := cells4 (hs.out.1 _ (.tail _ (.tail _ (.tail _ (.tail _ (.head _))))))
        obtain ⟨c30, c31⟩ := cells2 (hs.out.1 _ (.head _))
        obtain ⟨c40, c41⟩ := cells2 (hs.out.1 _ (.tail _ (.head _)))
        have hs7 := (hs.out.add rfl #[.int .i64 m1, .int .i64 m2, .int .i64 (y3 + H)] 29).add (q := w4.heap.size + 1) (by simp) #[.int .i64 u1, .int .i64 u2, .int .i64 (y3 + 2 * H)] 29
        have HW := Lib.hid hs7
        have hs6 := hs.out.add rfl #[.int .i64 m1, .int .i64 m2, .int .i64 (y3 + H)] 29
        obtain ⟨d30, d31⟩ := cells2 (hs6.1 _ (.tail _ (.head _)))
        obtain ⟨d10, d11, d12⟩ := cells3 (hs6.1 _ (.tail _ (.tail _ (.tail _ (.tail _ (.head _))))))
        clear hs hs7 hs6
        go_wp2
        generalize w2.heap.size = p at *
        generalize w4.heap.size = v at *
        clear c00 c01 c02 c03 c10 c11 c12 c20 c21 c22 c30 c31 c40 c41 d30 d31 d10 d11 d12
        have kk : (k1 + k2 == k1 + k2) = true := by simp
        have kw : IntKind.i64.wrap (k1 + k2) = k1 + k2 := IntWalk.i64_in _ (by omega)
        have hst := HW.out
        have ru0 := fun s : Held (fun wx => Bxs w ((v + 1, #[.int .i64 u1, .int .i64 u2, .int .i64 (y3 + 2 * H)], 29) :: (v, #[.int .i64 m1, .int .i64 m2, .int .i64 (y3 + H)], 29) :: ((p + 1, #[.int .i64 u1, .int .i64 u2], 25) :: (p, #[.int .i64 m1, .int .i64 m2], 25) :: [(q + 2, #[.int .i64 z1, .int .i64 z2, .int .i64 z3], 29), (q + 1, #[.int .i64 y1, .int .i64 y2, .int .i64 y3], 29), (q, #[.int .i64 x1, .int .i64 x2, .int .i64 x3, .int .i64 x4], 27)])) wx) => (cells2 (s.h.1 _ (.tail _ (.tail _ (.head _))))).1
        have ru1 := fun s : Held (fun wx => Bxs w ((v + 1, #[.int .i64 u1, .int .i64 u2, .int .i64 (y3 + 2 * H)], 29) :: (v, #[.int .i64 m1, .int .i64 m2, .int .i64 (y3 + H)], 29) :: ((p + 1, #[.int .i64 u1, .int .i64 u2], 25) :: (p, #[.int .i64 m1, .int .i64 m2], 25) :: [(q + 2, #[.int .i64 z1, .int .i64 z2, .int .i64 z3], 29), (q + 1, #[.int .i64 y1, .int .i64 y2, .int .i64 y3], 29), (q, #[.int .i64 x1, .int .i64 x2, .int .i64 x3, .int .i64 x4], 27)])) wx) => (cells2 (s.h.1 _ (.tail _ (.tail _ (.head _))))).2
        have rm0 := fun s : Held (fun wx => Bxs w ((v + 1, #[.int .i64 u1, .int .i64 u2, .int .i64 (y3 + 2 * H)], 29) :: (v, #[.int .i64 m1, .int .i64 m2, .int .i64 (y3 + H)], 29) :: ((p + 1, #[.int .i64 u1, .int .i64 u2], 25) :: (p, #[.int .i64 m1, .int .i64 m2], 25) :: [(q + 2, #[.int .i64 z1, .int .i64 z2, .int .i64 z3], 29), (q + 1, #[.int .i64 y1, .int .i64 y2, .int .i64 y3], 29), (q, #[.int .i64 x1, .int .i64 x2, .int .i64 x3, .int .i64 x4], 27)])) wx) => (cells2 (s.h.1 _ (.tail _ (.tail _ (.tail _ (.head _)))))).1
        have rm1 := fun s : Held (fun wx => Bxs w ((v + 1, #[.int .i64 u1, .int .i64 u2, .int .i64 (y3 + 2 * H)], 29) :: (v, #[.int .i64 m1, .int .i64 m2, .int .i64 (y3 + H)], 29) :: ((p + 1, #[.int .i64 u1, .int .i64 u2], 25) :: (p, #[.int .i64 m1, .int .i64 m2], 25) :: [(q + 2, #[.int .i64 z1, .int .i64 z2, .int .i64 z3], 29), (q + 1, #[.int .i64 y1, .int .i64 y2, .int .i64 y3], 29), (q, #[.int .i64 x1, .int .i64 x2, .int .i64 x3, .int .i64 x4], 27)])) wx) => (cells2 (s.h.1 _ (.tail _ (.tail _ (.tail _ (.head _)))))).2
        have rs0 := fun s : Held (fun wx => Bxs w ((v + 1, #[.int .i64 u1, .int .i64 u2, .int .i64 (y3 + 2 * H)], 29) :: (v, #[.int .i64 m1, .int .i64 m2, .int .i64 (y3 + H)], 29) :: ((p + 1, #[.int .i64 u1, .int .i64 u2], 25) :: (p, #[.int .i64 m1, .int .i64 m2], 25) :: [(q + 2, #[.int .i64 z1, .int .i64 z2, .int .i64 z3], 29), (q + 1, #[.int .i64 y1, .int .i64 y2, .int .i64 y3], 29), (q, #[.int .i64 x1, .int .i64 x2, .int .i64 x3, .int .i64 x4], 27)])) wx) => (cells3 (s.h.1 _ (.tail _ (.tail _ (.tail _ (.tail _ (.tail _ (.head _)))))))).1
        have rs1 := fun s : Held (fun wx => Bxs w ((v + 1, #[.int .i64 u1, .int .i64 u2, .int .i64 (y3 + 2 * H)], 29) :: (v, #[.int .i64 m1, .int .i64 m2, .int .i64 (y3 + H)], 29) :: ((p + 1, #[.int .i64 u1, .int .i64 u2], 25) :: (p, #[.int .i64 m1, .int .i64 m2], 25) :: [(q + 2, #[.int .i64 z1, .int .i64 z2, .int .i64 z3], 29), (q + 1, #[.int .i64 y1, .int .i64 y2, .int .i64 y3], 29), (q, #[.int .i64 x1, .int .i64 x2, .int .i64 x3, .int .i64 x4], 27)])) wx) => (cells3 (s.h.1 _ (.tail _ (.tail _ (.tail _ (.tail _ (.tail _ (.head _)))))))).2.1
        have rs2 := fun s : Held (fun wx => Bxs w ((v + 1, #[.int .i64 u1, .int .i64 u2, .int .i64 (y3 + 2 * H)], 29) :: (v, #[.int .i64 m1, .int .i64 m2, .int .i64 (y3 + H)], 29) :: ((p + 1, #[.int .i64 u1, .int .i64 u2], 25) :: (p, #[.int .i64 m1, .int .i64 m2], 25) :: [(q + 2, #[.int .i64 z1, .int .i64 z2, .int .i64 z3], 29), (q + 1, #[.int .i64 y1, .int .i64 y2, .int .i64 y3], 29), (q, #[.int .i64 x1, .int .i64 x2, .int .i64 x3, .int .i64 x4], 27)])) wx) => (cells3 (s.h.1 _ (.tail _ (.tail _ (.tail _ (.tail _ (.tail _ (.head _)))))))).2.2
        have rl0 := fun s : Held (fun wx => Bxs w ((v + 1, #[.int .i64 u1, .int .i64 u2, .int .i64 (y3 + 2 * H)], 29) :: (v, #[.int .i64 m1, .int .i64 m2, .int .i64 (y3 + H)], 29) :: ((p + 1, #[.int .i64 u1, .int .i64 u2], 25) :: (p, #[.int .i64 m1, .int .i64 m2], 25) :: [(q + 2, #[.int .i64 z1, .int .i64 z2, .int .i64 z3], 29), (q + 1, #[.int .i64 y1, .int .i64 y2, .int .i64 y3], 29), (q, #[.int .i64 x1, .int .i64 x2, .int .i64 x3, .int .i64 x4], 27)])) wx) => (cells4 (s.h.1 _ (.tail _ (.tail _ (.tail _ (.tail _ (.tail _ (.tail _ (.head _))))))))).1
        have rl1 := fun s : Held (fun wx => Bxs w ((v + 1, #[.int .i64 u1, .int .i64 u2, .int .i64 (y3 + 2 * H)], 29) :: (v, #[.int .i64 m1, .int .i64 m2, .int .i64 (y3 + H)], 29) :: ((p + 1, #[.int .i64 u1, .int .i64 u2], 25) :: (p, #[.int .i64 m1, .int .i64 m2], 25) :: [(q + 2, #[.int .i64 z1, .int .i64 z2, .int .i64 z3], 29), (q + 1, #[.int .i64 y1, .int .i64 y2, .int .i64 y3], 29), (q, #[.int .i64 x1, .int .i64 x2, .int .i64 x3, .int .i64 x4], 27)])) wx) => (cells4 (s.h.1 _ (.tail _ (.tail _ (.tail _ (.tail _ (.tail _ (.tail _ (.head _))))))))).2.1
        have rl2 := fun s : Held (fun wx => Bxs w ((v + 1, #[.int .i64 u1, .int .i64 u2, .int .i64 (y3 + 2 * H)], 29) :: (v, #[.int .i64 m1, .int .i64 m2, .int .i64 (y3 + H)], 29) :: ((p + 1, #[.int .i64 u1, .int .i64 u2], 25) :: (p, #[.int .i64 m1, .int .i64 m2], 25) :: [(q + 2, #[.int .i64 z1, .int .i64 z2, .int .i64 z3], 29), (q + 1, #[.int .i64 y1, .int .i64 y2, .int .i64 y3], 29), (q, #[.int .i64 x1, .int .i64 x2, .int .i64 x3, .int .i64 x4], 27)])) wx) => (cells4 (s.h.1 _ (.tail _ (.tail _ (.tail _ (.tail _ (.tail _ (.tail _ (.head _))))))))).2.2.1
        have rl3 := fun s : Held (fun wx => Bxs w ((v + 1, #[.int .i64 u1, .int .i64 u2, .int .i64 (y3 + 2 * H)], 29) :: (v, #[.int .i64 m1, .int .i64 m2, .int .i64 (y3 + H)], 29) :: ((p + 1, #[.int .i64 u1, .int .i64 u2], 25) :: (p, #[.int .i64 m1, .int .i64 m2], 25) :: [(q + 2, #[.int .i64 z1, .int .i64 z2, .int .i64 z3], 29), (q + 1, #[.int .i64 y1, .int .i64 y2, .int .i64 y3], 29), (q, #[.int .i64 x1, .int .i64 x2, .int .i64 x3, .int .i64 x4], 27)])) wx) => (cells4 (s.h.1 _ (.tail _ (.tail _ (.tail _ (.tail _ (.tail _ (.tail _ (.head _))))))))).2.2.2
        haveI hne : Nonempty (Held fun wx => Bxs w ((v + 1, #[.int .i64 u1, .int .i64 u2, .int .i64 (y3 + 2 * H)], 29) :: (v, #[.int .i64 m1, .int .i64 m2, .int .i64 (y3 + H)], 29) :: ((p + 1, #[.int .i64 u1, .int .i64 u2], 25) :: (p, #[.int .i64 m1, .int .i64 m2], 25) :: [(q + 2, #[.int .i64 z1, .int .i64 z2, .int .i64 z3], 29), (q + 1, #[.int .i64 y1, .int .i64 y2, .int .i64 y3], 29), (q, #[.int .i64 x1, .int .i64 x2, .int .i64 x3, .int .i64 x4], 27)])) wx) := ⟨⟨_, hst⟩⟩
        refine wp_region_class (fun wx => Bxs w ((v + 1, #[.int .i64 u1, .int .i64 u2, .int .i64 (y3 + 2 * H)], 29) :: (v, #[.int .i64 m1, .int .i64 m2, .int .i64 (y3 + H)], 29) :: ((p + 1, #[.int .i64 u1, .int .i64 u2], 25) :: (p, #[.int .i64 m1, .int .i64 m2], 25) :: [(q + 2, #[.int .i64 z1, .int .i64 z2, .int .i64 z3], 29), (q + 1, #[.int .i64 y1, .int .i64 y2, .int .i64 y3], 29), (q, #[.int .i64 x1, .int .i64 x2, .int .i64 x3, .int .i64 x4], 27)])) wx) (by kernel_rfl) (by kernel_rfl) (Bxs.drew hst) ?_
        repeat (go_big_quiet_step (first
          | (go_at_call 21; with_reducible exact held_call Bxs.step (X1.out _))
          | (go_at_call 22; with_reducible exact held_call Bxs.step (X2.out _))
          | (go_at_call 21; with_reducible exact held_call Bxs.step (X3.out _))
          | (go_at_call 21; with_reducible exact held_call Bxs.step (X4.out _))))
        refine wpQuiet_nil ?_
        intro wq hw'
        obtain ⟨⟨wq1, hst6⟩, rfl⟩ := hw'
        (try dsimp only)
        clear HW ru0 ru1 rm0 rm1 rs0 rs1 rs2 rl0 rl1 rl2 rl3 X1 X2 X3 X4 kk kw hst
        have hs8 := Lib.hid ((hst6.add rfl #[.int .i64 y1, .int .i64 y2, .int .i64 y3, .int .i64 u1, .int .i64 u2, .int .i64 (y3 + 2 * H)] 29).add (q := wq.heap.size + 1) (by simp) #[.int .i64 y1, .int .i64 y2, .int .i64 y3, .int .i64 m1, .int .i64 m2, .int .i64 (y3 + H), .int .i64 u1, .int .i64 u2, .int .i64 (y3 + 2 * H)] 29)
        have hs7 := hst6.add rfl #[.int .i64 y1, .int .i64 y2, .int .i64 y3, .int .i64 u1, .int .i64 u2, .int .i64 (y3 + 2 * H)] 29
        obtain ⟨e00, e01, e02⟩ := cells3 (hst6.1 _ (.head _))
        obtain ⟨e10, e11, e12⟩ := cells3 (hst6.1 _ (.tail _ (.head _)))
        obtain ⟨e20, e21, e22⟩ := cells3 (hst6.1 _ (.tail _ (.tail _ (.tail _ (.tail _ (.tail _ (.head _)))))))
        obtain ⟨g00, g01, g02⟩ := cells3 (hs7.1 _ (.tail _ (.head _)))
        obtain ⟨g10, g11, g12⟩ := cells3 (hs7.1 _ (.tail _ (.tail _ (.head _))))
        obtain ⟨g20, g21, g22⟩ := cells3 (hs7.1 _ (.tail _ (.tail _ (.tail _ (.tail _ (.tail _ (.tail _ (.head _))))))))
        clear hst6 hs7
        obtain ⟨c10, c11, c12⟩ := cells3 (hs8.out.1 _ (.tail _ (.tail _ (.tail _ (.tail _ (.tail _ (.tail _ (.tail _ (.head _)))))))))
        obtain ⟨c00, c01, c02, c03⟩ := cells4 (hs8.out.1 _ (.tail _ (.tail _ (.tail _ (.tail _ (.tail _ (.tail _ (.tail _ (.tail _ (.head _))))))))))
        go_wp2_with fail
        refine (HS2'.out _ _ (hs8.out.1 _ (.tail _ (.head _)))).mono ?_
        rintro e w5 ⟨rfl, b⟩
        have hs9 := Lib.hid (hs8.out.step b)
        clear hs8 b c00 c01 c02 c03 c10 c11 c12 e00 e01 e02 e10 e11 e12 e20 e21 e22 g00 g01 g02 g10 g11 g12 g20 g21 g22
        have hs8 := hs9
        clear hs9
        obtain ⟨c10, c11, c12⟩ := cells3 (hs8.out.1 _ (.tail _ (.tail _ (.tail _ (.tail _ (.tail _ (.tail _ (.tail _ (.head _)))))))))
        obtain ⟨c00, c01, c02, c03⟩ := cells4 (hs8.out.1 _ (.tail _ (.tail _ (.tail _ (.tail _ (.tail _ (.tail _ (.tail _ (.tail _ (.head _))))))))))
        go_wp2_with fail
        refine (HS3'.out _ _ (hs8.out.1 _ (.head _))).mono ?_
        rintro e w6 ⟨rfl, b⟩
        have hs9 := Lib.hid (hs8.out.step b)
        clear hs8 b c00 c01 c02 c03 c10 c11 c12 HS2' HS3'
        have a1 : (n1 == n1) = true := by simp
        have a2 : (n2 == n2) = true := by simp
        rw [eq_comm] at hee
        generalize wq.heap.size = r at *
        have hst := hs9.out
        have HE2 := Lib.hid (fun s : Held (fun wx => Bxs w ((r + 1, #[.int .i64 y1, .int .i64 y2, .int .i64 y3, .int .i64 m1, .int .i64 m2, .int .i64 (y3 + H), .int .i64 u1, .int .i64 u2, .int .i64 (y3 + 2 * H)], 29) :: (r, #[.int .i64 y1, .int .i64 y2, .int .i64 y3, .int .i64 u1, .int .i64 u2, .int .i64 (y3 + 2 * H)], 29) :: ((v + 1, #[.int .i64 u1, .int .i64 u2, .int .i64 (y3 + 2 * H)], 29) :: (v, #[.int .i64 m1, .int .i64 m2, .int .i64 (y3 + H)], 29) :: ((p + 1, #[.int .i64 u1, .int .i64 u2], 25) :: (p, #[.int .i64 m1, .int .i64 m2], 25) :: [(q + 2, #[.int .i64 z1, .int .i64 z2, .int .i64 z3], 29), (q + 1, #[.int .i64 y1, .int .i64 y2, .int .i64 y3], 29), (q, #[.int .i64 x1, .int .i64 x2, .int .i64 x3, .int .i64 x4], 27)]))) wx) => HE'.out r s.w (s.h.1 _ (.tail _ (.head _))))
        cases eb
        all_goals
          cases n2
          all_goals
            go_wp2
            have rd0 := fun s : Held (fun wx => Bxs w ((r + 1, #[.int .i64 y1, .int .i64 y2, .int .i64 y3, .int .i64 m1, .int .i64 m2, .int .i64 (y3 + H), .int .i64 u1, .int .i64 u2, .int .i64 (y3 + 2 * H)], 29) :: (r, #[.int .i64 y1, .int .i64 y2, .int .i64 y3, .int .i64 u1, .int .i64 u2, .int .i64 (y3 + 2 * H)], 29) :: ((v + 1, #[.int .i64 u1, .int .i64 u2, .int .i64 (y3 + 2 * H)], 29) :: (v, #[.int .i64 m1, .int .i64 m2, .int .i64 (y3 + H)], 29) :: ((p + 1, #[.int .i64 u1, .int .i64 u2], 25) :: (p, #[.int .i64 m1, .int .i64 m2], 25) :: [(q + 2, #[.int .i64 z1, .int .i64 z2, .int .i64 z3], 29), (q + 1, #[.int .i64 y1, .int .i64 y2, .int .i64 y3], 29), (q, #[.int .i64 x1, .int .i64 x2, .int .i64 x3, .int .i64 x4], 27)]))) wx) => (cells3 (s.h.1 _ (.tail _ (.tail _ (.tail _ (.head _)))))).1
            have rd1 := fun s : Held (fun wx => Bxs w ((r + 1, #[.int .i64 y1, .int .i64 y2, .int .i64 y3, .int .i64 m1, .int .i64 m2, .int .i64 (y3 + H), .int .i64 u1, .int .i64 u2, .int .i64 (y3 + 2 * H)], 29) :: (r, #[.int .i64 y1, .int .i64 y2, .int .i64 y3, .int .i64 u1, .int .i64 u2, .int .i64 (y3 + 2 * H)], 29) :: ((v + 1, #[.int .i64 u1, .int .i64 u2, .int .i64 (y3 + 2 * H)], 29) :: (v, #[.int .i64 m1, .int .i64 m2, .int .i64 (y3 + H)], 29) :: ((p + 1, #[.int .i64 u1, .int .i64 u2], 25) :: (p, #[.int .i64 m1, .int .i64 m2], 25) :: [(q + 2, #[.int .i64 z1, .int .i64 z2, .int .i64 z3], 29), (q + 1, #[.int .i64 y1, .int .i64 y2, .int .i64 y3], 29), (q, #[.int .i64 x1, .int .i64 x2, .int .i64 x3, .int .i64 x4], 27)]))) wx) => (cells3 (s.h.1 _ (.tail _ (.tail _ (.tail _ (.head _)))))).2.1
            have rd2 := fun s : Held (fun wx => Bxs w ((r + 1, #[.int .i64 y1, .int .i64 y2, .int .i64 y3, .int .i64 m1, .int .i64 m2, .int .i64 (y3 + H), .int .i64 u1, .int .i64 u2, .int .i64 (y3 + 2 * H)], 29) :: (r, #[.int .i64 y1, .int .i64 y2, .int .i64 y3, .int .i64 u1, .int .i64 u2, .int .i64 (y3 + 2 * H)], 29) :: ((v + 1, #[.int .i64 u1, .int .i64 u2, .int .i64 (y3 + 2 * H)], 29) :: (v, #[.int .i64 m1, .int .i64 m2, .int .i64 (y3 + H)], 29) :: ((p + 1, #[.int .i64 u1, .int .i64 u2], 25) :: (p, #[.int .i64 m1, .int .i64 m2], 25) :: [(q + 2, #[.int .i64 z1, .int .i64 z2, .int .i64 z3], 29), (q + 1, #[.int .i64 y1, .int .i64 y2, .int .i64 y3], 29), (q, #[.int .i64 x1, .int .i64 x2, .int .i64 x3, .int .i64 x4], 27)]))) wx) => (cells3 (s.h.1 _ (.tail _ (.tail _ (.tail _ (.head _)))))).2.2
            have rm0 := fun s : Held (fun wx => Bxs w ((r + 1, #[.int .i64 y1, .int .i64 y2, .int .i64 y3, .int .i64 m1, .int .i64 m2, .int .i64 (y3 + H), .int .i64 u1, .int .i64 u2, .int .i64 (y3 + 2 * H)], 29) :: (r, #[.int .i64 y1, .int .i64 y2, .int .i64 y3, .int .i64 u1, .int .i64 u2, .int .i64 (y3 + 2 * H)], 29) :: ((v + 1, #[.int .i64 u1, .int .i64 u2, .int .i64 (y3 + 2 * H)], 29) :: (v, #[.int .i64 m1, .int .i64 m2, .int .i64 (y3 + H)], 29) :: ((p + 1, #[.int .i64 u1, .int .i64 u2], 25) :: (p, #[.int .i64 m1, .int .i64 m2], 25) :: [(q + 2, #[.int .i64 z1, .int .i64 z2, .int .i64 z3], 29), (q + 1, #[.int .i64 y1, .int .i64 y2, .int .i64 y3], 29), (q, #[.int .i64 x1, .int .i64 x2, .int .i64 x3, .int .i64 x4], 27)]))) wx) => (cells2 (s.h.1 _ (.tail _ (.tail _ (.tail _ (.tail _ (.tail _ (.head _)))))))).1
            have rm1 := fun s : Held (fun wx => Bxs w ((r + 1, #[.int .i64 y1, .int .i64 y2, .int .i64 y3, .int .i64 m1, .int .i64 m2, .int .i64 (y3 + H), .int .i64 u1, .int .i64 u2, .int .i64 (y3 + 2 * H)], 29) :: (r, #[.int .i64 y1, .int .i64 y2, .int .i64 y3, .int .i64 u1, .int .i64 u2, .int .i64 (y3 + 2 * H)], 29) :: ((v + 1, #[.int .i64 u1, .int .i64 u2, .int .i64 (y3 + 2 * H)], 29) :: (v, #[.int .i64 m1, .int .i64 m2, .int .i64 (y3 + H)], 29) :: ((p + 1, #[.int .i64 u1, .int .i64 u2], 25) :: (p, #[.int .i64 m1, .int .i64 m2], 25) :: [(q + 2, #[.int .i64 z1, .int .i64 z2, .int .i64 z3], 29), (q + 1, #[.int .i64 y1, .int .i64 y2, .int .i64 y3], 29), (q, #[.int .i64 x1, .int .i64 x2, .int .i64 x3, .int .i64 x4], 27)]))) wx) => (cells2 (s.h.1 _ (.tail _ (.tail _ (.tail _ (.tail _ (.tail _ (.head _)))))))).2
            have rl0 := fun s : Held (fun wx => Bxs w ((r + 1, #[.int .i64 y1, .int .i64 y2, .int .i64 y3, .int .i64 m1, .int .i64 m2, .int .i64 (y3 + H), .int .i64 u1, .int .i64 u2, .int .i64 (y3 + 2 * H)], 29) :: (r, #[.int .i64 y1, .int .i64 y2, .int .i64 y3, .int .i64 u1, .int .i64 u2, .int .i64 (y3 + 2 * H)], 29) :: ((v + 1, #[.int .i64 u1, .int .i64 u2, .int .i64 (y3 + 2 * H)], 29) :: (v, #[.int .i64 m1, .int .i64 m2, .int .i64 (y3 + H)], 29) :: ((p + 1, #[.int .i64 u1, .int .i64 u2], 25) :: (p, #[.int .i64 m1, .int .i64 m2], 25) :: [(q + 2, #[.int .i64 z1, .int .i64 z2, .int .i64 z3], 29), (q + 1, #[.int .i64 y1, .int .i64 y2, .int .i64 y3], 29), (q, #[.int .i64 x1, .int .i64 x2, .int .i64 x3, .int .i64 x4], 27)]))) wx) => (cells4 (s.h.1 _ (.tail _ (.tail _ (.tail _ (.tail _ (.tail _ (.tail _ (.tail _ (.tail _ (.head _))))))))))).1
            have rl1 := fun s : Held (fun wx => Bxs w ((r + 1, #[.int .i64 y1, .int .i64 y2, .int .i64 y3, .int .i64 m1, .int .i64 m2, .int .i64 (y3 + H), .int .i64 u1, .int .i64 u2, .int .i64 (y3 + 2 * H)], 29) :: (r, #[.int .i64 y1, .int .i64 y2, .int .i64 y3, .int .i64 u1, .int .i64 u2, .int .i64 (y3 + 2 * H)], 29) :: ((v + 1, #[.int .i64 u1, .int .i64 u2, .int .i64 (y3 + 2 * H)], 29) :: (v, #[.int .i64 m1, .int .i64 m2, .int .i64 (y3 + H)], 29) :: ((p + 1, #[.int .i64 u1, .int .i64 u2], 25) :: (p, #[.int .i64 m1, .int .i64 m2], 25) :: [(q + 2, #[.int .i64 z1, .int .i64 z2, .int .i64 z3], 29), (q + 1, #[.int .i64 y1, .int .i64 y2, .int .i64 y3], 29), (q, #[.int .i64 x1, .int .i64 x2, .int .i64 x3, .int .i64 x4], 27)]))) wx) => (cells4 (s.h.1 _ (.tail _ (.tail _ (.tail _ (.tail _ (.tail _ (.tail _ (.tail _ (.tail _ (.head _))))))))))).2.1
            have rl2 := fun s : Held (fun wx => Bxs w ((r + 1, #[.int .i64 y1, .int .i64 y2, .int .i64 y3, .int .i64 m1, .int .i64 m2, .int .i64 (y3 + H), .int .i64 u1, .int .i64 u2, .int .i64 (y3 + 2 * H)], 29) :: (r, #[.int .i64 y1, .int .i64 y2, .int .i64 y3, .int .i64 u1, .int .i64 u2, .int .i64 (y3 + 2 * H)], 29) :: ((v + 1, #[.int .i64 u1, .int .i64 u2, .int .i64 (y3 + 2 * H)], 29) :: (v, #[.int .i64 m1, .int .i64 m2, .int .i64 (y3 + H)], 29) :: ((p + 1, #[.int .i64 u1, .int .i64 u2], 25) :: (p, #[.int .i64 m1, .int .i64 m2], 25) :: [(q + 2, #[.int .i64 z1, .int .i64 z2, .int .i64 z3], 29), (q + 1, #[.int .i64 y1, .int .i64 y2, .int .i64 y3], 29), (q, #[.int .i64 x1, .int .i64 x2, .int .i64 x3, .int .i64 x4], 27)]))) wx) => (cells4 (s.h.1 _ (.tail _ (.tail _ (.tail _ (.tail _ (.tail _ (.tail _ (.tail _ (.tail _ (.head _))))))))))).2.2.1
            have rl3 := fun s : Held (fun wx => Bxs w ((r + 1, #[.int .i64 y1, .int .i64 y2, .int .i64 y3, .int .i64 m1, .int .i64 m2, .int .i64 (y3 + H), .int .i64 u1, .int .i64 u2, .int .i64 (y3 + 2 * H)], 29) :: (r, #[.int .i64 y1, .int .i64 y2, .int .i64 y3, .int .i64 u1, .int .i64 u2, .int .i64 (y3 + 2 * H)], 29) :: ((v + 1, #[.int .i64 u1, .int .i64 u2, .int .i64 (y3 + 2 * H)], 29) :: (v, #[.int .i64 m1, .int .i64 m2, .int .i64 (y3 + H)], 29) :: ((p + 1, #[.int .i64 u1, .int .i64 u2], 25) :: (p, #[.int .i64 m1, .int .i64 m2], 25) :: [(q + 2, #[.int .i64 z1, .int .i64 z2, .int .i64 z3], 29), (q + 1, #[.int .i64 y1, .int .i64 y2, .int .i64 y3], 29), (q, #[.int .i64 x1, .int .i64 x2, .int .i64 x3, .int .i64 x4], 27)]))) wx) => (cells4 (s.h.1 _ (.tail _ (.tail _ (.tail _ (.tail _ (.tail _ (.tail _ (.tail _ (.tail _ (.head _))))))))))).2.2.2
            haveI hne : Nonempty (Held fun wx => Bxs w ((r + 1, #[.int .i64 y1, .int .i64 y2, .int .i64 y3, .int .i64 m1, .int .i64 m2, .int .i64 (y3 + H), .int .i64 u1, .int .i64 u2, .int .i64 (y3 + 2 * H)], 29) :: (r, #[.int .i64 y1, .int .i64 y2, .int .i64 y3, .int .i64 u1, .int .i64 u2, .int .i64 (y3 + 2 * H)], 29) :: ((v + 1, #[.int .i64 u1, .int .i64 u2, .int .i64 (y3 + 2 * H)], 29) :: (v, #[.int .i64 m1, .int .i64 m2, .int .i64 (y3 + H)], 29) :: ((p + 1, #[.int .i64 u1, .int .i64 u2], 25) :: (p, #[.int .i64 m1, .int .i64 m2], 25) :: [(q + 2, #[.int .i64 z1, .int .i64 z2, .int .i64 z3], 29), (q + 1, #[.int .i64 y1, .int .i64 y2, .int .i64 y3], 29), (q, #[.int .i64 x1, .int .i64 x2, .int .i64 x3, .int .i64 x4], 27)]))) wx) := ⟨⟨_, hst⟩⟩
            refine wp_region_class (fun wx => Bxs w ((r + 1, #[.int .i64 y1, .int .i64 y2, .int .i64 y3, .int .i64 m1, .int .i64 m2, .int .i64 (y3 + H), .int .i64 u1, .int .i64 u2, .int .i64 (y3 + 2 * H)], 29) :: (r, #[.int .i64 y1, .int .i64 y2, .int .i64 y3, .int .i64 u1, .int .i64 u2, .int .i64 (y3 + 2 * H)], 29) :: ((v + 1, #[.int .i64 u1, .int .i64 u2, .int .i64 (y3 + 2 * H)], 29) :: (v, #[.int .i64 m1, .int .i64 m2, .int .i64 (y3 + H)], 29) :: ((p + 1, #[.int .i64 u1, .int .i64 u2], 25) :: (p, #[.int .i64 m1, .int .i64 m2], 25) :: [(q + 2, #[.int .i64 z1, .int .i64 z2, .int .i64 z3], 29), (q + 1, #[.int .i64 y1, .int .i64 y2, .int .i64 y3], 29), (q, #[.int .i64 x1, .int .i64 x2, .int .i64 x3, .int .i64 x4], 27)]))) wx) (by kernel_rfl) (by kernel_rfl) (Bxs.drew hst) ?_
            repeat (go_big_quiet_step (first
              | (go_at_call 24; with_reducible exact held_call Bxs.step (HE2.out _))
              | (go_at_call 25; with_reducible exact held_call Bxs.step (HD.out _))))
            refine wpQuiet_nil ?_
            intro wq hw'
            obtain ⟨⟨wq1, hst6⟩, rfl⟩ := hw'
            (try dsimp only)
            go_wp2
            go_ret
            exact ⟨rfl, hst6.2⟩
      · clear HT HL X1 X2 X3 X4 ht hl pa pb pm pu ee1 ee2
        generalize midP s.1 t.1 = m at *
        generalize endP s.1 t.1 = u at *
        obtain ⟨⟨x1, x2⟩, x3, x4⟩ := l
        obtain ⟨⟨y1, y2⟩, y3⟩ := s
        obtain ⟨⟨z1, z2⟩, z3⟩ := t
        obtain ⟨m1, m2⟩ := m
        obtain ⟨u1, u2⟩ := u
        dsimp only at *
        generalize w1.heap.size = q at *
        obtain ⟨c20, c21, c22⟩ := cells3 (hs.out.1 _ (.head _))
        obtain ⟨c10, c11, c12⟩ := cells3 (hs.out.1 _ (.tail _ (.head _)))
        obtain ⟨c00, c01, c02, c03⟩ := cells4 (hs.out.1 _ (.tail _ (.tail _ (.head _))))
        go_wp2_with fail
        refine (HM.out _).mono ?_
        rintro e w2 ⟨rfl, b⟩
        have hs1 := (hs.out.step b)
        clear hs b c00 c01 c02 c03 c10 c11 c12 c20 c21 c22
        have hs2 := (hs1.add rfl #[.int .i64 m1, .int .i64 m2] 25).add (q := w2.heap.size + 1) (by simp) #[.int .i64 u1, .int .i64 u2] 25
        have hs := Lib.hid hs2
        clear hs1 hs2
        obtain ⟨c20, c21, c22⟩ := cells3 (hs.out.1 _ (.tail _ (.tail _ (.head _))))
        obtain ⟨c10, c11, c12⟩ := cells3 (hs.out.1 _ (.tail _ (.tail _ (.tail _ (.head _)))))
        obtain ⟨c00, c01, c02, c03⟩ := cells4 (hs.out.1 _ (.tail _ (.tail _ (.tail _ (.tail _ (.head _))))))
        have f1 : H < 1 := by omega
        have g0 : 0 ≤ H ∧ 2 * H ≤ z3 - y3 := by omega
        go_wp2
        go_ret
        exact ⟨rfl, hs.out.2⟩
  · have h1 : (1048576 : Int) < (len : Int) := by omega
    go_enter Try.func3, Try.ntmps3
    go_wp2_with (go_at_call 16; go_in)
    go_ret
    exact ⟨rfl, Below.refl _ _⟩
end Go.Proofs.Ytnpgppenkpkfnaa

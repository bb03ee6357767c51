/- The law FnRayCut: a step that is cut in its middle passes a ray alike. The contract of impl.PassRay is an argument. -/
import Derived.Test.YthahakefmpajfaaLkL
import Derived.Test.YthahakefmpajfaaLkC
namespace Go.Proofs.Ythahakefmpajfaa
open Go.RowKit
set_option linter.unusedVariables false
set_option linter.unusedSimpArgs false

theorem pr_bd (o m a b : Int × Int) : -1 ≤ prW o m a b ∧ prW o m a b ≤ 1 := by
  unfold prW prV
  split
  · split
    · omega
    · split
      · omega
      · split <;> omega
  · omega
set_option maxRecDepth 100000 in
set_option maxHeartbeats 4000000 in
theorem wo_FnRayCut (hi : ∀ (o m a b : Int × Int) (w : World), Calls Try.prog 15 #[.agg #[.int .i64 o.1, .int .i64 o.2], .agg #[.int .i64 m.1, .int .i64 m.2], .agg #[.int .i64 a.1, .int .i64 a.2], .agg #[.int .i64 b.1, .int .i64 b.2]] w fun e w' => e = .returned (.int .i64 (prW o m a b)) ∧ Below w.heap.size w w')
    (a0 : Option Addr) (len cap : Nat) (zs : List Int) (w : World) (hr : IsRow .u8 w a0 len cap zs) :
    Calls Try.prog 3 #[.slice a0 len cap] w fun e w' => e = .returned (.bool true) ∧ Below w.heap.size w w' := by
  by_cases hbig : len ≤ 1048576
  · have hcode := code_of_row hr hbig
    go_enter Try.func3, Try.ntmps3
    go_wp2_with (first
      | (go_at_call 12; go_in)
      | (go_at_call 13; ((with_reducible refine (d_passRay _ len cap a0 hcode).mono ?_); rintro e w1 ⟨o, m, a, b, rfl, b1⟩)))
    have hs0 := ((((Bxs.nil b1).add (q := w1.heap.size) rfl #[.int .i64 o.1, .int .i64 o.2] 25).add (q := w1.heap.size + 1) (by simp) #[.int .i64 m.1, .int .i64 m.2] 25).add (q := w1.heap.size + 2) (by simp) #[.int .i64 a.1, .int .i64 a.2] 25).add (q := w1.heap.size + 3) (by simp) #[.int .i64 b.1, .int .i64 b.2] 25
    have hs := Lib.hid hs0
    clear hs0 b1 hcode hr hbig
    have HM := Lib.hid (fun w => l_mid a b w)
    have HA := Lib.hid (fun w => s_plB a w)
    have HB := Lib.hid (fun w => s_plB b w)
    have hq : plB a = false ∨ (plB a = true ∧ plB b = false) ∨ (plB a = true ∧ plB b = true) := by cases plB a <;> cases plB b <;> simp
    have z0 : ((0 : Int) == 0) = true := by simp
    rcases hq with pa | ⟨pa, pb⟩ | ⟨pa, pb⟩
    · have X0 := Lib.hid (fun w => hi o m a b w)
      rw [show prW o m a b = 0 by unfold prW prB; rw [pa]; simp] at X0
      rw [pa] at HA
      clear pa HM HB hi
      obtain ⟨o1, o2⟩ := o
      obtain ⟨m1, m2⟩ := m
      obtain ⟨a1, a2⟩ := a
      obtain ⟨b1, b2⟩ := b
      dsimp only at *
      generalize w1.heap.size = q at *
      obtain ⟨cb0, cb1⟩ := cells2p9 (hs.out.1 _ (.head _))
      obtain ⟨ca0, ca1⟩ := cells2p9 (hs.out.1 _ (.tail _ (.head _)))
      obtain ⟨cm0, cm1⟩ := cells2p9 (hs.out.1 _ (.tail _ (.tail _ (.head _))))
      obtain ⟨co0, co1⟩ := cells2p9 (hs.out.1 _ (.tail _ (.tail _ (.tail _ (.head _)))))
      go_wp2_with fail
      refine (HA.out _).mono ?_
      rintro e w2 ⟨rfl, b⟩
      have hs1 := Lib.hid (hs.out.step b)
      clear hs b cb0 cb1 ca0 ca1 cm0 cm1 co0 co1
      have hs := hs1
      clear hs1
      obtain ⟨cb0, cb1⟩ := cells2p9 (hs.out.1 _ (.head _))
      obtain ⟨ca0, ca1⟩ := cells2p9 (hs.out.1 _ (.tail _ (.head _)))
      obtain ⟨cm0, cm1⟩ := cells2p9 (hs.out.1 _ (.tail _ (.tail _ (.head _))))
      obtain ⟨co0, co1⟩ := cells2p9 (hs.out.1 _ (.tail _ (.tail _ (.tail _ (.head _)))))
      go_wp2_with fail
      refine (X0.out _).mono ?_
      rintro e w3 ⟨rfl, b⟩
      have hs1 := Lib.hid (hs.out.step b)
      clear hs b cb0 cb1 ca0 ca1 cm0 cm1 co0 co1
      go_wp2
      go_ret
      exact ⟨rfl, hs1.out.2⟩
    · have X0 := Lib.hid (fun w => hi o m a b w)
      rw [show prW o m a b = 0 by unfold prW prB; rw [pb]; simp] at X0
      rw [pa] at HA
      rw [pb] at HB
      clear pa pb HM hi
      obtain ⟨o1, o2⟩ := o
      obtain ⟨m1, m2⟩ := m
      obtain ⟨a1, a2⟩ := a
      obtain ⟨b1, b2⟩ := b
      dsimp only at *
      generalize w1.heap.size = q at *
      obtain ⟨cb0, cb1⟩ := cells2p9 (hs.out.1 _ (.head _))
      obtain ⟨ca0, ca1⟩ := cells2p9 (hs.out.1 _ (.tail _ (.head _)))
      obtain ⟨cm0, cm1⟩ := cells2p9 (hs.out.1 _ (.tail _ (.tail _ (.head _))))
      obtain ⟨co0, co1⟩ := cells2p9 (hs.out.1 _ (.tail _ (.tail _ (.tail _ (.head _)))))
      go_wp2_with fail
      refine (HA.out _).mono ?_
      rintro e w2 ⟨rfl, b⟩
      have hs1 := Lib.hid (hs.out.step b)
      clear hs b cb0 cb1 ca0 ca1 cm0 cm1 co0 co1
      have hs := hs1
      clear hs1
      obtain ⟨cb0, cb1⟩ := cells2p9 (hs.out.1 _ (.head _))
      obtain ⟨ca0, ca1⟩ := cells2p9 (hs.out.1 _ (.tail _ (.head _)))
      obtain ⟨cm0, cm1⟩ := cells2p9 (hs.out.1 _ (.tail _ (.tail _ (.head _))))
      obtain ⟨co0, co1⟩ := cells2p9 (hs.out.1 _ (.tail _ (.tail _ (.tail _ (.head _)))))
      go_wp2_with fail
      refine (HB.out _).mono ?_
      rintro e w9 ⟨rfl, b⟩
      have hs1 := Lib.hid (hs.out.step b)
      clear hs b cb0 cb1 ca0 ca1 cm0 cm1 co0 co1
      have hs := hs1
      clear hs1
      obtain ⟨cb0, cb1⟩ := cells2p9 (hs.out.1 _ (.head _))
      obtain ⟨ca0, ca1⟩ := cells2p9 (hs.out.1 _ (.tail _ (.head _)))
      obtain ⟨cm0, cm1⟩ := cells2p9 (hs.out.1 _ (.tail _ (.tail _ (.head _))))
      obtain ⟨co0, co1⟩ := cells2p9 (hs.out.1 _ (.tail _ (.tail _ (.tail _ (.head _)))))
      go_wp2_with fail
      refine (X0.out _).mono ?_
      rintro e w3 ⟨rfl, b⟩
      have hs1 := Lib.hid (hs.out.step b)
      clear hs b cb0 cb1 ca0 ca1 cm0 cm1 co0 co1
      go_wp2
      go_ret
      exact ⟨rfl, hs1.out.2⟩
    · obtain ⟨ee1, ee2⟩ := mw_eq pa pb
      rw [ee1, ee2] at HM
      have X1 := Lib.hid (fun w => hi o m a (endP a b) w)
      have X2 := Lib.hid (fun w => s_pr o m a (endP a b) w)
      have X3 := Lib.hid (fun w => hi o m a (midP a b) w)
      have X4 := Lib.hid (fun w => hi o m (midP a b) (endP a b) w)
      rw [cut_pr pa pb] at X1 X2
      have cb1 := pr_bd o m a (midP a b)
      have cb2 := pr_bd o m (midP a b) (endP a b)
      generalize prW o m a (midP a b) = k1 at *
      generalize prW o m (midP a b) (endP a b) = k2 at *
      rw [pa] at HA
      rw [pb] at HB
      clear pa pb hi ee1 ee2
      generalize midP a b = n at *
      generalize endP a b = u at *
      obtain ⟨o1, o2⟩ := o
      obtain ⟨m1, m2⟩ := m
      obtain ⟨a1, a2⟩ := a
      obtain ⟨b1, b2⟩ := b
      dsimp only at *
      generalize w1.heap.size = q at *
      obtain ⟨n1, n2⟩ := n
      obtain ⟨u1, u2⟩ := u
      dsimp only at *
      obtain ⟨cb0, cb1⟩ := cells2p9 (hs.out.1 _ (.head _))
      obtain ⟨ca0, ca1⟩ := cells2p9 (hs.out.1 _ (.tail _ (.head _)))
      obtain ⟨cm0, cm1⟩ := cells2p9 (hs.out.1 _ (.tail _ (.tail _ (.head _))))
      obtain ⟨co0, co1⟩ := cells2p9 (hs.out.1 _ (.tail _ (.tail _ (.tail _ (.head _)))))
      go_wp2_with fail
      refine (HA.out _).mono ?_
      rintro e w2 ⟨rfl, b⟩
      have hs1 := Lib.hid (hs.out.step b)
      clear hs b cb0 cb1 ca0 ca1 cm0 cm1 co0 co1
      have hs := hs1
      clear hs1
      obtain ⟨cb0, cb1⟩ := cells2p9 (hs.out.1 _ (.head _))
      obtain ⟨ca0, ca1⟩ := cells2p9 (hs.out.1 _ (.tail _ (.head _)))
      obtain ⟨cm0, cm1⟩ := cells2p9 (hs.out.1 _ (.tail _ (.tail _ (.head _))))
      obtain ⟨co0, co1⟩ := cells2p9 (hs.out.1 _ (.tail _ (.tail _ (.tail _ (.head _)))))
      go_wp2_with fail
      refine (HB.out _).mono ?_
      rintro e w3 ⟨rfl, b⟩
      have hs1 := Lib.hid (hs.out.step b)
      clear hs b cb0 cb1 ca0 ca1 cm0 cm1 co0 co1
      have hs := hs1
      clear hs1
      obtain ⟨cb0, cb1⟩ := cells2p9 (hs.out.1 _ (.head _))
      obtain ⟨ca0, ca1⟩ := cells2p9 (hs.out.1 _ (.tail _ (.head _)))
      obtain ⟨cm0, cm1⟩ := cells2p9 (hs.out.1 _ (.tail _ (.tail _ (.head _))))
      obtain ⟨co0, co1⟩ := cells2p9 (hs.out.1 _ (.tail _ (.tail _ (.tail _ (.head _)))))
      go_wp2_with fail
      refine (HM.out _).mono ?_
      rintro e w4 ⟨rfl, b⟩
      have hs1 := hs.out.step b
      clear hs b cb0 cb1 ca0 ca1 cm0 cm1 co0 co1
      have hs2 := Lib.hid ((hs1.add rfl #[.int .i64 n1, .int .i64 n2] 25).add (q := w4.heap.size + 1) (by simp) #[.int .i64 u1, .int .i64 u2] 25)
      clear hs1 HA HB HM
      go_wp2
      generalize w4.heap.size = p at *
      have kk : (k1 + k2 == k1 + k2) = true := by simp
      have kw : IntKind.i64.wrap (k1 + k2) = k1 + k2 := IntWalk.i64_in _ (by omega)
      have hst := hs2.out
      have ru0 : ∀ s : Held (fun wx => Bxs w [(p + 1, #[.int .i64 u1, .int .i64 u2], 25), (p, #[.int .i64 n1, .int .i64 n2], 25), (q + 3, #[.int .i64 b1, .int .i64 b2], 25), (q + 2, #[.int .i64 a1, .int .i64 a2], 25), (q + 1, #[.int .i64 m1, .int .i64 m2], 25), (q, #[.int .i64 o1, .int .i64 o2], 25)] wx), s.w.cell? ⟨p + 1, 0, none⟩ = some (.int .i64 u1) := fun s => (cells2p9 (s.h.1 _ (.head _))).1
      have ru1 : ∀ s : Held (fun wx => Bxs w [(p + 1, #[.int .i64 u1, .int .i64 u2], 25), (p, #[.int .i64 n1, .int .i64 n2], 25), (q + 3, #[.int .i64 b1, .int .i64 b2], 25), (q + 2, #[.int .i64 a1, .int .i64 a2], 25), (q + 1, #[.int .i64 m1, .int .i64 m2], 25), (q, #[.int .i64 o1, .int .i64 o2], 25)] wx), s.w.cell? ⟨p + 1, 1, none⟩ = some (.int .i64 u2) := fun s => (cells2p9 (s.h.1 _ (.head _))).2
      have rn0 : ∀ s : Held (fun wx => Bxs w [(p + 1, #[.int .i64 u1, .int .i64 u2], 25), (p, #[.int .i64 n1, .int .i64 n2], 25), (q + 3, #[.int .i64 b1, .int .i64 b2], 25), (q + 2, #[.int .i64 a1, .int .i64 a2], 25), (q + 1, #[.int .i64 m1, .int .i64 m2], 25), (q, #[.int .i64 o1, .int .i64 o2], 25)] wx), s.w.cell? ⟨p, 0, none⟩ = some (.int .i64 n1) := fun s => (cells2p9 (s.h.1 _ (.tail _ (.head _)))).1
      have rn1 : ∀ s : Held (fun wx => Bxs w [(p + 1, #[.int .i64 u1, .int .i64 u2], 25), (p, #[.int .i64 n1, .int .i64 n2], 25), (q + 3, #[.int .i64 b1, .int .i64 b2], 25), (q + 2, #[.int .i64 a1, .int .i64 a2], 25), (q + 1, #[.int .i64 m1, .int .i64 m2], 25), (q, #[.int .i64 o1, .int .i64 o2], 25)] wx), s.w.cell? ⟨p, 1, none⟩ = some (.int .i64 n2) := fun s => (cells2p9 (s.h.1 _ (.tail _ (.head _)))).2
      have rb0 : ∀ s : Held (fun wx => Bxs w [(p + 1, #[.int .i64 u1, .int .i64 u2], 25), (p, #[.int .i64 n1, .int .i64 n2], 25), (q + 3, #[.int .i64 b1, .int .i64 b2], 25), (q + 2, #[.int .i64 a1, .int .i64 a2], 25), (q + 1, #[.int .i64 m1, .int .i64 m2], 25), (q, #[.int .i64 o1, .int .i64 o2], 25)] wx), s.w.cell? ⟨q + 3, 0, none⟩ = some (.int .i64 b1) := fun s => (cells2p9 (s.h.1 _ (.tail _ (.tail _ (.head _))))).1
      have rb1 : ∀ s : Held (fun wx => Bxs w [(p + 1, #[.int .i64 u1, .int .i64 u2], 25), (p, #[.int .i64 n1, .int .i64 n2], 25), (q + 3, #[.int .i64 b1, .int .i64 b2], 25), (q + 2, #[.int .i64 a1, .int .i64 a2], 25), (q + 1, #[.int .i64 m1, .int .i64 m2], 25), (q, #[.int .i64 o1, .int .i64 o2], 25)] wx), s.w.cell? ⟨q + 3, 1, none⟩ = some (.int .i64 b2) := fun s => (cells2p9 (s.h.1 _ (.tail _ (.tail _ (.head _))))).2
      have ra0 : ∀ s : Held (fun wx => Bxs w [(p + 1, #[.int .i64 u1, .int .i64 u2], 25), (p, #[.int .i64 n1, .int .i64 n2], 25), (q + 3, #[.int .i64 b1, .int .i64 b2], 25), (q + 2, #[.int .i64 a1, .int .i64 a2], 25), (q + 1, #[.int .i64 m1, .int .i64 m2], 25), (q, #[.int .i64 o1, .int .i64 o2], 25)] wx), s.w.cell? ⟨q + 2, 0, none⟩ = some (.int .i64 a1) := fun s => (cells2p9 (s.h.1 _ (.tail _ (.tail _ (.tail _ (.head _)))))).1
      have ra1 : ∀ s : Held (fun wx => Bxs w [(p + 1, #[.int .i64 u1, .int .i64 u2], 25), (p, #[.int .i64 n1, .int .i64 n2], 25), (q + 3, #[.int .i64 b1, .int .i64 b2], 25), (q + 2, #[.int .i64 a1, .int .i64 a2], 25), (q + 1, #[.int .i64 m1, .int .i64 m2], 25), (q, #[.int .i64 o1, .int .i64 o2], 25)] wx), s.w.cell? ⟨q + 2, 1, none⟩ = some (.int .i64 a2) := fun s => (cells2p9 (s.h.1 _ (.tail _ (.tail _ (.tail _ (.head _)))))).2
      have rm0 : ∀ s : Held (fun wx => Bxs w [(p + 1, #[.int .i64 u1, .int .i64 u2], 25), (p, #[.int .i64 n1, .int .i64 n2], 25), (q + 3, #[.int .i64 b1, .int .i64 b2], 25), (q + 2, #[.int .i64 a1, .int .i64 a2], 25), (q + 1, #[.int .i64 m1, .int .i64 m2], 25), (q, #[.int .i64 o1, .int .i64 o2], 25)] wx), s.w.cell? ⟨q + 1, 0, none⟩ = some (.int .i64 m1) := fun s => (cells2p9 (s.h.1 _ (.tail _ (.tail _ (.tail _ (.tail _ (.head _))))))).1
      have rm1 : ∀ s : Held (fun wx => Bxs w [(p + 1, #[.int .i64 u1, .int .i64 u2], 25), (p, #[.int .i64 n1, .int .i64 n2], 25), (q + 3, #[.int .i64 b1, .int .i64 b2], 25), (q + 2, #[.int .i64 a1, .int .i64 a2], 25), (q + 1, #[.int .i64 m1, .int .i64 m2], 25), (q, #[.int .i64 o1, .int .i64 o2], 25)] wx), s.w.cell? ⟨q + 1, 1, none⟩ = some (.int .i64 m2) := fun s => (cells2p9 (s.h.1 _ (.tail _ (.tail _ (.tail _ (.tail _ (.head _))))))).2
      have ro0 : ∀ s : Held (fun wx => Bxs w [(p + 1, #[.int .i64 u1, .int .i64 u2], 25), (p, #[.int .i64 n1, .int .i64 n2], 25), (q + 3, #[.int .i64 b1, .int .i64 b2], 25), (q + 2, #[.int .i64 a1, .int .i64 a2], 25), (q + 1, #[.int .i64 m1, .int .i64 m2], 25), (q, #[.int .i64 o1, .int .i64 o2], 25)] wx), s.w.cell? ⟨q, 0, none⟩ = some (.int .i64 o1) := fun s => (cells2p9 (s.h.1 _ (.tail _ (.tail _ (.tail _ (.tail _ (.tail _ (.head _)))))))).1
      have ro1 : ∀ s : Held (fun wx => Bxs w [(p + 1, #[.int .i64 u1, .int .i64 u2], 25), (p, #[.int .i64 n1, .int .i64 n2], 25), (q + 3, #[.int .i64 b1, .int .i64 b2], 25), (q + 2, #[.int .i64 a1, .int .i64 a2], 25), (q + 1, #[.int .i64 m1, .int .i64 m2], 25), (q, #[.int .i64 o1, .int .i64 o2], 25)] wx), s.w.cell? ⟨q, 1, none⟩ = some (.int .i64 o2) := fun s => (cells2p9 (s.h.1 _ (.tail _ (.tail _ (.tail _ (.tail _ (.tail _ (.head _)))))))).2
      haveI hne : Nonempty (Held fun wx => Bxs w [(p + 1, #[.int .i64 u1, .int .i64 u2], 25), (p, #[.int .i64 n1, .int .i64 n2], 25), (q + 3, #[.int .i64 b1, .int .i64 b2], 25), (q + 2, #[.int .i64 a1, .int .i64 a2], 25), (q + 1, #[.int .i64 m1, .int .i64 m2], 25), (q, #[.int .i64 o1, .int .i64 o2], 25)] wx) := ⟨⟨_, hst⟩⟩
      refine wp_region_class (fun wx => Bxs w [(p + 1, #[.int .i64 u1, .int .i64 u2], 25), (p, #[.int .i64 n1, .int .i64 n2], 25), (q + 3, #[.int .i64 b1, .int .i64 b2], 25), (q + 2, #[.int .i64 a1, .int .i64 a2], 25), (q + 1, #[.int .i64 m1, .int .i64 m2], 25), (q, #[.int .i64 o1, .int .i64 o2], 25)] wx) (by kernel_rfl) (by kernel_rfl) (Bxs.drew hst) ?_
      repeat (go_big_quiet_step (first
        | (go_at_call 15; with_reducible exact held_call Bxs.step (X1.out _))
        | (go_at_call 17; with_reducible exact held_call Bxs.step (X2.out _))
        | (go_at_call 15; with_reducible exact held_call Bxs.step (X3.out _))
        | (go_at_call 15; with_reducible exact held_call Bxs.step (X4.out _))))
      refine wpQuiet_nil ?_
      intro wq hw'
      obtain ⟨⟨wq1, hst6⟩, rfl⟩ := hw'
      (try dsimp only)
      have HF := Lib.hid hst6.2
      clear hst6 hst hs2
      go_wp2
      go_ret
      exact ⟨rfl, HF.out⟩
  · have h1 : (1048576 : Int) < (len : Int) := by omega
    go_enter Try.func3, Try.ntmps3
    go_wp2_with (go_at_call 12; go_in)
    go_ret
    exact ⟨rfl, Below.refl _ _⟩
end Go.Proofs.Ythahakefmpajfaa

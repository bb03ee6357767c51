/- Crossings (impl): what a step misses; PlaceOk, LineOk, SideOf. -/
import Derived.Test.YthahakefmpajfaaLjB
import Derived.ScopeJumps
import Derived.WalkMore
namespace Go.Proofs.Ythahakefmpajfaa
open Go.RowKit
set_option linter.unusedVariables false
set_option linter.unusedSimpArgs false

/-- A scope out of which one jumps ahead to a label: the way behind the label is walked where the jump stands. -/
theorem wp_scope_on {P : Program} {a : Act} {w : World} {Q : Exit → Act → World → Prop} {c rest : Go.Code} (l : Nat) (hf : findLabel c l = some rest)
    (h : c.wp P (Exit.jump l (fun a' w' => rest.wp P (Exit.noGoto Q) a' w') Q) a w) : (Go.Code.scope c).wp P Q a w := by
  refine wp_scope_jumps l (fun a' w' => rest.wp P (Exit.noGoto Q) a' w') (fun _ _ => 0) hf h ?_
  intro a' w' hJ b k cs
  obtain ⟨e, a₁, w₁, hq, harr⟩ := hJ b k cs
  refine ⟨e, a₁, w₁, ?_, harr⟩
  cases e <;> first | exact hq | exact hq.elim
theorem wp_jump {P : Program} {a : Act} {w : World} {Q : Exit → Act → World → Prop} {J : Act → World → Prop} {l : Nat} (h : J a w) : (Go.Code.goto l).wp P (Exit.jump l J Q) a w := wp_goto ⟨rfl, h⟩
theorem jump_out {a : Act} {w : World} {Q : Exit → Act → World → Prop} {J : Act → World → Prop} {l : Nat} (h : Q .ret a w) : Exit.jump l J Q .ret a w := h
theorem jump_ret {a : Act} {w : World} {Q : Exit → Act → World → Prop} {J : Act → World → Prop} {l : Nat} : Exit.jump l J Q .ret a w = Q .ret a w := rfl
/-- Three boxes and one more. -/
def Bx4 (w : World) (c1 : Array Value) (t1 : TypeId) (c2 : Array Value) (t2 : TypeId) (c3 : Array Value) (t3 : TypeId) (q : Nat) (c4 : Array Value) (t4 : TypeId) (wr : World) : Prop :=
  Bx3 w c1 t1 c2 t2 c3 t3 wr ∧ wr.heap[q]? = some (.cells c4 t4 (0, 0))
theorem Bx4.step {w w1 w2 : World} {c1 c2 c3 : Array Value} {t1 t2 t3 : TypeId} {q : Nat} {c4 : Array Value} {t4 : TypeId} (h : Bx4 w c1 t1 c2 t2 c3 t3 q c4 t4 w1) (b : Below w1.heap.size w1 w2) : Bx4 w c1 t1 c2 t2 c3 t3 q c4 t4 w2 :=
  ⟨h.1.step b, (b.block _ (heap_lt h.2)).trans h.2⟩
theorem Bx4.drew {w w1 : World} {c1 c2 c3 : Array Value} {t1 t2 t3 : TypeId} {q : Nat} {c4 : Array Value} {t4 : TypeId} (h : Bx4 w c1 t1 c2 t2 c3 t3 q c4 t4 w1) : Bx4 w c1 t1 c2 t2 c3 t3 q c4 t4 w1.drew := ⟨h.1.drew, h.2⟩
theorem Bx4.new {w w1 : World} {c1 c2 c3 : Array Value} {t1 t2 t3 : TypeId} (h : Bx3 w c1 t1 c2 t2 c3 t3 w1) (c4 : Array Value) (t4 : TypeId) : Bx4 w c1 t1 c2 t2 c3 t3 w1.heap.size c4 t4 (w1.alloc (.cells c4 t4)) :=
  ⟨h.step ((Below.refl _ _).alloc (Nat.le_refl _) _), heap_alloc_new w1 _⟩
/-- Both crosses are on one side: the step passes beyond an end. -/
def msB (x y : Int) : Bool := decide ((0 < x ∧ 0 < y) ∨ (x < 0 ∧ y < 0))
set_option maxRecDepth 100000 in
set_option maxHeartbeats 2000000 in
theorem i_missed (l : Ln) (a b : Int × Int) (w : World) (hl : plB l.1 = true) (hm : plB l.2 = true) (ha : plB a = true) (hb : plB b = true) :
    Calls Try.prog 95 #[.agg #[.int .i64 l.1.1, .int .i64 l.1.2, .int .i64 l.2.1, .int .i64 l.2.2], .agg #[.int .i64 a.1, .int .i64 a.2], .agg #[.int .i64 b.1, .int .i64 b.2]] w
      fun e w' => e = .returned (.bool (msB (crx a b a l.1) (crx a b a l.2))) ∧ Below w.heap.size w w' := by
  obtain ⟨m1, m2, m3, m4, _⟩ := crx_bd ha hb ha hl
  obtain ⟨n1, n2, n3, n4, _⟩ := crx_bd ha hb ha hm
  have H1 := Lib.hid (fun w => i_less b a w hb ha)
  have H2 := Lib.hid (fun w => i_less l.1 a w hl ha)
  have H3 := Lib.hid (fun w => i_less l.2 a w hm ha)
  have H4 := Lib.hid (fun w => i_vcross (b.1 - a.1, b.2 - a.2) (l.1.1 - a.1, l.1.2 - a.2) w ⟨m1, m3⟩ ⟨m4, m2⟩)
  have H5 := Lib.hid (fun w => i_vcross (b.1 - a.1, b.2 - a.2) (l.2.1 - a.1, l.2.2 - a.2) w ⟨n1, n3⟩ ⟨n4, n2⟩)
  unfold crx
  clear hl hm ha hb m1 m2 m3 m4 n1 n2 n3 n4
  obtain ⟨⟨x1, x2⟩, x3, x4⟩ := l
  obtain ⟨y1, y2⟩ := a
  obtain ⟨z1, z2⟩ := b
  dsimp only at *
  generalize hA : z1 - y1 = A at *
  generalize hB : z2 - y2 = B at *
  generalize hC : x1 - y1 = C at *
  generalize hD : x2 - y2 = D at *
  generalize hE : x3 - y1 = E at *
  generalize hF : x4 - y2 = F at *
  clear hA hB hC hD hE hF
  generalize A * D - B * C = X at *
  generalize A * F - B * E = Y at *
  have hst := (Bx3.new w #[.int .i64 x1, .int .i64 x2, .int .i64 x3, .int .i64 x4] 33 #[.int .i64 y1, .int .i64 y2] 25 #[.int .i64 z1, .int .i64 z2] 25)
  have q1 := cells_pl hst.2.1
  obtain ⟨c10, c11⟩ := q1
  have q2 := cells_pl hst.2.2.1
  obtain ⟨c20, c21⟩ := q2
  have rd := fun q => fun s : Held (fun wx => Bx4 w #[.int .i64 x1, .int .i64 x2, .int .i64 x3, .int .i64 x4] 33 #[.int .i64 y1, .int .i64 y2] 25 #[.int .i64 z1, .int .i64 z2] 25 q #[.int .i64 A, .int .i64 B] 124 wx) => cells_ln s.h.1.1
  have rp := fun q => fun s : Held (fun wx => Bx4 w #[.int .i64 x1, .int .i64 x2, .int .i64 x3, .int .i64 x4] 33 #[.int .i64 y1, .int .i64 y2] 25 #[.int .i64 z1, .int .i64 z2] 25 q #[.int .i64 A, .int .i64 B] 124 wx) => cells_pl s.h.1.2.1
  have rv := fun q => fun s : Held (fun wx => Bx4 w #[.int .i64 x1, .int .i64 x2, .int .i64 x3, .int .i64 x4] 33 #[.int .i64 y1, .int .i64 y2] 25 #[.int .i64 z1, .int .i64 z2] 25 q #[.int .i64 A, .int .i64 B] 124 wx) => cells_vc s.h.2
  have HR := Lib.hid (And.intro rd (And.intro rp rv))
  clear rd rp rv
  have HS := Lib.hid hst
  clear hst
  rcases cr_gate X Y with ⟨g1, g2⟩ | ⟨g1, g2, g3⟩ | ⟨g1, g2, g3⟩ | ⟨g1, g2, g3⟩ | ⟨g1, g2⟩
  all_goals
    first
      | (have e : msB X Y = true := by unfold msB; simp; omega)
      | (have e : msB X Y = false := by unfold msB; simp; omega)
    rw [e]
    clear e
    (try have d1 : decide (0 < Y) = false := decide_eq_false (by assumption))
    (try have d2 : decide (Y < 0) = false := decide_eq_false (by assumption))
    (try have d3 : decide (0 < Y) = true := decide_eq_true (by assumption))
    (try have d4 : decide (Y < 0) = true := decide_eq_true (by assumption))
    go_enter Try.func95, Try.ntmps95
    go_wp2_with fail
    refine (H1.out _).mono ?_
    rintro e w1 ⟨rfl, b1⟩
    have hs1 := HS.out.step b1
    have hst := Bx4.new hs1 #[.int .i64 A, .int .i64 B] 124
    clear b1 hs1 c10 c11 c20 c21
    go_wp2
    generalize w1.heap.size = q at *
    have rd0 := fun s => (HR.out.1 q s).1
    have rd1 := fun s => (HR.out.1 q s).2.1
    have rd2 := fun s => (HR.out.1 q s).2.2.1
    have rd3 := fun s => (HR.out.1 q s).2.2.2
    have rp0 := fun s => (HR.out.2.1 q s).1
    have rp1 := fun s => (HR.out.2.1 q s).2
    have rv0 := fun s => (HR.out.2.2 q s).1
    have rv1 := fun s => (HR.out.2.2 q s).2
    haveI hne : Nonempty (Held fun wx => Bx4 w #[.int .i64 x1, .int .i64 x2, .int .i64 x3, .int .i64 x4] 33 #[.int .i64 y1, .int .i64 y2] 25 #[.int .i64 z1, .int .i64 z2] 25 q #[.int .i64 A, .int .i64 B] 124 wx) := ⟨⟨_, hst⟩⟩
    refine wp_region_class (fun wx => Bx4 w #[.int .i64 x1, .int .i64 x2, .int .i64 x3, .int .i64 x4] 33 #[.int .i64 y1, .int .i64 y2] 25 #[.int .i64 z1, .int .i64 z2] 25 q #[.int .i64 A, .int .i64 B] 124 wx) (by kernel_rfl) (by kernel_rfl) (Bx4.drew hst) ?_
    repeat (go_big_quiet_step (first
      | (go_at_call 92; with_reducible exact held_call Bx4.step (H2.out _))
      | (go_at_call 92; with_reducible exact held_call Bx4.step (H3.out _))
      | (go_at_call 93; with_reducible exact held_call Bx4.step (H4.out _))
      | (go_at_call 93; with_reducible exact held_call Bx4.step (H5.out _))))
    refine wpQuiet_nil ?_
    intro _ hw'
    obtain ⟨⟨wq, hst6⟩, rfl⟩ := hw'
    (try dsimp only)
    go_wp2
    go_ret
    exact ⟨rfl, hst6.1.2.2.2⟩
end Go.Proofs.Ythahakefmpajfaa

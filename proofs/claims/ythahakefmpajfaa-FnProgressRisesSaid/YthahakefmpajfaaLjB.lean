/- Lines (impl): the methods of a line; heights, sides, what a step misses. -/
import Derived.Test.YthahakefmpajfaaLjA
namespace Go.Proofs.Ythahakefmpajfaa
open Go.RowKit
set_option linter.unusedVariables false
set_option linter.unusedSimpArgs false

theorem cells_vc {w : World} {g : Nat} {a b : Int} (h : w.heap[g]? = some (.cells #[.int .i64 a, .int .i64 b] 124 (0, 0))) :
    w.cell? ⟨g, 0, none⟩ = some (.int .i64 a) ∧ w.cell? ⟨g, 1, none⟩ = some (.int .i64 b) :=
  ⟨cell_of_row w _ 0 _ _ _ h, cell_of_row w _ 1 _ _ _ h⟩
set_option maxRecDepth 100000 in
set_option maxHeartbeats 1000000 in
theorem i_liB (l : Ln) (w : World) : Calls Try.prog 46 #[.agg #[.int .i64 l.1.1, .int .i64 l.1.2, .int .i64 l.2.1, .int .i64 l.2.2]] w fun e w' => e = .returned (.bool (liB l)) ∧ Below w.heap.size w w' := by
  have H1 := Lib.hid (fun w => i_plB l.1 w)
  have H2 := Lib.hid (fun w => i_plB l.2 w)
  rw [liB_bool]
  obtain ⟨⟨x1, x2⟩, x3, x4⟩ := l
  dsimp only at *
  generalize plB (x1, x2) = t at *
  generalize plB (x3, x4) = u at *
  have hst := Lib.hid (Bx1.new w #[.int .i64 x1, .int .i64 x2, .int .i64 x3, .int .i64 x4] 33)
  have q0 := cells_ln hst.out.1
  obtain ⟨c00, c01, c02, c03⟩ := q0
  obtain ⟨v1, e1⟩ : ∃ v, (x1 == x3) = v := ⟨_, rfl⟩
  obtain ⟨v2, e2⟩ : ∃ v, (x2 == x4) = v := ⟨_, rfl⟩
  rw [e1, e2]
  cases t <;> cases u <;> cases v1 <;> cases v2
  all_goals
    go_enter Try.func46, Try.ntmps46
    go_wp2_with (first
      | (go_at_call 47; ((with_reducible refine (H1.out _).mono ?_); rintro e w' ⟨rfl, b⟩; have hs2 := Lib.hid (hst.out.step b); clear hst b c00 c01 c02 c03; have hst := hs2; clear hs2; have q0 := cells_ln hst.out.1; obtain ⟨c00, c01, c02, c03⟩ := q0))
      | (go_at_call 47; ((with_reducible refine (H2.out _).mono ?_); rintro e w' ⟨rfl, b⟩; have hs2 := Lib.hid (hst.out.step b); clear hst b c00 c01 c02 c03; have hst := hs2; clear hs2; have q0 := cells_ln hst.out.1; obtain ⟨c00, c01, c02, c03⟩ := q0)))
    go_ret
    exact ⟨rfl, hst.out.2⟩
set_option maxRecDepth 100000 in
set_option maxHeartbeats 1000000 in
theorem i_hgt (l : Ln) (p : Int × Int) (w : World) (hl : plB l.1 = true) (hm : plB l.2 = true) (hp : plB p = true) :
    Calls Try.prog 77 #[.agg #[.int .i64 l.1.1, .int .i64 l.1.2, .int .i64 l.2.1, .int .i64 l.2.2], .agg #[.int .i64 p.1, .int .i64 p.2]] w
      fun e w' => e = .returned (.int .i64 (hgt l p)) ∧ Below w.heap.size w w' := by
  obtain ⟨m1, m2, m3, m4, _⟩ := crx_bd hl hm hl hp
  have H1 := Lib.hid (fun w => i_less l.2 l.1 w hm hl)
  have H2 := Lib.hid (fun w => i_less p l.1 w hp hl)
  have H3 := Lib.hid (fun w => i_vcross (l.2.1 - l.1.1, l.2.2 - l.1.2) (p.1 - l.1.1, p.2 - l.1.2) w ⟨m1, m3⟩ ⟨m4, m2⟩)
  unfold hgt crx
  clear hl hm hp m1 m2 m3 m4
  obtain ⟨⟨x1, x2⟩, x3, x4⟩ := l
  obtain ⟨y1, y2⟩ := p
  dsimp only at *
  have hst := (Bx2.new w #[.int .i64 x1, .int .i64 x2, .int .i64 x3, .int .i64 x4] 33 #[.int .i64 y1, .int .i64 y2] 25)
  have rd := fun s : Held (fun wx => Bx2 w #[.int .i64 x1, .int .i64 x2, .int .i64 x3, .int .i64 x4] 33 #[.int .i64 y1, .int .i64 y2] 25 wx) => cells_ln s.h.1
  have rp := fun s : Held (fun wx => Bx2 w #[.int .i64 x1, .int .i64 x2, .int .i64 x3, .int .i64 x4] 33 #[.int .i64 y1, .int .i64 y2] 25 wx) => cells_pl s.h.2.1
  have rd0 := fun s => (rd s).1
  have rd1 := fun s => (rd s).2.1
  have rd2 := fun s => (rd s).2.2.1
  have rd3 := fun s => (rd s).2.2.2
  have rp0 := fun s => (rp s).1
  have rp1 := fun s => (rp s).2
  clear rd rp
  generalize hA : x3 - x1 = A at *
  generalize hB : x4 - x2 = B at *
  generalize hC : y1 - x1 = C at *
  generalize hD : y2 - x2 = D at *
  clear hA hB hC hD
  go_enter Try.func77, Try.ntmps77
  go_wp2
  haveI hne : Nonempty (Held fun wx => Bx2 w #[.int .i64 x1, .int .i64 x2, .int .i64 x3, .int .i64 x4] 33 #[.int .i64 y1, .int .i64 y2] 25 wx) := ⟨⟨_, hst⟩⟩
  refine wp_region_class (fun wx => Bx2 w #[.int .i64 x1, .int .i64 x2, .int .i64 x3, .int .i64 x4] 33 #[.int .i64 y1, .int .i64 y2] 25 wx) (by kernel_rfl) (by kernel_rfl) hst.drew ?_
  repeat (go_big_quiet_step (first
    | (go_at_call 92; with_reducible exact held_call Bx2.step (H1.out _))
    | (go_at_call 92; with_reducible exact held_call Bx2.step (H2.out _))
    | (go_at_call 93; with_reducible exact held_call Bx2.step (H3.out _))))
  refine wpQuiet_nil ?_
  intro _ hw'
  obtain ⟨⟨wq, hst6⟩, rfl⟩ := hw'
  (try dsimp only)
  go_wp2
  go_ret
  exact ⟨rfl, hst6.2.2⟩
theorem sd_cm {l : Ln} {p : Int × Int} (h1 : liB l = true) (h2 : plB p = true) : sdW l p = cmI 0 (hgt l p) := by
  unfold sdW cmI
  rw [h1, h2]
  simp
  split
  · split <;> omega
  · split <;> simp_all
set_option maxRecDepth 100000 in
set_option maxHeartbeats 1000000 in
theorem i_side (l : Ln) (p : Int × Int) (w : World) (h1 : liB l = true) (h2 : plB p = true) :
    Calls Try.prog 96 #[.agg #[.int .i64 l.1.1, .int .i64 l.1.2, .int .i64 l.2.1, .int .i64 l.2.2], .agg #[.int .i64 p.1, .int .i64 p.2]] w
      fun e w' => e = .returned (.int .i64 (sdW l p)) ∧ Below w.heap.size w w' := by
  have H1 := Lib.hid (fun w => i_hgt l p w (liB_iff.1 h1).1 (liB_iff.1 h1).2.1 h2)
  rw [sd_cm h1 h2]
  generalize hgt l p = r at *
  have H2 := Lib.hid (fun w => i_cmI 0 r w)
  clear h1 h2
  obtain ⟨⟨x1, x2⟩, x3, x4⟩ := l
  obtain ⟨y1, y2⟩ := p
  dsimp only at *
  have hst := Lib.hid (Bx2.new w #[.int .i64 x1, .int .i64 x2, .int .i64 x3, .int .i64 x4] 33 #[.int .i64 y1, .int .i64 y2] 25)
  have q0 := cells_ln hst.out.1
  obtain ⟨c00, c01, c02, c03⟩ := q0
  have q1 := cells_pl hst.out.2.1
  obtain ⟨c10, c11⟩ := q1
  go_enter Try.func96, Try.ntmps96
  go_wp2_with (first
    | (go_at_call 77; ((with_reducible refine (H1.out _).mono ?_); rintro e w' ⟨rfl, b⟩; have hs2 := Lib.hid (hst.out.step b); clear hst b c00 c01 c02 c03 c10 c11; have hst := hs2; clear hs2))
    | (go_at_call 98; ((with_reducible refine (H2.out _).mono ?_); rintro e w' ⟨rfl, rfl⟩)))
  go_ret
  exact ⟨rfl, hst.out.2.2⟩
end Go.Proofs.Ythahakefmpajfaa

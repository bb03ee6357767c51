/- The law FnSidesTurn: seen from its other end a line has its sides turned. -/
import Derived.Test.YtnpgppenkpkfnaaLjC
import Derived.Test.YtnpgppenkpkfnaaLjK
import Derived.Test.YtnpgppenkpkfnaaLiJ
namespace Go.Proofs.Ytnpgppenkpkfnaa
open Go.RowKit
set_option linter.unusedVariables false
set_option linter.unusedSimpArgs false

theorem hgt_turn (l : Ln) (p : Int × Int) : hgt (l.2, l.1) p = - hgt l p := by
  unfold hgt crx
  grind
theorem liB_turn (l : Ln) : liB (l.2, l.1) = liB l := by
  have h : (liB (l.2, l.1) = true) ↔ (liB l = true) := by
    rw [liB_iff, liB_iff]
    constructor
    · rintro ⟨a, b, c⟩; exact ⟨b, a, fun e => c e.symm⟩
    · rintro ⟨a, b, c⟩; exact ⟨b, a, fun e => c e.symm⟩
  cases h1 : liB (l.2, l.1) <;> cases h2 : liB l <;> simp_all
theorem sd_turn (l : Ln) (p : Int × Int) : sdW l p = - sdW (l.2, l.1) p := by
  unfold sdW
  rw [liB_turn, hgt_turn]
  split
  · split
    · rw [if_neg (by omega), if_pos (by omega)]; omega
    · split
      · rw [if_pos (by omega)]
      · rw [if_neg (by omega), if_neg (by omega)]; omega
  · omega
set_option maxRecDepth 100000 in
set_option maxHeartbeats 4000000 in
theorem w_FnSidesTurn (a0 : Option Addr) (len cap : Nat) (zs : List Int) (w : World) (hr : IsRow .u8 w a0 len cap zs) :
    Calls Try.prog 4 #[.slice a0 len cap] w fun e w' => e = .returned (.bool true) ∧ Below w.heap.size w w' := by
  by_cases hbig : len ≤ 1048576
  · have hcode := code_of_row hr hbig
    go_enter Try.func4, Try.ntmps4
    go_wp2_with (first
      | (go_at_call 16; go_in)
      | (go_at_call 26; ((with_reducible refine (d_sideOf _ len cap a0 hcode).mono ?_); rintro e w1 ⟨l, p, rfl, b1⟩)))
    have hst := Bx3.new w1 #[.int .i64 l.1.1, .int .i64 l.1.2, .int .i64 l.2.1, .int .i64 l.2.2] 27 #[.int .i64 p.1, .int .i64 p.2] 25 #[.int .i64 l.2.1, .int .i64 l.2.2, .int .i64 l.1.1, .int .i64 l.1.2] 27
    have H1 := Lib.hid (fun w => i_SideOf l p w)
    have H2 := Lib.hid (fun w => s_side l p w)
    have H3 := Lib.hid (fun w => i_SideOf (l.2, l.1) p w)
    have sb := sd_bd (l.2, l.1) p
    rw [sd_turn l p] at H1 H2
    generalize sdW (l.2, l.1) p = t at *
    have e1 : (-t == -t) = true := by simp
    have e2 : IntKind.i64.wrap (-t) = -t := IntWalk.i64_in _ (by omega)
    have HB := Lib.hid b1
    clear b1 hcode hr hbig sb
    obtain ⟨⟨x1, x2⟩, x3, x4⟩ := l
    obtain ⟨y1, y2⟩ := p
    dsimp only at *
    have rd0 := fun s : Held (fun wx => Bx3 w1 #[.int .i64 x1, .int .i64 x2, .int .i64 x3, .int .i64 x4] 27 #[.int .i64 y1, .int .i64 y2] 25 #[.int .i64 x3, .int .i64 x4, .int .i64 x1, .int .i64 x2] 27 wx) => (cells4 s.h.1).1
    have rd1 := fun s : Held (fun wx => Bx3 w1 #[.int .i64 x1, .int .i64 x2, .int .i64 x3, .int .i64 x4] 27 #[.int .i64 y1, .int .i64 y2] 25 #[.int .i64 x3, .int .i64 x4, .int .i64 x1, .int .i64 x2] 27 wx) => (cells4 s.h.1).2.1
    have rd2 := fun s : Held (fun wx => Bx3 w1 #[.int .i64 x1, .int .i64 x2, .int .i64 x3, .int .i64 x4] 27 #[.int .i64 y1, .int .i64 y2] 25 #[.int .i64 x3, .int .i64 x4, .int .i64 x1, .int .i64 x2] 27 wx) => (cells4 s.h.1).2.2.1
    have rd3 := fun s : Held (fun wx => Bx3 w1 #[.int .i64 x1, .int .i64 x2, .int .i64 x3, .int .i64 x4] 27 #[.int .i64 y1, .int .i64 y2] 25 #[.int .i64 x3, .int .i64 x4, .int .i64 x1, .int .i64 x2] 27 wx) => (cells4 s.h.1).2.2.2
    have rp0 := fun s : Held (fun wx => Bx3 w1 #[.int .i64 x1, .int .i64 x2, .int .i64 x3, .int .i64 x4] 27 #[.int .i64 y1, .int .i64 y2] 25 #[.int .i64 x3, .int .i64 x4, .int .i64 x1, .int .i64 x2] 27 wx) => (cells2 s.h.2.1).1
    have rp1 := fun s : Held (fun wx => Bx3 w1 #[.int .i64 x1, .int .i64 x2, .int .i64 x3, .int .i64 x4] 27 #[.int .i64 y1, .int .i64 y2] 25 #[.int .i64 x3, .int .i64 x4, .int .i64 x1, .int .i64 x2] 27 wx) => (cells2 s.h.2.1).2
    have rq0 := fun s : Held (fun wx => Bx3 w1 #[.int .i64 x1, .int .i64 x2, .int .i64 x3, .int .i64 x4] 27 #[.int .i64 y1, .int .i64 y2] 25 #[.int .i64 x3, .int .i64 x4, .int .i64 x1, .int .i64 x2] 27 wx) => (cells4 s.h.2.2.1).1
    have rq1 := fun s : Held (fun wx => Bx3 w1 #[.int .i64 x1, .int .i64 x2, .int .i64 x3, .int .i64 x4] 27 #[.int .i64 y1, .int .i64 y2] 25 #[.int .i64 x3, .int .i64 x4, .int .i64 x1, .int .i64 x2] 27 wx) => (cells4 s.h.2.2.1).2.1
    have rq2 := fun s : Held (fun wx => Bx3 w1 #[.int .i64 x1, .int .i64 x2, .int .i64 x3, .int .i64 x4] 27 #[.int .i64 y1, .int .i64 y2] 25 #[.int .i64 x3, .int .i64 x4, .int .i64 x1, .int .i64 x2] 27 wx) => (cells4 s.h.2.2.1).2.2.1
    have rq3 := fun s : Held (fun wx => Bx3 w1 #[.int .i64 x1, .int .i64 x2, .int .i64 x3, .int .i64 x4] 27 #[.int .i64 y1, .int .i64 y2] 25 #[.int .i64 x3, .int .i64 x4, .int .i64 x1, .int .i64 x2] 27 wx) => (cells4 s.h.2.2.1).2.2.2
    go_wp2
    haveI hne : Nonempty (Held fun wx => Bx3 w1 #[.int .i64 x1, .int .i64 x2, .int .i64 x3, .int .i64 x4] 27 #[.int .i64 y1, .int .i64 y2] 25 #[.int .i64 x3, .int .i64 x4, .int .i64 x1, .int .i64 x2] 27 wx) := ⟨⟨_, hst⟩⟩
    refine wp_region_class (fun wx => Bx3 w1 #[.int .i64 x1, .int .i64 x2, .int .i64 x3, .int .i64 x4] 27 #[.int .i64 y1, .int .i64 y2] 25 #[.int .i64 x3, .int .i64 x4, .int .i64 x1, .int .i64 x2] 27 wx) (by kernel_rfl) (by kernel_rfl) (Bx3.drew hst) ?_
    repeat (go_big_quiet_step (first
      | (go_at_call 25; with_reducible exact held_call Bx3.step (H1.out _))
      | (go_at_call 27; with_reducible exact held_call Bx3.step (H2.out _))
      | (go_at_call 25; with_reducible exact held_call Bx3.step (H3.out _))))
    refine wpQuiet_nil ?_
    intro _ hw'
    obtain ⟨⟨wq, hst6⟩, rfl⟩ := hw'
    (try dsimp only)
    go_wp2
    go_ret
    exact ⟨rfl, HB.out.trans (hst6.2.2.2.mono HB.out.size)⟩
  · have h1 : (1048576 : Int) < (len : Int) := by omega
    go_enter Try.func4, Try.ntmps4
    go_wp2_with (go_at_call 16; go_in)
    go_ret
    exact ⟨rfl, Below.refl _ _⟩
end Go.Proofs.Ytnpgppenkpkfnaa

/- The pieces of legs of no seconds: none; RunTide where all legs are of no seconds. -/
import Derived.Test.YtonfenekjocopaaLgG
import Derived.RangeFuncNested
import Derived.RangeFuncBound
import Derived.RangeFuncCalls
import Derived.RangeFuncLeaves
import Derived.WalkKit
import Derived.OwnWalkIn
import Derived.TacticsInMore
import Derived.LoopNIn
import Derived.LoopIn
namespace Go.Proofs.Ytonfenekjocopaa
open Go.RowKit Ieee
set_option linter.unusedVariables false
set_option linter.unusedSimpArgs false
attribute [local go_sem] st_cplx

set_option maxRecDepth 100000 in
set_option maxHeartbeats 2000000 in
theorem pieces_stops (n : Nat) (ls : Nat → Int × Nat × Int) (A : Option Addr) (g o m cap b : Nat) (w : World) (hm : m ≤ 1000000) (hA : 0 < m → A = some ⟨g, o, none⟩) (hw : LegsIn w g o m ls) (hz : ∀ j, j < m → (ls j).2.2 = 0)
    (hb : w.cell? ⟨b, 0, none⟩ = some (.slice A m cap)) (Kp : World → World → Prop) :
    SeqStopsK Fence.wide n Try.prog 85 #[.pointer (some ⟨b, 0, none⟩)] (fun (x : Empty) => (#[] : Array Value)) Kp (fun _ => True) (fun _ => False) 0 w := fun l J Jx W hW hJ hJx hY h0 => by
  refine callsIn_wide.2 ?_
  have HW := Lib.hid (hw.below hW (Nat.le_refl _))
  have hbW := BelW.cell hW hb
  have HJ := Lib.hid hJ
  have H0 := Lib.hid h0
  clear hY hJ hJx h0 hw hb hW
  show Calls Try.prog 85 #[.func (.yield l) #[] #[], .pointer (some ⟨b, 0, none⟩)] W _
  go_enter Try.func85, Try.ntmps85
  go_wp2_with fail
  go_loopw [8] (fun i wr => ∃ k : Nat, k ≤ m ∧ i = .int .i64 k ∧ J [] wr ∧ Below W.heap.size W wr) (fun i _ => m - (intOf i).toNat)
  case atStart => exact ⟨0, Nat.zero_le _, rfl, H0.out, Below.refl _ _⟩
  case round =>
    obtain ⟨k, hk, rfl, hj, hbel⟩ := hrel
    have HB := Lib.hid (And.intro hj hbel)
    by_cases hlt : k < m
    · obtain rfl := hA (by omega)
      obtain ⟨c0, c1, c2, hs⟩ := (HW.out.below HB.out.2 (Nat.le_refl _)) k hlt
      have hz0 := hz k hlt
      rw [hz0] at c2
      have a1 := fun (x y z : Value) => st_new Try.prog wr x y z (.float .f32 (ls k).2.1) 45 1 (by omega) rfl
      have a2 := fun (x y z : Value) => st_new Try.prog wr x y z (.int .i64 0) 45 2 (by omega) rfl
      have hsz := hbel.size
      clear hj hbel hz0 hs
      generalize (ls k).1 = hd at *
      generalize (ls k).2.1 = s at *
      go_wp2_with fail
      have hj5 := HJ.out [] wr (wr.alloc (.cells #[.int .i64 hd, .float .f32 s, .int .i64 0] 45)) none HB.out.1 (World.grownBy_alloc _ _ _) (fun r e => by cases e)
      have hb5 := HB.out.2.alloc hsz (.cells #[.int .i64 hd, .float .f32 s, .int .i64 0] 45)
      have H5 := Lib.hid (And.intro hj5 hb5)
      clear hj5 hb5 a1 a2 c0 c1 c2
      generalize wr.alloc (.cells #[.int .i64 hd, .float .f32 s, .int .i64 0] 45) = W5 at *
      go_loopw [5] (fun i wr' => i = .int .i64 0 ∧ wr' = W5) (fun _ _ => 0)
      case atStart => exact ⟨rfl, rfl⟩
      case round =>
        obtain ⟨rfl, rfl⟩ := hrel
        go_wp2_with fail
        go_roundw
        case rel => exact ⟨k + 1, by omega, by go_num, H5.out.1, H5.out.2⟩
        case measure => simp [intOf]; omega
    · obtain rfl : k = m := by omega
      go_wp2
      go_end0
      exact ⟨⟨_, rfl⟩, .inl ⟨[], trivial, HB.out.1⟩⟩
end Go.Proofs.Ytonfenekjocopaa

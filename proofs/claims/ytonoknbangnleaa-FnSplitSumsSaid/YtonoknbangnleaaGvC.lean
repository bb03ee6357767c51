/- The walks of OverGround, Cross, AlongTrack and OffTrack (impl and spec). -/
import Derived.Test.YtonoknbangnleaaGvB
import Derived.Test.YtonoknbangnleaaWk
namespace Go.Proofs.Ytonoknbangnleaa
open Go.RowKit Ieee
set_option linter.unusedVariables false
set_option linter.unusedSimpArgs false

set_option maxHeartbeats 400000 in
theorem i_cross (a b c d p q s : Nat) (w : World) (h1 : floatBits .mul .f64 a d = some p) (h2 : floatBits .mul .f64 b c = some q) (h3 : floatBits .sub .f64 p q = some s) :
    Calls Try.prog 47 #[.complex .f64 a b, .complex .f64 c d] w fun e w' => e = .returned (.float .f64 s) ∧ w = w' := by
  have q1 := fun w => run_float_arith (P := Try.prog) w .mul 43 .f64 _ _ _ h1
  have q2 := fun w => run_float_arith (P := Try.prog) w .mul 43 .f64 _ _ _ h2
  have q3 := fun w => run_float_arith (P := Try.prog) w .sub 43 .f64 _ _ _ h3
  clear h1 h2 h3
  go_enter Try.func47, Try.ntmps47
  go_wp2
  go_ret
  exact ⟨rfl, rfl⟩
set_option maxHeartbeats 400000 in
theorem s_cross (a b c d p q s : Nat) (w : World) (h1 : floatBits .mul .f64 a d = some p) (h2 : floatBits .mul .f64 b c = some q) (h3 : floatBits .sub .f64 p q = some s) :
    Calls Try.prog 52 #[.complex .f64 a b, .complex .f64 c d] w fun e w' => e = .returned (.float .f64 s) ∧ w = w' := by
  have q1 := fun w => run_float_arith (P := Try.prog) w .mul 43 .f64 _ _ _ h1
  have q2 := fun w => run_float_arith (P := Try.prog) w .mul 43 .f64 _ _ _ h2
  have q3 := fun w => run_float_arith (P := Try.prog) w .sub 43 .f64 _ _ _ h3
  clear h1 h2 h3
  go_enter Try.func52, Try.ntmps52
  go_wp2
  go_ret
  exact ⟨rfl, rfl⟩

theorem velok_no {u v : Nat} {t : Bool} (hu : u < 4294967296) (hv : v < 4294967296) (hno : ¬ okV u v) (ht : S.VecIs u v t) : t = false := by
  cases t
  · rfl
  · exact absurd ⟨⟨hu, hv⟩, ht.1 rfl⟩ hno





end Go.Proofs.Ytonoknbangnleaa

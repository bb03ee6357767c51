/- SpeedAt, MadeUp (impl). -/
import Derived.Test.YtonoknbangnleaaGreatPZ
import Derived.Test.YtonoknbangnleaaGreatTnA
namespace Go.Proofs.YtonoknbangnleaaGreat
open Go.RowKit Ieee
set_option linter.unusedSimpArgs false
set_option linter.unusedVariables false

/-- A number that is told, or none. -/
def Told (v : Prop) (r : Nat) (w : World) (e : Ending) (w' : World) : Prop :=
  Below w.heap.size w w' ∧ ((v ∧ e = .returned (.tuple #[.float .f32 r, .bool true])) ∨ (¬ v ∧ e = .returned (.tuple #[.float .f32 0, .bool false])))
theorem Told.yes {v : Prop} {r : Nat} {w : World} {e : Ending} {w' : World} (h : v) (he : e = .returned (.tuple #[.float .f32 r, .bool true])) (b : Below w.heap.size w w') : Told v r w e w' := ⟨b, .inl ⟨h, he⟩⟩
theorem Told.no {v : Prop} {r : Nat} {w : World} {e : Ending} {w' : World} (h : ¬ v) (he : e = .returned (.tuple #[.float .f32 0, .bool false])) (b : Below w.heap.size w w') : Told v r w e w' := ⟨b, .inr ⟨h, he⟩⟩
/-- What can be asked of a polar. -/
def AskOk (P : Pol) (x : Nat) (a : Int) : Prop := PolOk P ∧ okA x ∧ 0 ≤ a ∧ a ≤ 180

set_option maxRecDepth 100000 in
set_option maxHeartbeats 1000000 in
theorem i_SpeedAt (P : Pol) (x : Nat) (a : Int) (w : World) (h : PolIn w P) (hx : x < 4294967296) :
    Calls Tryz.prog 11 #[.agg #[.slice P.W P.nw P.cw, .slice P.A P.na P.ca, .slice P.S P.ns P.cs], .float .f32 x, .int .i64 a] w fun e w' => Told (AskOk P x a) (spd P x a) w e w' := by
  suffices hs : ∀ (V : Prop) (r : Nat), Hid (V ↔ AskOk P x a) → Hid (r = spd P x a) → Calls Tryz.prog 11 #[.agg #[.slice P.W P.nw P.cw, .slice P.A P.na P.ca, .slice P.S P.ns P.cs], .float .f32 x, .int .i64 a] w fun e w' => Told V r w e w' from hs _ _ (Lib.hid Iff.rfl) (Lib.hid rfl)
  intro V r HV HRR
  have HI := Lib.hid h
  clear h
  go_enter Tryz.func11, Tryz.ntmps11
  go_wp2_with fail
  with_reducible refine (i_polarOk P _ (HI.out.keeps (keeps_alloc _ _))).mono ?_
  rintro e w1 ⟨t, ht, rfl, b1⟩
  have hB := (BoxIn.new w P).step b1
  have c0 := hB.c0
  have c1 := hB.c1
  have c2 := hB.c2
  have HB := Lib.hid hB
  clear hB b1
  cases t
  · have HN := Lib.hid (show ¬ V from fun h => says_no ht (HV.out.1 h).1)
    clear ht
    go_wp2
    go_ret2
    exact Told.no HN.out rfl HB.out.2
  · have HP := Lib.hid (says_yes ht)
    clear ht
    go_wp2_with fail
    with_reducible refine (i_air x _ hx).mono ?_
    rintro e w2 ⟨t, ht, rfl, rfl⟩
    cases t
    · have HN := Lib.hid (show ¬ V from fun h => says_no ht (HV.out.1 h).2.1)
      clear ht
      go_wp2
      go_ret2
      exact Told.no HN.out rfl HB.out.2
    · have HX := Lib.hid (says_yes ht)
      clear ht
      by_cases h0 : a < 0
      · have HN := Lib.hid (show ¬ V from fun h => by have := (HV.out.1 h).2.2.1; omega)
        go_wp2
        go_ret2
        exact Told.no HN.out rfl HB.out.2
      · by_cases h1 : 180 < a
        · have HN := Lib.hid (show ¬ V from fun h => by have := (HV.out.1 h).2.2.2; omega)
          go_wp2
          go_ret2
          exact Told.no HN.out rfl HB.out.2
        · have HY := Lib.hid (show V from HV.out.2 ⟨HP.out, HX.out, by omega, by omega⟩)
          have hs := i_speedOf P x a w1 (HI.out.keeps HB.out.keeps) HP.out HX.out (by omega) (by omega)
          rw [← HRR.out] at hs
          go_wp2_with fail
          with_reducible refine hs.mono ?_
          rintro e w3 ⟨rfl, b3⟩
          have HB3 := Lib.hid (HB.out.step b3)
          clear hs b3
          go_wp2
          go_ret2
          exact Told.yes HY.out rfl HB3.out.2
set_option maxHeartbeats 400000 in
theorem i_windward (k : Nat) (w : World) (hk : k < 360) :
    Calls Tryz.prog 24 #[.complex .f64 (trn k).1 (trn k).2] w fun e w' => e = .returned (.float .f32 (cosW k)) ∧ w = w' := by
  have hs : (Tryz.prog.underlying 42).isSome = true := by rw [Tryz.underlying42]; rfl
  have hc := fun w => run_convert_float_float (P := Tryz.prog) w 42 35 .f64 .f32 _ _ hs Tryz.underlying35 (cos_ok k hk).1
  generalize cosW k = c at *
  generalize trn k = t at *
  clear hs
  go_enter Tryz.func24, Tryz.ntmps24
  go_wp2
  go_ret
  exact ⟨rfl, rfl⟩
end Go.Proofs.YtonoknbangnleaaGreat

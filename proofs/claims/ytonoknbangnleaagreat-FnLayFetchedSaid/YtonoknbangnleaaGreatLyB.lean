/- sailingTo, CanFetch and TimeTo (impl) where a place can be fetched. -/
import Derived.Test.YtonoknbangnleaaGreatLyA
import Derived.Laws.Build
namespace Go.Proofs.YtonoknbangnleaaGreat
open Go.RowKit Ieee
set_option linter.unusedVariables false
set_option linter.unusedSimpArgs false

theorem mk_str (x : Value) (w : World) : (Instr.makeInterface 75 x).run Tryz.prog w = .ok (.iface 75 x) w := run_makeInterface w 75 x (by kernel_rfl)
theorem as_str (v : Value) (w : World) : (Instr.typeAssert (.iface 75 v) 65 75 true).run Tryz.prog w = .ok (.tuple #[v, .bool true]) w := by kernel_rfl
theorem as_beat (v : Value) (w : World) : (Instr.typeAssert (.iface 75 v) 65 93 true).run Tryz.prog w = .ok (.tuple #[.int .i64 0, .bool false]) w := by kernel_rfl
theorem as_runn (v : Value) (w : World) : (Instr.typeAssert (.iface 75 v) 65 94 true).run Tryz.prog w = .ok (.tuple #[.int .i64 0, .bool false]) w := by kernel_rfl
theorem call_angle (v : Value) (w : World) : (callMethod (.iface 75 v) "loop.example/g03321/impl.angle" #[]).run Tryz.prog w = .ok (.enter 133 #[v]) w := by kernel_rfl
attribute [local go_sem] mk_str as_str as_beat as_runn call_angle
theorem i_angle (n : Int) (w : World) : Calls Tryz.prog 133 #[.int .i64 n] w fun e w' => e = .returned (.int .i64 n) ∧ w = w' := by
  go_enter Tryz.func133, Tryz.ntmps133
  go_wp2
  go_ret
  exact ⟨rfl, rfl⟩
set_option maxRecDepth 100000 in
set_option maxHeartbeats 2000000 in
theorem i_sail (P : Pol) (v z : Nat × Nat) (w : World) (h : PolIn w P) (ha : v.1 < 4294967296) (hb : v.2 < 4294967296) (h1 : z.1 < 18446744073709551616) (h2 : z.2 < 18446744073709551616)
    (hf : ¬ frm v = -1) (hk : ¬ brg z = -1) (hu : (upE P (wsW v)).2 = true) (hd : (dnE P (wsW v)).2 = true) (o1 : (upE P (wsW v)).1 ≤ btw (frm v) (brg z)) (o2 : btw (frm v) (brg z) ≤ (dnE P (wsW v)).1) :
    Calls Tryz.prog 35 #[.agg #[.slice P.W P.nw P.cw, .slice P.A P.na P.ca, .slice P.S P.ns P.cs], .complex .f32 v.1 v.2, .complex .f64 z.1 z.2] w
      fun e w' => e = .returned (.tuple #[.iface 75 (.int .i64 (btw (frm v) (brg z))), .bool true]) ∧ Below w.heap.size w w' := by
  have HF := Lib.hid (fun w => i_from v.1 v.2 _ w ha hb (frm_is v))
  have HW := Lib.hid (fun w => i_wsp v w ha hb)
  have HG := Lib.hid (fun w' => i_brg z w' h1 h2)
  have HU := Lib.hid (fun w' (hk : Keeps w w') => i_upE P (wsW v) w' (h.keeps hk) (wsW_lt v))
  have HD := Lib.hid (fun w' (hk : Keeps w w') => i_dnE P (wsW v) w' (h.keeps hk) (wsW_lt v))
  have HB := Lib.hid (fun w' => i_btw (frm v) (brg z) w')
  generalize btw (frm v) (brg z) = o at *
  generalize frm v = f at *
  generalize brg z = k at *
  generalize upE P (wsW v) = u at *
  generalize dnE P (wsW v) = d at *
  generalize wsW v = x at *
  obtain ⟨ub, ut⟩ := u
  obtain ⟨db, dt⟩ := d
  obtain ⟨v1, v2⟩ := v
  obtain ⟨z1, z2⟩ := z
  dsimp only at *
  subst hu hd
  clear h ha hb h1 h2
  have n1 : ¬ o < ub := by omega
  have n2 : ¬ db < o := by omega
  have g1 : (f == -1) = false := by rw [beq_eq_false_iff_ne]; exact hf
  have g2 : (k == -1) = false := by rw [beq_eq_false_iff_ne]; exact hk
  clear o1 o2
  have hst := Lib.hid (BoxIn.new w P)
  go_enter Tryz.func35, Tryz.ntmps35
  go_wp2_with fail
  refine (HF.out _).mono ?_
  rintro e w1 ⟨rfl, b1⟩
  have hs1 := Lib.hid (hst.out.step b1)
  clear b1 hst
  go_wp2_with fail
  refine (HG.out _).mono ?_
  rintro e w2 ⟨rfl, b2⟩
  have hs2 := Lib.hid (hs1.out.step b2)
  clear b2 hs1
  go_wp2_with fail
  refine (HW.out _).mono ?_
  rintro e w3 ⟨rfl, b3⟩
  have hs3 := Lib.hid (hs2.out.step b3)
  clear b3 hs2
  have c0 := hs3.out.c0
  have c1 := hs3.out.c1
  have c2 := hs3.out.c2
  go_wp2_with fail
  refine (HU.out _ hs3.out.keeps).mono ?_
  rintro e w4 ⟨rfl, b4⟩
  have hs4 := Lib.hid (hs3.out.step b4)
  clear b4 hs3 c0 c1 c2
  have c0 := hs4.out.c0
  have c1 := hs4.out.c1
  have c2 := hs4.out.c2
  go_wp2_with fail
  refine (HD.out _ hs4.out.keeps).mono ?_
  rintro e w5 ⟨rfl, b5⟩
  have hs5 := Lib.hid (hs4.out.step b5)
  clear b5 hs4 c0 c1 c2
  go_wp2_with (go_at_call 63; ((with_reducible refine (HB.out _).mono ?_); rintro e w' ⟨rfl, rfl⟩))
  go_ret2
  exact ⟨rfl, hs5.out.below⟩
set_option maxRecDepth 100000 in
set_option maxHeartbeats 2000000 in
theorem i_fetch (P : Pol) (v z : Nat × Nat) (w : World) (h : PolIn w P) (ha : v.1 < 4294967296) (hb : v.2 < 4294967296) (h1 : z.1 < 18446744073709551616) (h2 : z.2 < 18446744073709551616)
    (hf : ¬ frm v = -1) (hk : ¬ brg z = -1) (hu : (upE P (wsW v)).2 = true) (hd : (dnE P (wsW v)).2 = true) (o1 : (upE P (wsW v)).1 ≤ btw (frm v) (brg z)) (o2 : btw (frm v) (brg z) ≤ (dnE P (wsW v)).1) :
    Calls Tryz.prog 15 #[.agg #[.slice P.W P.nw P.cw, .slice P.A P.na P.ca, .slice P.S P.ns P.cs], .complex .f32 v.1 v.2, .complex .f64 z.1 z.2] w
      fun e w' => e = .returned (.bool true) ∧ Below w.heap.size w w' := by
  have HC := Lib.hid (fun w' (hk' : Keeps w w') => i_sail P v z w' (h.keeps hk') ha hb h1 h2 hf hk hu hd o1 o2)
  generalize btw (frm v) (brg z) = o at *
  obtain ⟨v1, v2⟩ := v
  obtain ⟨z1, z2⟩ := z
  dsimp only at *
  clear h ha hb h1 h2 hf hk hu hd o1 o2
  have hst := BoxIn.new w P
  have c0 := hst.c0
  have c1 := hst.c1
  have c2 := hst.c2
  have HB := Lib.hid hst
  clear hst
  go_enter Tryz.func15, Tryz.ntmps15
  go_wp2_with fail
  refine (HC.out _ HB.out.keeps).mono ?_
  rintro e w1 ⟨rfl, b1⟩
  have HB1 := Lib.hid (HB.out.step b1)
  clear c0 c1 c2 HB b1
  go_wp2
  go_ret
  exact ⟨rfl, HB1.out.below⟩
set_option maxRecDepth 100000 in
set_option maxHeartbeats 2000000 in
theorem i_metres (z : Nat × Nat) (n f : Int) (w : World) (h1 : z.1 < 18446744073709551616) (h2 : z.2 < 18446744073709551616) :
    Calls Tryz.prog 36 #[.iface 75 (.int .i64 n), .complex .f64 z.1 z.2, .int .i64 f] w
      fun e w' => e = .returned (.tuple #[.float .f64 (lenX z), .bool true]) ∧ w = w' := by
  have cl := fun w => i_len z _ w h1 h2 (lenX_is z)
  generalize lenX z = l at *
  obtain ⟨z1, z2⟩ := z
  dsimp only at *
  clear h1 h2
  go_enter Tryz.func36, Tryz.ntmps36
  go_wp2_with (go_at_call 14; ((with_reducible refine (cl _).mono ?_); rintro e w' ⟨rfl, rfl⟩))
  go_ret2
  exact ⟨rfl, rfl⟩
end Go.Proofs.YtonoknbangnleaaGreat

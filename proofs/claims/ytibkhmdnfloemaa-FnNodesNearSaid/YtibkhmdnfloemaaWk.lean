/- The walks of chapter 3's small functions: ok, VelocityOk, Apparent, TrueWind, shareOk, damped, damp, Damp. -/
import Derived.Test.YtibkhmdnfloemaaWd
import Derived.Laws.ComplexArith
import Derived.Deep.RegionHeld3
import Derived.Deep.AppendLies
import Derived.Deep.DrawnRows
namespace Go.Proofs.Ytibkhmdnfloemaa
open Go.RowKit Ieee

theorem st_cplx (P : Program) (w : World) (a : Addr) (m : Mode) (k : FloatKind) (re im : Nat) : (store a (.complex k re im) m).run P w = stored P w a (.complex k re im) m := run_store P w a _ m rfl
attribute [local go_sem] st_cplx

theorem run_storeVar_cell {P : Program} (w : World) (g : Nat) (ty : TypeId) (v old : Value) (hc : w.cell? ⟨g, 0, none⟩ = some old) (hf : w.frozen? ⟨g, 0, none⟩ = false) (hi : (P.info? ty).map (·.size) = some 1) (h1 : v.oneCell' = true) :
    (storeVar ty ⟨g, 0, none⟩ v).run P w = .ok () (w.setCell ⟨g, 0, none⟩ v) := by
  have hcs : v.cells = #[v] := by cases v <;> first | rfl | cases h1
  cases hq : P.info? ty with
  | none => simp [hq] at hi
  | some i =>
    have hs : i.size = 1 := by simpa [hq] using hi
    simp [storeVar, sizeOf, typeInfo, hq, hcs, hs, storeCells, Addr.add, run_store P w _ _ _ h1, hc, hf]
/-- A value of one cell stored where a cell lies. -/
theorem wp_store_cell {P : Program} {o : Oper} {a : Act} {w : World} {K : Act → World → Prop} {Q : Exit → Act → World → Prop} (ty : TypeId) (x y : Operand) (ho : o.op = .store ty x y) (hd : o.dst = none)
    (g : Nat) (v old : Value) (hx : a.eval x = .pointer (some ⟨g, 0, none⟩)) (hy : a.eval y = v) (hc : w.cell? ⟨g, 0, none⟩ = some old) (hf : w.frozen? ⟨g, 0, none⟩ = false) (hi : (P.info? ty).map (·.size) = some 1) (h1 : v.oneCell' = true)
    (h : K a (w.setCell ⟨g, 0, none⟩ v)) : o.wp P a w K Q := by
  unfold Oper.wp execOp
  simp only [ho, hx, hy, Instr.storeAt, Instr.sureAddr, Sem.run_bind, Sem.run_pure, Result.andThen_ok, run_storeVar_cell w g ty v old hc hf hi h1]
  show K (a.put o.dst undef) _
  rw [hd]
  exact h

theorem blk_one {w : World} {g : Nat} {a : Value} {t : TypeId} (h : w.heap[g]? = some (.cells #[a] t (0, 0))) (u : Value) :
    (w.setCell ⟨g, 0, none⟩ u).heap[g]? = some (.cells #[u] t (0, 0)) := by
  simp [World.setCell, Array.getElem?_modify, h]
theorem grown_refl (w : World) (r : Option Nat) : w.grownBy w r := ⟨rfl, rfl, rfl, Nat.le_refl _, fun _ _ _ => rfl⟩
theorem grown_drew (w : World) (r : Option Nat) : w.grownBy w.drew r := ⟨rfl, rfl, rfl, Nat.le_refl _, fun _ _ _ => rfl⟩

set_option maxHeartbeats 1000000 in
theorem i_ok (a b : Nat) (w : World) (ha : a < 4294967296) (hb : b < 4294967296) :
    Calls Try.prog 45 #[.complex .f32 a b] w fun e w' => ∃ t, S.VecIs a b t ∧ e = .returned (.bool t) ∧ (t = true → w' = w) ∧ w.grownBy w' none := by
  have hs : (Try.prog.underlying 69).isSome = true := by rw [Try.underlying69]; rfl
  rcases part_flag a ha with ⟨y, t, ht, hy, hc, hf⟩ | ⟨hno, c, d, hn⟩
  · have qa := fun w => run_convert_float_float (P := Try.prog) w 69 53 .f32 .f64 _ _ hs Try.underlying53 hc
    have hf' : (FloatKind.f64.format.order (y % 9223372036854775808) 4636737291354636288 == some .lt || FloatKind.f64.format.order (y % 9223372036854775808) 4636737291354636288 == some .eq) = t := hf
    have HT := Lib.hid ht
    clear ht hf hc
    cases t
    · go_enter Try.func45, Try.ntmps45
      go_wp2_with (go_at_call 41; ((with_reducible refine (abs_any y _ hy).mono ?_); rintro e w' ⟨rfl, rfl⟩))
      go_ret
      exact ⟨false, ⟨fun h => (by cases h), fun h => HT.out.2 h.1⟩, rfl, fun h => (by cases h), grown_refl _ _⟩
    · have hoa := HT.out.1 rfl
      rcases part_flag b hb with ⟨z, t, ht, hz, hc, hf⟩ | ⟨hno, c, d, hn⟩
      · have qb := fun w => run_convert_float_float (P := Try.prog) w 69 53 .f32 .f64 _ _ hs Try.underlying53 hc
        have hg' : (FloatKind.f64.format.order (z % 9223372036854775808) 4636737291354636288 == some .lt || FloatKind.f64.format.order (z % 9223372036854775808) 4636737291354636288 == some .eq) = t := hf
        have HU := Lib.hid (And.intro hoa ht)
        clear ht hf hc hoa
        cases t
        all_goals
          go_enter Try.func45, Try.ntmps45
          go_wp2_with (first
            | (go_at_call 41; ((with_reducible refine (abs_any y _ hy).mono ?_); rintro e w' ⟨rfl, rfl⟩))
            | (go_at_call 41; ((with_reducible refine (abs_any z _ hz).mono ?_); rintro e w' ⟨rfl, rfl⟩)))
          go_ret
          refine ⟨_, ?_, rfl, fun _ => rfl, grown_refl _ _⟩
          obtain ⟨h1, h2⟩ := HU.out
          unfold S.VecIs
          rw [← h2]
          simp [h1]
      · obtain ⟨nb, h1, qb⟩ := wide_nan 69 53 hs Try.underlying53 b hn
        have hl := fun w => (h1 w).1
        have ho := fun w => (h1 w).2 4636737291354636288
        clear h1 hn hoa
        go_enter Try.func45, Try.ntmps45
        go_wp2_with (first
          | (go_at_call 41; ((with_reducible refine (abs_any y _ hy).mono ?_); rintro e w' ⟨rfl, rfl⟩))
          | (go_at_call 41; ((with_reducible refine (abs_any _ _ (hl _)).mono ?_); rintro e w' ⟨rfl, rfl⟩)))
        go_ret
        exact ⟨false, ⟨fun h => (by cases h), fun h => absurd h.2 hno⟩, rfl, fun h => (by cases h), grown_drew _ _⟩
  · obtain ⟨nb, h1, qa⟩ := wide_nan 69 53 hs Try.underlying53 a hn
    have hl := fun w => (h1 w).1
    have ho := fun w => (h1 w).2 4636737291354636288
    clear h1 hn
    go_enter Try.func45, Try.ntmps45
    go_wp2_with (go_at_call 41; ((with_reducible refine (abs_any _ _ (hl _)).mono ?_); rintro e w' ⟨rfl, rfl⟩))
    go_ret
    exact ⟨false, ⟨fun h => (by cases h), fun h => absurd h.1 hno⟩, rfl, fun h => (by cases h), grown_drew _ _⟩
theorem i_velok (a b : Nat) (w : World) (ha : a < 4294967296) (hb : b < 4294967296) :
    Calls Try.prog 36 #[.complex .f32 a b] w fun e w' => ∃ t, S.VecIs a b t ∧ e = .returned (.bool t) ∧ (t = true → w' = w) ∧ w.grownBy w' none := by
  go_enter Try.func36, Try.ntmps36
  go_wp2_with (go_at_call 45; ((with_reducible refine (i_ok a b _ ha hb).mono ?_); rintro e w1 ⟨t, ht, rfl, h1, h2⟩))
  go_ret
  exact ⟨t, ht, rfl, h1, h2⟩
theorem Try.infoVel : (Try.prog.info? 70).map (fun i => (i.zero, i.size, i.bytes)) = some (some (.complex .f32 0 0), 1, 8) := by kernel_rfl
/-- A valid velocity. -/
def okV (a b : Nat) : Prop := (a < 4294967296 ∧ b < 4294967296) ∧ S.okP a ∧ S.okP b
theorem i_velok_yes (a b : Nat) (w : World) (h : okV a b) : Calls Try.prog 36 #[.complex .f32 a b] w fun e w' => e = .returned (.bool true) ∧ w = w' :=
  (i_velok a b w h.1.1 h.1.2).mono fun e w' ⟨t, ht, he, h1, _⟩ => by
    obtain rfl : t = true := ht.2 h.2
    exact ⟨he, (h1 rfl).symm⟩
theorem i_ok_yes (a b : Nat) (w : World) (h : okV a b) : Calls Try.prog 45 #[.complex .f32 a b] w fun e w' => e = .returned (.bool true) ∧ w = w' :=
  (i_ok a b w h.1.1 h.1.2).mono fun e w' ⟨t, ht, he, h1, _⟩ => by
    obtain rfl : t = true := ht.2 h.2
    exact ⟨he, (h1 rfl).symm⟩
theorem s_velok_yes (a b : Nat) (w : World) (h : okV a b) : Calls Try.prog 40 #[.complex .f32 a b] w fun e w' => e = .returned (.bool true) ∧ w = w' :=
  (S.s_vok a b w h.1.1 h.1.2).mono fun e w' ⟨t, ht, he, h1⟩ => by
    obtain rfl : t = true := ht.2 h.2
    exact ⟨he, h1⟩

/-- A share: a number from 0 to 1. -/
def okK (k : Nat) : Prop := S.isNum k ∧ 0 ≤ S.fval k ∧ S.fval k ≤ (S.oneV : Int)
theorem oneW_num : S.f32.read 1065353216 = .number false 8388608 (-23) := by kernel_rfl
theorem oneW_val : S.fval 1065353216 = (S.oneV : Int) := by
  have hf := S.fixE_eq
  unfold S.fval; rw [oneW_num]; show signed false 8388608 (-23 + 149 : Int).toNat = _
  rw [show (-23 + 149 : Int).toNat = S.fixE - 23 by omega, signed_eq]
  show ((8388608 * 2 ^ (S.fixE - 23) : Nat) : Int) = ((S.oneV : Nat) : Int)
  unfold S.oneV; rw [show (8388608 : Nat) = 2 ^ 23 from rfl, ← Nat.pow_add, show 23 + (S.fixE - 23) = S.fixE by omega]
theorem share_flag (k : Nat) (hk : k < 4294967296) : ∃ t u : Bool, ((t && u) = true ↔ okK k) ∧
    (FloatKind.f32.format.order 0 k == some .lt || FloatKind.f32.format.order 0 k == some .eq) = t ∧
    (FloatKind.f32.format.order k 0 == some .gt || FloatKind.f32.format.order k 0 == some .eq) = t ∧
    (FloatKind.f32.format.order k 1065353216 == some .lt || FloatKind.f32.format.order k 1065353216 == some .eq) = u := by
  have h0 := S.isNum_of S.nought_num
  have h1 := S.isNum_of oneW_num
  by_cases hE : S.expo k < 255
  · have hn := S.num_of_expo hk hE
    have e1 : FloatKind.f32.format.order 0 k = some (compare 0 (S.fval k)) := by have := S.order_val h0 hn; rw [S.nought_val] at this; exact this
    have e2 : FloatKind.f32.format.order k 0 = some (compare (S.fval k) 0) := by have := S.order_val hn h0; rw [S.nought_val] at this; exact this
    have e3 : FloatKind.f32.format.order k 1065353216 = some (compare (S.fval k) (S.oneV : Int)) := by have := S.order_val hn h1; rw [oneW_val] at this; exact this
    rw [e1, e2, e3]
    refine ⟨_, _, ?_, rfl, ?_, rfl⟩
    · rw [Bool.and_eq_true, S.cmp_flag, S.cmp_flag]
      exact ⟨fun h => ⟨hn, h⟩, fun h => h.2⟩
    · generalize S.fval k = v
      rcases Int.lt_trichotomy v 0 with h | h | h
      · rw [Int.compare_eq_lt.2 h, Int.compare_eq_gt.2 h]; rfl
      · subst h; rfl
      · rw [Int.compare_eq_gt.2 h, Int.compare_eq_lt.2 h]; rfl
  · have hE2 : S.expo k = 255 := by have := S.expo_le k; omega
    have hno : ¬ okK k := fun h => hE (S.expo_of_num hk h.1)
    rcases S.read_full hk hE2 with h | ⟨b, h⟩
    · have e2 : FloatKind.f32.format.order k 0 = some (if S.sneg k then .lt else .gt) := S.order_inf h h0
      have e3 : FloatKind.f32.format.order k 1065353216 = some (if S.sneg k then .lt else .gt) := S.order_inf h h1
      have e1 : FloatKind.f32.format.order 0 k = some (if S.sneg k then .gt else .lt) := by
        have h' : FloatKind.f32.format.read k = .infinity (S.sneg k) := h
        unfold Format.order; rw [h', show FloatKind.f32.format.read 0 = _ from S.nought_num]; cases S.sneg k <;> rfl
      rw [e1, e2, e3]
      refine ⟨_, _, ?_, rfl, ?_, rfl⟩
      · cases S.sneg k <;> simp [hno]
      · cases S.sneg k <;> rfl
    · have e2 : ∀ z, FloatKind.f32.format.order k z = none := fun z => S.order_nan h z
      have e1 : FloatKind.f32.format.order 0 k = none := by
        have h' : FloatKind.f32.format.read k = .nan (S.sneg k) b := h
        unfold Format.order; rw [h', show FloatKind.f32.format.read 0 = _ from S.nought_num]; rfl
      rw [e1, e2, e2]
      exact ⟨false, false, by simp [hno], rfl, rfl, rfl⟩
/-- A part damped: its word r. -/
def DampIs (l x k r : Nat) : Prop := ∃ d p, floatBits .sub .f32 x l = some d ∧ floatBits .mul .f32 d k = some p ∧ floatBits .add .f32 l p = some r
end Go.Proofs.Ytibkhmdnfloemaa

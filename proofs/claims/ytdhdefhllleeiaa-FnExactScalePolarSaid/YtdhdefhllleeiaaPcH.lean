/- The exact laws' marks: markPolar; heldPolar. -/
import Derived.Test.YtdhdefhllleeiaaPcG
import Derived.Test.YtdhdefhllleeiaaPdC
namespace Go.Proofs.Ytdhdefhllleeiaa
open Go.RowKit Ieee
set_option linter.unusedSimpArgs false
set_option linter.unusedVariables false

theorem own_ne {w : World} {g n g' n' : Nat} {t t' : TypeId} {V V' : Nat → Value} (h : OwnB w g n t V) (h' : OwnB w g' n' t' V') (ht : t ≠ t') : g ≠ g' := by
  obtain ⟨cs, c1, _⟩ := h'
  exact h.ne c1 ht
theorem OwnB.al {w : World} {g n : Nat} {t : TypeId} {V : Nat → Value} {o : Obj} (h : OwnB w g n t V) : OwnB (w.alloc o) g n t V := h.below ((Below.refl _ w).alloc (Nat.le_refl _) o)
theorem touch_box {lo hi x : Nat} {w w' : World} {O : Obj} (h : w.heap[x]? = some O) (k : Touch lo hi w w') (hx : hi ≤ x) : w'.heap[x]? = some O :=
  (k.2.2.2.2 x (block_lt h) (fun e => by omega)).trans h
set_option maxRecDepth 100000 in
set_option maxHeartbeats 2000000 in
theorem m_Polar (G : Pol) (k : Int) (lo hi gW gA gS : Nat) (b : Nat → Nat) (w : World) (hL : LaidC lo hi w G gW gA gS b) (hF : Fine G) (h0 : 0 ≤ k) (h1 : k ≤ 1000) (hhi : hi ≤ w.heap.size) :
    Calls Try.prog 36 #[.agg #[.slice G.W G.nw G.cw, .slice G.A G.na G.ca, .slice G.S G.ns G.cs], .int .i64 k] w fun e w' => e = .returned (.int .i64 (k + G.nw + G.na + sumTo G.rn G.ns)) ∧ LaidC lo hi w' (markG G k) gW gA gS b ∧ Touch lo hi w w' := by
  obtain ⟨⟨f1, f2, f3, f4⟩, _⟩ := hF
  have HL := Lib.hid hL
  have HF4 := Lib.hid f4
  have hbx := heap_alloc_new w (.cells #[.slice G.W G.nw G.cw, .slice G.A G.na G.ca, .slice G.S G.ns G.cs] 28)
  have HBX := Lib.hid hbx
  have c1 := m_F G.W G.nw G.cw gW lo hi k (w.alloc (.cells #[.slice G.W G.nw G.cw, .slice G.A G.na G.ca, .slice G.S G.ns G.cs] 28)) (fun j => fv (G.ws j)) (fun h => ⟨(hL.1 h).1, (hL.1 h).2.1, (hL.1 h).2.2.1, (hL.1 h).2.2.2.al⟩) f1 h0 (by omega)
  clear hL f4 hbx
  go_enter Try.func36, Try.ntmps36
  go_wp2_with fail
  refine c1.mono ?_
  rintro e w2 ⟨rfl, o1, far1, t1⟩
  have hb2 := touch_box HBX.out t1 hhi
  have k1 := cell_of_row w2 _ 1 _ _ _ hb2
  have A2 := Lib.hid (fun h : 0 < G.na => show OwnB w2 gA G.na 3 (fun j => iv (G.av j)) from by
    have h2 := (HL.out.2.1 h).2.2.2.al (o := .cells #[.slice G.W G.nw G.cw, .slice G.A G.na G.ca, .slice G.S G.ns G.cs] 28)
    exact h2.block (far1 _ h2.lt fun hp => own_ne h2 (HL.out.1 hp).2.2.2.al (by decide)))
  have S2 := Lib.hid (fun h : 0 < G.ns => show OwnB w2 gS G.ns 24 (fun i => .slice (G.R i) (G.rn i) (G.rc i)) from by
    have h2 := (HL.out.2.2.1 h).2.2.2.al (o := .cells #[.slice G.W G.nw G.cw, .slice G.A G.na G.ca, .slice G.S G.ns G.cs] 28)
    exact h2.block (far1 _ h2.lt fun hp => own_ne h2 (HL.out.1 hp).2.2.2.al (by decide)))
  have R2 := Lib.hid (fun i (hi' : i < G.ns) (hp : 0 < G.rn i) => show OwnB w2 (b i) (G.rn i) 31 (fun j => fv (G.sp i j)) from by
    have h2 := (HL.out.2.2.2.1 i hi' hp).2.2.2.al (o := .cells #[.slice G.W G.nw G.cw, .slice G.A G.na G.ca, .slice G.S G.ns G.cs] 28)
    exact h2.block (far1 _ h2.lt fun hp' => HL.out.2.2.2.2.1 i hi' hp hp'))
  have HB2 := Lib.hid hb2
  have HO1 := Lib.hid o1
  have HT1 := Lib.hid ((Touch.alloc lo hi w _).trans t1)
  have c2 := m_I G.A G.na G.ca gA lo hi (k + G.nw) w2 (fun j => iv (G.av j)) (fun h => ⟨(HL.out.2.1 h).1, (HL.out.2.1 h).2.1, (HL.out.2.1 h).2.2.1, A2.out h⟩) f2 (by omega) (by omega)
  clear c1 o1 far1 t1 hb2 HBX
  go_wp2_with fail
  refine c2.mono ?_
  rintro e w3 ⟨rfl, o2, far2, t2⟩
  have hsz2 : hi ≤ w.heap.size := hhi
  have hb3 := touch_box HB2.out t2 hhi
  have k2 := cell_of_row w3 _ 2 _ _ _ hb3
  have W3 := Lib.hid (fun h : 0 < G.nw => show OwnB w3 gW G.nw 31 (fun j => fv (floatOfInt .f32 (k + j))) from (HO1.out h).block (far2 _ (HO1.out h).lt fun hp => own_ne (HO1.out h) (A2.out hp) (by decide)))
  have S3 := Lib.hid (fun h : 0 < G.ns => show OwnB w3 gS G.ns 24 (fun i => .slice (G.R i) (G.rn i) (G.rc i)) from (S2.out h).block (far2 _ (S2.out h).lt fun hp => own_ne (S2.out h) (A2.out hp) (by decide)))
  have R3 := Lib.hid (fun i (hi' : i < G.ns) (hp : 0 < G.rn i) => show OwnB w3 (b i) (G.rn i) 31 (fun j => fv (G.sp i j)) from (R2.out i hi' hp).block (far2 _ (R2.out i hi' hp).lt fun hp' => own_ne (R2.out i hi' hp) (A2.out hp') (by decide)))
  have HO2 := Lib.hid o2
  have HT2 := Lib.hid (HT1.out.trans t2)
  have c3 := m_FF G.S G.ns G.cs gS lo hi (k + G.nw + G.na) w3 G.R G.rn G.rc b G.sp (fun h => ⟨(HL.out.2.2.1 h).1, S3.out h⟩) (fun i hi' hp => ⟨(HL.out.2.2.2.1 i hi' hp).1, (HL.out.2.2.2.1 i hi' hp).2.1, (HL.out.2.2.2.1 i hi' hp).2.2.1, R3.out i hi' hp⟩) HL.out.2.2.2.2.2 f3 HF4.out (by omega) (by omega)
  have hsum : sumTo G.rn G.ns ≤ G.ns * 1048576 := sumTo_le fun j hj => HF4.out j hj
  have hsum2 : G.ns * 1048576 ≤ 1048576 * 1048576 := Nat.mul_le_mul_right _ f3
  have hsum3 : (1048576 * 1048576 : Nat) = 1099511627776 := rfl
  clear c2 o2 far2 t2 hb3 k1 A2 R2 S2 HB2 HT1
  go_wp2_with fail
  refine c3.mono ?_
  rintro e w4 ⟨rfl, o3, far3, t3⟩
  have HN := Lib.hid (show LaidC lo hi w4 (markG G k) gW gA gS b from ⟨fun h => ⟨(HL.out.1 h).1, (HL.out.1 h).2.1, (HL.out.1 h).2.2.1, (W3.out h).block (far3 _ (W3.out h).lt fun i hi' hp => (HL.out.2.2.2.2.1 i hi' hp h).symm)⟩,
    fun h => ⟨(HL.out.2.1 h).1, (HL.out.2.1 h).2.1, (HL.out.2.1 h).2.2.1, (HO2.out h).block (far3 _ (HO2.out h).lt fun i hi' hp => own_ne (HO2.out h) (R3.out i hi' hp) (by decide))⟩,
    fun h => ⟨(HL.out.2.2.1 h).1, (HL.out.2.2.1 h).2.1, (HL.out.2.2.1 h).2.2.1, (S3.out h).block (far3 _ (S3.out h).lt fun i hi' hp => own_ne (S3.out h) (R3.out i hi' hp) (by decide))⟩,
    fun i hi' hp => ⟨(HL.out.2.2.2.1 i hi' hp).1, (HL.out.2.2.2.1 i hi' hp).2.1, (HL.out.2.2.2.1 i hi' hp).2.2.1, o3 i hi' hp⟩, HL.out.2.2.2.2.1, HL.out.2.2.2.2.2⟩)
  have HT3 := Lib.hid (HT2.out.trans t3)
  clear c3 o3 far3 t3 k2 W3 S3 R3 HO1 HO2 HT2 HL
  go_wp2_with fail
  go_ret
  exact ⟨rfl, HN.out, HT3.out⟩
set_option maxRecDepth 100000 in
set_option maxHeartbeats 1000000 in
theorem h_F (A : Option Addr) (n cap g : Nat) (k : Int) (w : World) (hA : 0 < n → A = some ⟨g, 0, none⟩ ∧ OwnB w g n 31 (fun j => fv (floatOfInt .f32 (k + j)))) (hn : n ≤ 1000) (h0 : 0 ≤ k) (h1 : k ≤ 1000000) :
    Calls Try.prog 77 #[.slice A n cap, .int .i64 k] w fun e w' => e = .returned (.int .i64 (k + n)) ∧ w = w' := by
  have HA := Lib.hid hA
  clear hA
  go_enter Try.func77, Try.ntmps77
  go_wp2_with fail
  go_loopw [1, 5] (fun kk ii wr => ∃ j : Nat, j ≤ n ∧ ii = .int .i64 j ∧ kk = .int .i64 (k + j) ∧ w = wr) (fun _ ii _ => n - (intOf ii).toNat)
  case atStart => exact ⟨0, Nat.zero_le _, rfl, by simp, rfl⟩
  case round =>
    obtain ⟨j, hj, rfl, rfl, rfl⟩ := hrel
    by_cases hlt : j < n
    · have hlt1 : (j : Int) < (n : Int) := by omega
      obtain ⟨rfl, cs, c1, c2, c3⟩ := HA.out (by omega)
      have kc : w.cell? ⟨g, j, none⟩ = some (.float .f32 (floatOfInt .f32 (k + j))) := (cell_of_row w g j _ _ _ c1).trans (c3 j hlt)
      have heq := ofInt_self (n := k + j) (by omega) (by omega)
      have heq2 : (FloatKind.f32.format.order (floatOfInt .f32 (k + j)) (floatOfInt .f32 (k + j)) == some .eq) = true := by rw [heq]; rfl
      clear c1 c2 c3
      go_wp2
      go_roundw
      case rel => exact ⟨j + 1, by omega, by go_num, by go_num, by first | rfl | trivial⟩
      case measure => simp [intOf]; omega
    · obtain rfl : j = n := by omega
      have hlt1 : ¬ (j : Int) < (j : Int) := by omega
      go_wp2
      go_ret
      exact ⟨rfl, rfl⟩
set_option maxRecDepth 100000 in
set_option maxHeartbeats 1000000 in
theorem h_I (A : Option Addr) (n cap g : Nat) (k : Int) (w : World) (hA : 0 < n → A = some ⟨g, 0, none⟩ ∧ OwnB w g n 3 (fun j => iv (k + j))) (hn : n ≤ 1000) (h0 : 0 ≤ k) (h1 : k ≤ 1000000) :
    Calls Try.prog 78 #[.slice A n cap, .int .i64 k] w fun e w' => e = .returned (.int .i64 (k + n)) ∧ w = w' := by
  have HA := Lib.hid hA
  clear hA
  go_enter Try.func78, Try.ntmps78
  go_wp2_with fail
  go_loopw [1, 5] (fun kk ii wr => ∃ j : Nat, j ≤ n ∧ ii = .int .i64 j ∧ kk = .int .i64 (k + j) ∧ w = wr) (fun _ ii _ => n - (intOf ii).toNat)
  case atStart => exact ⟨0, Nat.zero_le _, rfl, by simp, rfl⟩
  case round =>
    obtain ⟨j, hj, rfl, rfl, rfl⟩ := hrel
    by_cases hlt : j < n
    · have hlt1 : (j : Int) < (n : Int) := by omega
      obtain ⟨rfl, cs, c1, c2, c3⟩ := HA.out (by omega)
      have kc : w.cell? ⟨g, j, none⟩ = some (.int .i64 (k + j)) := (cell_of_row w g j _ _ _ c1).trans (c3 j hlt)
      clear c1 c2 c3
      go_wp2
      go_roundw
      case rel => exact ⟨j + 1, by omega, by go_num, by go_num, by first | rfl | trivial⟩
      case measure => simp [intOf]; omega
    · obtain rfl : j = n := by omega
      have hlt1 : ¬ (j : Int) < (j : Int) := by omega
      go_wp2
      go_ret
      exact ⟨rfl, rfl⟩
set_option maxRecDepth 100000 in
set_option maxHeartbeats 1000000 in
theorem h_FF (A : Option Addr) (ns cap gS : Nat) (k : Int) (w : World) (R : Nat → Option Addr) (rn rc b : Nat → Nat) (hA : 0 < ns → A = some ⟨gS, 0, none⟩ ∧ OwnB w gS ns 24 (fun i => .slice (R i) (rn i) (rc i)))
    (hr : ∀ i, i < ns → 0 < rn i → R i = some ⟨b i, 0, none⟩ ∧ OwnB w (b i) (rn i) 31 (fun j => fv (floatOfInt .f32 (k + sumTo rn i + j)))) (hn : ns ≤ 100) (hrn : ∀ i, i < ns → rn i ≤ 100) (h0 : 0 ≤ k) (h1 : k ≤ 10000) :
    Calls Try.prog 79 #[.slice A ns cap, .int .i64 k] w fun e w' => e = .returned (.int .i64 (k + sumTo rn ns)) ∧ w = w' := by
  have HA := Lib.hid hA
  have HR := Lib.hid hr
  have HRN := Lib.hid hrn
  clear hA hr hrn
  go_enter Try.func79, Try.ntmps79
  go_wp2_with fail
  go_loopw [1, 5] (fun kk ii wr => ∃ i : Nat, i ≤ ns ∧ ii = .int .i64 i ∧ kk = .int .i64 (k + sumTo rn i) ∧ w = wr) (fun _ ii _ => ns - (intOf ii).toNat)
  case atStart => exact ⟨0, Nat.zero_le _, rfl, by simp [sumTo], rfl⟩
  case round =>
    obtain ⟨i, hil, rfl, rfl, rfl⟩ := hrel
    have hsum : sumTo rn i ≤ i * 100 := sumTo_le fun j hj => HRN.out j (by omega)
    have hsum2 : i * 100 ≤ 100 * 100 := Nat.mul_le_mul_right _ (by omega)
    by_cases hlt : i < ns
    · have hlt1 : (i : Int) < (ns : Int) := by omega
      obtain ⟨rfl, cs, c1, c2, c3⟩ := HA.out (by omega)
      have kc := (cell_of_row w gS i _ _ _ c1).trans (c3 i hlt)
      have hrni := HRN.out i hlt
      have hcall := h_F (R i) (rn i) (rc i) (b i) (k + sumTo rn i) w (fun hp => HR.out i hlt hp) (by omega) (by omega) (by omega)
      dsimp only at kc
      have hnext : ((sumTo rn (i + 1) : Nat) : Int) = (sumTo rn i : Nat) + (rn i : Nat) := by simp [sumTo]
      have HNX := Lib.hid hnext
      have hpos : ¬ k + (sumTo rn i : Nat) + (rn i : Nat) < 0 := by omega
      clear hnext c1 c2 c3
      go_wp2_with fail
      refine hcall.mono ?_
      rintro e w1 ⟨rfl, rfl⟩
      clear kc hcall
      go_wp2_with fail
      go_roundw
      case rel => exact ⟨i + 1, by omega, by go_num, by rw [HNX.out]; go_num, by first | rfl | trivial⟩
      case measure => simp [intOf]; omega
    · obtain rfl : i = ns := by omega
      have hlt1 : ¬ (i : Int) < (i : Int) := by omega
      go_wp2_with fail
      go_ret
      exact ⟨rfl, rfl⟩
set_option maxRecDepth 100000 in
set_option maxHeartbeats 1000000 in
theorem h_Polar (G : Pol) (k : Int) (lo hi gW gA gS : Nat) (b : Nat → Nat) (w : World) (hL : LaidC lo hi w (markG G k) gW gA gS b) (f1 : G.nw ≤ 100) (f2 : G.na ≤ 100) (f3 : G.ns ≤ 100) (f4 : ∀ i, i < G.ns → G.rn i ≤ 100) (h0 : 0 ≤ k) (h1 : k ≤ 1000) :
    Calls Try.prog 37 #[.agg #[.slice G.W G.nw G.cw, .slice G.A G.na G.ca, .slice G.S G.ns G.cs], .int .i64 k] w fun e w' => e = .returned (.int .i64 (k + G.nw + G.na + sumTo G.rn G.ns)) ∧ Below w.heap.size w w' := by
  have hsum : sumTo G.rn G.ns ≤ G.ns * 100 := sumTo_le fun j hj => f4 j hj
  have hsum2 : G.ns * 100 ≤ 100 * 100 := Nat.mul_le_mul_right _ f3
  have HF4 := Lib.hid f4
  have c1 := h_F G.W G.nw G.cw gW k (w.alloc (.cells #[.slice G.W G.nw G.cw, .slice G.A G.na G.ca, .slice G.S G.ns G.cs] 28)) (fun h => ⟨(hL.1 h).1, (hL.1 h).2.2.2.al⟩) (by omega) h0 (by omega)
  have c2 := h_I G.A G.na G.ca gA (k + G.nw) (w.alloc (.cells #[.slice G.W G.nw G.cw, .slice G.A G.na G.ca, .slice G.S G.ns G.cs] 28)) (fun h => ⟨(hL.2.1 h).1, (hL.2.1 h).2.2.2.al⟩) (by omega) (by omega) (by omega)
  have c3 := h_FF G.S G.ns G.cs gS (k + G.nw + G.na) (w.alloc (.cells #[.slice G.W G.nw G.cw, .slice G.A G.na G.ca, .slice G.S G.ns G.cs] 28)) G.R G.rn G.rc b (fun h => ⟨(hL.2.2.1 h).1, (hL.2.2.1 h).2.2.2.al⟩) (fun i hi' hp => ⟨(hL.2.2.2.1 i hi' hp).1, (hL.2.2.2.1 i hi' hp).2.2.2.al⟩) f3 f4 (by omega) (by omega)
  have HB := Lib.hid ((Below.refl _ w).alloc (Nat.le_refl _) (.cells #[.slice G.W G.nw G.cw, .slice G.A G.na G.ca, .slice G.S G.ns G.cs] 28))
  have p1 : ¬ k + (G.nw : Int) < 0 := by omega
  have p2 : ¬ k + (G.nw : Int) + (G.na : Int) < 0 := by omega
  have p3 : ¬ k + (G.nw : Int) + (G.na : Int) + (sumTo G.rn G.ns : Nat) < 0 := by omega
  clear hL f4
  go_enter Try.func37, Try.ntmps37
  go_wp2_with fail
  refine c1.mono ?_
  rintro e w1 ⟨rfl, rfl⟩
  go_wp2_with fail
  refine c2.mono ?_
  rintro e w1 ⟨rfl, rfl⟩
  go_wp2_with fail
  refine c3.mono ?_
  rintro e w1 ⟨rfl, rfl⟩
  clear c1 c2 c3
  go_wp2_with fail
  go_ret
  exact ⟨rfl, HB.out⟩
end Go.Proofs.Ytdhdefhllleeiaa

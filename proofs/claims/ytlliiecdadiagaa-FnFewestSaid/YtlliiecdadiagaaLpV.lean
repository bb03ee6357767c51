/- The drawing of moments: l11Moments. -/
import Derived.Test.YtlliiecdadiagaaLpU
import Derived.Test.YtlliiecdadiagaaClamp
namespace Go.Proofs.Ytlliiecdadiagaa
open Go.RowKit Ieee
set_option linter.unusedVariables false
set_option linter.unusedSimpArgs false

def IsMm (c : Nat) (x : Value) : Prop := (c = 0 → ∃ b, x = .float .f32 b ∧ b < 4294967296) ∧ (c = 1 → ∃ n, x = .int .i64 n ∧ (-9223372036854775808 ≤ n ∧ n ≤ 9223372036854775807))
theorem mm_cells (a : Nat) (b : Int) (h : MmWf (a, b)) : ∀ (k : Nat) (x : Value), [Value.float .f32 a, .int .i64 b][k]? = some x → IsMm (k % 2) x := fun k x hx => by
  match k with
  | 0 => cases hx; exact ⟨fun _ => ⟨a, rfl, h.1⟩, fun e => by cases e⟩
  | 1 => cases hx; exact ⟨fun e => absurd e (by decide), fun _ => ⟨b, rfl, h.2⟩⟩
  | k + 2 => simp at hx
theorem clamp_bd11 (n : Int) : -9223372036854775808 ≤ clampOf n 0 180 ∧ clampOf n 0 180 ≤ 9223372036854775807 := by unfold clampOf; (repeat' split) <;> omega
def OwnMo (w : World) (B : Nat) (v : Value) (n : Nat) : Prop := OwnC IsMm 42 2 w B v n
/-- A list of the call's own, read. -/
theorem OwnMo.list {w : World} {B : Nat} {v : Value} {n : Nat} (h : OwnMo w B v n) : ∃ (A : Option Addr) (cap g : Nat) (ms : Nat → Mm), v = .slice A n cap ∧ (0 < n → A = some ⟨g, 0, none⟩) ∧ MmsIn w g 0 n ms ∧ (∀ j, j < n → MmWf (ms j)) ∧ (0 < n → v.ownBlock = some g) := by
  rcases Nat.eq_zero_or_pos n with rfl | hn
  · obtain ⟨A, cap, rfl, _⟩ := h.value
    exact ⟨A, cap, 0, fun _ => (0, 0), rfl, fun h => by omega, fun j hj => by omega, fun j hj => by omega, fun h => by omega⟩
  · obtain ⟨g, cap, cs, rfl, h1, h2, h3, h4, h5, h6⟩ := h.form hn
    have each : ∀ j, j < n → ∃ m : Mm, (cs[j * 2]? = some (.float .f32 m.1) ∧ cs[j * 2 + 1]? = some (.int .i64 m.2)) ∧ MmWf m := fun j hj => by
      obtain ⟨x, e1, p1⟩ := h6 (j * 2) (by omega)
      obtain ⟨y, e2, p2⟩ := h6 (j * 2 + 1) (by omega)
      obtain ⟨a, rfl, ha⟩ := p1.1 (by omega)
      obtain ⟨b, rfl, hb⟩ := p2.2 (by omega)
      exact ⟨(a, b), ⟨e1, e2⟩, ha, hb⟩
    obtain ⟨ms, hms⟩ := Go.Deep.choose_lt (α := Mm) each
    exact ⟨_, cap, g, ms, rfl, fun _ => rfl, fun j hj => by
      rw [Nat.zero_add]
      exact ⟨(cell_of_row w g _ _ _ _ h4).trans (hms j hj).1.1, (cell_of_row w g _ _ _ _ h4).trans (hms j hj).1.2⟩, fun j hj => (hms j hj).2, fun _ => rfl⟩
/-- What stands while moments are drawn. -/
def MlV (w : World) (B g : Nat) (A : Option Addr) (len cap gx : Nat) (m : Mm) (v : Value) (n : Nat) (wx : World) : Prop :=
  w.grownBy wx (some g) ∧ Cur wx B g A len cap ∧ g < w.heap.size ∧ w.heap.size ≤ gx ∧ wx.heap[gx]? = some (.cells #[.float .f32 m.1, .int .i64 m.2] 42 (0, 0)) ∧ MmWf m ∧ OwnMo wx w.heap.size v n ∧ v.ownBlock ≠ some gx
theorem MlV.draw {w w1 w2 : World} {B g : Nat} {A : Option Addr} {len cap gx : Nat} {m : Mm} {v : Value} {n : Nat} (h : MlV w B g A len cap gx m v n w1) (c : Cur w2 B g A len cap) (k : w1.grownBy w2 (some g)) : MlV w B g A len cap gx m v n w2 := by
  obtain ⟨h1, h2, h3, h4, h5, h6, h7, h8⟩ := h
  exact ⟨grown_trans h1 k, c, h3, h4, box_far h5 k (fun e => by cases e; omega), h6, h7.kept k (fun j e q => by cases e; have := (h7.lt q).1; omega), h8⟩
theorem MlV.alloc {w w1 : World} {B g : Nat} {A : Option Addr} {len cap gx : Nat} {m : Mm} {v : Value} {n : Nat} (h : MlV w B g A len cap gx m v n w1) (o : Obj) : MlV w B g A len cap gx m v n (w1.alloc o) :=
  h.draw (h.2.1.alloc o) (World.grownBy_alloc w1 o _)
theorem MlV.drew {w w1 : World} {B g : Nat} {A : Option Addr} {len cap gx : Nat} {m : Mm} {v : Value} {n : Nat} (h : MlV w B g A len cap gx m v n w1) : MlV w B g A len cap gx m v n w1.drew :=
  h.draw (h.2.1.grown_far (grown_drewN w1 1 none) (by simp) (fun _ e => by cases e)) ⟨rfl, rfl, rfl, Nat.le_refl _, fun _ _ _ => rfl⟩
theorem MlV.put {w w1 : World} {B g : Nat} {A : Option Addr} {len cap gx c : Nat} {m m' : Mm} {x : Value} {v : Value} {n : Nat} (h : MlV w B g A len cap gx m v n w1) (e : (#[Value.float .f32 m.1, .int .i64 m.2] : Array Value).setIfInBounds c x = #[.float .f32 m'.1, .int .i64 m'.2]) (hm : MmWf m') : MlV w B g A len cap gx m' v n (w1.setCell ⟨gx, c, none⟩ x) := by
  obtain ⟨h1, h2, h3, h4, h5, h6, h7, h8⟩ := h
  have k := grown_set w1 gx c x
  have hB := h2.1
  refine ⟨gr_new h1 k fun j q => .inr (by cases q; omega), h2.grown_far k (fun q => by cases q; omega) (fun j q => by cases q; omega), h3, h4, ?_, hm, h7.kept k (fun j q => by cases q; exact h8), h8⟩
  rw [← e]; exact heap_set_self h5 x
theorem MlV.two {w w1 : World} {B g : Nat} {A : Option Addr} {len cap gx : Nat} {m m' : Mm} {v : Value} {n : Nat} (h : MlV w B g A len cap gx m v n w1) (hm : MmWf m') : MlV w B g A len cap gx m' v n ((w1.setCell ⟨gx, 0, none⟩ (.float .f32 m'.1)).setCell ⟨gx, 1, none⟩ (.int .i64 m'.2)) :=
  (h.put (m' := (m'.1, m.2)) (c := 0) (x := .float .f32 m'.1) rfl ⟨hm.1, h.2.2.2.2.2.1.2⟩).put (c := 1) (x := .int .i64 m'.2) (m' := m') rfl hm
/-- A moment more. -/
theorem MlV.add {w w1 w7 : World} {B g : Nat} {A : Option Addr} {len cap gx : Nat} {m : Mm} {v v' : Value} {n n' : Nat} (h : MlV w B g A len cap gx m v n w1) (k : w1.grownBy w7 v.ownBlock) (ho : OwnMo w7 w.heap.size v' n') (hb : v'.ownBlock = v.ownBlock ∨ ∃ j, v'.ownBlock = some j ∧ gx < j) : MlV w B g A len cap gx m v' n' w7 := by
  obtain ⟨h1, h2, h3, h4, h5, h6, h7, h8⟩ := h
  have hB := h2.1
  refine ⟨gr_new h1 k fun j q => .inr (h7.lt q).1, h2.grown_far k (fun q => by have := (h7.lt q).1; omega) (fun j q => by have := (h7.lt q).1; omega), h3, h4, box_far h5 k h8, h6, ho, ?_⟩
  rcases hb with hb | ⟨j, hb, hj⟩
  · rw [hb]; exact h8
  · rw [hb]; intro e; cases e; omega
theorem MlV.new {w w1 : World} {B g : Nat} {A : Option Addr} {len cap : Nat} {m : Mm} {v : Value} {n : Nat} (h1 : w.grownBy w1 (some g)) (h2 : Cur w1 B g A len cap) (h3 : g < w.heap.size) (hm : MmWf m) (ho : OwnMo w1 w.heap.size v n) :
    MlV w B g A len cap w1.heap.size m v n (w1.alloc (.cells #[.float .f32 m.1, .int .i64 m.2] 42)) :=
  ⟨grown_trans h1 (World.grownBy_alloc w1 _ _), h2.alloc _, h3, h1.size, heap_alloc_new w1 _, hm, ho.kept (World.grownBy_alloc w1 _ none) (fun j e => by cases e), fun e => by have := (ho.lt e).2; omega⟩
theorem MlV.at {w w1 : World} {B g : Nat} {A : Option Addr} {len cap gx : Nat} {m : Mm} {v : Value} {n : Nat} (h : MlV w B g A len cap gx m v n w1) : w1.cell? ⟨gx, 0, none⟩ = some (.float .f32 m.1) ∧ w1.cell? ⟨gx, 1, none⟩ = some (.int .i64 m.2) ∧ w1.frozen? ⟨gx, 1, none⟩ = false :=
  ⟨cell_of_row w1 gx 0 _ _ _ h.2.2.2.2.1, cell_of_row w1 gx 1 _ _ _ h.2.2.2.2.1, by have := h.2.2.2.2.1; simp [World.frozen?, this]⟩
/-- A sum of any words, as functions. -/
theorem add_tot (x k : Nat) : ∃ (R : World → Nat) (D : World → World), (∀ w, D w = w ∨ D w = w.drew) ∧ (∀ w, R w < 4294967296) ∧ ∀ w, (binOp .add 38 (.float .f32 x) (.float .f32 k)).run Try.prog w = .ok (.float .f32 (R w)) (D w) := by
  cases h : floatBits .add .f32 x k with
  | some r => exact ⟨fun _ => r, fun w => w, fun w => .inl rfl, fun _ => FloatKind.f32.format.add_lt h, fun w => run_float_arith (P := Try.prog) w .add 38 .f32 _ _ _ h⟩
  | none =>
    refine ⟨fun w => (Question.nanBits .f32 x k).cut (w.tape w.drawn (.nanBits .f32 x k)), fun w => w.drew, fun w => .inr rfl, fun w => (nanS x k _ _ rfl).1, fun w => ?_⟩
    unfold floatBits at h
    simp only at h
    simp [binOp, Op.floatArith, h, Question.forced]
theorem Try.info11Mv : (Try.prog.info? 42).map (fun i => (i.zero, i.size, i.bytes)) = some (some (.agg #[.float .f32 0, .int .i64 0]), 2, 16) := by kernel_rfl
set_option maxRecDepth 100000 in
set_option maxHeartbeats 8000000 in
theorem d_moms (w : World) (B g len cap : Nat) (A : Option Addr) (hc : Cur w B g A len cap) :
    Calls Try.prog 54 #[.pointer (some ⟨g, 0, none⟩)] w fun e w' => ∃ (v : Value) (n : Nat), n ≤ 61 ∧ e = .returned v ∧ OwnMo w' w.heap.size v n ∧ Cur w' B g A len cap ∧ w.grownBy w' (some g) := by
  obtain ⟨i0, hi, hz0, hz1, hz2⟩ := info_parts Try.info11Mv
  have HG := Lib.hid hc.lt
  have g0 := World.grownBy_alloc w (.cells #[] 42) (some g)
  have cu0 := hc.alloc (.cells #[] 42)
  have hO := Lib.hid (show OwnMo (w.alloc (.cells #[] 42)) w.heap.size (.slice (some ⟨w.heap.size, 0, none⟩) 0 0) 0 from ⟨[], (fun c x hx => by simp at hx), by simp, .inr ⟨w.heap.size, 0, #[], rfl, Nat.le_refl _, heap_alloc_new w _, Nat.le_refl _, by simp [maxLen], by simp, by simp⟩⟩)
  obtain ⟨qf, hqf⟩ : ∃ qf : Int → Nat, ∀ n, floatBits .quo .f32 (floatOfInt .f32 n) 1082130432 = some (qf n) ∧ qf n < 4294967296 := ⟨fun n => (quo_four n).choose, fun n => (quo_four n).choose_spec⟩
  have hq := fun n w => run_float_arith (P := Try.prog) w .quo 38 .f32 _ _ _ (hqf n).1
  clear hqf
  go_enter Try.func54, Try.ntmps54
  go_wp2_with fail
  refine (d_below 9 _ B g len cap A cu0 (by omega)).mono ?_
  rintro e w1 ⟨x, x0, x1, _, rfl, cu1, gr1⟩
  have H1 := Lib.hid (And.intro (grown_trans g0 gr1) (And.intro cu1 (hO.out.kept gr1 (fun j e q => by injection e with e; injection q with q; dsimp only at q; have := HG.out; omega))))
  have x2 := x1 (by omega)
  clear g0 cu0 gr1 cu1 hO x1
  go_wp2_with fail
  refine (d_once 30 _ B g len cap A H1.out.2.1 (by omega)).mono ?_
  rintro e w2 ⟨t, rfl, cu2, gr2⟩
  have H2 := Lib.hid (And.intro (grown_trans H1.out.1 gr2) (And.intro cu2 (H1.out.2.2.kept gr2 (fun j e q => by injection e with e; injection q with q; dsimp only at q; have := HG.out; omega))))
  clear H1 gr2 cu2
  go_upto_if 10 with fail
  go_cut [4] (fun n wx => ∃ k : Nat, k ≤ 61 ∧ n = .int .i64 k ∧ w.grownBy wx (some g) ∧ Cur wx B g A len cap ∧ OwnMo wx w.heap.size (.slice (some ⟨w.heap.size, 0, none⟩) 0 0) 0)
  case first =>
    cases t
    · obtain ⟨k, rfl⟩ : ∃ k : Nat, x = k := ⟨x.toNat, by omega⟩
      go_wp2_with fail
      go_meet
      exact ⟨k, by omega, rfl, H2.out⟩
    · go_wp2_with fail
      refine (d_below 2 _ B g len cap A H2.out.2.1 (by omega)).mono ?_
      rintro e w3 ⟨y, y0, y1, _, rfl, cu3, gr3⟩
      have H3 := Lib.hid (And.intro (grown_trans H2.out.1 gr3) (And.intro cu3 (H2.out.2.2.kept gr3 (fun j e q => by injection e with e; injection q with q; dsimp only at q; have := HG.out; omega))))
      have y2 := y1 (by omega)
      clear gr3 cu3 y1
      obtain ⟨k, rfl⟩ : ∃ k : Nat, y = k := ⟨y.toNat, by omega⟩
      have ek : IntKind.i64.wrap (60 + (k : Int)) = ((60 + k : Nat) : Int) := by rw [IntWalk.i64_in _ (by omega)]; omega
      go_wp2_with fail
      go_meet
      exact ⟨60 + k, by omega, by go_num, H3.out⟩
  case rest =>
  clear H2 x0 x2 t
  obtain ⟨k, hk, rfl, H3⟩ := hcut
  have H4 := Lib.hid H3
  clear H3
  go_wp2_with fail
  refine (d_mom _ B g len cap A H4.out.2.1).mono ?_
  rintro e w4 ⟨⟨p, q⟩, hm, rfl, cu4, gr4⟩
  have H5 := Lib.hid (MlV.new (grown_trans H4.out.1 gr4) cu4 HG.out hm (H4.out.2.2.kept gr4 (fun j e q => by injection e with e; injection q with q; dsimp only at q; have := HG.out; omega)))
  clear H4 gr4 cu4 hm
  have a0 := fun (x z : Value) => st_new2 Try.prog w4 x z (.float .f32 p) 42 0 (by omega) rfl
  dsimp only at *
  go_wp2
  clear a0
  generalize hW : w4.alloc _ = W at *
  generalize w4.heap.size = gx at *
  clear hW
  go_loopw [4, 3] (fun nn o wr => ∃ (k c : Nat) (m : Mm), nn = .int .i64 k ∧ k + c ≤ 61 ∧ MlV w B g A len cap gx m o c wr) (fun nn _ _ => (intOf nn).toNat)
  case atStart => exact ⟨k, 0, (p, q), rfl, by omega, H5.out⟩
  case round =>
    clear H5
    obtain ⟨k, c, ⟨p, q⟩, rfl, hkc, hs⟩ := hrel
    obtain ⟨Ao, co, rfl, _⟩ := hs.2.2.2.2.2.2.1.value
    have HS := Lib.hid hs
    clear hs
    by_cases hk0 : k = 0
    · subst hk0
      have z1 : ¬ (0 : Int) < ((0 : Nat) : Int) := by omega
      go_wp2
      go_ret
      exact ⟨_, c, by omega, rfl, HS.out.2.2.2.2.2.2.1, HS.out.2.1, HS.out.1⟩
    have z1 : (0 : Int) < (k : Int) := by omega
    go_upto_region 8 with fail
    go_cut [] (fun wx => ∃ m : Mm, MlV w B g A len cap gx m (.slice Ao c co) c wx)
    case first =>
      obtain ⟨c0, _, _⟩ := HS.out.at
      have HSd := Lib.hid HS.out.drew
      obtain ⟨c0d, _, _⟩ := HSd.out.at
      dsimp only at c0 c0d
      obtain ⟨R, D, hD, hR, hadd⟩ : ∃ (R : Nat → World → Nat) (D : Nat → World → World), (∀ r w, D r w = w ∨ D r w = w.drew) ∧ (∀ r w, R r w < 4294967296) ∧ ∀ r w, (binOp .add 38 (.float .f32 p) (.float .f32 r)).run Try.prog w = .ok (.float .f32 (R r w)) (D r w) :=
        ⟨fun r => (add_tot p r).choose, fun r => (add_tot p r).choose_spec.choose, fun r => (add_tot p r).choose_spec.choose_spec.1, fun r => (add_tot p r).choose_spec.choose_spec.2.1, fun r => (add_tot p r).choose_spec.choose_spec.2.2⟩
      have HR := Lib.hid hR
      have HD := Lib.hid hD
      clear hR hD
      go_wp2
      go_region_with ((go_at_call 73; refine (d_below 17 _ B g len cap A HSd.out.2.1 (by omega)).mono ?_; rintro e w5 ⟨x, x0, x1, _, rfl, cu, gr⟩; have x2 := x1 (by omega); have HE := Lib.hid (fun r => show MlV w B g A len cap gx (p, q) (.slice Ao c co) c (D r w5) from by rcases HD.out r w5 with h | h <;> rw [h]; exact HSd.out.draw cu gr; exact (HSd.out.draw cu gr).drew); have c0e := (HSd.out.draw cu gr).at.1; have st := fun r u => store_at (P := Try.prog) (HE.out r).2.2.2.2.1 (k := 0) (n := 2) rfl (by omega) (.float .f32 u) rfl; dsimp only at c0e; clear cu gr x1))
      all_goals (
        go_wp2_with fail
        go_meet
        exact ⟨_, (HE.out _).put (c := 0) (m' := (_, q)) rfl ⟨HR.out _ _, (HE.out 0).2.2.2.2.2.1.2⟩⟩)
    case rest =>
    clear HS
    obtain ⟨⟨p, q⟩, hs⟩ := hcut
    have HS := Lib.hid hs
    clear hs
    go_upto_region 9 with fail
    go_cut [] (fun wx => ∃ m : Mm, MlV w B g A len cap gx m (.slice Ao c co) c wx)
    case first =>
      obtain ⟨_, c1, f1⟩ := HS.out.at
      have HSd := Lib.hid HS.out.drew
      obtain ⟨_, c1d, f1d⟩ := HSd.out.at
      have hcl := Lib.hid (fun n a b w => s_clamp n a b w)
      dsimp only at c1 c1d
      go_wp2
      go_region_with ((first
        | (go_at_call 73; refine (d_below 21 _ B g len cap A HSd.out.2.1 (by omega)).mono ?_; rintro e w5 ⟨x, x0, x1, _, rfl, cu, gr⟩; have x2 := x1 (by omega); have HE := Lib.hid (HSd.out.draw cu gr); obtain ⟨_, c1e, f1e⟩ := HE.out.at; dsimp only at c1e; clear cu gr x1)
        | (go_at_call 77; refine (hcl.out _ _ _ _).mono ?_; rintro e w6 ⟨rfl, rfl⟩)))
      all_goals (
        go_wp2_with fail
        go_meet
        exact ⟨(p, clampOf (IntKind.i64.wrap (IntKind.i64.wrap (q + x) - 10)) 0 180), HE.out.put (c := 1) (m' := (p, clampOf (IntKind.i64.wrap (IntKind.i64.wrap (q + x) - 10)) 0 180)) rfl ⟨HE.out.2.2.2.2.2.1.1, clamp_bd11 _⟩⟩)
    case rest =>
    clear HS
    obtain ⟨⟨p, q⟩, hs⟩ := hcut
    have HS := Lib.hid hs
    clear hs
    go_wp2_with fail
    refine (d_once 6 _ B g len cap A HS.out.2.1 (by omega)).mono ?_
    rintro e w6 ⟨t, rfl, cu, gr⟩
    have H6 := Lib.hid (HS.out.draw cu gr)
    clear HS cu gr
    go_upto_if 38 with fail
    go_cut [] (fun wx => ∃ m : Mm, MlV w B g A len cap gx m (.slice Ao c co) c wx)
    case first =>
      cases t
      · go_wp2_with fail
        go_meet
        exact ⟨_, H6.out⟩
      · go_wp2_with fail
        refine (d_mom _ B g len cap A H6.out.2.1).mono ?_
        rintro e w7 ⟨⟨p', q'⟩, hm, rfl, cu, gr⟩
        have H7 := Lib.hid (H6.out.draw cu gr)
        clear cu gr H6
        dsimp only
        have st := store_at (P := Try.prog) H7.out.2.2.2.2.1 (k := 0) (n := 2) rfl (by omega) (.float .f32 p') rfl
        obtain ⟨_, c1, f1⟩ := cell_at (heap_set_self (k := 0) H7.out.2.2.2.2.1 (.float .f32 p')) (k := 1) (n := 2) rfl (by omega)
        have H8 := Lib.hid (H7.out.two hm)
        dsimp only at H8
        clear H7 hm
        go_wp2_with fail
        go_meet
        exact ⟨_, H8.out⟩
    case rest =>
    clear H6
    obtain ⟨⟨p, q⟩, hs⟩ := hcut
    have HS := Lib.hid hs
    obtain ⟨c0, c1, _⟩ := hs.at
    dsimp only at c0 c1
    clear hs
    obtain ⟨xs, hxs, hown⟩ := HS.out.2.2.2.2.2.2.1
    have hxl : xs.length = c * 2 := hown.1
    have HA := Lib.hid (HS.out.alloc (.cells #[.float .f32 p, .int .i64 q] 42))
    have hszw : w.heap.size ≤ wc.heap.size := HS.out.1.size
    have hgx := Lib.hid (block_lt HS.out.2.2.2.2.1)
    go_wp2_with (at_builtin; refine wpList_append_lies _ rfl _ _ 25 rfl w.heap.size 42 i0 (.agg #[.float .f32 0, .int .i64 0]) 2 16 Try.underlying25 hi hz0 hz1 hz2 rfl (by decide) _ c xs rfl (hown.alloc _) ⟨wc.heap.size, 0, none⟩ 1 1 [.float .f32 p, .int .i64 q] rfl rfl (World.news_of_block (cs := #[.float .f32 p, .int .i64 q]) (t := 42) (fr := (0, 0)) (heap_alloc_new wc _)) (by simp [Value.oneCell']) (by omega) (by unfold maxLen; omega) (by omega) (by simp; omega) _ rfl ?_; intro g7 c7 w7 hown7 hgrow hat hlt)
    have HS7 := Lib.hid (HA.out.add hgrow (own_add hown7 hxs (mm_cells p q HS.out.2.2.2.2.2.1) (by omega)) (by rcases hat with h | h; exact .inl h.symm; exact .inr ⟨g7, rfl, by rw [h]; simp; have := hgx.out; omega⟩))
    clear hown7 hgrow HA hxs hown HS c0 c1 hat hlt hgx
    go_wp2
    go_roundw
    case rel => exact ⟨k - 1, c + 1, (p, q), by go_num, by omega, HS7.out⟩
    case measure => simp [intOf]; omega
end Go.Proofs.Ytlliiecdadiagaa

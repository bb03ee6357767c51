/- spec.FlowAt; the drawing of a flow. -/
import Derived.Test.YtbklmfchbojboaaTdD
import Derived.Deep.RegionLaw
import Derived.StillTailTactics
namespace Go.Proofs.Ytbklmfchbojboaa
open Go.RowKit Ieee
set_option linter.unusedSimpArgs false
set_option linter.unusedVariables false
attribute [local go_sem] st_cplx

set_option maxHeartbeats 400000 in
theorem s_mix (l x k r : Nat) (w : World) (h : DampIs l x k r) :
    Calls Try.prog 29 #[.float .f32 l, .float .f32 x, .float .f32 k] w fun e w' => e = .returned (.float .f32 r) ∧ w = w' := by
  obtain ⟨d, p, h1, h2, h3⟩ := h
  have q1 := fun w => run_float_arith (P := Try.prog) w .sub 42 .f32 _ _ _ h1
  have q2 := fun w => run_float_arith (P := Try.prog) w .mul 42 .f32 _ _ _ h2
  have q3 := fun w => run_float_arith (P := Try.prog) w .add 42 .f32 _ _ _ h3
  clear h1 h2 h3
  go_enter Try.func29, Try.ntmps29
  go_wp2
  go_ret
  exact ⟨rfl, rfl⟩
set_option maxRecDepth 100000 in
set_option maxHeartbeats 2000000 in
theorem s_FlowAt_yes (cs : Array Value) (Z : Stn) (o : Int) (u v : Nat) (w : World) (hc : StIs cs Z) (hok : FlOk Z.x Z.y) (hf : FlowIs Z o u v) :
    Calls Try.prog 9 #[.agg cs, .int .i64 o] w fun e w' => e = .returned (.tuple #[.complex .f32 u v, .bool true]) ∧ Below w.heap.size w w' := by
  have hb : (w.alloc (.cells cs 28)).heap[w.heap.size]? = some (.cells cs 28 (0, 0)) := heap_alloc_new w _
  have hbl : Below w.heap.size w (w.alloc (.cells cs 28)) := (Below.refl w.heap.size w).alloc (Nat.le_refl _) _
  have HC := Lib.hid (And.intro hc hok)
  have hfl := fun w => s_flowOk cs Z w hc
  obtain ⟨n0, n1⟩ := nOf_le o
  have hcl := fun w => s_clamp o (-21600) 21600 w
  rw [show clampOf o (-21600) 21600 = nOf o - 21600 by unfold nOf; omega] at hcl
  have HF := Lib.hid (show FlowN Z (nOf o) u v from hf)
  clear hc hok hf
  generalize nOf o = n at *
  go_enter Try.func9, Try.ntmps9
  go_upto_region 3 with (first
    | (refine wpList_load_row rfl _ _ rfl w.heap.size rfl _ cs (0, 0) _ hb Try.underlying28 rfl (by rw [HC.out.1.1]; exact Try.infoStS) ?_)
    | (go_at_call 27; (with_reducible refine (hfl _).mono ?_); rintro e w2 ⟨t, ht, rfl, b2⟩; obtain rfl : t = true := ht.2 HC.out.2))
  have hb2 := (b2.block w.heap.size (by simp)).trans hb
  have hbl2 := hbl.trans (b2.mono hbl.size)
  clear hfl b2 hbl hb ht
  obtain ⟨k, hk⟩ : ∃ k : Nat, n / 3600 = k := ⟨(n / 3600).toNat, by omega⟩
  have e1 : n.tdiv 3600 = (k : Int) := by rw [Int.tdiv_eq_ediv_of_nonneg n0]; exact hk
  have e2 : n.tmod 3600 = n % 3600 := Int.tmod_eq_emod_of_nonneg n0
  have hkn : (n / 3600).toNat = k := by omega
  have HB := Lib.hid (And.intro hb2 hbl2)
  have k0 : (0 : Int) ≤ (k : Int) := by omega
  have k1 : (k : Int) < 13 := by omega
  have ck : w2.cell? ⟨w.heap.size, 1 + k, none⟩ = some (.complex .f32 (Z.x k) (Z.y k)) := (cell_of_row w2 _ (1 + k) _ _ _ HB.out.1).trans (HC.out.1.2.2.2 k (by omega)).2
  have hcase := HF.out
  rw [FlowN, hkn] at hcase
  clear HF hb2 hbl2
  rcases hcase with ⟨hr, hu, hv⟩ | ⟨hr, q, q1, q2, q3, q4, q5⟩
  · generalize Z.x k = a at *
    generalize Z.y k = b at *
    subst hu hv
    go_wp2_with (go_at_call 28; (with_reducible refine (hcl _).mono ?_); rintro e w' ⟨rfl, rfl⟩)
    go_ret2
    exact ⟨rfl, HB.out.2⟩
  · have hr2 : n % 3600 < 3600 := by omega
    have hkl : k < 12 := by omega
    have k2 : (k : Int) + 1 < 13 := by omega
    have k3 : (0 : Int) ≤ (k : Int) + 1 := by omega
    have ck1 : w2.cell? ⟨w.heap.size, 1 + (k + 1), none⟩ = some (.complex .f32 (Z.x (k + 1)) (Z.y (k + 1))) := (cell_of_row w2 _ (1 + (k + 1)) _ _ _ HB.out.1).trans (HC.out.1.2.2.2 (k + 1) (by omega)).2
    have hD1 := fun w => s_mix _ _ q u w q4
    have hD2 := fun w => s_mix _ _ q v w q5
    have hqr := fun w => run_float_arith (P := Try.prog) w .quo 42 .f32 _ _ _ q1
    have hr3 : ¬ n % 3600 = 0 := by omega
    have wk : IntKind.i64.wrap ((k : Int) + 1) = (k : Int) + 1 := IntWalk.i64_in _ (by omega)
    have k5 : ((k : Int) + 1).toNat = k + 1 := by omega
    clear q1 q2 q3 q4 q5
    generalize Z.x k = a at *
    generalize Z.y k = b at *
    generalize Z.x (k + 1) = c at *
    generalize Z.y (k + 1) = d at *
    generalize n % 3600 = r at *
    go_wp2_with (first
      | (go_at_call 28; (with_reducible refine (hcl _).mono ?_); rintro e w' ⟨rfl, rfl⟩)
      | (go_at_call 29; (first | ((with_reducible refine (hD1 _).mono ?_); rintro e w' ⟨rfl, rfl⟩) | ((with_reducible refine (hD2 _).mono ?_); rintro e w' ⟨rfl, rfl⟩))))
    go_ret2
    exact ⟨rfl, HB.out.2⟩

/-! ### The drawing -/
theorem Code.step {w w1 : World} {B B' : Nat} {A : Option Addr} {len : Nat} (h : Code w B A len) (hb : Below B w w1) (hB : B ≤ B') : Code w1 B' A len :=
  ⟨h.1, fun hn => by
    obtain ⟨b, off, e, h1, h2⟩ := h.2 hn
    refine ⟨b, off, e, Nat.lt_of_lt_of_le h1 hB, fun j hj => ?_⟩
    obtain ⟨c, c0, c1, hc⟩ := h2 j hj
    exact ⟨c, c0, c1, (hb.cell (p := ⟨b, off + j, none⟩) h1).trans hc⟩⟩
section
variable {P : Program}
theorem res_cell_tmp {fn : Func} {p u : Tmp} {ty : TypeId} (h : fn.results = #[.cell p ty, .tmp u]) (tmps : Array Value) (w : World) (g : Nat) (t : TypeId) (cs : Array Value) (fr : Nat × Nat) (d : TypeDesc)
    (hp : tmps.getD p undef = .pointer (some ⟨g, 0, none⟩)) (hg : w.heap[g]? = some (.cells cs t fr))
    (hu : P.underlying ty = some d) (hd : (match d with | .struct _ | .array _ _ => true | _ => false) = true) (hi : (P.info? ty).map (·.size) = some cs.size) :
    (results fn tmps).run P w = .ok (.tuple #[.agg cs, tmps.getD u undef]) w := by
  have hp' : tmps[p]?.getD undef = .pointer (some ⟨g, 0, none⟩) := by simpa using hp
  simp [results, h, hp', asAddr, run_loadVar_row w g t ty cs fr d hg hu hd hi]
end
theorem ld_row {w : World} {q : Nat} {cs : Array Value} (h : w.heap[q]? = some (.cells cs 28 (0, 0))) (hs : cs.size = 14) : (Instr.loadAt 28 (.pointer (some ⟨q, 0, none⟩))).run Try.prog w = .ok (.agg cs) w := by
  simp only [Instr.loadAt, Instr.sureAddr, Sem.run_bind, Sem.run_pure, Result.andThen_ok, run_loadVar_row w q _ 28 cs (0, 0) _ h Try.underlying28 rfl (by rw [hs]; exact Try.infoStS)]
theorem st_row {w : World} {r : Nat} {cs z : Array Value} (h : w.heap[r]? = some (.cells z 28 (0, 0))) (hz : z.size = 14) (hs : StV cs) : (Instr.storeAt 28 (.pointer (some ⟨r, 0, none⟩)) (.agg cs)).run Try.prog w = .ok () (w.setRow r cs) := by
  simp only [Instr.storeAt, Instr.sureAddr, Sem.run_bind, Sem.run_pure, Result.andThen_ok, run_storeVar_row w r _ 28 z cs h (by rw [hs.1]; exact Try.infoStS) (by rw [hz, hs.1]) hs.one]
--14
theorem wrap_bd (n : Int) : -9223372036854775808 ≤ IntKind.i64.wrap n ∧ IntKind.i64.wrap n ≤ 9223372036854775807 := by
  have h : IntKind.i64.wrap n = wrap64 n := IntWalk.i64_left n
  rw [h]; exact wrap64_bd n
theorem cells14 {w : World} {q : Nat} {a0 a1 a2 a3 a4 a5 a6 a7 a8 a9 a10 a11 a12 a13 : Value} (h : w.heap[q]? = some (.cells #[a0, a1, a2, a3, a4, a5, a6, a7, a8, a9, a10, a11, a12, a13] 28 (0, 0))) :
    w.cell? ⟨q, 0, none⟩ = some a0 ∧ w.cell? ⟨q, 1, none⟩ = some a1 ∧ w.cell? ⟨q, 2, none⟩ = some a2 ∧ w.cell? ⟨q, 3, none⟩ = some a3 ∧ w.cell? ⟨q, 4, none⟩ = some a4 ∧ w.cell? ⟨q, 5, none⟩ = some a5 ∧ w.cell? ⟨q, 6, none⟩ = some a6 ∧ w.cell? ⟨q, 7, none⟩ = some a7 ∧ w.cell? ⟨q, 8, none⟩ = some a8 ∧ w.cell? ⟨q, 9, none⟩ = some a9 ∧ w.cell? ⟨q, 10, none⟩ = some a10 ∧ w.cell? ⟨q, 11, none⟩ = some a11 ∧ w.cell? ⟨q, 12, none⟩ = some a12 ∧ w.cell? ⟨q, 13, none⟩ = some a13 :=
  ⟨(cell_of_row w q 0 _ _ _ h).trans rfl, (cell_of_row w q 1 _ _ _ h).trans rfl, (cell_of_row w q 2 _ _ _ h).trans rfl, (cell_of_row w q 3 _ _ _ h).trans rfl, (cell_of_row w q 4 _ _ _ h).trans rfl, (cell_of_row w q 5 _ _ _ h).trans rfl, (cell_of_row w q 6 _ _ _ h).trans rfl, (cell_of_row w q 7 _ _ _ h).trans rfl, (cell_of_row w q 8 _ _ _ h).trans rfl, (cell_of_row w q 9 _ _ _ h).trans rfl, (cell_of_row w q 10 _ _ _ h).trans rfl, (cell_of_row w q 11 _ _ _ h).trans rfl, (cell_of_row w q 12 _ _ _ h).trans rfl, (cell_of_row w q 13 _ _ _ h).trans rfl⟩
theorem soft14 {w : World} {q : Nat} {a0 a1 a2 a3 a4 a5 a6 a7 a8 a9 a10 a11 a12 a13 : Value} (h : w.heap[q]? = some (.cells #[a0, a1, a2, a3, a4, a5, a6, a7, a8, a9, a10, a11, a12, a13] 28 (0, 0))) :
    w.frozen? ⟨q, 0, none⟩ = false ∧ w.frozen? ⟨q, 1, none⟩ = false ∧ w.frozen? ⟨q, 2, none⟩ = false ∧ w.frozen? ⟨q, 3, none⟩ = false ∧ w.frozen? ⟨q, 4, none⟩ = false ∧ w.frozen? ⟨q, 5, none⟩ = false ∧ w.frozen? ⟨q, 6, none⟩ = false ∧ w.frozen? ⟨q, 7, none⟩ = false ∧ w.frozen? ⟨q, 8, none⟩ = false ∧ w.frozen? ⟨q, 9, none⟩ = false ∧ w.frozen? ⟨q, 10, none⟩ = false ∧ w.frozen? ⟨q, 11, none⟩ = false ∧ w.frozen? ⟨q, 12, none⟩ = false ∧ w.frozen? ⟨q, 13, none⟩ = false := by
  refine ⟨?_, ?_, ?_, ?_, ?_, ?_, ?_, ?_, ?_, ?_, ?_, ?_, ?_, ?_⟩ <;> simp [World.frozen?, h]
theorem size14 {z : Array Value} (h : z.size = 14) : ∃ a0 a1 a2 a3 a4 a5 a6 a7 a8 a9 a10 a11 a12 a13 : Value, z = #[a0, a1, a2, a3, a4, a5, a6, a7, a8, a9, a10, a11, a12, a13] := by
  obtain ⟨l0⟩ := z
  have h0 : l0.length = 14 := h
  obtain ⟨a0, l1, e0, h1⟩ := cons_of h0
  obtain ⟨a1, l2, e1, h2⟩ := cons_of h1
  obtain ⟨a2, l3, e2, h3⟩ := cons_of h2
  obtain ⟨a3, l4, e3, h4⟩ := cons_of h3
  obtain ⟨a4, l5, e4, h5⟩ := cons_of h4
  obtain ⟨a5, l6, e5, h6⟩ := cons_of h5
  obtain ⟨a6, l7, e6, h7⟩ := cons_of h6
  obtain ⟨a7, l8, e7, h8⟩ := cons_of h7
  obtain ⟨a8, l9, e8, h9⟩ := cons_of h8
  obtain ⟨a9, l10, e9, h10⟩ := cons_of h9
  obtain ⟨a10, l11, e10, h11⟩ := cons_of h10
  obtain ⟨a11, l12, e11, h12⟩ := cons_of h11
  obtain ⟨a12, l13, e12, h13⟩ := cons_of h12
  obtain ⟨a13, l14, e13, h14⟩ := cons_of h13
  have e14 : l14 = [] := List.eq_nil_of_length_eq_zero h14
  refine ⟨a0, a1, a2, a3, a4, a5, a6, a7, a8, a9, a10, a11, a12, a13, ?_⟩
  rw [e0, e1, e2, e3, e4, e5, e6, e7, e8, e9, e10, e11, e12, e13, e14]
theorem put_list {q : Nat} {t : TypeId} : ∀ (vs rest pre : List Value) (w : World), vs.length = rest.length → w.heap[q]? = some (.cells ⟨pre ++ rest⟩ t (0, 0)) → (w.setCells q pre.length vs).heap[q]? = some (.cells ⟨pre ++ vs⟩ t (0, 0))
  | [], [], pre, w, _, h => h
  | [], _ :: _, _, _, e, _ => by cases e
  | _ :: _, [], _, _, e, _ => by cases e
  | v :: vs, r :: rest, pre, w, e, h => by
    have h1 := heap_set_self (k := pre.length) h v
    have e1 : (⟨pre ++ r :: rest⟩ : Array Value).setIfInBounds pre.length v = ⟨(pre ++ [v]) ++ rest⟩ := by
      simp [Array.setIfInBounds, List.set_append]
    rw [e1] at h1
    have h2 := put_list vs rest (pre ++ [v]) _ (by simpa using e) h1
    rw [List.length_append, List.append_assoc] at h2
    exact h2
theorem put14 {w : World} {q : Nat} {b0 b1 b2 b3 b4 b5 b6 b7 b8 b9 b10 b11 b12 b13 a0 a1 a2 a3 a4 a5 a6 a7 a8 a9 a10 a11 a12 a13 : Value} (h : w.heap[q]? = some (.cells #[b0, b1, b2, b3, b4, b5, b6, b7, b8, b9, b10, b11, b12, b13] 28 (0, 0))) :
    (w.setCells q 0 [a0, a1, a2, a3, a4, a5, a6, a7, a8, a9, a10, a11, a12, a13]).heap[q]? = some (.cells #[a0, a1, a2, a3, a4, a5, a6, a7, a8, a9, a10, a11, a12, a13] 28 (0, 0)) :=
  put_list [a0, a1, a2, a3, a4, a5, a6, a7, a8, a9, a10, a11, a12, a13] [b0, b1, b2, b3, b4, b5, b6, b7, b8, b9, b10, b11, b12, b13] [] w rfl h
theorem StIs.lit {cs : Array Value} {Z : Stn} (h : StIs cs Z) : cs = #[.complex .f64 Z.a Z.b, .complex .f32 (Z.x 0) (Z.y 0), .complex .f32 (Z.x 1) (Z.y 1), .complex .f32 (Z.x 2) (Z.y 2), .complex .f32 (Z.x 3) (Z.y 3), .complex .f32 (Z.x 4) (Z.y 4), .complex .f32 (Z.x 5) (Z.y 5), .complex .f32 (Z.x 6) (Z.y 6), .complex .f32 (Z.x 7) (Z.y 7), .complex .f32 (Z.x 8) (Z.y 8), .complex .f32 (Z.x 9) (Z.y 9), .complex .f32 (Z.x 10) (Z.y 10), .complex .f32 (Z.x 11) (Z.y 11), .complex .f32 (Z.x 12) (Z.y 12)] := by
  obtain ⟨a0, a1, a2, a3, a4, a5, a6, a7, a8, a9, a10, a11, a12, a13, rfl⟩ := size14 h.1
  have e0 : a0 = .complex .f64 Z.a Z.b := by have := h.2.2.1; simpa using this
  have e1 : a1 = .complex .f32 (Z.x 0) (Z.y 0) := by have := (h.2.2.2 0 (by omega)).2; simpa using this
  have e2 : a2 = .complex .f32 (Z.x 1) (Z.y 1) := by have := (h.2.2.2 1 (by omega)).2; simpa using this
  have e3 : a3 = .complex .f32 (Z.x 2) (Z.y 2) := by have := (h.2.2.2 2 (by omega)).2; simpa using this
  have e4 : a4 = .complex .f32 (Z.x 3) (Z.y 3) := by have := (h.2.2.2 3 (by omega)).2; simpa using this
  have e5 : a5 = .complex .f32 (Z.x 4) (Z.y 4) := by have := (h.2.2.2 4 (by omega)).2; simpa using this
  have e6 : a6 = .complex .f32 (Z.x 5) (Z.y 5) := by have := (h.2.2.2 5 (by omega)).2; simpa using this
  have e7 : a7 = .complex .f32 (Z.x 6) (Z.y 6) := by have := (h.2.2.2 6 (by omega)).2; simpa using this
  have e8 : a8 = .complex .f32 (Z.x 7) (Z.y 7) := by have := (h.2.2.2 7 (by omega)).2; simpa using this
  have e9 : a9 = .complex .f32 (Z.x 8) (Z.y 8) := by have := (h.2.2.2 8 (by omega)).2; simpa using this
  have e10 : a10 = .complex .f32 (Z.x 9) (Z.y 9) := by have := (h.2.2.2 9 (by omega)).2; simpa using this
  have e11 : a11 = .complex .f32 (Z.x 10) (Z.y 10) := by have := (h.2.2.2 10 (by omega)).2; simpa using this
  have e12 : a12 = .complex .f32 (Z.x 11) (Z.y 11) := by have := (h.2.2.2 11 (by omega)).2; simpa using this
  have e13 : a13 = .complex .f32 (Z.x 12) (Z.y 12) := by have := (h.2.2.2 12 (by omega)).2; simpa using this
  rw [e0, e1, e2, e3, e4, e5, e6, e7, e8, e9, e10, e11, e12, e13]
--/14
/-- An element of a list of stations. -/
theorem OwnC.elem {w : World} {B n i : Nat} {v : Value} (h : OwnS w B v n) (hi : i < n) :
    ∃ g cap es, v = .slice (some ⟨g, 0, none⟩) n cap ∧ n ≤ cap ∧ cap ≤ maxLen ∧ B ≤ g ∧ g < w.heap.size ∧ StV es ∧ w.rangeAt g (i * 14) es.toList := by
  obtain ⟨g, cap, cs, rfl, h1, h2, h3, h4, h5, h6⟩ := h.form (by omega)
  have hsz : i * 14 + 14 ≤ cs.size := by rw [h5]; omega
  have hget : ∀ c, (cs.extract (i * 14) (i * 14 + 14))[c]? = if c < 14 then cs[i * 14 + c]? else none := fun c => by
    rw [Array.getElem?_extract]
    simp only [Nat.min_eq_left hsz, Nat.add_sub_cancel_left]
  refine ⟨g, cap, cs.extract (i * 14) (i * 14 + 14), rfl, h1, h2, h3, block_lt h4, ⟨by rw [Array.size_extract]; omega, fun c x hx => ?_⟩, fun j v hv => ?_⟩
  · rw [hget] at hx
    split at hx
    · rename_i hc
      obtain ⟨y, y1, y2⟩ := h6 (i * 14 + c) (by omega)
      rw [hx] at y1
      cases y1
      rwa [show (i * 14 + c) % 14 = c by omega] at y2
    · cases hx
  · rw [cell_of_row w g (i * 14 + j) _ _ _ h4]
    have hv' : (cs.extract (i * 14) (i * 14 + 14))[j]? = some v := by rw [← Array.getElem?_toList]; exact hv
    rw [hget] at hv'
    split at hv'
    · exact hv'
    · cases hv'
/-- What stands while a flow is drawn. -/
def FSt (w : World) (g : Nat) (A : Option Addr) (len cap q : Nat) (wx : World) : Prop :=
  Below w.heap.size w wx ∧ Cur wx (w.heap.size + 1) g A len cap ∧ (∃ z, wx.heap[w.heap.size]? = some (.cells z 28 (0, 0)) ∧ z.size = 14) ∧ g < q ∧ ∃ cs, wx.heap[q]? = some (.cells cs 28 (0, 0)) ∧ StV cs
theorem FSt.draw {w w1 w2 : World} {g len cap q : Nat} {A : Option Addr} (h : FSt w g A len cap q w1) (c : Cur w2 (w.heap.size + 1) g A len cap) (k : w1.grownBy w2 (some g)) : FSt w g A len cap q w2 := by
  obtain ⟨h1, h2, ⟨z, h3, h4⟩, h5, cs, h6, h7⟩ := h
  have := c.1
  exact ⟨below_cur h1 (Nat.le_refl _) k (by omega), c, ⟨z, box_far h3 k (fun e => by cases e; omega), h4⟩, h5, cs, box_far h6 k (fun e => by cases e; omega), h7⟩
theorem FSt.drew {w w1 : World} {g len cap q : Nat} {A : Option Addr} (h : FSt w g A len cap q w1) : FSt w g A len cap q w1.drew := by
  have k : w1.grownBy w1.drew (some g) := ⟨rfl, rfl, rfl, Nat.le_refl _, fun _ _ _ => rfl⟩
  exact h.draw (cur_drew h.2.1 (w := w1) (grown_refl _ _)).1 k
theorem FSt.set {w w1 : World} {g len cap q c : Nat} {A : Option Addr} {x : Value} (h : FSt w g A len cap q w1) (hx : CellAt c x) : FSt w g A len cap q (w1.setCell ⟨q, c, none⟩ x) := by
  obtain ⟨h1, h2, ⟨z, h3, h4⟩, h5, cs, h6, h7⟩ := h
  have := h2.1
  have k := grown_set w1 q c x
  exact ⟨h1.setCell (show w.heap.size ≤ (⟨q, c, none⟩ : Addr).block by show w.heap.size ≤ q; omega) x, h2.grown_far k (fun e => by cases e; omega) (fun j e => by cases e; omega), ⟨z, box_far h3 k (fun e => by cases e; omega), h4⟩, h5, _, heap_set_self h6 x, h7.set hx⟩
set_option maxRecDepth 100000 in
set_option maxHeartbeats 4000000 in
theorem d_flowat (w : World) (len cap : Nat) (A : Option Addr) (hcode : Code w w.heap.size A len) :
    Calls Try.prog 7 #[.slice A len cap] w fun e w' => ∃ (cs : Array Value) (o : Int), StV cs ∧ (-9223372036854775808 ≤ o ∧ o ≤ 9223372036854775807) ∧ e = .returned (.tuple #[.agg cs, .int .i64 o]) ∧ Below w.heap.size w w' := by
  have b0 : Below w.heap.size w (w.alloc (.cells (zeroS 0 0) 28)) := (Below.refl _ w).alloc (Nat.le_refl _) _
  have s1 : (w.alloc (.cells (zeroS 0 0) 28)).heap.size = w.heap.size + 1 := by simp
  have hc1 := hcode.step b0 (Nat.le_succ _)
  have hr0 := heap_alloc_new w (.cells (zeroS 0 0) 28)
  obtain ⟨iS, hiS, zS0, zS1, zS2⟩ := info_parts Try.infoStZ
  have HZ := Lib.hid (And.intro hiS zS0)
  clear hiS zS0 zS1 zS2
  go_enter Try.func7, Try.ntmps7
  go_wp2_with fail
  refine (d_new (w.alloc (.cells (zeroS 0 0) 28)) (w.heap.size + 1) len cap A (by rw [s1]; exact Nat.le_refl _) hc1).mono ?_
  rintro e w2 ⟨g, rfl, cu, b2⟩
  have b02 := b0.trans (b2.mono (Nat.le_succ _))
  have r2 := (b2.block w.heap.size (by omega)).trans hr0
  have hs2 := b2.size
  rw [s1] at hs2
  clear hc1 b0 hr0 b2
  go_wp2_with fail
  refine (d_tide _ _ g len cap A cu).mono ?_
  rintro e w3 ⟨vS, vH, ns, nh, rfl, n1, n2, n3, n4, oS, oH, cu3, gr⟩
  have hg0 := cu.1
  have hgl := cu.lt
  have b03 := below_cur b02 (Nat.le_refl _) gr (by omega)
  have r3 := box_far r2 gr (fun e => by cases e; omega)
  have hs3 := gr.size
  obtain ⟨gS, cS, es, rfl, _, _, hB, hlt, hst, hra⟩ := oS.elem (i := 0) (by omega)
  obtain ⟨AH, cH, rfl, _⟩ := oH.value
  have hra4 : (w3.alloc (.cells #[.slice (some ⟨gS, 0, none⟩) ns cS, .slice AH nh cH] 37)).rangeAt gS 0 es.toList := fun j v hv => by
    have h1 := hra j v hv
    rw [Nat.zero_mul] at h1
    exact (World.cell?_alloc_lt w3 _ _ hlt).trans h1
  have s4 : (w3.alloc (.cells #[.slice (some ⟨gS, 0, none⟩) ns cS, .slice AH nh cH] 37)).heap.size = w3.heap.size + 1 := by simp
  have hst4 := run_storeCells_new (P := Try.prog) (w3.alloc (.cells #[.slice (some ⟨gS, 0, none⟩) ns cS, .slice AH nh cH] 37)) 28 (zeroS 0 0) es (by rw [hst.1]; exact Try.infoStS) (by rw [hst.1]; rfl) hst.one
  have hF : FSt w g A len cap (w3.heap.size + 1) ((w3.alloc (.cells #[.slice (some ⟨gS, 0, none⟩) ns cS, .slice AH nh cH] 37)).alloc (.cells es 28)) := by
    refine ⟨(b03.alloc b03.size _).alloc (by rw [s4]; omega) _, (cu3.alloc _).alloc _, ⟨zeroS 0 0, ?_, rfl⟩, by omega, es, ?_, hst⟩
    · rw [Below.heap_alloc _ _ _ (by omega), Below.heap_alloc _ _ _ (by omega)]; exact r3
    · rw [← s4]; exact heap_alloc_new _ _
  have HF := Lib.hid hF
  have HE := Lib.hid hst
  have hes := hst.1
  rw [s4] at hst4
  unfold zeroS at hst4
  have hn0 : (0 : Int) < (ns : Int) := by omega
  clear hF hst r2 r3 b02 b03 cu cu3 oS oH hra gr
  go_wp2_with (refine wpList_load_mid rfl _ _ rfl gS 0 rfl es.toList _ hra4 Try.underlying28 rfl (by rw [show es.toList.length = 14 from HE.out.1]; exact Try.infoStS) ?_)
  generalize (w3.alloc (.cells #[.slice (some ⟨gS, 0, none⟩) ns cS, .slice AH nh cH] 37)).alloc (.cells es 28) = w6 at *
  generalize hq : w3.heap.size + 1 = q at *
  clear hst4 hra4 hq HE hes
  refine (d_once 8 _ (w.heap.size + 1) g len cap A HF.out.2.1 (by omega)).mono ?_
  rintro e w7 ⟨t, rfl, cu, gr⟩
  have HF1 := Lib.hid (HF.out.draw cu gr)
  clear HF cu gr
  go_upto_if 16 with fail
  go_cut [] (fun wx => FSt w g A len cap q wx)
  case first =>
    cases t
    · go_wp2_with fail
      go_meet
      exact HF1.out
    · go_wp2_with fail
      refine (d_below 13 _ (w.heap.size + 1) g len cap A HF1.out.2.1 (by omega)).mono ?_
      rintro e w8 ⟨k, k0, k1, k2, rfl, cu, gr⟩
      have k3 := k1 (by omega)
      obtain ⟨k, rfl⟩ : ∃ j : Nat, k = j := ⟨k.toNat, by omega⟩
      have HF2 := Lib.hid (HF1.out.draw cu gr)
      clear HF1 cu gr k1 k2
      go_wp2_with fail
      refine (d_air _ (w.heap.size + 1) g len cap A HF2.out.2.1).mono ?_
      rintro e w9 ⟨a, b, al, bl, rfl, cu, gr⟩
      have HF3 := Lib.hid (HF2.out.draw cu gr)
      clear HF2 cu gr
      obtain ⟨cs, hcs, hst⟩ := HF3.out.2.2.2.2
      obtain ⟨_, x5, f5⟩ := cell_at hcs hst.1 (show 1 + k < 14 by omega)
      clear hcs hst
      go_wp2_with fail
      go_meet
      exact HF3.out.set ⟨fun e => by omega, fun _ => ⟨a, b, ⟨al, bl⟩, rfl⟩⟩
  case rest =>
  clear HF1
  have HF := Lib.hid hcut
  clear hcut
  go_wp2_with fail
  refine (d_below 4 _ (w.heap.size + 1) g len cap A HF.out.2.1 (by omega)).mono ?_
  rintro e w8 ⟨c, c0, c1, c2, rfl, cu, gr⟩
  have HF1 := Lib.hid (HF.out.draw cu gr)
  clear HF cu gr c1 c2
  have HFd := Lib.hid HF1.out.drew
  obtain ⟨cs, hcs, hst⟩ := HF1.out.2.2.2.2
  obtain ⟨Z, hZ⟩ := hst.is
  obtain rfl := hZ.lit
  clear hZ
  obtain ⟨c_0, c_1, c_2, c_3, c_4, c_5, c_6, c_7, c_8, c_9, c_10, c_11, c_12, c_13⟩ := cells14 hcs
  have HS := Lib.hid (And.intro hcs hst)
  clear hcs hst
  by_cases hc0 : c = 0
  · subst hc0
    go_upto_region 8 with fail
    go_region_with ((go_at_call 23; refine (d_below 15 _ (w.heap.size + 1) g len cap A HFd.out.2.1 (by omega)).mono ?_; rintro e w9 ⟨y, y0, y1, y2, rfl, cu, gr⟩; have y3 := y1 (by omega); clear y1 y2; have hc9 := box_far (w1 := w8.drew) HS.out.1 gr (fun e => by cases e; have := HF1.out.2.2.2.1; omega); obtain ⟨d_0, d_1, d_2, d_3, d_4, d_5, d_6, d_7, d_8, d_9, d_10, d_11, d_12, d_13⟩ := cells14 hc9; have HF2 := Lib.hid (HFd.out.draw cu gr); obtain ⟨z, hz, hzs⟩ := HF2.out.2.2.1; obtain ⟨b0, b1, b2, b3, b4, b5, b6, b7, b8, b9, b10, b11, b12, b13, rfl⟩ := size14 hzs; obtain ⟨x_0, x_1, x_2, x_3, x_4, x_5, x_6, x_7, x_8, x_9, x_10, x_11, x_12, x_13⟩ := cells14 hz; obtain ⟨f_0, f_1, f_2, f_3, f_4, f_5, f_6, f_7, f_8, f_9, f_10, f_11, f_12, f_13⟩ := soft14 hz; have HZ2 := Lib.hid hz; clear cu gr hz hzs hc9))
    all_goals
      go_wp2_with fail
      exact bodyPost_ret (v := .tuple #[.agg #[.complex .f64 Z.a Z.b, .complex .f32 (Z.x 0) (Z.y 0), .complex .f32 (Z.x 1) (Z.y 1), .complex .f32 (Z.x 2) (Z.y 2), .complex .f32 (Z.x 3) (Z.y 3), .complex .f32 (Z.x 4) (Z.y 4), .complex .f32 (Z.x 5) (Z.y 5), .complex .f32 (Z.x 6) (Z.y 6), .complex .f32 (Z.x 7) (Z.y 7), .complex .f32 (Z.x 8) (Z.y 8), .complex .f32 (Z.x 9) (Z.y 9), .complex .f32 (Z.x 10) (Z.y 10), .complex .f32 (Z.x 11) (Z.y 11), .complex .f32 (Z.x 12) (Z.y 12)], .int .i64 (IntKind.i64.wrap (IntKind.i64.wrap (y - 7) * 3600))])
        (res_cell_tmp (p := 2) (u := 3) (ty := 28) (by rfl) _ _ w.heap.size _ #[.complex .f64 Z.a Z.b, .complex .f32 (Z.x 0) (Z.y 0), .complex .f32 (Z.x 1) (Z.y 1), .complex .f32 (Z.x 2) (Z.y 2), .complex .f32 (Z.x 3) (Z.y 3), .complex .f32 (Z.x 4) (Z.y 4), .complex .f32 (Z.x 5) (Z.y 5), .complex .f32 (Z.x 6) (Z.y 6), .complex .f32 (Z.x 7) (Z.y 7), .complex .f32 (Z.x 8) (Z.y 8), .complex .f32 (Z.x 9) (Z.y 9), .complex .f32 (Z.x 10) (Z.y 10), .complex .f32 (Z.x 11) (Z.y 11), .complex .f32 (Z.x 12) (Z.y 12)] (0, 0) _ (by rfl) (put14 HZ2.out) Try.underlying28 rfl Try.infoStS) rfl ⟨_, _, HS.out.2, wrap_bd _, rfl, below_cur HF2.out.1 (Nat.le_refl _) (grown_setCells w.heap.size [.complex .f64 Z.a Z.b, .complex .f32 (Z.x 0) (Z.y 0), .complex .f32 (Z.x 1) (Z.y 1), .complex .f32 (Z.x 2) (Z.y 2), .complex .f32 (Z.x 3) (Z.y 3), .complex .f32 (Z.x 4) (Z.y 4), .complex .f32 (Z.x 5) (Z.y 5), .complex .f32 (Z.x 6) (Z.y 6), .complex .f32 (Z.x 7) (Z.y 7), .complex .f32 (Z.x 8) (Z.y 8), .complex .f32 (Z.x 9) (Z.y 9), .complex .f32 (Z.x 10) (Z.y 10), .complex .f32 (Z.x 11) (Z.y 11), .complex .f32 (Z.x 12) (Z.y 12)] 0 w9) (Nat.le_refl _)⟩
  have e0 : (c == 0) = false := by simpa using hc0
  by_cases hc1 : c = 1
  · subst hc1
    go_upto_region 10 with fail
    go_region_with ((go_at_call 24; refine (d_number _ (w.heap.size + 1) g len cap A HFd.out.2.1).mono ?_; rintro e w9 ⟨y, y0, y1, rfl, cu, gr⟩; have hc9 := box_far (w1 := w8.drew) HS.out.1 gr (fun e => by cases e; have := HF1.out.2.2.2.1; omega); obtain ⟨d_0, d_1, d_2, d_3, d_4, d_5, d_6, d_7, d_8, d_9, d_10, d_11, d_12, d_13⟩ := cells14 hc9; have HF2 := Lib.hid (HFd.out.draw cu gr); obtain ⟨z, hz, hzs⟩ := HF2.out.2.2.1; obtain ⟨b0, b1, b2, b3, b4, b5, b6, b7, b8, b9, b10, b11, b12, b13, rfl⟩ := size14 hzs; obtain ⟨x_0, x_1, x_2, x_3, x_4, x_5, x_6, x_7, x_8, x_9, x_10, x_11, x_12, x_13⟩ := cells14 hz; obtain ⟨f_0, f_1, f_2, f_3, f_4, f_5, f_6, f_7, f_8, f_9, f_10, f_11, f_12, f_13⟩ := soft14 hz; have HZ2 := Lib.hid hz; clear cu gr hz hzs hc9))
    all_goals
      go_wp2_with fail
      exact bodyPost_ret (v := .tuple #[.agg #[.complex .f64 Z.a Z.b, .complex .f32 (Z.x 0) (Z.y 0), .complex .f32 (Z.x 1) (Z.y 1), .complex .f32 (Z.x 2) (Z.y 2), .complex .f32 (Z.x 3) (Z.y 3), .complex .f32 (Z.x 4) (Z.y 4), .complex .f32 (Z.x 5) (Z.y 5), .complex .f32 (Z.x 6) (Z.y 6), .complex .f32 (Z.x 7) (Z.y 7), .complex .f32 (Z.x 8) (Z.y 8), .complex .f32 (Z.x 9) (Z.y 9), .complex .f32 (Z.x 10) (Z.y 10), .complex .f32 (Z.x 11) (Z.y 11), .complex .f32 (Z.x 12) (Z.y 12)], .int .i64 (IntKind.i64.wrap (y - 300))])
        (res_cell_tmp (p := 2) (u := 3) (ty := 28) (by rfl) _ _ w.heap.size _ #[.complex .f64 Z.a Z.b, .complex .f32 (Z.x 0) (Z.y 0), .complex .f32 (Z.x 1) (Z.y 1), .complex .f32 (Z.x 2) (Z.y 2), .complex .f32 (Z.x 3) (Z.y 3), .complex .f32 (Z.x 4) (Z.y 4), .complex .f32 (Z.x 5) (Z.y 5), .complex .f32 (Z.x 6) (Z.y 6), .complex .f32 (Z.x 7) (Z.y 7), .complex .f32 (Z.x 8) (Z.y 8), .complex .f32 (Z.x 9) (Z.y 9), .complex .f32 (Z.x 10) (Z.y 10), .complex .f32 (Z.x 11) (Z.y 11), .complex .f32 (Z.x 12) (Z.y 12)] (0, 0) _ (by rfl) (put14 HZ2.out) Try.underlying28 rfl Try.infoStS) rfl ⟨_, _, HS.out.2, wrap_bd _, rfl, below_cur HF2.out.1 (Nat.le_refl _) (grown_setCells w.heap.size [.complex .f64 Z.a Z.b, .complex .f32 (Z.x 0) (Z.y 0), .complex .f32 (Z.x 1) (Z.y 1), .complex .f32 (Z.x 2) (Z.y 2), .complex .f32 (Z.x 3) (Z.y 3), .complex .f32 (Z.x 4) (Z.y 4), .complex .f32 (Z.x 5) (Z.y 5), .complex .f32 (Z.x 6) (Z.y 6), .complex .f32 (Z.x 7) (Z.y 7), .complex .f32 (Z.x 8) (Z.y 8), .complex .f32 (Z.x 9) (Z.y 9), .complex .f32 (Z.x 10) (Z.y 10), .complex .f32 (Z.x 11) (Z.y 11), .complex .f32 (Z.x 12) (Z.y 12)] 0 w9) (Nat.le_refl _)⟩
  have e1 : (c == 1) = false := by simpa using hc1
  · go_upto_region 11 with fail
    go_region_with ((go_at_call 23; refine (d_below 50001 _ (w.heap.size + 1) g len cap A HFd.out.2.1 (by omega)).mono ?_; rintro e w9 ⟨y, y0, y1, y2, rfl, cu, gr⟩; have y3 := y1 (by omega); clear y1 y2; have hc9 := box_far (w1 := w8.drew) HS.out.1 gr (fun e => by cases e; have := HF1.out.2.2.2.1; omega); obtain ⟨d_0, d_1, d_2, d_3, d_4, d_5, d_6, d_7, d_8, d_9, d_10, d_11, d_12, d_13⟩ := cells14 hc9; have HF2 := Lib.hid (HFd.out.draw cu gr); obtain ⟨z, hz, hzs⟩ := HF2.out.2.2.1; obtain ⟨b0, b1, b2, b3, b4, b5, b6, b7, b8, b9, b10, b11, b12, b13, rfl⟩ := size14 hzs; obtain ⟨x_0, x_1, x_2, x_3, x_4, x_5, x_6, x_7, x_8, x_9, x_10, x_11, x_12, x_13⟩ := cells14 hz; obtain ⟨f_0, f_1, f_2, f_3, f_4, f_5, f_6, f_7, f_8, f_9, f_10, f_11, f_12, f_13⟩ := soft14 hz; have HZ2 := Lib.hid hz; clear cu gr hz hzs hc9))
    all_goals
      go_wp2_with fail
      exact bodyPost_ret (v := .tuple #[.agg #[.complex .f64 Z.a Z.b, .complex .f32 (Z.x 0) (Z.y 0), .complex .f32 (Z.x 1) (Z.y 1), .complex .f32 (Z.x 2) (Z.y 2), .complex .f32 (Z.x 3) (Z.y 3), .complex .f32 (Z.x 4) (Z.y 4), .complex .f32 (Z.x 5) (Z.y 5), .complex .f32 (Z.x 6) (Z.y 6), .complex .f32 (Z.x 7) (Z.y 7), .complex .f32 (Z.x 8) (Z.y 8), .complex .f32 (Z.x 9) (Z.y 9), .complex .f32 (Z.x 10) (Z.y 10), .complex .f32 (Z.x 11) (Z.y 11), .complex .f32 (Z.x 12) (Z.y 12)], .int .i64 (IntKind.i64.wrap (y - 25000))])
        (res_cell_tmp (p := 2) (u := 3) (ty := 28) (by rfl) _ _ w.heap.size _ #[.complex .f64 Z.a Z.b, .complex .f32 (Z.x 0) (Z.y 0), .complex .f32 (Z.x 1) (Z.y 1), .complex .f32 (Z.x 2) (Z.y 2), .complex .f32 (Z.x 3) (Z.y 3), .complex .f32 (Z.x 4) (Z.y 4), .complex .f32 (Z.x 5) (Z.y 5), .complex .f32 (Z.x 6) (Z.y 6), .complex .f32 (Z.x 7) (Z.y 7), .complex .f32 (Z.x 8) (Z.y 8), .complex .f32 (Z.x 9) (Z.y 9), .complex .f32 (Z.x 10) (Z.y 10), .complex .f32 (Z.x 11) (Z.y 11), .complex .f32 (Z.x 12) (Z.y 12)] (0, 0) _ (by rfl) (put14 HZ2.out) Try.underlying28 rfl Try.infoStS) rfl ⟨_, _, HS.out.2, wrap_bd _, rfl, below_cur HF2.out.1 (Nat.le_refl _) (grown_setCells w.heap.size [.complex .f64 Z.a Z.b, .complex .f32 (Z.x 0) (Z.y 0), .complex .f32 (Z.x 1) (Z.y 1), .complex .f32 (Z.x 2) (Z.y 2), .complex .f32 (Z.x 3) (Z.y 3), .complex .f32 (Z.x 4) (Z.y 4), .complex .f32 (Z.x 5) (Z.y 5), .complex .f32 (Z.x 6) (Z.y 6), .complex .f32 (Z.x 7) (Z.y 7), .complex .f32 (Z.x 8) (Z.y 8), .complex .f32 (Z.x 9) (Z.y 9), .complex .f32 (Z.x 10) (Z.y 10), .complex .f32 (Z.x 11) (Z.y 11), .complex .f32 (Z.x 12) (Z.y 12)] 0 w9) (Nat.le_refl _)⟩
end Go.Proofs.Ytbklmfchbojboaa

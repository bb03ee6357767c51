/- Flows: a share of an hour, arrays of velocities compared, flowOk on both sides. -/
import Derived.Test.YtonfenekjocopaaTdB
import Derived.Test.YtonfenekjocopaaDmM
import Derived.Deep.Slices
import Derived.BigQuiet
import Derived.Laws.StructEq
namespace Go.Proofs.Ytonfenekjocopaa
open Go.RowKit Ieee
set_option linter.unusedSimpArgs false
set_option linter.unusedVariables false
attribute [local go_sem] st_cplx

/-! ### A share of an hour -/
theorem kWord {c : Nat} (h : c < 1065353216) : okK c := by
  have hE : S.expo c < 127 := by unfold S.expo; omega
  have h1 : c < 4294967296 := by omega
  refine ⟨S.num_of_expo h1 (by omega), ?_⟩
  obtain ⟨M, P, e, hM, hcase⟩ := S.num_form c h1 (by omega)
  have hs : S.sneg c = false := by
    unfold S.sneg
    rw [show c / 2147483648 = 0 by omega]; rfl
  have hv : S.fval c = ((M * 2 ^ P : Nat) : Int) := by
    unfold S.fval
    rw [e, hs]
    show signed false M (-149 + (P : Int) + 149).toNat = _
    rw [show (-149 + (P : Int) + 149).toNat = P by omega, signed_eq]
    simp
  have hP : P ≤ 125 := by omega
  have hE := S.fixE_eq
  have h3 : M * 2 ^ P ≤ 2 ^ 24 * 2 ^ 125 := Nat.mul_le_mul (Nat.le_of_lt hM) (Nat.pow_le_pow_right (by omega) hP)
  have h4 : M * 2 ^ P ≤ S.oneV := by
    refine Nat.le_trans h3 ?_
    unfold S.oneV
    rw [← Nat.pow_add, hE]
    exact Nat.le_refl _
  rw [hv]
  exact ⟨Int.natCast_nonneg _, by exact_mod_cast h4⟩
def quoK (n : Nat) : Bool := match floatBits .quo .f32 (floatOfInt .f32 n) 1163984896 with
  | some c => Nat.blt c 1065353216
  | none => false
theorem quoK_tab : (List.range 3600).all quoK = true := by kernel_rfl
theorem ratio_ok {n : Int} (h0 : 0 ≤ n) (h1 : n < 3600) : ∃ q, floatBits .quo .f32 (floatOfInt .f32 n) 1163984896 = some q ∧ q < 4294967296 ∧ okK q := by
  obtain ⟨k, rfl⟩ : ∃ k : Nat, n = k := ⟨n.toNat, by omega⟩
  have hb : quoK k = true := List.all_eq_true.1 quoK_tab _ (List.mem_range.2 (by omega))
  unfold quoK at hb
  cases hc : floatBits .quo .f32 (floatOfInt .f32 k) 1163984896 with
  | none => rw [hc] at hb; cases hb
  | some c =>
    rw [hc] at hb
    simp only [Nat.blt_eq] at hb
    exact ⟨c, rfl, by omega, kWord hb⟩

/-! ### Arrays compared -/
theorem eq_loop {P : Program} (d : Nat) (t : TypeId) (xs ys : Array Value) (w : World) (q : Nat → Bool) (hagg : (isAgg t).run P w = .ok false w) :
    ∀ (l : List Nat), (∀ h ∈ l, ∃ x y, xs[h]? = some x ∧ ys[h]? = some y ∧ (Op.equalIn d t x y).run P w = .ok (q h) w) →
    (do
      for i in l do
        if !(← Op.equalIn d t (← part t xs (i * 1)) (← part t ys (i * 1))) then return false
      pure true : Sem Bool).run P w = .ok (l.all q) w := by
  intro l
  induction l with
  | nil => intro _; simp
  | cons h l ih =>
    intro hall
    obtain ⟨x, y, hx, hy, he⟩ := hall h (by simp)
    have hpx : (part t xs h).run P w = .ok x w := by simp [part, hagg, hx]
    have hpy : (part t ys h).run P w = .ok y w := by simp [part, hagg, hy]
    simp only [List.forIn_cons, Sem.run_bind, Nat.mul_one, hpx, hpy, he, Result.andThen_ok, List.all_cons]
    cases hq : q h
    · simp
    · have := ih (fun k hk => hall k (by simp [hk]))
      simp only [Nat.mul_one, Sem.run_bind] at this
      simpa using this
theorem run_sizeC (w : World) : (sizeOf 26).run Try.prog w = .ok 1 w := by
  have h : (Try.prog.info? 26).map (·.size) = some 1 := by kernel_rfl
  cases hq : Try.prog.info? 26 with
  | none => rw [hq] at h; cases h
  | some i =>
    rw [hq] at h
    have hs : i.size = 1 := by simpa using h
    simp [sizeOf, typeInfo, hq, hs]
theorem run_eq13 (d : Nat) (w : World) (xs ys : Array Value) (a b c e : Nat → Nat) (hx : ∀ h, h < 13 → xs[h]? = some (.complex .f32 (a h) (b h))) (hy : ∀ h, h < 13 → ys[h]? = some (.complex .f32 (c h) (e h))) :
    (Op.equalIn (d + 2) 108 (.agg xs) (.agg ys)).run Try.prog w = .ok ((List.range 13).all fun h => Op.floatEq .f32 (a h) (c h) && Op.floatEq .f32 (b h) (e h)) w := by
  have hagg : (isAgg 26).run Try.prog w = .ok false w := by
    unfold isAgg
    rw [Sem.run_bind, run_underlying Try.underlying26 w]; rfl
  have hl := eq_loop (P := Try.prog) (d + 1) 26 xs ys w (fun h => Op.floatEq .f32 (a h) (c h) && Op.floatEq .f32 (b h) (e h)) hagg (List.range 13) (fun h hh => ⟨_, _, hx h (List.mem_range.1 hh), hy h (List.mem_range.1 hh), by simp [Op.equalIn, run_underlying Try.underlying26]⟩)
  rw [Op.equalIn]
  simp only [Sem.run_bind, run_underlying Try.underlying108, Result.andThen_ok, run_sizeC]
  rw [← hl]
  first | rw [Std.Legacy.Range.forIn_eq_forIn_range'] | rw [Std.Range.forIn_eq_forIn_range']
  rw [Sem.run_bind]
  rfl
theorem same_ok {x : Nat} (h : S.okP x) : Op.floatEq .f32 x x = true := by
  unfold Op.floatEq
  rw [show FloatKind.f32.format.order x x = some (compare (S.fval x) (S.fval x)) from S.order_val h.1 h.1, Int.compare_eq_eq.2 rfl]; rfl
theorem zero_same {x : Nat} (hx : x < 4294967296) (h : Op.floatEq .f32 0 x = true) : S.okP x := by
  unfold Op.floatEq at h
  have h0 := S.isNum_of S.nought_num
  by_cases hE : S.expo x < 255
  · have hn := S.num_of_expo hx hE
    rw [show FloatKind.f32.format.order 0 x = some (compare (S.fval 0) (S.fval x)) from S.order_val h0 hn] at h
    have h1 : compare (S.fval 0) (S.fval x) = .eq := by simpa using h
    have h2 := Int.compare_eq_eq.1 h1
    rw [S.nought_val] at h2
    exact ⟨hn, by rw [← h2]; exact Nat.zero_le _⟩
  · have hE2 : S.expo x = 255 := by have := S.expo_le x; omega
    exfalso
    rcases S.read_full hx hE2 with hr | ⟨b, hr⟩
    · have h' : FloatKind.f32.format.read x = .infinity (S.sneg x) := hr
      unfold Format.order at h
      rw [h', show FloatKind.f32.format.read 0 = _ from S.nought_num] at h
      cases hs : S.sneg x <;> rw [hs] at h <;> cases h
    · have h' : FloatKind.f32.format.read x = .nan (S.sneg x) b := hr
      unfold Format.order at h
      rw [h', show FloatKind.f32.format.read 0 = _ from S.nought_num] at h
      cases h
theorem run_index13 (w : World) (fs : Array Value) (k : Nat) (v : Value) (hk : k < 13) (hv : fs[k]? = some v) : (Instr.index 108 (.agg fs) (.int .i64 k)).run Try.prog w = .ok v w := by
  simp [Instr.index, asIntOf, run_underlying Try.underlying108, hk, run_sizeC, part, hv]

/-! ### Flows -/
/-- An array of velocities, as words. -/
def FlIs (fs : Array Value) (x y : Nat → Nat) : Prop := fs.size = 13 ∧ ∀ h, h < 13 → (x h < 4294967296 ∧ y h < 4294967296) ∧ fs[h]? = some (.complex .f32 (x h) (y h))
/-- All are valid. -/
def FlOk (x y : Nat → Nat) : Prop := ∀ h, h < 13 → okV (x h) (y h)
theorem FlIs.one {fs : Array Value} {x y : Nat → Nat} (h : FlIs fs x y) : fs.all (·.oneCell') = true := by
  rw [Array.all_eq_true_iff_forall_mem]
  intro v hv
  obtain ⟨i, hi, rfl⟩ := Array.mem_iff_getElem.1 hv
  have h1 := (h.2 i (by have := h.1; omega)).2
  rw [Array.getElem?_eq_getElem hi] at h1
  rw [Option.some.inj h1]; rfl
/-- What the copy holds after k velocities were looked at. -/
def cpy (ok : Nat → Bool) (x y : Nat → Nat) (k h : Nat) : Nat × Nat := if h < k ∧ ok h = false then (0, 0) else (x h, y h)
theorem eq_copy {x y : Nat → Nat} {ok : Nat → Bool} (hw : ∀ h, h < 13 → x h < 4294967296 ∧ y h < 4294967296) (hok : ∀ h, h < 13 → (ok h = true ↔ S.okP (x h) ∧ S.okP (y h))) :
    (List.range 13).all (fun h => Op.floatEq .f32 (cpy ok x y 13 h).1 (x h) && Op.floatEq .f32 (cpy ok x y 13 h).2 (y h)) = true ↔ FlOk x y := by
  rw [List.all_eq_true]
  constructor
  · intro hall h hh
    have h1 := hall h (List.mem_range.2 hh)
    have hwh := hw h hh
    refine ⟨hwh, ?_⟩
    by_cases hb : ok h = true
    · exact (hok h hh).1 hb
    · have hf : ok h = false := by simpa using hb
      unfold cpy at h1
      rw [if_pos ⟨hh, hf⟩] at h1
      simp only [Bool.and_eq_true] at h1
      exact ⟨zero_same hwh.1 h1.1, zero_same hwh.2 h1.2⟩
  · intro hall h hh
    have hh' := List.mem_range.1 hh
    have h1 := hall h hh'
    unfold cpy
    rw [if_neg (by rw [(hok h hh').2 h1.2]; simp)]
    simp only [Bool.and_eq_true]
    exact ⟨same_ok h1.2.1, same_ok h1.2.2⟩
theorem Try.infoArZ : (Try.prog.info? 108).map (fun i => (i.zero, i.size)) = some (some (.agg zeroA), 13) := by kernel_rfl
noncomputable def okF (x y : Nat → Nat) (h : Nat) : Bool := @decide (S.okP (x h) ∧ S.okP (y h)) (Classical.propDecidable _)
theorem okF_iff (x y : Nat → Nat) (h : Nat) : okF x y h = true ↔ S.okP (x h) ∧ S.okP (y h) := by unfold okF; simp
theorem cpy_yes {ok : Nat → Bool} {x y : Nat → Nat} {k : Nat} (h : ok k = true) (j : Nat) : cpy ok x y (k + 1) j = cpy ok x y k j := by
  unfold cpy
  by_cases e : j = k
  · subst e; rw [h]; simp
  · by_cases e2 : j < k
    · simp [e2, Nat.lt_succ_of_lt e2]
    · rw [if_neg (by omega), if_neg (by omega)]
theorem cpy_no {ok : Nat → Bool} {x y : Nat → Nat} {k : Nat} (h : ok k = false) (j : Nat) : cpy ok x y (k + 1) j = if j = k then (0, 0) else cpy ok x y k j := by
  unfold cpy
  by_cases e : j = k
  · subst e; rw [if_pos rfl, if_pos ⟨by omega, h⟩]
  · rw [if_neg e]
    by_cases e2 : j < k
    · simp [e2, Nat.lt_succ_of_lt e2]
    · rw [if_neg (by omega), if_neg (by omega)]
/-- The copy's cells. -/
def CpIs (x y : Nat → Nat) (k : Nat) (ss : Array Value) : Prop := ss.size = 13 ∧ ∀ h, h < 13 → ss[h]? = some (.complex .f32 (cpy (okF x y) x y k h).1 (cpy (okF x y) x y k h).2)
theorem CpIs.yes {x y : Nat → Nat} {k : Nat} {ss : Array Value} (h : CpIs x y k ss) (ho : okF x y k = true) : CpIs x y (k + 1) ss := ⟨h.1, fun j hj => by rw [cpy_yes ho j]; exact h.2 j hj⟩
theorem CpIs.no {x y : Nat → Nat} {k : Nat} {ss : Array Value} (h : CpIs x y k ss) (ho : okF x y k = false) (hk : k < 13) : CpIs x y (k + 1) (ss.setIfInBounds k (.complex .f32 0 0)) := by
  refine ⟨by simpa using h.1, fun j hj => ?_⟩
  rw [cpy_no ho j, Array.getElem?_setIfInBounds]
  by_cases e : k = j
  · subst e; rw [if_pos rfl, if_pos rfl]; simp [h.1, hk]
  · rw [if_neg e, if_neg (fun e' => e e'.symm)]; exact h.2 j hj
theorem FlIs.cp {fs : Array Value} {x y : Nat → Nat} (h : FlIs fs x y) : CpIs x y 0 fs := ⟨h.1, fun j hj => by
  unfold cpy
  rw [if_neg (by omega)]; exact (h.2 j hj).2⟩
theorem Try.guard13 : Try.prog.eqGuardType Try.prog.depth 108 = false := by kernel_rfl
set_option maxRecDepth 100000 in
set_option maxHeartbeats 4000000 in
theorem i_flowOk (fs : Array Value) (x y : Nat → Nat) (w : World) (hf : FlIs fs x y) :
    Calls Try.prog 109 #[.agg fs] w fun e w' => ∃ t : Bool, (t = true ↔ FlOk x y) ∧ e = .returned (.bool t) ∧ Below w.heap.size w w' := by
  obtain ⟨hz0, hi⟩ := zero_of_info Try.infoArZ
  have hsz : fs.size = 13 := hf.1
  have s1 : (w.alloc (.cells fs 108)).heap.size = w.heap.size + 1 := by simp
  have hst := run_storeCells_new (P := Try.prog) (w.alloc (.cells fs 108)) 108 zeroA fs (by rw [hsz]; exact hi) (by rw [hsz]; rfl) hf.one
  have hg0 : (w.alloc (.cells fs 108)).heap[w.heap.size]? = some (.cells fs 108 (0, 0)) := heap_alloc_new w _
  have hg1 := heap_alloc_new (w.alloc (.cells fs 108)) (.cells fs 108)
  have hg2 : ((w.alloc (.cells fs 108)).alloc (.cells fs 108)).heap[w.heap.size]? = some (.cells fs 108 (0, 0)) := by
    rw [Below.heap_alloc _ _ _ (by omega)]; exact hg0
  rw [s1] at hst hg1
  have hb : Below w.heap.size w ((w.alloc (.cells fs 108)).alloc (.cells fs 108)) := ((Below.refl w.heap.size w).alloc (Nat.le_refl _) _).alloc (by omega) _
  have HF := Lib.hid hf
  have HI := Lib.hid hi
  have HG := Lib.hid (And.intro hg1 (And.intro hg2 hb))
  clear hf hi hg1 hb
  go_enter Try.func109, Try.ntmps109
  go_wp2_with (first
    | (refine wpList_load_row rfl _ _ rfl w.heap.size rfl _ fs (0, 0) _ hg0 Try.underlying108 rfl (by rw [hsz]; exact HI.out) ?_)
    | (refine wpList_load_row rfl _ _ rfl w.heap.size rfl _ fs (0, 0) _ hg2 Try.underlying108 rfl (by rw [hsz]; exact HI.out) ?_))
  clear hst hg0 hg2 hz0
  go_loopw [4, 5, 8] (fun h v i wr => ∃ (k : Nat) (ss : Array Value), k ≤ 13 ∧ i = .int .i64 k ∧ wr.heap[w.heap.size + 1]? = some (.cells ss 108 (0, 0)) ∧ CpIs x y k ss ∧ wr.heap[w.heap.size]? = some (.cells fs 108 (0, 0)) ∧ Below w.heap.size w wr) (fun _ _ i _ => 13 - (intOf i).toNat)
  case atStart => exact ⟨0, fs, by omega, rfl, HG.out.1, HF.out.cp, HG.out.2.1, HG.out.2.2⟩
  case round =>
    clear HG
    obtain ⟨k, ss, hk, rfl, h1, h2, h3, h4⟩ := hrel
    have HR := Lib.hid (And.intro h1 (And.intro h2 (And.intro h3 h4)))
    clear h1 h2 h3 h4
    by_cases hlt : k < 13
    · have k1 : (k : Int) < 13 := by omega
      have hix := fun w => run_index13 w fs k _ hlt (HF.out.2 k hlt).2
      have hxy := (HF.out.2 k hlt).1
      have HK := Lib.hid (okF_iff x y k)
      generalize x k = a at *
      generalize y k = b at *
      go_wp2_with fail
      refine (i_velok a b _ hxy.1 hxy.2).mono ?_
      rintro e w2 ⟨t, ht, rfl, e1, g1⟩
      have HT := Lib.hid ht
      clear ht
      cases t
      · clear e1
        have h1 := box_far HR.out.1 g1 (fun e => by cases e)
        have h3 := box_far HR.out.2.2.1 g1 (fun e => by cases e)
        have hbl : Below w.heap.size w w2 := HR.out.2.2.2.grown g1 HR.out.2.2.2.size (fun _ h => by cases h)
        obtain ⟨_, x5, f5⟩ := cell_at h1 HR.out.2.1.1 hlt
        have ho : okF x y k = false := by
          cases hb : okF x y k
          · rfl
          · have := HT.out.2 (HK.out.1 hb); cases this
        have HN := Lib.hid (And.intro (heap_set_self (k := k) h1 (.complex .f32 0 0)) (And.intro (HR.out.2.1.no ho hlt) (And.intro ((Below.heap_setCell w2 ⟨w.heap.size + 1, k, none⟩ (.complex .f32 0 0) w.heap.size (by show w.heap.size ≠ w.heap.size + 1; omega)).trans h3) (hbl.setCell (show w.heap.size ≤ (⟨w.heap.size + 1, k, none⟩ : Addr).block from Nat.le_succ _) (.complex .f32 0 0)))))
        clear h1 h3 hbl ho HR g1
        go_wp2_with fail
        go_roundw
        case rel => exact ⟨k + 1, _, by omega, by go_num, HN.out⟩
        case measure => simp [intOf]; omega
      · obtain rfl := e1 rfl
        clear e1 g1
        have HN := Lib.hid (HR.out.2.1.yes (HK.out.2 (HT.out.1 rfl)))
        go_wp2_with fail
        go_roundw
        case rel => exact ⟨k + 1, _, by omega, by go_num, HR.out.1, HN.out, HR.out.2.2⟩
        case measure => simp [intOf]; omega
    · obtain rfl : k = 13 := by omega
      have hq : ∀ w, (Op.equalIn 10000 108 (.agg ss) (.agg fs)).run Try.prog w = .ok ((List.range 13).all fun h => Op.floatEq .f32 (cpy (okF x y) x y 13 h).1 (x h) && Op.floatEq .f32 (cpy (okF x y) x y 13 h).2 (y h)) w :=
        fun w => run_eq13 9998 w ss fs _ _ x y HR.out.2.1.2 (fun h hh => (HF.out.2 h hh).2)
      have hgt := Try.guard13
      have hr := eq_copy (x := x) (y := y) (ok := okF x y) (fun h hh => (HF.out.2 h hh).1) (fun h hh => okF_iff x y h)
      generalize ((List.range 13).all fun h => Op.floatEq .f32 (cpy (okF x y) x y 13 h).1 (x h) && Op.floatEq .f32 (cpy (okF x y) x y 13 h).2 (y h)) = t at *
      have HQ := Lib.hid hr
      clear hr
      go_wp2_with (first
        | (refine wpList_load_row rfl _ _ rfl (w.heap.size + 1) rfl _ ss (0, 0) _ HR.out.1 Try.underlying108 rfl (by rw [HR.out.2.1.1]; exact HI.out) ?_)
        | (refine wpList_load_row rfl _ _ rfl w.heap.size rfl _ fs (0, 0) _ HR.out.2.2.1 Try.underlying108 rfl (by rw [hsz]; exact HI.out) ?_))
      go_ret
      exact ⟨t, HQ.out, rfl, HR.out.2.2.2⟩
end Go.Proofs.Ytonfenekjocopaa

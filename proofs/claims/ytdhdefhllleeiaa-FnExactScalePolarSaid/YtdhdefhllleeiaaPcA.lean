/- slices.Clone; a row multiplied: scaledRow. -/
import Derived.Test.YtdhdefhllleeiaaPoJ
import Derived.Test.YtdhdefhllleeiaaPoT
import Derived.Test.YtdhdefhllleeiaaPxT
import Derived.Deep.AppendLies
import Derived.Lib.SliceRun
namespace Go.Proofs.Ytdhdefhllleeiaa
open Go.RowKit Ieee
set_option linter.unusedSimpArgs false
set_option linter.unusedVariables false

/-- A block whose first n cells are these. -/
def OwnB (w : World) (g n : Nat) (t : TypeId) (V : Nat → Value) : Prop := ∃ cs, w.heap[g]? = some (.cells cs t (0, 0)) ∧ n ≤ cs.size ∧ ∀ j, j < n → cs[j]? = some (V j)
theorem OwnB.lt {w : World} {g n : Nat} {t : TypeId} {V : Nat → Value} (h : OwnB w g n t V) : g < w.heap.size := by
  obtain ⟨cs, h1, _⟩ := h
  rcases Nat.lt_or_ge g w.heap.size with h' | h'
  · exact h'
  · rw [Array.getElem?_eq_none h'] at h1; cases h1
theorem OwnB.block {w w' : World} {g n : Nat} {t : TypeId} {V : Nat → Value} (h : OwnB w g n t V) (e : w'.heap[g]? = w.heap[g]?) : OwnB w' g n t V := by
  obtain ⟨cs, h1, h2⟩ := h
  exact ⟨cs, e.trans h1, h2⟩
theorem OwnB.below {w w' : World} {g n : Nat} {t : TypeId} {V : Nat → Value} (h : OwnB w g n t V) (b : Below w.heap.size w w') : OwnB w' g n t V := h.block (b.block g h.lt)
theorem OwnB.row {w : World} {g n : Nat} {t : TypeId} {V : Nat → Value} (h : OwnB w g n t V) : Row w (some ⟨g, 0, none⟩) n V := fun _ => by
  obtain ⟨cs, h1, h2, h3⟩ := h
  exact ⟨g, 0, rfl, fun j hj => by rw [Nat.zero_add, cell_of_row w g j _ _ _ h1]; exact h3 j hj⟩
theorem own_of {w : World} {B g n c : Nat} {t : TypeId} {xs : List Value} {V : Nat → Value} (h : w.ownsRow B t 1 (.slice (some ⟨g, 0, none⟩) n c) n xs) (hV : ∀ j, j < n → xs[j]? = some (V j)) : OwnB w g n t V := by
  obtain ⟨hl, ⟨h0, _⟩ | ⟨g', c', cur, he, hb, hg, hc, _, hs, ht⟩⟩ := h
  · cases h0
  · cases he
    rw [Nat.mul_one] at hs ht
    refine ⟨cur, hg, by omega, fun j hj => ?_⟩
    have := hV j hj
    rw [← ht, List.getElem?_take, if_pos hj] at this
    simpa using this

set_option maxRecDepth 100000 in
set_option maxHeartbeats 1000000 in
theorem c_cloneF (f : Nat → Nat) (A : Option Addr) (n cap : Nat) (w : World) (h : RowF w A n f) (hn : 0 < n) :
    Calls Try.prog 55 #[.slice A n cap] w fun e w' => ∃ g c, e = .returned (.slice (some ⟨g, 0, none⟩) n c) ∧ w.heap.size ≤ g ∧ OwnB w' g n 31 (fun j => fv (f j)) ∧ Below w.heap.size w w' := by
  obtain ⟨iF, hiF, zF0, zF1, zF2⟩ := info_parts Try.infoF
  obtain ⟨gA, oA, rfl, hc⟩ := h.1 hn
  have hnl := h.2.1
  have hown0 : (w.alloc (.cells #[] 31)).ownsRow w.heap.size 31 1 (.slice (some ⟨w.heap.size, 0, none⟩) 0 0) 0 [] := World.ownsRow_made w #[] 0 (Nat.le_refl _) (by simp [maxLen]) rfl
  have hnews : ∀ j u, ((List.range n).map (fun j => fv (f j)))[j]? = some u → (w.alloc (.cells #[] 31)).cell? ((⟨gA, oA, none⟩ : Addr).add j) = some u := fun j u hu => by
    have hj : j < n := by
      rcases Nat.lt_or_ge j n with h' | h'
      · exact h'
      · rw [List.getElem?_eq_none (by simpa using h')] at hu; cases hu
    have hadd : (⟨gA, oA, none⟩ : Addr).add j = ⟨gA, oA + j, none⟩ := by unfold Addr.add; split <;> simp_all
    have h1 := hc j hj
    rw [hadd, (World.cell?_alloc_lt w _ _ (World.block_lt_of_cell? w _ h1)).trans h1]
    simpa [hj] using hu
  have HN := Lib.hid hnews
  have b0 : Below w.heap.size w (w.alloc (.cells #[] 31)) := (Below.refl _ w).alloc (Nat.le_refl _) _
  clear hc hnews h
  have q24 : ∀ (w : World) (a : Option Addr) (n c n' c' : Nat), (binOp .eql 24 (.slice a n c) (.slice none n' c')).run Try.prog w = .ok (.bool a.isNone) w := fun w a n c n' c' => Lib.run_eql_slice_nil w _ _ a n c n' c' Try.underlying24
  go_enter Try.func55, Try.ntmps55
  go_wp2_with (at_builtin; refine wpList_append_lies _ rfl _ _ 24 rfl w.heap.size 31 iF (.float .f32 0) 1 4 Try.underlying24 hiF zF0 zF1 zF2 rfl (by decide) (.slice (some ⟨w.heap.size, 0, none⟩) 0 0) 0 [] rfl hown0 ⟨gA, oA, none⟩ n cap ((List.range n).map (fun j => fv (f j))) rfl (by simp) HN.out (by intro u hu; obtain ⟨j, _, rfl⟩ := List.mem_map.1 hu; rfl) hn (by unfold maxLen; omega) (by omega) (by simp) _ rfl ?_; intro g7 c7 w7 hown7 hgrow hat hlt)
  have hg7 : w.heap.size ≤ g7 := by
    rcases hat with h | h
    · simp [Value.ownBlock] at h; omega
    · simp at h; omega
  have HB := Lib.hid (b0.grown hgrow b0.size (fun k e => by simp [Value.ownBlock] at e; omega))
  rw [List.nil_append, Nat.zero_add] at hown7
  have HO := Lib.hid (own_of hown7 (V := fun j => fv (f j)) (fun j hj => by simp [hj]))
  clear hown7 hgrow hat hlt b0 HN hown0
  go_ret
  exact ⟨g7, c7, rfl, hg7, HO.out, HB.out⟩
set_option maxRecDepth 100000 in
set_option maxHeartbeats 1000000 in
theorem c_cloneI (f : Nat → Int) (A : Option Addr) (n cap : Nat) (w : World) (h : RowI w A n f) (hn : 0 < n) :
    Calls Try.prog 56 #[.slice A n cap] w fun e w' => ∃ g c, e = .returned (.slice (some ⟨g, 0, none⟩) n c) ∧ w.heap.size ≤ g ∧ OwnB w' g n 3 (fun j => iv (f j)) ∧ Below w.heap.size w w' := by
  obtain ⟨iI, hiI, zI0, zI1, zI2⟩ := info_parts Try.infoI
  obtain ⟨gA, oA, rfl, hc⟩ := h.1 hn
  have hnl := h.2.1
  have hown0 : (w.alloc (.cells #[] 3)).ownsRow w.heap.size 3 1 (.slice (some ⟨w.heap.size, 0, none⟩) 0 0) 0 [] := World.ownsRow_made w #[] 0 (Nat.le_refl _) (by simp [maxLen]) rfl
  have hnews : ∀ j u, ((List.range n).map (fun j => iv (f j)))[j]? = some u → (w.alloc (.cells #[] 3)).cell? ((⟨gA, oA, none⟩ : Addr).add j) = some u := fun j u hu => by
    have hj : j < n := by
      rcases Nat.lt_or_ge j n with h' | h'
      · exact h'
      · rw [List.getElem?_eq_none (by simpa using h')] at hu; cases hu
    have hadd : (⟨gA, oA, none⟩ : Addr).add j = ⟨gA, oA + j, none⟩ := by unfold Addr.add; split <;> simp_all
    have h1 := hc j hj
    rw [hadd, (World.cell?_alloc_lt w _ _ (World.block_lt_of_cell? w _ h1)).trans h1]
    simpa [hj] using hu
  have HN := Lib.hid hnews
  have b0 : Below w.heap.size w (w.alloc (.cells #[] 3)) := (Below.refl _ w).alloc (Nat.le_refl _) _
  clear hc hnews h
  have q24 : ∀ (w : World) (a : Option Addr) (n c n' c' : Nat), (binOp .eql 25 (.slice a n c) (.slice none n' c')).run Try.prog w = .ok (.bool a.isNone) w := fun w a n c n' c' => Lib.run_eql_slice_nil w _ _ a n c n' c' Try.underlying25
  go_enter Try.func56, Try.ntmps56
  go_wp2_with (at_builtin; refine wpList_append_lies _ rfl _ _ 25 rfl w.heap.size 3 iI (.int .i64 0) 1 8 Try.underlying25 hiI zI0 zI1 zI2 rfl (by decide) (.slice (some ⟨w.heap.size, 0, none⟩) 0 0) 0 [] rfl hown0 ⟨gA, oA, none⟩ n cap ((List.range n).map (fun j => iv (f j))) rfl (by simp) HN.out (by intro u hu; obtain ⟨j, _, rfl⟩ := List.mem_map.1 hu; rfl) hn (by unfold maxLen; omega) (by omega) (by simp) _ rfl ?_; intro g7 c7 w7 hown7 hgrow hat hlt)
  have hg7 : w.heap.size ≤ g7 := by
    rcases hat with h | h
    · simp [Value.ownBlock] at h; omega
    · simp at h; omega
  have HB := Lib.hid (b0.grown hgrow b0.size (fun k e => by simp [Value.ownBlock] at e; omega))
  rw [List.nil_append, Nat.zero_add] at hown7
  have HO := Lib.hid (own_of hown7 (V := fun j => iv (f j)) (fun j hj => by simp [hj]))
  clear hown7 hgrow hat hlt b0 HN hown0
  go_ret
  exact ⟨g7, c7, rfl, hg7, HO.out, HB.out⟩
/-- What a product is: the number, or no number where there is none. -/
def MulIs (x k r : Nat) : Prop := r < 4294967296 ∧ (floatBits .mul .f32 x k = some r ∨ (floatBits .mul .f32 x k = none ∧ ¬ S.isNum r))
theorem nan32 (x k t u : Nat) (hu : (Question.nanBits .f32 x k).cut t = u) : u < 4294967296 ∧ ¬ S.isNum u := by
  simp only [Question.cut, Nat.reducePow, Nat.reduceSub] at hu
  have hs : t % 2 = 0 ∨ t % 2 = 1 := by omega
  have hd : t / 2 % 8388607 < 8388607 := Nat.mod_lt _ (by omega)
  generalize t / 2 % 8388607 = d at *
  generalize t % 2 = sg at *
  have hf : ∃ z, (z = 0 ∨ z = 1) ∧ u = z * 2147483648 + (2139095040 + (1 + d)) := ⟨sg, hs, by omega⟩
  clear hu hs
  obtain ⟨z, hz, hu⟩ := hf
  have h1 : u < 4294967296 := by omega
  refine ⟨h1, fun hn => ?_⟩
  have h2 := S.expo_of_num h1 hn
  unfold S.expo at h2
  rcases hz with rfl | rfl <;> omega
theorem mul_any (x k : Nat) : (∃ r, MulIs x k r ∧ ∀ w, (binOp .mul 31 (.float .f32 x) (.float .f32 k)).run Try.prog w = .ok (.float .f32 r) w) ∨
    ∃ nb : World → Nat, (∀ w, MulIs x k (nb w)) ∧ ∀ w, (binOp .mul 31 (.float .f32 x) (.float .f32 k)).run Try.prog w = .ok (.float .f32 (nb w)) w.drew := by
  cases h : floatBits .mul .f32 x k with
  | some r => exact .inl ⟨r, ⟨FloatKind.f32.format.mul_lt h, .inl h⟩, fun w => run_float_arith (P := Try.prog) w .mul 31 .f32 _ _ _ h⟩
  | none =>
    refine .inr ⟨fun w => (Question.nanBits .f32 x k).cut (w.tape w.drawn (.nanBits .f32 x k)), fun w => ?_, fun w => ?_⟩
    · exact ⟨(nan32 x k _ _ rfl).1, .inr ⟨h, (nan32 x k _ _ rfl).2⟩⟩
    · unfold floatBits at h
      simp only at h
      simp [binOp, Op.floatArith, h, Question.forced]
set_option maxRecDepth 100000 in
set_option maxHeartbeats 2000000 in
theorem c_scaledRow (f : Nat → Nat) (A : Option Addr) (n cap k : Nat) (w : World) (h : RowF w A n f) (hn : 0 < n) :
    Calls Try.prog 57 #[.slice A n cap, .float .f32 k] w fun e w' => ∃ (g c : Nat) (f' : Nat → Nat), e = .returned (.slice (some ⟨g, 0, none⟩) n c) ∧ w.heap.size ≤ g ∧ OwnB w' g n 31 (fun j => fv (f' j)) ∧ (∀ j, j < n → MulIs (f j) k (f' j)) ∧ Below w.heap.size w w' := by
  have hnl := h.2.1
  go_enter Try.func57, Try.ntmps57
  go_wp2_with fail
  refine (c_cloneF f A n cap w h hn).mono ?_
  rintro e w1 ⟨g, c, rfl, hg, ⟨cs, hcs, hsz, hV⟩, b1⟩
  have H1 := Lib.hid (And.intro hcs (And.intro hV b1))
  clear h hcs hV b1
  go_wp2_with fail
  go_loopw [11] (fun a wr => ∃ (j : Nat) (cs' : Array Value) (f' : Nat → Nat), j ≤ n ∧ a = .int .i64 j ∧ wr.heap[g]? = some (.cells cs' 31 (0, 0)) ∧ cs'.size = cs.size ∧ (∀ i, i < n → cs'[i]? = some (fv (f' i))) ∧ (∀ i, i < j → MulIs (f i) k (f' i)) ∧ (∀ i, j ≤ i → f' i = f i) ∧ Below w.heap.size w wr) (fun a _ => n - (intOf a).toNat)
  case atStart => exact ⟨0, cs, f, Nat.zero_le _, rfl, H1.out.1, rfl, H1.out.2.1, fun i hi => by omega, fun _ _ => rfl, H1.out.2.2⟩
  case round =>
    clear H1
    obtain ⟨j, cs', f', hj, rfl, hcs, hsz', hV, hM, hR, hb⟩ := hrel
    by_cases hlt : j < n
    · have hlt1 : (j : Int) < (n : Int) := by omega
      have k0 : wr.cell? ⟨g, j, none⟩ = some (.float .f32 (f j)) := by
        rw [cell_of_row wr g j _ _ _ hcs, hV j hlt, hR j (Nat.le_refl _)]; rfl
      have H2 := Lib.hid (And.intro hcs (And.intro hV (And.intro hM (And.intro hR hb))))
      have step : ∀ (w2 : World) (r : Nat), w2.heap[g]? = wr.heap[g]? → Below w.heap.size w w2 → MulIs (f j) k r → ∃ (cs2 : Array Value) (f2 : Nat → Nat), (w2.setCell ⟨g, j, none⟩ (.float .f32 r)).heap[g]? = some (.cells cs2 31 (0, 0)) ∧ cs2.size = cs.size ∧ (∀ i, i < n → cs2[i]? = some (fv (f2 i))) ∧ (∀ i, i < j + 1 → MulIs (f i) k (f2 i)) ∧ (∀ i, j + 1 ≤ i → f2 i = f i) ∧ Below w.heap.size w (w2.setCell ⟨g, j, none⟩ (.float .f32 r)) := fun w2 r e b hm => by
        refine ⟨_, fun i => if i = j then r else f' i, heap_set_self (k := j) (e.trans hcs) (.float .f32 r), by simp [hsz'], fun i hi => ?_, fun i hi => ?_, fun i hi => ?_, b.setCell (by exact hg) _⟩
        · by_cases hij : i = j
          · subst hij; rw [Array.getElem?_setIfInBounds_self_of_lt (by omega)]; simp [fv]
          · rw [Array.getElem?_setIfInBounds_ne (fun e => hij e.symm), hV i hi]; simp [hij]
        · by_cases hij : i = j
          · subst hij; simpa using hm
          · simp only [hij, if_false]; exact hM i (by omega)
        · show (if i = j then r else f' i) = f i
          rw [if_neg (by omega)]; exact hR i (by omega)
      have HST := Lib.hid step
      clear hV hM hR hb step
      rcases mul_any (f j) k with ⟨r, hm, hrun⟩ | ⟨nb, hm, hrun⟩
      · have st5 := store_at (P := Try.prog) hcs hsz' (show j < cs.size by omega) (.float .f32 r) rfl
        have HN := Lib.hid (HST.out wr r rfl H2.out.2.2.2.2 hm)
        clear hcs hm HST H2
        generalize f j = xj at *
        go_wp2_with fail
        obtain ⟨cs2, f2, n1, n2, n3, n4, n5, n6⟩ := HN.out
        go_roundw
        case rel => exact ⟨j + 1, cs2, f2, by omega, by go_num, n1, n2, n3, n4, n5, n6⟩
        case measure => simp [intOf]; omega
      · have st5 := store_at (P := Try.prog) (w := wr.drew) hcs hsz' (show j < cs.size by omega) (.float .f32 (nb wr)) rfl
        have HN := Lib.hid (HST.out wr.drew (nb wr) rfl (below_drewN H2.out.2.2.2.2 1) (hm wr))
        clear hcs hm HST H2
        generalize f j = xj at *
        go_wp2_with fail
        obtain ⟨cs2, f2, n1, n2, n3, n4, n5, n6⟩ := HN.out
        go_roundw
        case rel => exact ⟨j + 1, cs2, f2, by omega, by go_num, n1, n2, n3, n4, n5, n6⟩
        case measure => simp [intOf]; omega
    · obtain rfl : j = n := by omega
      have hlt1 : ¬ (j : Int) < (j : Int) := by omega
      have HN := Lib.hid (And.intro (show OwnB wr g j 31 (fun i => fv (f' i)) from ⟨cs', hcs, by omega, hV⟩) (And.intro hM hb))
      clear hcs hV hM hR hb
      go_wp2
      go_ret
      exact ⟨g, ⟨c, rfl⟩, hg, f', HN.out⟩
end Go.Proofs.Ytdhdefhllleeiaa

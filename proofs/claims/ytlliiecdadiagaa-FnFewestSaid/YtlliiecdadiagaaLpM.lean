/- The laws' own lists of whole numbers; sails and moments written over. -/
import Derived.Test.YtlliiecdadiagaaLpK
import Derived.Test.YtlliiecdadiagaaInA
import Derived.WalkSpells
import Derived.Deep.OwnRows
import Derived.WalkLawsBesides
namespace Go.Proofs.Ytlliiecdadiagaa
open Go.RowKit
set_option linter.unusedVariables false
set_option linter.unusedSimpArgs false

theorem conv_dig11 {P : Program} {src dst e : TypeId} (hs : P.underlying src = some (.slice e)) (he : P.underlying e = some (.int .u8)) (hd : P.underlying dst = some .string) (w : World) (x : Int) :
    (convert src dst (.slice (some ⟨w.heap.size, 0, none⟩) 1 1)).run P (w.alloc (.cells #[.int .u8 x] e)) = .ok (.string (strOfNums [x])) (w.alloc (.cells #[.int .u8 x] e)) := by
  refine run_convert_bytes_arg (w.alloc (.cells #[.int .u8 x] e)) src e hs he w.heap.size 0 1 1 [x] rfl (fun i hi => ?_) dst hd
  obtain rfl : i = 0 := by omega
  have := cell_of_row (w.alloc (.cells #[.int .u8 x] e)) w.heap.size 0 #[.int .u8 x] e (0, 0) (heap_alloc_new w _)
  rw [Nat.zero_add, this]; rfl
theorem set_get11 {cs : Array Value} {k n : Nat} {V : Nat → Value} (hs : cs.size = n) (h : ∀ j, j < k → cs[j]? = some (V j)) (hk : k < n) : (cs.setIfInBounds k (V k)).size = n ∧ ∀ j, j < k + 1 → (cs.setIfInBounds k (V k))[j]? = some (V j) :=
  ⟨by simpa using hs, fun j hj => by
    by_cases e : j = k
    · subst e; rw [Array.getElem?_setIfInBounds_self_of_lt (by omega)]
    · rw [Array.getElem?_setIfInBounds_ne (fun h => e h.symm)]; exact h j (by omega)⟩
theorem pow_size {t k u : Nat} (h : u * 10 ^ t ≤ k) (hu : 0 < u) (hk : k ≤ 4398046511104) : t ≤ 12 := by
  rcases Nat.lt_or_ge t 13 with h' | h'
  · omega
  · have h1 : 10 ^ 13 ≤ 10 ^ t := Nat.pow_le_pow_right (by omega) h'
    have h2 : 1 * 10 ^ t ≤ u * 10 ^ t := Nat.mul_le_mul_right _ hu
    have h3 : (10 : Nat) ^ 13 = 10000000000000 := by decide
    omega
theorem pow_next {t k u : Nat} (h : u * 10 ^ t ≤ k) : u / 10 * 10 ^ (t + 1) ≤ k := by
  have h1 : u / 10 * 10 ^ (t + 1) = (u / 10 * 10) * 10 ^ t := by rw [Nat.pow_succ, Nat.mul_comm (10 ^ t) 10, Nat.mul_assoc]
  rw [h1]
  exact Nat.le_trans (Nat.mul_le_mul_right _ (Nat.div_mul_le_self u 10)) h
set_option maxRecDepth 100000 in
set_option maxHeartbeats 1000000 in
theorem l_mkT (k : Nat) (w : World) (hk : k ≤ 4398046511104) :
    Calls Try.prog 72 #[.int .i64 k] w fun e w' => (∃ t, e = .returned (.string t)) ∧ Below w.heap.size w w' := by
  by_cases h0 : k = 0
  · subst h0
    go_enter Try.func72, Try.ntmps72
    go_wp2
    go_ret
    exact ⟨⟨_, rfl⟩, Below.refl _ _⟩
  · have hpos : 0 < (k : Int) := by omega
    go_enter Try.func72, Try.ntmps72
    go_wp2
    clear hpos
    go_loopw [0, 3] (fun q s wr => ∃ (u : Nat) (t : ByteArray), u ≤ k ∧ q = .int .i64 u ∧ s = .string t ∧ u * 10 ^ t.size ≤ k ∧ t.size ≤ 13 ∧ Below w.heap.size w wr)
      (fun q _ _ => (intOf q).toNat)
    case atStart => exact ⟨k, ⟨#[]⟩, Nat.le_refl _, rfl, rfl, (show k * 10 ^ 0 ≤ k by omega), Nat.zero_le _, Below.refl _ _⟩
    case round =>
      obtain ⟨u, t, huN, rfl, rfl, he, hts, hbel⟩ := hrel
      by_cases hu : u = 0
      · subst hu
        clear he
        go_wp2
        go_ret
        exact ⟨⟨_, rfl⟩, hbel⟩
      · have hcv := fun x => conv_dig11 Try.underlying22 Try.underlying5 Try.underlying9 wr x
        have hs1 := fun x : Int => strOfNums_size [x]
        have HE := Lib.hid (And.intro (pow_size he (by omega) hk) (pow_next he))
        have hu1 : (0 : Int) < (u : Int) := by omega
        have hb0 : (0 : Int) ≤ (u : Int) % 10 := by omega
        have hb1 : (u : Int) % 10 < 10 := by omega
        clear he
        go_wp2
        have hz : (strOfNums [48 + (u : Int) % 10] ++ t).size = t.size + 1 := by rw [ByteArray.size_append, hs1]; simp; omega
        go_roundw
        case rel => exact ⟨u / 10, strOfNums [48 + (u : Int) % 10] ++ t, by omega, by go_num, rfl, by rw [hz]; exact HE.out.2, by rw [hz]; have := HE.out.1; omega, hbel.alloc hbel.size _⟩
        case measure => simp [intOf]; omega
set_option maxRecDepth 100000 in
set_option maxHeartbeats 1000000 in
theorem l_toI11 (f : Nat → Int) (A : Option Addr) (g o n cap : Nat) (w : World) (hn : n ≤ 1048576) (hA : 0 < n → A = some ⟨g, o, none⟩) (hw : PlIn w g o n f) :
    Calls Try.prog 50 #[.slice A n cap] w fun e w' => e = .returned (.slice (some ⟨w.heap.size, 0, none⟩) n n) ∧ PlIn w' w.heap.size 0 n f ∧ Below w.heap.size w w' := by
  have HR := Lib.hid hw
  clear hw
  have hmk := run_make_row' (P := Try.prog) 26 3 (.int .i64 0) 8 Try.underlying26 Try.infoInt11 rfl .i64 .i64 n (by omega) (by omega)
  go_enter Try.func50, Try.ntmps50
  go_wp2
  clear hmk
  go_loopw [4] (fun i wr => ∃ (k : Nat) (cs : Array Value), k ≤ n ∧ i = .int .i64 k ∧ wr.heap[w.heap.size]? = some (.cells cs 3 (0, 0)) ∧ cs.size = n ∧ (∀ j, j < k → cs[j]? = some (.int .i64 (f j))) ∧ Below w.heap.size w wr) (fun i _ => n - (intOf i).toNat)
  case atStart => exact ⟨0, _, Nat.zero_le _, rfl, heap_alloc_new w _, (by simp [madeCells]), fun j h => by omega, (Below.refl _ w).alloc (Nat.le_refl _) _⟩
  case round =>
    obtain ⟨k, cs, hk, rfl, hb, hcs, hall, hbel⟩ := hrel
    by_cases hlt : k < n
    · obtain rfl := hA (by omega)
      have ck := HR.out.below hbel (Nat.le_refl _) k hlt
      obtain ⟨old, hco, hfo⟩ := cell_at hb hcs hlt
      obtain ⟨s1, s2⟩ := set_get11 (V := fun j => .int .i64 (f j)) hcs hall hlt
      have HN := Lib.hid (And.intro (heap_set_self (k := k) hb (.int .i64 (f k))) (And.intro s1 (And.intro s2 (hbel.setCell (p := ⟨w.heap.size, k, none⟩) (Nat.le_refl _) (.int .i64 (f k))))))
      have hk1 : (k : Int) < (n : Int) := by omega
      clear hb hcs hall hbel s1 s2
      go_wp2
      go_roundw
      case rel => exact ⟨k + 1, _, by omega, by go_num, HN.out⟩
      case measure => simp [intOf]; omega
    · obtain rfl : k = n := by omega
      have hk1 : ¬ ((k : Int) < (k : Int)) := by omega
      have HN := Lib.hid (show PlIn wr w.heap.size 0 k f from fun j hj => by rw [Nat.zero_add]; exact (cell_of_row wr w.heap.size j _ _ _ hb).trans (hall j hj))
      clear hb hcs hall
      go_wp2
      go_ret
      exact ⟨rfl, HN.out, hbel⟩
/-- Two lists of whole numbers that are alike. -/
def TwoP (w : World) (g o g' o' n : Nat) (f : Nat → Int) (wr : World) : Prop := PlIn wr g o n f ∧ PlIn wr g' o' n f ∧ Below w.heap.size w wr
set_option maxRecDepth 100000 in
set_option maxHeartbeats 2000000 in
theorem l_eqP11 (f : Nat → Int) (A A' : Option Addr) (g o g' o' n cap cap' : Nat) (w : World) (hn : n ≤ 1048576) (hA : 0 < n → A = some ⟨g, o, none⟩) (hA' : 0 < n → A' = some ⟨g', o', none⟩) (hw : PlIn w g o n f) (hw' : PlIn w g' o' n f) :
    Calls Try.prog 43 #[.slice A n cap, .slice A' n cap'] w fun e w' => e = .returned (.bool true) ∧ Below w.heap.size w w' := by
  have HW := Lib.hid (show TwoP w g o g' o' n f w from ⟨hw, hw', Below.refl _ _⟩)
  clear hw hw'
  have nn : ((n : Int) == (n : Int)) = true := by simp
  go_enter Try.func43, Try.ntmps43
  go_wp2
  go_loopw [5] (fun i wr => ∃ k : Nat, k ≤ n ∧ i = .int .i64 k ∧ TwoP w g o g' o' n f wr) (fun i _ => n - (intOf i).toNat)
  case atStart => exact ⟨0, Nat.zero_le _, rfl, HW.out⟩
  case round =>
    clear HW
    obtain ⟨k, hk, rfl, hst⟩ := hrel
    by_cases hlt : k < n
    · obtain rfl := hA (by omega)
      obtain rfl := hA' (by omega)
      have d1 := hst.1 k hlt
      have d2 := hst.2.1 k hlt
      have HD := Lib.hid hst
      have hk1 : (k : Int) < (n : Int) := by omega
      generalize f k = x at *
      clear hst
      go_wp2
      go_quiet (fail)
      have HE := Lib.hid (show TwoP w g o g' o' n f (wr.drewN nq) from ⟨HD.out.1, HD.out.2.1, below_drewN HD.out.2.2 nq⟩)
      clear HD
      go_wp2
      go_roundw
      case rel => exact ⟨k + 1, by omega, by go_num, HE.out⟩
      case measure => simp [intOf]; omega
    · obtain rfl : k = n := by omega
      have hk1 : ¬ (k : Int) < (k : Int) := by omega
      go_wp2
      go_ret
      exact ⟨rfl, hst.2.2⟩
end Go.Proofs.Ytlliiecdadiagaa

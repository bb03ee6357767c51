/- The walks of the search and of Steer (impl). -/
import Derived.Test.YtlenmnffnbldbaaGvD
namespace Go.Proofs.Ytlenmnffnbldbaa
open Go.RowKit Ieee
set_option linter.unusedVariables false
set_option linter.unusedSimpArgs false

theorem bsF_none_step {p : Nat → Bool} {x : Nat → Nat} {n : Nat} (h : bsF p x n = none) : bsF p x (n + 1) = if p n then some n else none := by
  show (match bsF p x n with
    | none => if p n then some n else none
    | some b => if p n && decide (x n < x b) then some n else some b) = _
  rw [h]
theorem bsF_some_step {p : Nat → Bool} {x : Nat → Nat} {n b : Nat} (h : bsF p x n = some b) : bsF p x (n + 1) = if p n && decide (x n < x b) then some n else some b := by
  show (match bsF p x n with
    | none => if p n then some n else none
    | some b => if p n && decide (x n < x b) then some n else some b) = _
  rw [h]
/-- What the program keeps of the search. -/
def Keep (s u v j : Nat) (o : Option Nat) (a b c : Value) : Prop :=
  (o = none ∧ a = .int .i64 0 ∧ b = .float .f64 0 ∧ c = .bool false) ∨ (∃ m, o = some m ∧ a = .int .i64 m ∧ b = .float .f64 (ofW s u v j m % 9223372036854775808) ∧ c = .bool true)
theorem off_order {s u v j m k : Nat} (hs : okBs s) (hv : okV u v) (hj : j < 360) (hm : m < 360) (hk : k < 360) :
    (FloatKind.f64.format.order (ofW s u v j k % 9223372036854775808) (ofW s u v j m % 9223372036854775808) == some .lt) = decide (offX s u v j k < offX s u v j m) := by
  have D := dc_grd hs hj hk hv
  have E := dc_grd hs hj hm hv
  obtain ⟨a1, a2⟩ := abs_num D.cl D.cn
  obtain ⟨b1, b2⟩ := abs_num E.cl E.cn
  have o := order_val a1 b1
  rw [a2, b2] at o
  have o' : FloatKind.f64.format.order (ofW s u v j k % 9223372036854775808) (ofW s u v j m % 9223372036854775808) = some (compare (((fval (ofW s u v j k)).natAbs : Nat) : Int) (((fval (ofW s u v j m)).natAbs : Nat) : Int)) := o
  rw [o']
  unfold offX
  generalize (fval (ofW s u v j k)).natAbs = x
  generalize (fval (ofW s u v j m)).natAbs = y
  rcases Nat.lt_trichotomy x y with h | h | h
  · rw [Int.compare_eq_lt.2 (by omega), decide_eq_true h]; rfl
  · rw [Int.compare_eq_eq.2 (by omega), decide_eq_false (by omega)]; rfl
  · rw [Int.compare_eq_gt.2 (by omega), decide_eq_false (by omega)]; rfl
/-- The headings that are told: the number and whether there is one. -/
def stN (s u v j : Nat) : Int := ((stW s u v j).getD 0 : Nat)
def stB (s u v j : Nat) : Bool := (stW s u v j).isSome

set_option maxRecDepth 100000 in
set_option maxHeartbeats 4000000 in
theorem i_best (bt bs bu ba s u v j : Nat) (w : World) (hj : j < 360) (hs : okBs s) (hv : okV u v) (hB : StB w bt bs bu ba s u v j) :
    Calls Try.prog 46 #[.agg #[.func (Fn.func 40) #[] #[.pointer (some ⟨bt, 0, none⟩), .pointer (some ⟨bs, 0, none⟩), .pointer (some ⟨bu, 0, none⟩), .pointer (some ⟨ba, 0, none⟩)]]] w fun e w' => e = .returned (.tuple #[.int .i64 (stN s u v j), .bool (stB s u v j)]) ∧ Below w.heap.size w w' := by
  have hbox := heap_alloc_new w (.cells #[.func (Fn.func 40) #[] #[.pointer (some ⟨bt, 0, none⟩), .pointer (some ⟨bs, 0, none⟩), .pointer (some ⟨bu, 0, none⟩), .pointer (some ⟨ba, 0, none⟩)]] 65)
  have kbox := cell_of_row _ _ 0 _ _ _ hbox
  have hbel : Below w.heap.size w (w.alloc (.cells #[.func (Fn.func 40) #[] #[.pointer (some ⟨bt, 0, none⟩), .pointer (some ⟨bs, 0, none⟩), .pointer (some ⟨bu, 0, none⟩), .pointer (some ⟨ba, 0, none⟩)]] 65)) := (Below.refl _ _).alloc (Nat.le_refl _) _
  have lt : ∀ g k v, w.cell? ⟨g, k, none⟩ = some v → g < w.heap.size := fun g k v h => World.block_lt_of_cell? w _ h
  have hB2 : StB (w.alloc (.cells #[.func (Fn.func 40) #[] #[.pointer (some ⟨bt, 0, none⟩), .pointer (some ⟨bs, 0, none⟩), .pointer (some ⟨bu, 0, none⟩), .pointer (some ⟨ba, 0, none⟩)]] 65)) bt bs bu ba s u v j :=
    ⟨fun k hk => (hbel.cell (lt _ _ _ (hB.t k hk))).trans (hB.t k hk), (hbel.cell (lt _ _ _ hB.s)).trans hB.s, (hbel.cell (lt _ _ _ hB.u)).trans hB.u, (hbel.cell (lt _ _ _ hB.a)).trans hB.a⟩
  have HB := Lib.hid (And.intro hB2 hbel)
  clear hbox hB lt hbel hB2
  go_enter Try.func46, Try.ntmps46
  go_wp2_with fail
  generalize hwa : w.alloc (.cells #[.func (Fn.func 40) #[] #[.pointer (some ⟨bt, 0, none⟩), .pointer (some ⟨bs, 0, none⟩), .pointer (some ⟨bu, 0, none⟩), .pointer (some ⟨ba, 0, none⟩)]] 65) = wa at *
  clear hwa
  go_loopw [4, 5, 6, 10] (fun a b c i wr => ∃ k : Nat, k ≤ 360 ∧ i = .int .i64 k ∧ Keep s u v j (bsF (mayP s u v j) (offX s u v j) k) a b c ∧ Drw wa wr) (fun _ _ _ i _ => 360 - (intOf i).toNat)
  case atStart => exact ⟨0, by omega, rfl, .inl ⟨rfl, rfl, rfl, rfl⟩, 0, rfl⟩
  case round =>
    obtain ⟨k, hk, rfl, hkeep, n, rfl⟩ := hrel
    by_cases hlt : k < 360
    · have k1 : (k : Int) < 360 := by omega
      have k0 : (0 : Int) ≤ (k : Int) := by omega
      have kb2 : (wa.drewN n).cell? ⟨w.heap.size, 0, none⟩ = some (.func (Fn.func 40) #[] #[.pointer (some ⟨bt, 0, none⟩), .pointer (some ⟨bs, 0, none⟩), .pointer (some ⟨bu, 0, none⟩), .pointer (some ⟨ba, 0, none⟩)]) := kbox
      have HM := Lib.hid (i_meas k bt bs bu ba s u v j (wa.drewN n) hlt hj hs hv (HB.out.1.drewN n))
      rcases hkeep with ⟨ho, rfl, rfl, rfl⟩ | ⟨m, ho, rfl, rfl, rfl⟩
      · have hst := bsF_none_step ho
        cases hp : mayP s u v j k
        · rw [hp, if_neg (by decide)] at hst
          have HS := Lib.hid hst
          clear hst ho
          go_wp2_with fail
          refine HM.out.mono ?_
          rintro e w2 ⟨rfl, hd⟩
          rw [hp]
          have HD := Lib.hid (Drw.trans ⟨n, rfl⟩ hd)
          clear hd HM
          go_wp2
          go_roundw
          case rel => exact ⟨k + 1, by omega, by go_num, .inl ⟨HS.out, rfl, rfl, rfl⟩, HD.out⟩
          case measure => simp [intOf]; omega
        · rw [hp, if_pos rfl] at hst
          have HS := Lib.hid hst
          clear hst ho
          go_wp2_with fail
          refine HM.out.mono ?_
          rintro e w2 ⟨rfl, hd⟩
          rw [hp]
          have HD := Lib.hid (Drw.trans ⟨n, rfl⟩ hd)
          clear hd HM
          go_wp2
          go_roundw
          case rel => exact ⟨k + 1, by omega, by go_num, .inr ⟨k, HS.out, rfl, rfl, rfl⟩, HD.out⟩
          case measure => simp [intOf]; omega
      · have hst := bsF_some_step ho
        have hm : m < 360 := by have := (bsF_some ho).1; omega
        have hor := off_order hs hv hj hm hlt
        cases hp : mayP s u v j k
        · rw [hp, Bool.false_and, if_neg (by decide)] at hst
          have HS := Lib.hid hst
          clear hst ho hor
          go_wp2_with fail
          refine HM.out.mono ?_
          rintro e w2 ⟨rfl, hd⟩
          rw [hp]
          have HD := Lib.hid (Drw.trans ⟨n, rfl⟩ hd)
          clear hd HM
          go_wp2
          go_roundw
          case rel => exact ⟨k + 1, by omega, by go_num, .inr ⟨m, HS.out, rfl, rfl, rfl⟩, HD.out⟩
          case measure => simp [intOf]; omega
        · rw [hp, Bool.true_and] at hst
          by_cases hc : offX s u v j k < offX s u v j m
          · rw [decide_eq_true hc] at hor hst
            rw [if_pos rfl] at hst
            have HS := Lib.hid hst
            clear hst ho
            go_wp2_with fail
            refine HM.out.mono ?_
            rintro e w2 ⟨rfl, hd⟩
            rw [hp]
            have HD := Lib.hid (Drw.trans ⟨n, rfl⟩ hd)
            clear hd HM
            generalize hfk : ofW s u v j k % 9223372036854775808 = fk at *
            generalize ofW s u v j m % 9223372036854775808 = fm at *
            have HF := Lib.hid hfk
            clear hfk
            go_wp2
            go_roundw
            case rel => exact ⟨k + 1, by omega, by go_num, .inr ⟨k, HS.out, rfl, by rw [HF.out], rfl⟩, HD.out⟩
            case measure => simp [intOf]; omega
          · rw [decide_eq_false hc] at hor hst
            rw [if_neg (by decide)] at hst
            have HS := Lib.hid hst
            clear hst ho
            go_wp2_with fail
            refine HM.out.mono ?_
            rintro e w2 ⟨rfl, hd⟩
            rw [hp]
            have HD := Lib.hid (Drw.trans ⟨n, rfl⟩ hd)
            clear hd HM
            generalize ofW s u v j k % 9223372036854775808 = fk at *
            generalize hfm : ofW s u v j m % 9223372036854775808 = fm at *
            have HF := Lib.hid hfm
            clear hfm
            go_wp2
            go_roundw
            case rel => exact ⟨k + 1, by omega, by go_num, .inr ⟨m, HS.out, rfl, by rw [HF.out], rfl⟩, HD.out⟩
            case measure => simp [intOf]; omega
    · obtain rfl : k = 360 := by omega
      have hbe : Below w.heap.size w (wa.drewN n) := ⟨HB.out.2.os, HB.out.2.tape, HB.out.2.output, HB.out.2.size, HB.out.2.block⟩
      rcases hkeep with ⟨ho, rfl, rfl, rfl⟩ | ⟨m, ho, rfl, rfl, rfl⟩
      · have e1 : stN s u v j = 0 := by unfold stN stW; rw [ho]; rfl
        have e2 : stB s u v j = false := by unfold stB stW; rw [ho]; rfl
        go_wp2
        go_ret2
        exact ⟨by rw [e1, e2]; rfl, hbe⟩
      · have e1 : stN s u v j = (m : Int) := by unfold stN stW; rw [ho]; rfl
        have e2 : stB s u v j = true := by unfold stB stW; rw [ho]; rfl
        go_wp2
        go_ret2
        exact ⟨by rw [e1, e2]; rfl, hbe⟩

end Go.Proofs.Ytlenmnffnbldbaa

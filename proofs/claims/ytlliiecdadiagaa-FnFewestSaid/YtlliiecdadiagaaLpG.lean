/- The plan with the fewest changes (spec): FewestChanges. -/
import Derived.Test.YtlliiecdadiagaaLpF
import Derived.Deep.LoopGhost
namespace Go.Proofs.Ytlliiecdadiagaa
open Go.RowKit
set_option linter.unusedVariables false
set_option linter.unusedSimpArgs false

/-- How many moments, of so many from one on, a sail fits. -/
def lenF (f : Nat → Sl) (ms : Nat → Mm) (k : Nat) : Nat → Nat → Nat
  | 0, _ => 0
  | r + 1, p => if wideB (f k) (ms p) = true then lenF f ms k r (p + 1) + 1 else 0
theorem lenF_le (f : Nat → Sl) (ms : Nat → Mm) (k : Nat) : ∀ r p, lenF f ms k r p ≤ r
  | 0, p => Nat.le_refl _
  | r + 1, p => by
    have := lenF_le f ms k r (p + 1)
    unfold lenF
    split <;> omega
/-- The first sail of so many whose run is longest, and how long it is. -/
def bs2 (f : Nat → Sl) (ms : Nat → Mm) (nm p : Nat) : Nat → Int × Nat
  | 0 => (-1, 0)
  | k + 1 => if (bs2 f ms nm p k).2 < lenF f ms k (nm - p) p then ((k : Int), lenF f ms k (nm - p) p) else bs2 f ms nm p k
theorem bs2_ok (f : Nat → Sl) (ms : Nat → Mm) (nm p : Nat) : ∀ k, ((bs2 f ms nm p k).1 = -1 ∧ (bs2 f ms nm p k).2 = 0) ∨ ((0 ≤ (bs2 f ms nm p k).1 ∧ (bs2 f ms nm p k).1 < (k : Int)) ∧ 0 < (bs2 f ms nm p k).2 ∧ (bs2 f ms nm p k).2 ≤ nm - p)
  | 0 => .inl ⟨rfl, rfl⟩
  | k + 1 => by
    have ih := bs2_ok f ms nm p k
    have hl := lenF_le f ms k (nm - p) p
    unfold bs2
    split
    · right; refine ⟨⟨?_, ?_⟩, ?_, hl⟩ <;> dsimp only <;> omega
    · rcases ih with h | ⟨h1, h2⟩
      · exact .inl h
      · right; exact ⟨by omega, h2⟩
/-- The plan from a moment on (none: some moment has no sail). -/
def fwF (n : Nat) (f : Nat → Sl) (nm : Nat) (ms : Nat → Mm) : Nat → Nat → Option (List Int)
  | 0, _ => some []
  | r + 1, p => if p < nm then (if (bs2 f ms nm p n).1 < 0 then none else (fwF n f nm ms r (p + (bs2 f ms nm p n).2)).map (List.replicate (bs2 f ms nm p n).2 (bs2 f ms nm p n).1 ++ ·)) else some []
noncomputable def fwW (n : Nat) (f : Nat → Sl) (nm : Nat) (ms : Nat → Mm) : Option (List Int) := if soB n f = true ∧ nm ≤ 60 then fwF n f nm ms nm 0 else none
theorem fwF_end {n : Nat} {f : Nat → Sl} {nm : Nat} {ms : Nat → Mm} (r : Nat) {p : Nat} (h : nm ≤ p) : fwF n f nm ms r p = some [] := by
  cases r with
  | zero => rfl
  | succ r => unfold fwF; rw [if_neg (by omega)]
/-- What FewestChanges tells. -/
def FwE (t : TypeId) (w : World) (l : List Int) (b : Bool) (e : Ending) (w' : World) : Prop := ∃ v, e = .returned (.tuple #[v, .bool b]) ∧ w'.ownsRow w.heap.size t 1 v l.length (l.map (Value.int .i64)) ∧ Below w.heap.size w w'
/-- Sails and moments, and a list of the call's own. -/
def FwS (w : World) (g o n : Nat) (f : Nat → Sl) (tg tO nm : Nat) (ms : Nat → Mm) (t : TypeId) (v : Value) (xs : List Int) (wr : World) : Prop := SmS w g o n f tg tO nm ms wr ∧ wr.ownsRow w.heap.size t 1 v xs.length (xs.map (Value.int .i64))
theorem FwS.step {w w1 w2 : World} {g o n : Nat} {f : Nat → Sl} {tg tO nm : Nat} {ms : Nat → Mm} {t : TypeId} {v : Value} {xs : List Int} (h : FwS w g o n f tg tO nm ms t v xs w1) (b : Below w1.heap.size w1 w2) : FwS w g o n f tg tO nm ms t v xs w2 := ⟨h.1.step b, h.2.kept (gr_of_bel b none) (own_none_ne _)⟩
theorem FwS.drew {w w1 : World} {g o n : Nat} {f : Nat → Sl} {tg tO nm : Nat} {ms : Nat → Mm} {t : TypeId} {v : Value} {xs : List Int} (h : FwS w g o n f tg tO nm ms t v xs w1) : FwS w g o n f tg tO nm ms t v xs w1.drew := ⟨h.1.drew, h.2⟩
theorem own_len {w : World} {B t : Nat} {v : Value} {xs : List Int} (h : w.ownsRow B t 1 v xs.length (xs.map (Value.int .i64))) : ∃ A cap, v = .slice A xs.length cap ∧ xs.length ≤ maxLen :=
  OwnC.value (p := fun _ _ => True) ⟨_, fun _ _ _ => trivial, h⟩
set_option maxRecDepth 100000 in
set_option maxHeartbeats 2000000 in
theorem s_few (f : Nat → Sl) (ms : Nat → Mm) (A : Option Addr) (g o n cap : Nat) (TA : Option Addr) (tg tO nm tcap : Nat) (w : World) (hn : n ≤ 1048576) (hA : 0 < n → A = some ⟨g, o, none⟩) (hw : SlsIn w g o n f) (hf : ∀ j, j < n → SlWf (f j))
    (hm : nm ≤ 1048576) (hT : 0 < nm → TA = some ⟨tg, tO, none⟩) (hv : MmsIn w tg tO nm ms) (hmf : ∀ j, j < nm → MmWf (ms j)) :
    Calls Try.prog 18 #[.slice A n cap, .slice TA nm tcap] w (FwE 3 w ((fwW n f nm ms).getD []) (fwW n f nm ms).isSome) := by
  obtain ⟨i0, hi, hz0, hz1, hz2⟩ := info_parts Try.infoInt11
  have HO := Lib.hid (fun w (h : SlsIn w g o n f) => s_so f A g o n cap w hn hA h hf)
  have HG := Lib.hid (And.intro (fun h : 0 < n => hw.lt h) (fun h : 0 < nm => hv.lt h))
  have HX := Lib.hid (fun (k : Nat) (hk : k < n) (i : Nat) (hi : i < nm) w => s_wide (f k) (ms i) w (hf k hk) (hmf i hi))
  have hs := Lib.hid (show SmS w g o n f tg tO nm ms w from ⟨hw, hv, Below.refl _ _⟩)
  clear hw hv hf hmf
  cases hso : soB n f
  · rw [show fwW n f nm ms = none by unfold fwW; rw [hso]; rfl]
    rw [hso] at HO
    clear hso HX
    go_enter Try.func18, Try.ntmps18
    go_wp2_with fail
    refine (HO.out _ hs.out.1).mono ?_
    rintro e w1 ⟨rfl, b⟩
    have hs1 := Lib.hid (hs.out.step b)
    clear hs b
    have hsA := Lib.hid (hs1.out.step ((Below.refl _ w1).alloc (Nat.le_refl _) (.cells #[] 3)))
    have hoA := Lib.hid (own_empty hs1.out.2.2.size (heap_alloc_new w1 (.cells #[] 3)))
    go_wp2
    go_ret2
    exact ⟨_, rfl, hoA.out, hsA.out.2.2⟩
  rw [hso] at HO
  by_cases h60 : 60 < nm
  · rw [show fwW n f nm ms = none by unfold fwW; rw [if_neg (fun h => by have := h.2; omega)]]
    have k1 : (60 : Int) < (nm : Int) := by omega
    have k2 : decide ((nm : Int) > 60) = true := decide_eq_true k1
    clear hso HX
    go_enter Try.func18, Try.ntmps18
    go_wp2_with fail
    refine (HO.out _ hs.out.1).mono ?_
    rintro e w1 ⟨rfl, b⟩
    have hs1 := Lib.hid (hs.out.step b)
    clear hs b
    have hsA := Lib.hid (hs1.out.step ((Below.refl _ w1).alloc (Nat.le_refl _) (.cells #[] 3)))
    have hoA := Lib.hid (own_empty hs1.out.2.2.size (heap_alloc_new w1 (.cells #[] 3)))
    go_wp2
    go_ret2
    exact ⟨_, rfl, hoA.out, hsA.out.2.2⟩
  have k1 : ¬ (60 : Int) < (nm : Int) := by omega
  have k2 : decide ((nm : Int) > 60) = false := decide_eq_false k1
  obtain ⟨R, hR⟩ : ∃ R, fwW n f nm ms = R := ⟨_, rfl⟩
  have HR0 := Lib.hid (show (fwF n f nm ms nm 0).map (([] : List Int) ++ ·) = R by rw [← hR]; unfold fwW; rw [if_pos ⟨hso, by omega⟩]; cases fwF n f nm ms nm 0 <;> rfl)
  rw [hR]
  have hm60 : nm ≤ 60 := by omega
  clear hso hR h60
  go_enter Try.func18, Try.ntmps18
  go_wp2_with fail
  refine (HO.out _ hs.out.1).mono ?_
  rintro e w1 ⟨rfl, b⟩
  have hs1 := Lib.hid (hs.out.step b)
  clear hs b
  have hs2 := Lib.hid (hs1.out.step ((Below.refl _ w1).alloc (Nat.le_refl _) (.cells #[] 3)))
  have ho2 := Lib.hid (own_empty hs1.out.2.2.size (heap_alloc_new w1 (.cells #[] 3)))
  clear hs1 HO
  go_wp2_with fail
  clear k1 k2
  go_loopg [6] nm (fun gk v wr => ∃ (r : Nat) (xs : List Int), gk = r ∧ nm ≤ xs.length + r ∧ xs.length ≤ nm ∧ (fwF n f nm ms r xs.length).map (xs ++ ·) = R ∧ FwS w g o n f tg tO nm ms 3 v xs wr)
  case atStart => exact ⟨nm, [], rfl, by simp, by simp, HR0.out, hs2.out, ho2.out⟩
  case round =>
    obtain ⟨r, xs, rfl, hr1, hr2, hRR, hst⟩ := hrel
    have HR := Lib.hid hRR
    clear hRR HR0 hs2 ho2
    obtain ⟨VA, vc, rfl, lm⟩ := own_len hst.2
    have lm2 : xs.length ≤ 60 := by omega
    clear lm
    by_cases hlt : xs.length < nm
    · obtain ⟨r, rfl⟩ : ∃ r', gk = r' + 1 := ⟨gk - 1, by omega⟩
      have z1 : (xs.length : Int) < (nm : Int) := by omega
      have HST := Lib.hid hst
      clear hst
      go_wp2_with fail
      clear z1
      go_loopw [7, 8, 9, 10] (fun b m k _ wr => ∃ kk : Nat, kk ≤ n ∧ k = .int .i64 kk ∧ b = .int .i64 (bs2 f ms nm xs.length kk).1 ∧ m = .int .i64 ((bs2 f ms nm xs.length kk).2 : Nat) ∧ FwS w g o n f tg tO nm ms 3 (.slice VA xs.length vc) xs wr) (fun _ _ k _ _ => n - (intOf k).toNat)
      case atStart => exact ⟨0, Nat.zero_le _, rfl, rfl, rfl, HST.out⟩
      case round =>
        obtain ⟨kk, hkk, rfl, rfl, rfl, hst⟩ := hrel
        clear HST
        by_cases hk : kk < n
        · obtain rfl := hA (by omega)
          obtain rfl := hT (by omega)
          have y1 : (kk : Int) < (n : Int) := by omega
          have y0 : (0 : Int) ≤ (kk : Int) := by omega
          obtain ⟨N, hN⟩ : ∃ N, lenF f ms kk (nm - xs.length) xs.length = N := ⟨_, rfl⟩
          obtain ⟨B, hB⟩ : ∃ B, bs2 f ms nm xs.length kk = B := ⟨_, rfl⟩
          have HB2 := Lib.hid (show bs2 f ms nm xs.length (kk + 1) = if B.2 < N then ((kk : Int), N) else B by rw [← hB, ← hN]; rfl)
          have HN := Lib.hid hN
          have hN9 : N ≤ 60 := by have := lenF_le f ms kk (nm - xs.length) xs.length; omega
          have hb := bs2_ok f ms nm xs.length kk
          rw [hB] at hb ⊢
          have hB9 : B.2 ≤ 60 := by omega
          clear hN hB hb
          have HST := Lib.hid hst
          clear hst
          go_wp2_with fail
          go_loopw [10] (fun z wr => ∃ j : Nat, xs.length + j ≤ nm ∧ z = .int .i64 j ∧ lenF f ms kk (nm - (xs.length + j)) (xs.length + j) + j = N ∧ FwS w g o n f tg tO nm ms 3 (.slice VA xs.length vc) xs wr) (fun z _ => nm - (intOf z).toNat)
          case atStart => exact ⟨0, by omega, rfl, HN.out, HST.out⟩
          case round =>
            obtain ⟨j, hj, rfl, hjN, hst⟩ := hrel
            have HJ := Lib.hid hjN
            clear hjN HST HN
            have x6 : IntKind.i64.wrap ((xs.length : Int) + (j : Int)) = (xs.length : Int) + (j : Int) := IntWalk.i64_in _ (by omega)
            by_cases hl : xs.length + j < nm
            · have x1 : (xs.length : Int) + (j : Int) < (nm : Int) := by omega
              have x0 : (0 : Int) ≤ (xs.length : Int) + (j : Int) := by omega
              have x2 : ((xs.length : Int) + (j : Int)).toNat = xs.length + j := by omega
              obtain ⟨s, hs1⟩ : ∃ s, f kk = s := ⟨_, rfl⟩
              obtain ⟨⟨m1, m2⟩, hmk⟩ : ∃ m, ms (xs.length + j) = m := ⟨_, rfl⟩
              have HS := Lib.hid (And.intro hs1 hmk)
              have HC := Lib.hid (fun w => HX.out kk hk (xs.length + j) hl w)
              have e0 : lenF f ms kk (nm - (xs.length + j)) (xs.length + j) = if wideB (f kk) (ms (xs.length + j)) = true then lenF f ms kk (nm - (xs.length + (j + 1))) (xs.length + (j + 1)) + 1 else 0 := by
                rw [show nm - (xs.length + j) = (nm - (xs.length + (j + 1))) + 1 by omega]; rfl
              rw [hs1, hmk] at HC e0
              clear hs1 hmk
              dsimp only at HC
              generalize wideB s (m1, m2) = t at *
              have E0 := Lib.hid e0
              clear e0
              have rs0 := fun x : Held (fun wx => FwS w g o n f tg tO nm ms 3 (.slice VA xs.length vc) xs wx) => (x.h.1.1.at hk HS.out.1).1
              have rs1 := fun x : Held (fun wx => FwS w g o n f tg tO nm ms 3 (.slice VA xs.length vc) xs wx) => (x.h.1.1.at hk HS.out.1).2.1
              have rs2 := fun x : Held (fun wx => FwS w g o n f tg tO nm ms 3 (.slice VA xs.length vc) xs wx) => (x.h.1.1.at hk HS.out.1).2.2.1
              have rs3 := fun x : Held (fun wx => FwS w g o n f tg tO nm ms 3 (.slice VA xs.length vc) xs wx) => (x.h.1.1.at hk HS.out.1).2.2.2.1
              have rs4 := fun x : Held (fun wx => FwS w g o n f tg tO nm ms 3 (.slice VA xs.length vc) xs wx) => (x.h.1.1.at hk HS.out.1).2.2.2.2
              have rm0 := fun x : Held (fun wx => FwS w g o n f tg tO nm ms 3 (.slice VA xs.length vc) xs wx) => (x.h.1.2.1.at hl HS.out.2).1
              have rm1 := fun x : Held (fun wx => FwS w g o n f tg tO nm ms 3 (.slice VA xs.length vc) xs wx) => (x.h.1.2.1.at hl HS.out.2).2
              haveI hne : Nonempty (Held (fun wx => FwS w g o n f tg tO nm ms 3 (.slice VA xs.length vc) xs wx)) := ⟨⟨_, hst⟩⟩
              go_wp2
              refine wp_region_class (fun wx => FwS w g o n f tg tO nm ms 3 (.slice VA xs.length vc) xs wx) (by kernel_rfl) (by kernel_rfl) (FwS.drew hst) ?_
              repeat (go_big_quiet_step (first
                | (go_at_call 36; with_reducible exact held_call FwS.step (HC.out _))))
              refine wpQuiet_nil ?_
              intro wy hw'
              obtain ⟨⟨wq, hst6⟩, rfl⟩ := hw'
              (try dsimp only)
              clear hne hst rs0 rs1 rs2 rs3 rs4 rm0 rm1
              cases t
              · obtain rfl : N = j := by have := HJ.out; rw [E0.out] at this; simp at this; omega
                clear E0 HJ
                by_cases hB : B.2 < N
                · have y8 : (B.2 : Int) < (N : Int) := by omega
                  have HB3 := Lib.hid (show bs2 f ms nm xs.length (kk + 1) = ((kk : Int), N) by rw [HB2.out, if_pos hB])
                  go_wp2_with fail
                  go_roundw
                  case rel => exact ⟨kk + 1, by omega, by go_num, by rw [HB3.out], by rw [HB3.out], hst6⟩
                  case measure => simp [intOf]; omega
                · have y8 : ¬ (B.2 : Int) < (N : Int) := by omega
                  have HB3 := Lib.hid (show bs2 f ms nm xs.length (kk + 1) = B by rw [HB2.out, if_neg hB])
                  go_wp2_with fail
                  go_roundw
                  case rel => exact ⟨kk + 1, by omega, by go_num, by rw [HB3.out], by rw [HB3.out], hst6⟩
                  case measure => simp [intOf]; omega
              · have HJ2 := Lib.hid (show lenF f ms kk (nm - (xs.length + (j + 1))) (xs.length + (j + 1)) + (j + 1) = N by have := HJ.out; rw [E0.out, if_pos rfl] at this; omega)
                clear E0 HJ
                go_wp2_with fail
                go_roundw
                case rel => exact ⟨j + 1, by omega, by go_num, HJ2.out, hst6⟩
                case measure => simp [intOf]; omega
            · have x1 : ¬ (xs.length : Int) + (j : Int) < (nm : Int) := by omega
              have x7 : decide ((xs.length : Int) + (j : Int) < (nm : Int)) = false := decide_eq_false x1
              obtain rfl : N = j := by have := HJ.out; rw [show nm - (xs.length + j) = 0 by omega] at this; simp [lenF] at this; omega
              haveI hne : Nonempty (Held (fun wx => FwS w g o n f tg tO nm ms 3 (.slice VA xs.length vc) xs wx)) := ⟨⟨_, hst⟩⟩
              go_wp2
              refine wp_region_class (fun wx => FwS w g o n f tg tO nm ms 3 (.slice VA xs.length vc) xs wx) (by kernel_rfl) (by kernel_rfl) (FwS.drew hst) ?_
              repeat (go_big_quiet_step (fail))
              refine wpQuiet_nil ?_
              intro wy hw'
              obtain ⟨⟨wq, hst6⟩, rfl⟩ := hw'
              (try dsimp only)
              clear hne hst
              by_cases hB : B.2 < N
              · have y8 : (B.2 : Int) < (N : Int) := by omega
                have HB3 := Lib.hid (show bs2 f ms nm xs.length (kk + 1) = ((kk : Int), N) by rw [HB2.out, if_pos hB])
                go_wp2_with fail
                go_roundw
                case rel => exact ⟨kk + 1, by omega, by go_num, by rw [HB3.out], by rw [HB3.out], hst6⟩
                case measure => simp [intOf]; omega
              · have y8 : ¬ (B.2 : Int) < (N : Int) := by omega
                have HB3 := Lib.hid (show bs2 f ms nm xs.length (kk + 1) = B by rw [HB2.out, if_neg hB])
                go_wp2_with fail
                go_roundw
                case rel => exact ⟨kk + 1, by omega, by go_num, by rw [HB3.out], by rw [HB3.out], hst6⟩
                case measure => simp [intOf]; omega
        · obtain rfl : kk = n := by omega
          have y1 : ¬ (kk : Int) < (kk : Int) := by omega
          have hb := bs2_ok f ms nm xs.length kk
          have hRX := HR.out
          unfold fwF at hRX
          rw [if_pos hlt] at hRX
          obtain ⟨⟨b1, M⟩, hBM⟩ : ∃ B, bs2 f ms nm xs.length kk = B := ⟨_, rfl⟩
          rw [hBM] at hb hRX ⊢
          dsimp only at hb hRX
          have HRX := Lib.hid hRX
          clear hRX hBM HR
          rcases hb with ⟨rfl, rfl⟩ | ⟨hb1, hb2, hb3⟩
          · have HN := Lib.hid (show none = R by rw [← HRX.out]; rfl)
            obtain rfl := HN.out
            have hsA := Lib.hid (hst.1.step ((Below.refl _ wr).alloc (Nat.le_refl _) (.cells #[] 3)))
            have hoA := Lib.hid (own_empty hst.1.2.2.size (heap_alloc_new wr (.cells #[] 3)))
            go_wp2
            go_ret2
            exact ⟨_, rfl, hoA.out, hsA.out.2.2⟩
          · have y5 : ¬ b1 < 0 := by omega
            have HRY := Lib.hid (show (fwF kk f nm ms r (xs.length + M)).map ((xs ++ List.replicate M b1) ++ ·) = R by
              rw [← HRX.out, if_neg y5, Option.map_map]
              congr 1
              funext l
              exact List.append_assoc _ _ _)
            clear HRX
            have HST := Lib.hid hst
            clear hst
            go_wp2_with fail
            go_loopw [6, 8] (fun v m wr => ∃ (j : Nat) (ys : List Int), j ≤ M ∧ m = .int .i64 j ∧ ys = xs ++ List.replicate (M - j) b1 ∧ FwS w g o kk f tg tO nm ms 3 v ys wr) (fun _ m _ => (intOf m).toNat)
            case atStart => exact ⟨M, xs, Nat.le_refl _, rfl, by simp, HST.out⟩
            case round =>
              obtain ⟨j, ys, hj, rfl, hys, hst⟩ := hrel
              clear HST
              have HYS := Lib.hid hys
              have HYL := Lib.hid (show ys.length = xs.length + (M - j) by rw [hys]; simp)
              have hyb : ys.length ≤ 60 := by have := HYL.out; omega
              clear hys
              obtain ⟨VB, vd, rfl, lm⟩ := own_len hst.2
              clear lm
              by_cases hj0 : 0 < j
              · have y6 : (0 : Int) < (j : Int) := by omega
                have hnw : ∀ k, (Value.slice VB ys.length vd).ownBlock = some k → w.heap.size ≤ k := fun k e => (hst.2.lt k e).1
                have HNW := Lib.hid hnw
                have hown1 := hst.2
                have HSM := Lib.hid hst.1
                have HYS2 := Lib.hid (show ys ++ [b1] = xs ++ List.replicate (M - (j - 1)) b1 by rw [HYS.out, List.append_assoc, show M - (j - 1) = (M - j) + 1 by omega, List.replicate_succ'])
                clear hst hnw
                go_wp2_with (at_builtin; refine wpList_append_own _ rfl _ _ 26 rfl w.heap.size 3 i0 (.int .i64 0) 1 8 Try.underlying26 hi hz0 hz1 hz2 rfl (by decide) _ _ _ rfl (hown1.alloc _) ⟨wr.heap.size, 0, none⟩ 1 1 [.int .i64 b1] rfl rfl (World.news_of_block (cs := #[.int .i64 b1]) (t := 3) (fr := (0, 0)) (heap_alloc_new wr _)) (by simp [Value.oneCell']) (by unfold maxLen; omega) (by omega) (by have := HSM.out.2.2.size; simp; omega) ?_; intro v' w3 hown2 hgrow _)
                have hst3 := Lib.hid ((HSM.out.step ((Below.refl _ _).alloc (Nat.le_refl _) _)).far hgrow HNW.out HG.out.1 HG.out.2)
                have HW := Lib.hid (show w3.ownsRow w.heap.size 3 1 v' (ys ++ [b1]).length ((ys ++ [b1]).map (Value.int .i64)) by rw [List.map_append, List.length_append]; exact hown2)
                clear hown1 hown2 hgrow HSM
                go_wp2
                go_roundw
                case rel => exact ⟨j - 1, ys ++ [b1], by omega, by go_num, HYS2.out, hst3.out, HW.out⟩
                case measure => simp [intOf]; omega
              · obtain rfl : j = 0 := by omega
                have y6 : ¬ (0 : Int) < ((0 : Nat) : Int) := by omega
                have HQ := Lib.hid hst
                have HYS3 := Lib.hid (show ys = xs ++ List.replicate M b1 from HYS.out)
                clear hst
                go_wp2_with fail
                go_roundg r
                case rel => exact ⟨r, ys, rfl, by have := HYL.out; omega, by have := HYL.out; omega, by rw [HYL.out, Nat.sub_zero, HYS3.out]; exact HRY.out, HQ.out⟩
                case measure => omega
    · have z1 : ¬ (xs.length : Int) < (nm : Int) := by omega
      have HN := Lib.hid (show some xs = R by rw [← HR.out, fwF_end _ (by omega)]; simp)
      obtain rfl := HN.out
      go_wp2
      go_ret2
      exact ⟨_, rfl, hst.2, hst.1.2.2⟩
end Go.Proofs.Ytlliiecdadiagaa

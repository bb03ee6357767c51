/- The plan with the fewest changes (impl): Sail.runOf, longestRun, FewestChanges. -/
import Derived.Test.YtlliiecdadiagaaLrF
import Derived.Test.YtlliiecdadiagaaLpG
namespace Go.Proofs.Ytlliiecdadiagaa
open Go.RowKit
set_option linter.unusedVariables false
set_option linter.unusedSimpArgs false

/-- What longestRun tells. -/
def LgE (B : Int × Nat) (w : World) (e : Ending) (w' : World) : Prop := ∃ (b : Int) (A' : Option Addr) (c' : Nat), e = .returned (.tuple #[.int .i64 b, .slice A' B.2 c']) ∧ (0 < B.2 → b = B.1) ∧ Below w.heap.size w w'
/-- A sail in a box, and moments. -/
def RoS (w : World) (q : Nat) (s : Sl) (ty : TypeId) (tg O r : Nat) (ms : Nat → Mm) (wr : World) : Prop := wr.heap[q]? = some (.cells #[.string s.nm, .float .f32 s.lo, .float .f32 s.hi, .int .i64 s.fr, .int .i64 s.to] ty (0, 0)) ∧ MmsIn wr tg O r ms ∧ Below w.heap.size w wr
theorem RoS.step {w w1 w2 : World} {q : Nat} {s : Sl} {ty : TypeId} {tg O r : Nat} {ms : Nat → Mm} (h : RoS w q s ty tg O r ms w1) (b : Below w1.heap.size w1 w2) : RoS w q s ty tg O r ms w2 := ⟨(b.block _ (heap_lt h.1)).trans h.1, h.2.1.below b (Nat.le_refl _), h.2.2.trans (b.mono h.2.2.size)⟩
theorem RoS.drew {w w1 : World} {q : Nat} {s : Sl} {ty : TypeId} {tg O r : Nat} {ms : Nat → Mm} (h : RoS w q s ty tg O r ms w1) : RoS w q s ty tg O r ms w1.drew := ⟨h.1, h.2.1, h.2.2.drew⟩
set_option maxRecDepth 100000 in
set_option maxHeartbeats 4000000 in
theorem i_runOf (s : Sl) (f : Nat → Sl) (k : Nat) (hfk : f k = s) (ms : Nat → Mm) (p r c tg O : Nat) (w : World) (hr1 : 1 ≤ r) (hr : r ≤ 60) (hc : r ≤ c) (hv : MmsIn w tg O r (fun j => ms (p + j))) (hs1 : SlWf s) (hmf : ∀ j, j < r → MmWf (ms (p + j))) :
    Calls Try.prog 79 #[.agg #[.string s.nm, .float .f32 s.lo, .float .f32 s.hi, .int .i64 s.fr, .int .i64 s.to], .slice (some ⟨tg, O, none⟩) r c] w fun e w' => e = .returned (.slice (some ⟨tg, O, none⟩) (lenF f ms k r p) (lenF f ms k r p)) ∧ Below w.heap.size w w' := by
  obtain ⟨N, hN⟩ : ∃ N, lenF f ms k r p = N := ⟨_, rfl⟩
  have hN9 : N ≤ r := by rw [← hN]; exact lenF_le f ms k r p
  rw [hN]
  have H0 := Lib.hid hN
  have hs := Lib.hid (show RoS w w.heap.size s 40 tg O r (fun j => ms (p + j)) (w.alloc (.cells #[.string s.nm, .float .f32 s.lo, .float .f32 s.hi, .int .i64 s.fr, .int .i64 s.to] 40)) from ⟨heap_alloc_new w _, hv.below ((Below.refl _ _).alloc (Nat.le_refl _) _) (Nat.le_refl _), (Below.refl _ _).alloc (Nat.le_refl _) _⟩)
  have HX := Lib.hid (fun j (hj : j < r) w => i_wide s (ms (p + j)) w hs1 (hmf j hj))
  have HFK := Lib.hid hfk
  clear hN hv hs1 hmf hfk
  go_enter Try.func79, Try.ntmps79
  go_wp2
  generalize hW : w.alloc _ = W at *
  generalize hq : w.heap.size = q at hs ⊢
  have HQ := Lib.hid hq
  clear hW hq
  go_loopw [5] (fun z wr => ∃ j : Nat, j ≤ r ∧ z = .int .i64 j ∧ lenF f ms k (r - j) (p + j) + j = N ∧ RoS w q s 40 tg O r (fun j => ms (p + j)) wr) (fun z _ => r - (intOf z).toNat)
  case atStart => exact ⟨0, by omega, rfl, H0.out, hs.out⟩
  case round =>
    obtain ⟨j, hj, rfl, hjN, hst⟩ := hrel
    have HJ := Lib.hid hjN
    clear hjN hs H0
    by_cases hl : j < r
    · have x1 : (j : Int) < (r : Int) := by omega
      have x0 : (0 : Int) ≤ (j : Int) := by omega
      have x7 : decide ((j : Int) < (r : Int)) = true := decide_eq_true x1
      have n7 : decide (j < r) = true := decide_eq_true hl
      obtain ⟨⟨m1, m2⟩, hmk⟩ : ∃ m, ms (p + j) = m := ⟨_, rfl⟩
      have HMK := Lib.hid hmk
      have HC := Lib.hid (fun w => HX.out j hl w)
      have e0 : lenF f ms k (r - j) (p + j) = if wideB (f k) (ms (p + j)) = true then lenF f ms k (r - (j + 1)) (p + (j + 1)) + 1 else 0 := by
        rw [show r - j = (r - (j + 1)) + 1 by omega]; rfl
      rw [hmk] at HC e0
      rw [HFK.out] at e0
      clear hmk
      dsimp only at HC
      generalize wideB s (m1, m2) = t at *
      have E0 := Lib.hid e0
      clear e0
      have rs0 := fun x : Held (fun wx => RoS w q s 40 tg O r (fun j => ms (p + j)) wx) => (cells5 x.h.1).1
      have rs1 := fun x : Held (fun wx => RoS w q s 40 tg O r (fun j => ms (p + j)) wx) => (cells5 x.h.1).2.1
      have rs2 := fun x : Held (fun wx => RoS w q s 40 tg O r (fun j => ms (p + j)) wx) => (cells5 x.h.1).2.2.1
      have rs3 := fun x : Held (fun wx => RoS w q s 40 tg O r (fun j => ms (p + j)) wx) => (cells5 x.h.1).2.2.2.1
      have rs4 := fun x : Held (fun wx => RoS w q s 40 tg O r (fun j => ms (p + j)) wx) => (cells5 x.h.1).2.2.2.2
      have rm0 := fun x : Held (fun wx => RoS w q s 40 tg O r (fun j => ms (p + j)) wx) => (x.h.2.1.at hl HMK.out).1
      have rm1 := fun x : Held (fun wx => RoS w q s 40 tg O r (fun j => ms (p + j)) wx) => (x.h.2.1.at hl HMK.out).2
      haveI hne : Nonempty (Held (fun wx => RoS w q s 40 tg O r (fun j => ms (p + j)) wx)) := ⟨⟨_, hst⟩⟩
      go_wp2
      refine wp_region_class (fun wx => RoS w q s 40 tg O r (fun j => ms (p + j)) wx) (by kernel_rfl) (by kernel_rfl) (RoS.drew hst) ?_
      repeat (go_big_quiet_step (first
        | (go_at_call 24; with_reducible exact held_call RoS.step (HC.out _))))
      refine wpQuiet_nil ?_
      intro wy hw'
      obtain ⟨⟨wq, hst6⟩, rfl⟩ := hw'
      (try dsimp only)
      clear hne hst rs0 rs1 rs2 rs3 rs4 rm0 rm1
      cases t
      · obtain rfl : N = j := by have := HJ.out; rw [E0.out] at this; simp at this; omega
        clear E0 HJ
        have y1 : (N : Int) ≤ (c : Int) := by omega
        have y2 : N ≤ c := by omega
        have y0 : (0 : Int) ≤ (N : Int) := by omega
        go_wp2
        go_ret
        exact ⟨by rfl, by rw [← HQ.out] at hst6; exact hst6.2.2⟩
      · have HJ2 := Lib.hid (show lenF f ms k (r - (j + 1)) (p + (j + 1)) + (j + 1) = N by have := HJ.out; rw [E0.out, if_pos rfl] at this; omega)
        clear E0 HJ
        go_wp2_with fail
        go_roundw
        case rel => exact ⟨j + 1, by omega, by go_num, HJ2.out, hst6⟩
        case measure => simp [intOf]; omega
    · obtain rfl : j = r := by omega
      have x1 : ¬ (j : Int) < (j : Int) := by omega
      have x7 : decide ((j : Int) < (j : Int)) = false := decide_eq_false x1
      have n7 : decide (j < j) = false := decide_eq_false (by omega)
      obtain rfl : N = j := by have := HJ.out; rw [Nat.sub_self] at this; simp [lenF] at this; omega
      have y1 : (N : Int) ≤ (c : Int) := by omega
      have y2 : N ≤ c := by omega
      have y0 : (0 : Int) ≤ (N : Int) := by omega
      haveI hne : Nonempty (Held (fun wx => RoS w q s 40 tg O N (fun j => ms (p + j)) wx)) := ⟨⟨_, hst⟩⟩
      go_wp2
      refine wp_region_class (fun wx => RoS w q s 40 tg O N (fun j => ms (p + j)) wx) (by kernel_rfl) (by kernel_rfl) (RoS.drew hst) ?_
      repeat (go_big_quiet_step (fail))
      refine wpQuiet_nil ?_
      intro wy hw'
      obtain ⟨⟨wq, hst6⟩, rfl⟩ := hw'
      (try dsimp only)
      clear hne hst
      go_wp2
      go_ret
      exact ⟨by rfl, by rw [← HQ.out] at hst6; exact hst6.2.2⟩
set_option maxRecDepth 100000 in
set_option maxHeartbeats 4000000 in
theorem i_long (f : Nat → Sl) (ms : Nat → Mm) (nm p : Nat) (A : Option Addr) (g o n cap tg O c : Nat) (w : World) (hn : n ≤ 1048576) (hcap : n ≤ cap) (hA : 0 < n → A = some ⟨g, o, none⟩) (hw : SlsIn w g o n f) (hf : ∀ j, j < n → SlWf (f j))
    (hr1 : 1 ≤ nm - p) (hr : nm - p ≤ 60) (hc : nm - p ≤ c) (hv : MmsIn w tg O (nm - p) (fun j => ms (p + j))) (hmf : ∀ j, j < nm - p → MmWf (ms (p + j))) :
    Calls Try.prog 58 #[.slice A n cap, .slice (some ⟨tg, O, none⟩) (nm - p) c] w (LgE (bs2 f ms nm p n) w) := by
  have HX := Lib.hid (fun k (hk : k < n) s (e : f k = s) w (h : MmsIn w tg O (nm - p) (fun j => ms (p + j))) => i_runOf s f k e ms p (nm - p) c tg O w hr1 hr hc h (by rw [← e]; exact hf k hk) hmf)
  have hs := Lib.hid (show SmS w g o n f tg O (nm - p) (fun j => ms (p + j)) w from ⟨hw, hv, Below.refl _ _⟩)
  clear hw hf hv hmf
  have HB2 := Lib.hid (fun k => show bs2 f ms nm p (k + 1) = if (bs2 f ms nm p k).2 < lenF f ms k (nm - p) p then ((k : Int), lenF f ms k (nm - p) p) else bs2 f ms nm p k from rfl)
  have HL := Lib.hid (fun k => lenF_le f ms k (nm - p) p)
  have HBO := Lib.hid (bs2_ok f ms nm p)
  generalize hR : nm - p = R at *
  clear hR
  go_enter Try.func58, Try.ntmps58
  go_wp2
  go_loopw [13, 6, 7, 8, 9, 10] (fun i l b _ _ _ wr => ∃ (kk : Nat) (A' : Option Addr) (c' : Nat) (bb : Int), kk ≤ n ∧ i = .int .i64 kk ∧ l = .slice A' (bs2 f ms nm p kk).2 c' ∧ b = .int .i64 bb ∧ (0 < (bs2 f ms nm p kk).2 → bb = (bs2 f ms nm p kk).1) ∧ SmS w g o n f tg O R (fun j => ms (p + j)) wr) (fun i _ _ _ _ _ _ => n - (intOf i).toNat)
  case atStart => exact ⟨0, none, 0, 0, Nat.zero_le _, rfl, rfl, rfl, fun h => absurd h (Nat.lt_irrefl 0), hs.out⟩
  case round =>
    obtain ⟨kk, A', c', bb, hkk, rfl, rfl, rfl, hbb, hst⟩ := hrel
    have HBB := Lib.hid hbb
    clear hbb hs
    by_cases hlt : kk < n
    · obtain rfl := hA (by omega)
      have z1 : (kk : Int) < (n : Int) := by omega
      have z0 : (0 : Int) ≤ (kk : Int) := by omega
      obtain ⟨s, hs1⟩ : ∃ s, f kk = s := ⟨_, rfl⟩
      obtain ⟨d0, d1, d2, d3, d4⟩ := hst.1.at hlt hs1
      have hs2 := hst.step ((Below.refl _ _).alloc (Nat.le_refl _) (.cells #[.string s.nm, .float .f32 s.lo, .float .f32 s.hi, .int .i64 s.fr, .int .i64 s.to] 40))
      have hc2 := heap_alloc_new wr (.cells #[.string s.nm, .float .f32 s.lo, .float .f32 s.hi, .int .i64 s.fr, .int .i64 s.to] 40)
      obtain ⟨k0, k1, k2, k3, k4⟩ := cells5 hc2
      have HC := Lib.hid (HX.out kk hlt s hs1 (wr.alloc (.cells #[.string s.nm, .float .f32 s.lo, .float .f32 s.hi, .int .i64 s.fr, .int .i64 s.to] 40)) hs2.2.1)
      have a0 := fun (x y z u r : Value) => st_new5 Try.prog wr x y z u r (.string s.nm) 40 0 (by omega) rfl
      have a1 := fun (x y z u r : Value) => st_new5 Try.prog wr x y z u r (.float .f32 s.lo) 40 1 (by omega) rfl
      have a2 := fun (x y z u r : Value) => st_new5 Try.prog wr x y z u r (.float .f32 s.hi) 40 2 (by omega) rfl
      have a3 := fun (x y z u r : Value) => st_new5 Try.prog wr x y z u r (.int .i64 s.fr) 40 3 (by omega) rfl
      have a4 := fun (x y z u r : Value) => st_new5 Try.prog wr x y z u r (.int .i64 s.to) 40 4 (by omega) rfl
      have HS := Lib.hid hs2
      have hb2 := HB2.out kk
      have hle := HL.out kk
      have hbo := HBO.out kk
      generalize lenF f ms kk R p = N at *
      obtain ⟨B, hB⟩ : ∃ B, bs2 f ms nm p kk = B := ⟨_, rfl⟩
      rw [hB] at hb2 hbo HBB ⊢
      have HB3 := Lib.hid hb2
      have hB9 : B.2 ≤ 60 := by omega
      clear hst hs2 hs1 hc2 hb2 hB hbo
      go_wp2_with fail
      generalize hW : wr.alloc _ = W at *
      clear hW a0 a1 a2 a3 a4 d0 d1 d2 d3 d4
      refine HC.out.mono ?_
      rintro e w2 ⟨rfl, b⟩
      have HS2 := Lib.hid (HS.out.step b)
      clear HS b k0 k1 k2 k3 k4 HC
      by_cases hB : B.2 < N
      · have y8 : (B.2 : Int) < (N : Int) := by omega
        have y9 : decide ((N : Int) > (B.2 : Int)) = true := decide_eq_true y8
        have HB4 := Lib.hid (show bs2 f ms nm p (kk + 1) = ((kk : Int), N) by rw [HB3.out, if_pos hB])
        go_wp2_with fail
        go_roundw
        case rel => exact ⟨kk + 1, _, _, kk, by omega, by go_num, by rw [HB4.out], rfl, fun _ => by rw [HB4.out], HS2.out⟩
        case measure => simp [intOf]; omega
      · have y8 : ¬ (B.2 : Int) < (N : Int) := by omega
        have y9 : decide ((N : Int) > (B.2 : Int)) = false := decide_eq_false y8
        have HB4 := Lib.hid (show bs2 f ms nm p (kk + 1) = B by rw [HB3.out, if_neg hB])
        go_wp2_with fail
        go_roundw
        case rel => exact ⟨kk + 1, _, _, bb, by omega, by go_num, by rw [HB4.out], rfl, by rw [HB4.out]; exact HBB.out, HS2.out⟩
        case measure => simp [intOf]; omega
    · obtain rfl : kk = n := by omega
      have z1 : ¬ (kk : Int) < (kk : Int) := by omega
      go_wp2
      go_ret2
      exact ⟨bb, _, _, rfl, HBB.out, hst.2.2⟩
set_option maxRecDepth 100000 in
set_option maxHeartbeats 4000000 in
theorem i_few (f : Nat → Sl) (ms : Nat → Mm) (A : Option Addr) (g o n cap : Nat) (TA : Option Addr) (tg tO nm tcap : Nat) (w : World) (hn : n ≤ 1048576) (hcap : n ≤ cap) (hA : 0 < n → A = some ⟨g, o, none⟩) (hw : SlsIn w g o n f) (hf : ∀ j, j < n → SlWf (f j))
    (hm : nm ≤ 1048576) (htc : nm ≤ tcap) (hT : 0 < nm → TA = some ⟨tg, tO, none⟩) (hv : MmsIn w tg tO nm ms) (hmf : ∀ j, j < nm → MmWf (ms j)) :
    Calls Try.prog 17 #[.slice A n cap, .slice TA nm tcap] w (FwE 3 w ((fwW n f nm ms).getD []) (fwW n f nm ms).isSome) := by
  obtain ⟨i0, hi, hz0, hz1, hz2⟩ := info_parts Try.infoInt11
  have HO := Lib.hid (i_can f A TA g o n cap nm tcap w hn hcap hA hw hf)
  have HG := Lib.hid (And.intro (fun h : 0 < n => hw.lt h) (fun h : 0 < nm => hv.lt h))
  have hs := Lib.hid (show SmS w g o n f tg tO nm ms w from ⟨hw, hv, Below.refl _ _⟩)
  have HX := Lib.hid (fun p (hp : p < nm) (h60 : nm ≤ 60) w (h : SlsIn w g o n f) (h' : MmsIn w tg tO nm ms) => i_long f ms nm p A g o n cap tg (tO + p * 2) (tcap - p) w hn hcap hA h hf (by omega) (by omega) (by omega) (fun j hj => by
    have h2 := h' (p + j) (by omega)
    rw [show tO + (p + j) * 2 = tO + p * 2 + j * 2 by omega] at h2
    exact h2) (fun j hj => hmf (p + j) (by omega)))
  clear hw hv hf hmf
  have hcan : (soB n f && decide (nm ≤ 60)) = true ↔ soB n f = true ∧ nm ≤ 60 := by rw [Bool.and_eq_true, decide_eq_true_iff]
  obtain ⟨t, ht⟩ : ∃ t, (soB n f && decide (nm ≤ 60)) = t := ⟨_, rfl⟩
  rw [ht] at hcan HO
  clear ht
  cases t
  · rw [show fwW n f nm ms = none by unfold fwW; rw [if_neg (fun h => by have := hcan.2 h; cases this)]]
    clear hcan
    go_enter Try.func17, Try.ntmps17
    go_wp2_with fail
    refine HO.out.mono ?_
    rintro e w1 ⟨rfl, b⟩
    have hs1 := Lib.hid (hs.out.step b)
    clear hs b
    go_wp2
    go_ret2
    exact ⟨_, rfl, ⟨rfl, .inl ⟨rfl, rfl⟩⟩, hs1.out.2.2⟩
  have hm60 : nm ≤ 60 := (hcan.1 rfl).2
  obtain ⟨R, hR⟩ : ∃ R, fwW n f nm ms = R := ⟨_, rfl⟩
  have HR0 := Lib.hid (show (fwF n f nm ms nm 0).map (([] : List Int) ++ ·) = R by rw [← hR]; unfold fwW; rw [if_pos (hcan.1 rfl)]; cases fwF n f nm ms nm 0 <;> rfl)
  rw [hR]
  clear hcan hR
  go_enter Try.func17, Try.ntmps17
  go_wp2_with fail
  refine HO.out.mono ?_
  rintro e w1 ⟨rfl, b⟩
  have hs1 := Lib.hid (hs.out.step b)
  clear hs b HO
  go_wp2_with fail
  go_loopg [6, 7, 8] nm (fun gk v _ _ wr => ∃ (r : Nat) (xs : List Int), gk = r ∧ nm ≤ xs.length + r ∧ xs.length ≤ nm ∧ (fwF n f nm ms r xs.length).map (xs ++ ·) = R ∧ FwS w g o n f tg tO nm ms 3 v xs wr)
  case atStart => exact ⟨nm, [], rfl, by simp, by simp, HR0.out, hs1.out, ⟨rfl, .inl ⟨rfl, rfl⟩⟩⟩
  case round =>
    obtain ⟨r, xs, rfl, hr1, hr2, hRR, hst⟩ := hrel
    have HR := Lib.hid hRR
    clear hRR HR0 hs1
    obtain ⟨VA, vc, rfl, lm⟩ := own_len hst.2
    have lm2 : xs.length ≤ 60 := by omega
    clear lm
    by_cases hlt : xs.length < nm
    · obtain ⟨r, rfl⟩ : ∃ r', gk = r' + 1 := ⟨gk - 1, by omega⟩
      obtain rfl := hT (by omega)
      have z1 : (xs.length : Int) < (nm : Int) := by omega
      have z2 : (xs.length : Int) ≤ (nm : Int) := by omega
      have z3 : (0 : Int) ≤ (xs.length : Int) := by omega
      have z4 : ¬ tcap = xs.length := by omega
      have HC := Lib.hid (HX.out xs.length hlt hm60 wr hst.1.1 hst.1.2.1)
      have hb := bs2_ok f ms nm xs.length n
      have hRX := HR.out
      unfold fwF at hRX
      rw [if_pos hlt] at hRX
      obtain ⟨⟨b1, M⟩, hBM⟩ : ∃ B, bs2 f ms nm xs.length n = B := ⟨_, rfl⟩
      rw [hBM] at hb hRX HC
      dsimp only at hb hRX
      have HRX := Lib.hid hRX
      have HST := Lib.hid hst
      clear hRX hBM HR hst
      go_wp2_with fail
      refine HC.out.mono ?_
      rintro e w2 ⟨b2, A2, c2, rfl, hbb, bel⟩
      dsimp only at hbb ⊢
      have HS2 := Lib.hid (HST.out.step bel)
      clear HC HST bel
      rcases hb with ⟨rfl, rfl⟩ | ⟨hb1, hb2, hb3⟩
      · have HN := Lib.hid (show none = R by rw [← HRX.out]; rfl)
        obtain rfl := HN.out
        go_wp2
        go_ret2
        exact ⟨_, rfl, ⟨rfl, .inl ⟨rfl, rfl⟩⟩, HS2.out.1.2.2⟩
      · obtain rfl := hbb hb2
        have y5 : ¬ b2 < 0 := by omega
        have y7 : ((M : Int) == 0) = false := by rw [beq_eq_false_iff_ne]; omega
        have y8 : ¬ (M : Int) = 0 := by omega
        have y9 : M ≤ 60 := by omega
        have HRY := Lib.hid (show (fwF n f nm ms r (xs.length + M)).map ((xs ++ List.replicate M b2) ++ ·) = R by
          rw [← HRX.out, if_neg y5, Option.map_map]
          congr 1
          funext l
          exact List.append_assoc _ _ _)
        clear HRX hbb
        have hbS := heap_alloc_new w2 (.cells #[.int .i64 b2] 3)
        have hp := i_rep b2 w2.heap.size M (w2.alloc (.cells #[.int .i64 b2] 3)) hb2 y9 (cell_of_row _ _ 0 _ _ _ hbS)
        rw [World.size_alloc] at hp
        have HP := Lib.hid hp
        have HS3 := Lib.hid (HS2.out.step ((Below.refl _ _).alloc (Nat.le_refl _) (.cells #[.int .i64 b2] 3)))
        clear hbS HS2 hp
        go_wp2_with fail
        refine HP.out.mono ?_
        rintro e w3 ⟨rfl, hrow, bel⟩
        have HS4 := Lib.hid (HS3.out.step (by rw [World.size_alloc]; exact bel))
        have hown := HS4.out.2
        have HNW := Lib.hid (fun k (e : (Value.slice VA xs.length vc).ownBlock = some k) => (hown.lt k e).1)
        have hsz : w.heap.size ≤ w3.heap.size := HS4.out.1.2.2.size
        have Q1 := Lib.hid (show (List.replicate M (Value.int .i64 b2)).length = M * 1 by rw [List.length_replicate, Nat.mul_one])
        have Q2 := Lib.hid (show ∀ (j : Nat) (u : Value), (List.replicate M (Value.int .i64 b2))[j]? = some u → w3.cell? ((⟨w2.heap.size + 1, 0, none⟩ : Addr).add j) = some u from World.news_of_block hrow)
        have Q4 := Lib.hid (show ∀ u : Value, u ∈ List.replicate M (Value.int .i64 b2) → u.oneCell' = true from fun u hu => by rw [List.eq_of_mem_replicate hu]; rfl)
        have Q5 := Lib.hid (show xs.length + M ≤ maxLen by unfold maxLen; omega)
        have Q6 := Lib.hid (show (xs.length + M) * 8 ≤ 140737488355328 by omega)
        clear HS3 HP hrow bel
        go_wp2_with (at_builtin; refine wpList_append_own _ rfl _ _ 26 rfl w.heap.size 3 i0 (.int .i64 0) 1 8 Try.underlying26 hi hz0 hz1 hz2 rfl (by decide) _ _ _ rfl hown ⟨w2.heap.size + 1, 0, none⟩ M M (List.replicate M (.int .i64 b2)) rfl Q1.out Q2.out Q4.out Q5.out Q6.out hsz ?_; intro v' w4 hown2 hgrow _)
        have hst5 := Lib.hid (HS4.out.1.far hgrow HNW.out HG.out.1 HG.out.2)
        have HW := Lib.hid (show w4.ownsRow w.heap.size 3 1 v' (xs ++ List.replicate M b2).length ((xs ++ List.replicate M b2).map (Value.int .i64)) by rw [List.map_append, List.length_append, List.length_replicate, List.map_replicate]; exact hown2)
        clear hown hown2 hgrow HS4
        go_wp2_with fail
        go_roundg r
        case rel => exact ⟨r, xs ++ List.replicate M b2, rfl, by rw [List.length_append, List.length_replicate]; omega, by rw [List.length_append, List.length_replicate]; omega, by rw [List.length_append, List.length_replicate]; exact HRY.out, hst5.out, HW.out⟩
        case measure => omega
    · have z1 : ¬ (xs.length : Int) < (nm : Int) := by omega
      have HN := Lib.hid (show some xs = R by rw [← HR.out, fwF_end _ (by omega)]; simp)
      obtain rfl := HN.out
      go_wp2
      go_ret2
      exact ⟨_, rfl, hst.2, hst.1.2.2⟩
end Go.Proofs.Ytlliiecdadiagaa

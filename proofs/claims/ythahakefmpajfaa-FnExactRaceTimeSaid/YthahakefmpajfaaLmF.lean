/- When a course is finished, when a race is done (impl): FinishTime, RaceTime. -/
import Derived.Test.YthahakefmpajfaaLmE
import Derived.Test.YthahakefmpajfaaLmN
namespace Go.Proofs.Ythahakefmpajfaa
open Go.RowKit
set_option linter.unusedVariables false
set_option linter.unusedSimpArgs false

set_option maxRecDepth 100000 in
set_option maxHeartbeats 4000000 in
theorem i_started (l : Ln) (f : Nat → Sg) (TA : Option Addr) (tg tO n tcap : Nat) (gun : Int) (w : World) (hm : n ≤ 1048576) (hT : 0 < n → TA = some ⟨tg, tO, none⟩) (hv : SigsIn w tg tO n f) (hcp : n ≤ tcap) (ht : tkB n f = true) :
    Calls Try.prog 74 #[.agg #[.int .i64 l.1.1, .int .i64 l.1.2, .int .i64 l.2.1, .int .i64 l.2.2], .slice TA n tcap, .int .i64 gun] w fun e w' => e = .returned (.int .i64 (sdFrom l f gun (n - 1) 0)) ∧ Below w.heap.size w w' := by
  have HTK := Lib.hid ht
  obtain ⟨r, hr⟩ : ∃ r, sdFrom l f gun (n - 1) 0 = r := ⟨_, rfl⟩
  rw [hr]
  have HR0 := Lib.hid hr
  clear hr ht
  have HS := Lib.hid (fun (j : Nat) (h : j + 2 ≤ n) (cp : Nat) w (hw : SigsIn w (tg) (tO + j * 3) 2 (subF f j)) => i_start l (subF f j) (some ⟨tg, tO + j * 3, none⟩) tg (tO + j * 3) 2 cp gun w (by omega) (fun _ => rfl) hw)
  have HE := Lib.hid (fun (j : Nat) (h : j + 2 ≤ n) => st_two l HTK.out gun h)
  have H0 := Lib.hid (fun (j : Nat) (h : j + 1 < n) => (show sdFrom l f gun (n - 1 - j) j = if hitB l f gun j = true then (j : Int) + 1 else sdFrom l f gun (n - 1 - (j + 1)) (j + 1) by rw [show n - 1 - j = (n - 1 - (j + 1)) + 1 by omega]; rfl))
  obtain ⟨⟨x1, x2⟩, x3, x4⟩ := l
  dsimp only at *
  have hs := Lib.hid (LtS.new (c := #[.int .i64 x1, .int .i64 x2, .int .i64 x3, .int .i64 x4]) (ty := 33) hv)
  clear hv
  go_enter Try.func74, Try.ntmps74
  go_wp2
  go_loopw [7, 8, 9, 13] (fun _ _ _ i wr => ∃ j : Nat, (j ≤ n) ∧ i = .int .i64 j ∧ sdFrom ((x1, x2), x3, x4) f gun (n - 1 - j) j = r ∧ LtS w #[.int .i64 x1, .int .i64 x2, .int .i64 x3, .int .i64 x4] 33 tg tO n f wr) (fun _ _ _ i _ => n - (intOf i).toNat)
  case atStart => exact ⟨0, Nat.zero_le _, rfl, HR0.out, hs.out⟩
  case round =>
    obtain ⟨j, hj, rfl, hrr, hst⟩ := hrel
    have HR := Lib.hid hrr
    clear hrr hs HR0
    by_cases hlt : j + 1 < n
    · obtain rfl := hT (by omega)
      have z1 : (j : Int) < (n : Int) - 1 := by omega
      have z2 : (j : Int) + 2 ≤ (tcap : Int) := by omega
      have z3 : (0 : Int) ≤ (j : Int) + 2 := by omega
      have z4 : (0 : Int) ≤ (j : Int) := by omega
      have z5 : (j : Int) ≤ (j : Int) + 2 := by omega
      have z6 : ¬ tcap = j := by omega
      have z7 : ((j : Int) + 2).toNat = j + 2 := by omega
      have z8 : IntKind.i64.wrap ((j : Int) + 2) = (j : Int) + 2 := IntWalk.i64_in _ (by omega)
      have e0 := H0.out j hlt
      have HC := Lib.hid (fun s : Held (fun wx => LtS w #[.int .i64 x1, .int .i64 x2, .int .i64 x3, .int .i64 x4] 33 tg tO n f wx) => HS.out j (by omega) (tcap - j) s.w (s.h.2.sub (by omega)))
      rw [HE.out j (by omega)] at HC
      generalize hitB ((x1, x2), x3, x4) f gun j = hit at *
      generalize ctW ((x1, x2), x3, x4) (f j) (f (j + 1)) = m at *
      have re0 := fun s : Held (fun wx => LtS w #[.int .i64 x1, .int .i64 x2, .int .i64 x3, .int .i64 x4] 33 tg tO n f wx) => (cells4 s.h.1.1).1
      have re1 := fun s : Held (fun wx => LtS w #[.int .i64 x1, .int .i64 x2, .int .i64 x3, .int .i64 x4] 33 tg tO n f wx) => (cells4 s.h.1.1).2.1
      have re2 := fun s : Held (fun wx => LtS w #[.int .i64 x1, .int .i64 x2, .int .i64 x3, .int .i64 x4] 33 tg tO n f wx) => (cells4 s.h.1.1).2.2.1
      have re3 := fun s : Held (fun wx => LtS w #[.int .i64 x1, .int .i64 x2, .int .i64 x3, .int .i64 x4] 33 tg tO n f wx) => (cells4 s.h.1.1).2.2.2
      cases hit
      · rw [if_neg (by simp)] at HC
        have HN := Lib.hid (show sdFrom ((x1, x2), x3, x4) f gun (n - 1 - (j + 1)) (j + 1) = r by rw [← HR.out, e0]; rfl)
        clear e0
        go_wp2
        haveI hne : Nonempty (Held (fun wx => LtS w #[.int .i64 x1, .int .i64 x2, .int .i64 x3, .int .i64 x4] 33 tg tO n f wx)) := ⟨⟨_, hst⟩⟩
        refine wp_region_class (fun wx => LtS w #[.int .i64 x1, .int .i64 x2, .int .i64 x3, .int .i64 x4] 33 tg tO n f wx) (by kernel_rfl) (by kernel_rfl) (LtS.drew hst) ?_
        repeat (go_big_quiet_step (first
          | (go_at_call 71; with_reducible exact held_call LtS.step (HC.out _))))
        refine wpQuiet_nil ?_
        intro wy hw'
        obtain ⟨⟨wq, hst6⟩, rfl⟩ := hw'
        (try dsimp only)
        clear hne re0 re1 re2 re3 hst
        go_wp2_with fail
        go_roundw
        case rel => exact ⟨j + 1, by omega, by go_num, HN.out, hst6⟩
        case measure => simp [intOf]; omega
      · rw [if_pos rfl] at HC
        have HN := Lib.hid (show (j : Int) + 1 = r by rw [← HR.out, e0]; rfl)
        obtain rfl := HN.out
        clear e0
        go_wp2
        haveI hne : Nonempty (Held (fun wx => LtS w #[.int .i64 x1, .int .i64 x2, .int .i64 x3, .int .i64 x4] 33 tg tO n f wx)) := ⟨⟨_, hst⟩⟩
        refine wp_region_class (fun wx => LtS w #[.int .i64 x1, .int .i64 x2, .int .i64 x3, .int .i64 x4] 33 tg tO n f wx) (by kernel_rfl) (by kernel_rfl) (LtS.drew hst) ?_
        repeat (go_big_quiet_step (first
          | (go_at_call 71; with_reducible exact held_call LtS.step (HC.out _))))
        refine wpQuiet_nil ?_
        intro wy hw'
        obtain ⟨⟨wq, hst6⟩, rfl⟩ := hw'
        (try dsimp only)
        clear hne re0 re1 re2 re3 hst
        go_wp2
        go_ret
        exact ⟨rfl, hst6.below⟩
    · have z1 : ¬ (j : Int) < (n : Int) - 1 := by omega
      have HN := Lib.hid (show -1 = r by rw [← HR.out, show n - 1 - j = 0 by omega]; rfl)
      obtain rfl := HN.out
      go_wp2
      go_ret
      exact ⟨rfl, hst.below⟩
/-- A course in a box, its marks, a track, and an element of a list. -/
def FiS (w : World) (c : Array Value) (ty : TypeId) (g o m : Nat) (mf : Nat → Mk) (tg tO n : Nat) (f : Nat → Sg) (lg k : Nat) (v : Value) (wr : World) : Prop := CtS w c ty g o m mf tg tO n f wr ∧ wr.cell? ⟨lg, k, none⟩ = some v ∧ lg < wr.heap.size
theorem FiS.step {w w1 w2 : World} {c : Array Value} {ty : TypeId} {g o m : Nat} {mf : Nat → Mk} {tg tO n : Nat} {f : Nat → Sg} {lg k : Nat} {v : Value} (h : FiS w c ty g o m mf tg tO n f lg k v w1) (b : Below w1.heap.size w1 w2) : FiS w c ty g o m mf tg tO n f lg k v w2 :=
  ⟨h.1.step b, (Below.cell (p := ⟨lg, k, none⟩) b h.2.2).trans h.2.1, Nat.lt_of_lt_of_le h.2.2 b.size⟩
theorem FiS.drew {w w1 : World} {c : Array Value} {ty : TypeId} {g o m : Nat} {mf : Nat → Mk} {tg tO n : Nat} {f : Nat → Sg} {lg k : Nat} {v : Value} (h : FiS w c ty g o m mf tg tO n f lg k v w1) : FiS w c ty g o m mf tg tO n f lg k v w1.drew := ⟨h.1.drew, h.2⟩
set_option maxRecDepth 100000 in
set_option maxHeartbeats 4000000 in
theorem i_fn (c : Crs) (A : Option Addr) (g o cap : Nat) (f : Nat → Sg) (TA : Option Addr) (tg tO n tcap : Nat) (b : Int) (w : World) (hn : c.n ≤ 1048576) (hA : 0 < c.n → A = some ⟨g, o, none⟩) (hw : MksIn w g o c.n c.mf)
    (hm : n ≤ 1048576) (hT : 0 < n → TA = some ⟨tg, tO, none⟩) (hv : SigsIn w tg tO n f) (hcp : n ≤ tcap) :
    Calls Try.prog 39 #[.agg #[.int .i64 c.st.1.1, .int .i64 c.st.1.2, .int .i64 c.st.2.1, .int .i64 c.st.2.2, .slice A c.n cap, .int .i64 c.fi.1.1, .int .i64 c.fi.1.2, .int .i64 c.fi.2.1, .int .i64 c.fi.2.2], .slice TA n tcap, .int .i64 b] w fun e w' => e = .returned (.tuple #[.int .i64 (fnW c n f b).1, .bool (fnW c n f b).2]) ∧ Below w.heap.size w w' := by
  have HP := Lib.hid (fun (w : World) (h : MksIn w g o c.n c.mf) (h2 : SigsIn w tg tO n f) => i_pg c A g o cap f TA tg tO n tcap b w hn hA h hm hT h2 hcp)
  have hs := Lib.hid (CtS.new (c := #[.int .i64 c.st.1.1, .int .i64 c.st.1.2, .int .i64 c.st.2.1, .int .i64 c.st.2.2, .slice A c.n cap, .int .i64 c.fi.1.1, .int .i64 c.fi.1.2, .int .i64 c.fi.2.1, .int .i64 c.fi.2.2]) (ty := 36) hw hv)
  have HM := Lib.hid (fun x (h : x ∈ pgW c n f b) => pg_mem c n f c.n 0 b x h)
  unfold fnW
  generalize pgW c n f b = L at *
  clear hw hv
  obtain ⟨⟨r1, r2⟩, hRR⟩ : ∃ R, (if L.length = 0 ∨ L.length < c.n then ((0 : Int), false) else fnFrom c.fi f (n - 1 - (L.getLastD 0).toNat) (L.getLastD 0).toNat) = R := ⟨_, rfl⟩
  rw [hRR]
  have HRR := Lib.hid hRR
  clear hRR
  obtain ⟨e0, e1, e2, e3, e4, e5, e6, e7, e8⟩ := cells9 hs.out.1.1.1
  go_enter Try.func39, Try.ntmps39
  go_wp2_with fail
  refine (HP.out _ hs.out.1.2 hs.out.2).mono ?_
  rintro e w2 ⟨v, rfl, hown, b2⟩
  have hs2 := Lib.hid (hs.out.step b2)
  clear hs b2 e0 e1 e2 e3 e4 e5 e6 e7 e8 HP
  obtain ⟨LA, lcap, rfl, lm⟩ := own_value hown
  obtain ⟨e0, e1, e2, e3, e4, e5, e6, e7, e8⟩ := cells9 hs2.out.1.1.1
  by_cases h0 : L.length = 0
  · have HN := Lib.hid (show (0, false) = (r1, r2) by rw [← HRR.out, if_pos (.inl h0)])
    obtain ⟨rfl, rfl⟩ := Prod.mk.injEq .. ▸ HN.out
    have k0 : ((L.length : Int) == 0) = true := by rw [beq_iff_eq]; omega
    have k1 : (L.length : Int) = 0 := by omega
    clear hown
    go_wp2
    go_ret2
    exact ⟨rfl, hs2.out.below⟩
  · by_cases h1 : L.length < c.n
    · have HN := Lib.hid (show (0, false) = (r1, r2) by rw [← HRR.out, if_pos (.inr h1)])
      obtain ⟨rfl, rfl⟩ := Prod.mk.injEq .. ▸ HN.out
      have k0 : ((L.length : Int) == 0) = false := by rw [beq_eq_false_iff_ne]; omega
      have k1 : ¬ (L.length : Int) = 0 := by omega
      have k2 : (L.length : Int) < (c.n : Int) := by omega
      have k3 : decide ((L.length : Int) < (c.n : Int)) = true := decide_eq_true k2
      clear hown
      go_wp2
      go_ret2
      exact ⟨rfl, hs2.out.below⟩
    · have hr : fnFrom c.fi f (n - 1 - (L.getLastD 0).toNat) (L.getLastD 0).toNat = (r1, r2) := by rw [← HRR.out, if_neg (by omega)]
      clear HRR
      have k0 : ((L.length : Int) == 0) = false := by rw [beq_eq_false_iff_ne]; omega
      have k1 : ¬ (L.length : Int) = 0 := by omega
      have k2 : ¬ (L.length : Int) < (c.n : Int) := by omega
      have k3 : decide ((L.length : Int) < (c.n : Int)) = false := decide_eq_false k2
      obtain ⟨lg, lcap2, hvv, _, _, hlg, hcell⟩ := ints_own hown h0
      simp only [Value.slice.injEq, true_and] at hvv
      obtain ⟨rfl, rfl⟩ := hvv
      obtain ⟨gm, gl⟩ := getLastD_mem (l := L) (fun e => h0 (by rw [e]; rfl))
      have hc := hcell _ _ gl
      obtain ⟨hTK, l0, l1⟩ := HM.out _ gm
      generalize L.getLastD 0 = q at *
      obtain ⟨qq, rfl⟩ : ∃ qq : Nat, q = (qq : Int) := ⟨q.toNat, by omega⟩
      simp only [Int.toNat_natCast] at hr
      obtain ⟨kx, hkx⟩ : ∃ kx, L.length - 1 = kx := ⟨_, rfl⟩
      rw [hkx] at hc
      have hidx : (L.length : Int) - 1 = (kx : Int) := by omega
      have hidx2 : (kx : Int) < (L.length : Int) := by omega
      have hidx4 : (0 : Int) ≤ (kx : Int) := by omega
      have hidx5 : IntKind.i64.wrap ((L.length : Int) - 1) = (kx : Int) := by rw [hidx]; exact IntWalk.i64_in _ (by have : L.length ≤ 9223372036854775807 := lm; omega)
      have lm2 : L.length ≤ 9223372036854775807 := lm
      have q0 : (0 : Int) ≤ (qq : Int) := by omega
      have q1 : (qq : Int) ≤ (n : Int) := by omega
      have q2 : ¬ tcap = qq := by omega
      have hst : FiS w #[.int .i64 c.st.1.1, .int .i64 c.st.1.2, .int .i64 c.st.2.1, .int .i64 c.st.2.2, .slice A c.n cap, .int .i64 c.fi.1.1, .int .i64 c.fi.1.2, .int .i64 c.fi.2.1, .int .i64 c.fi.2.2] 36 g o c.n c.mf tg tO n f lg kx (.int .i64 (qq : Int)) w2 := ⟨hs2.out, hc, hlg⟩
      obtain rfl := hT (by omega)
      have HX := Lib.hid (fun s : Held (fun wx => FiS w #[.int .i64 c.st.1.1, .int .i64 c.st.1.2, .int .i64 c.st.2.1, .int .i64 c.st.2.2, .slice A c.n cap, .int .i64 c.fi.1.1, .int .i64 c.fi.1.2, .int .i64 c.fi.2.1, .int .i64 c.fi.2.2] 36 g o c.n c.mf tg tO n f lg kx (.int .i64 (qq : Int)) wx) => i_start c.fi (subF f qq) (some ⟨tg, tO + qq * 3, none⟩) tg (tO + qq * 3) (n - qq) (tcap - qq) 0 s.w (by omega) (fun _ => rfl) (s.h.1.2.sub (by omega)))
      rw [st_rest c.fi hTK (by omega), hr] at HX
      dsimp only at HX
      have rl : ∀ s : Held (fun wx => FiS w #[.int .i64 c.st.1.1, .int .i64 c.st.1.2, .int .i64 c.st.2.1, .int .i64 c.st.2.2, .slice A c.n cap, .int .i64 c.fi.1.1, .int .i64 c.fi.1.2, .int .i64 c.fi.2.1, .int .i64 c.fi.2.2] 36 g o c.n c.mf tg tO n f lg kx (.int .i64 (qq : Int)) wx), s.w.cell? ⟨lg, kx, none⟩ = some (.int .i64 (qq : Int)) := fun s => s.h.2.1
      have re0 := fun s : Held (fun wx => FiS w #[.int .i64 c.st.1.1, .int .i64 c.st.1.2, .int .i64 c.st.2.1, .int .i64 c.st.2.2, .slice A c.n cap, .int .i64 c.fi.1.1, .int .i64 c.fi.1.2, .int .i64 c.fi.2.1, .int .i64 c.fi.2.2] 36 g o c.n c.mf tg tO n f lg kx (.int .i64 (qq : Int)) wx) => (cells9 s.h.1.1.1.1).1
      have re1 := fun s : Held (fun wx => FiS w #[.int .i64 c.st.1.1, .int .i64 c.st.1.2, .int .i64 c.st.2.1, .int .i64 c.st.2.2, .slice A c.n cap, .int .i64 c.fi.1.1, .int .i64 c.fi.1.2, .int .i64 c.fi.2.1, .int .i64 c.fi.2.2] 36 g o c.n c.mf tg tO n f lg kx (.int .i64 (qq : Int)) wx) => (cells9 s.h.1.1.1.1).2.1
      have re2 := fun s : Held (fun wx => FiS w #[.int .i64 c.st.1.1, .int .i64 c.st.1.2, .int .i64 c.st.2.1, .int .i64 c.st.2.2, .slice A c.n cap, .int .i64 c.fi.1.1, .int .i64 c.fi.1.2, .int .i64 c.fi.2.1, .int .i64 c.fi.2.2] 36 g o c.n c.mf tg tO n f lg kx (.int .i64 (qq : Int)) wx) => (cells9 s.h.1.1.1.1).2.2.1
      have re3 := fun s : Held (fun wx => FiS w #[.int .i64 c.st.1.1, .int .i64 c.st.1.2, .int .i64 c.st.2.1, .int .i64 c.st.2.2, .slice A c.n cap, .int .i64 c.fi.1.1, .int .i64 c.fi.1.2, .int .i64 c.fi.2.1, .int .i64 c.fi.2.2] 36 g o c.n c.mf tg tO n f lg kx (.int .i64 (qq : Int)) wx) => (cells9 s.h.1.1.1.1).2.2.2.1
      have re4 := fun s : Held (fun wx => FiS w #[.int .i64 c.st.1.1, .int .i64 c.st.1.2, .int .i64 c.st.2.1, .int .i64 c.st.2.2, .slice A c.n cap, .int .i64 c.fi.1.1, .int .i64 c.fi.1.2, .int .i64 c.fi.2.1, .int .i64 c.fi.2.2] 36 g o c.n c.mf tg tO n f lg kx (.int .i64 (qq : Int)) wx) => (cells9 s.h.1.1.1.1).2.2.2.2.1
      have re5 := fun s : Held (fun wx => FiS w #[.int .i64 c.st.1.1, .int .i64 c.st.1.2, .int .i64 c.st.2.1, .int .i64 c.st.2.2, .slice A c.n cap, .int .i64 c.fi.1.1, .int .i64 c.fi.1.2, .int .i64 c.fi.2.1, .int .i64 c.fi.2.2] 36 g o c.n c.mf tg tO n f lg kx (.int .i64 (qq : Int)) wx) => (cells9 s.h.1.1.1.1).2.2.2.2.2.1
      have re6 := fun s : Held (fun wx => FiS w #[.int .i64 c.st.1.1, .int .i64 c.st.1.2, .int .i64 c.st.2.1, .int .i64 c.st.2.2, .slice A c.n cap, .int .i64 c.fi.1.1, .int .i64 c.fi.1.2, .int .i64 c.fi.2.1, .int .i64 c.fi.2.2] 36 g o c.n c.mf tg tO n f lg kx (.int .i64 (qq : Int)) wx) => (cells9 s.h.1.1.1.1).2.2.2.2.2.2.1
      have re7 := fun s : Held (fun wx => FiS w #[.int .i64 c.st.1.1, .int .i64 c.st.1.2, .int .i64 c.st.2.1, .int .i64 c.st.2.2, .slice A c.n cap, .int .i64 c.fi.1.1, .int .i64 c.fi.1.2, .int .i64 c.fi.2.1, .int .i64 c.fi.2.2] 36 g o c.n c.mf tg tO n f lg kx (.int .i64 (qq : Int)) wx) => (cells9 s.h.1.1.1.1).2.2.2.2.2.2.2.1
      have re8 := fun s : Held (fun wx => FiS w #[.int .i64 c.st.1.1, .int .i64 c.st.1.2, .int .i64 c.st.2.1, .int .i64 c.st.2.2, .slice A c.n cap, .int .i64 c.fi.1.1, .int .i64 c.fi.1.2, .int .i64 c.fi.2.1, .int .i64 c.fi.2.2] 36 g o c.n c.mf tg tO n f lg kx (.int .i64 (qq : Int)) wx) => (cells9 s.h.1.1.1.1).2.2.2.2.2.2.2.2
      clear hr HM hown hcell gm gl h0 h1 hkx hlg hc hTK hs2
      go_wp2
      haveI hne : Nonempty (Held (fun wx => FiS w #[.int .i64 c.st.1.1, .int .i64 c.st.1.2, .int .i64 c.st.2.1, .int .i64 c.st.2.2, .slice A c.n cap, .int .i64 c.fi.1.1, .int .i64 c.fi.1.2, .int .i64 c.fi.2.1, .int .i64 c.fi.2.2] 36 g o c.n c.mf tg tO n f lg kx (.int .i64 (qq : Int)) wx)) := ⟨⟨_, hst⟩⟩
      refine wp_region_class (fun wx => FiS w #[.int .i64 c.st.1.1, .int .i64 c.st.1.2, .int .i64 c.st.2.1, .int .i64 c.st.2.2, .slice A c.n cap, .int .i64 c.fi.1.1, .int .i64 c.fi.1.2, .int .i64 c.fi.2.1, .int .i64 c.fi.2.2] 36 g o c.n c.mf tg tO n f lg kx (.int .i64 (qq : Int)) wx) (by kernel_rfl) (by kernel_rfl) (FiS.drew hst) ?_
      repeat (go_big_quiet_step (first
        | (go_at_call 71; with_reducible exact held_call FiS.step (HX.out _))))
      refine wpQuiet_nil ?_
      intro wy hw'
      obtain ⟨⟨wq, hst6⟩, rfl⟩ := hw'
      (try dsimp only)
      go_wp2
      go_ret2
      exact ⟨rfl, hst6.1.below⟩
set_option maxRecDepth 100000 in
set_option maxHeartbeats 4000000 in
theorem i_ra (c : Crs) (A : Option Addr) (g o cap : Nat) (f : Nat → Sg) (TA : Option Addr) (tg tO n tcap : Nat) (gun : Int) (w : World) (hn : c.n ≤ 1048576) (hA : 0 < c.n → A = some ⟨g, o, none⟩) (hw : MksIn w g o c.n c.mf)
    (hm : n ≤ 1048576) (hT : 0 < n → TA = some ⟨tg, tO, none⟩) (hv : SigsIn w tg tO n f) (hcp : n ≤ tcap) :
    Calls Try.prog 41 #[.agg #[.int .i64 c.st.1.1, .int .i64 c.st.1.2, .int .i64 c.st.2.1, .int .i64 c.st.2.2, .slice A c.n cap, .int .i64 c.fi.1.1, .int .i64 c.fi.1.2, .int .i64 c.fi.2.1, .int .i64 c.fi.2.2], .slice TA n tcap, .int .i64 gun] w fun e w' => e = .returned (.tuple #[.int .i64 (raW c n f gun).1, .bool (raW c n f gun).2]) ∧ Below w.heap.size w w' := by
  have HC := Lib.hid (fun w (h : MksIn w g o c.n c.mf) => i_co c A g o cap w hn hA h)
  have HT := Lib.hid (fun w (h : SigsIn w tg tO n f) => i_tk f TA tg tO n tcap w hm hT h)
  have HB := Lib.hid (fun w => i_timeOkB gun (decide (0 ≤ gun ∧ gun ≤ 10000000)) w rfl)
  have hs := Lib.hid (CtS.new (c := #[.int .i64 c.st.1.1, .int .i64 c.st.1.2, .int .i64 c.st.2.1, .int .i64 c.st.2.2, .slice A c.n cap, .int .i64 c.fi.1.1, .int .i64 c.fi.1.2, .int .i64 c.fi.2.1, .int .i64 c.fi.2.2]) (ty := 36) hw hv)
  have hfb := fnW_bd c n f (sdFrom c.st f gun (n - 1) 0)
  have hno := @fn_none c n f (sdFrom c.st f gun (n - 1) 0)
  have hr : raW c n f gun = if raB c n f gun = true then (if sdFrom c.st f gun (n - 1) 0 < 0 then (0, false) else if (fnW c n f (sdFrom c.st f gun (n - 1) 0)).2 = true then ((fnW c n f (sdFrom c.st f gun (n - 1) 0)).1 - gun, true) else (0, false)) else (0, false) := rfl
  clear hw hv
  cases h1 : coB c
  · rw [show raW c n f gun = (0, false) by rw [hr]; unfold raB; rw [h1]; rfl]
    rw [h1] at HC
    clear hr h1 HT HB hfb hno
    go_enter Try.func41, Try.ntmps41
    obtain ⟨e0, e1, e2, e3, e4, e5, e6, e7, e8⟩ := cells9 hs.out.1.1.1
    go_wp2_with fail
    refine (HC.out _ hs.out.1.2).mono ?_
    rintro e w1 ⟨rfl, b⟩
    have hs' := Lib.hid (hs.out.step b)
    clear hs b e0 e1 e2 e3 e4 e5 e6 e7 e8
    have hs := hs'
    clear hs'
    obtain ⟨e0, e1, e2, e3, e4, e5, e6, e7, e8⟩ := cells9 hs.out.1.1.1
    go_wp2
    go_ret2
    exact ⟨rfl, hs.out.below⟩
  rw [h1] at HC
  cases h2 : tkB n f
  · rw [show raW c n f gun = (0, false) by rw [hr]; unfold raB; rw [h1, h2]; rfl]
    rw [h2] at HT
    clear hr h1 h2 HB hfb hno
    go_enter Try.func41, Try.ntmps41
    obtain ⟨e0, e1, e2, e3, e4, e5, e6, e7, e8⟩ := cells9 hs.out.1.1.1
    go_wp2_with fail
    refine (HC.out _ hs.out.1.2).mono ?_
    rintro e w1 ⟨rfl, b⟩
    have hs' := Lib.hid (hs.out.step b)
    clear hs b e0 e1 e2 e3 e4 e5 e6 e7 e8
    have hs := hs'
    clear hs'
    obtain ⟨e0, e1, e2, e3, e4, e5, e6, e7, e8⟩ := cells9 hs.out.1.1.1
    go_wp2_with fail
    refine (HT.out _ hs.out.2).mono ?_
    rintro e w2 ⟨rfl, b⟩
    have hs' := Lib.hid (hs.out.step b)
    clear hs b e0 e1 e2 e3 e4 e5 e6 e7 e8
    have hs := hs'
    clear hs'
    obtain ⟨e0, e1, e2, e3, e4, e5, e6, e7, e8⟩ := cells9 hs.out.1.1.1
    go_wp2
    go_ret2
    exact ⟨rfl, hs.out.below⟩
  rw [h2] at HT
  rcases (Decidable.em (0 ≤ gun ∧ gun ≤ 10000000)).symm with h3 | h3
  · rw [show raW c n f gun = (0, false) by rw [hr]; unfold raB; rw [h1, h2, decide_eq_false h3]; rfl]
    rw [decide_eq_false h3] at HB
    clear hr h1 h2 h3 hfb hno
    go_enter Try.func41, Try.ntmps41
    obtain ⟨e0, e1, e2, e3, e4, e5, e6, e7, e8⟩ := cells9 hs.out.1.1.1
    go_wp2_with fail
    refine (HC.out _ hs.out.1.2).mono ?_
    rintro e w1 ⟨rfl, b⟩
    have hs' := Lib.hid (hs.out.step b)
    clear hs b e0 e1 e2 e3 e4 e5 e6 e7 e8
    have hs := hs'
    clear hs'
    obtain ⟨e0, e1, e2, e3, e4, e5, e6, e7, e8⟩ := cells9 hs.out.1.1.1
    go_wp2_with fail
    refine (HT.out _ hs.out.2).mono ?_
    rintro e w2 ⟨rfl, b⟩
    have hs' := Lib.hid (hs.out.step b)
    clear hs b e0 e1 e2 e3 e4 e5 e6 e7 e8
    have hs := hs'
    clear hs'
    obtain ⟨e0, e1, e2, e3, e4, e5, e6, e7, e8⟩ := cells9 hs.out.1.1.1
    go_wp2_with fail
    refine (HB.out _).mono ?_
    rintro e w3 ⟨rfl, b⟩
    have hs' := Lib.hid (hs.out.step b)
    clear hs b e0 e1 e2 e3 e4 e5 e6 e7 e8
    have hs := hs'
    clear hs'
    obtain ⟨e0, e1, e2, e3, e4, e5, e6, e7, e8⟩ := cells9 hs.out.1.1.1
    go_wp2
    go_ret2
    exact ⟨rfl, hs.out.below⟩
  rw [decide_eq_true h3] at HB
  have HS := Lib.hid (fun s : Held (fun wx => CtS w #[.int .i64 c.st.1.1, .int .i64 c.st.1.2, .int .i64 c.st.2.1, .int .i64 c.st.2.2, .slice A c.n cap, .int .i64 c.fi.1.1, .int .i64 c.fi.1.2, .int .i64 c.fi.2.1, .int .i64 c.fi.2.2] 36 g o c.n c.mf tg tO n f wx) => i_started c.st f TA tg tO n tcap gun s.w hm hT s.h.2 hcp h2)
  have HFS := Lib.hid (fun s : Held (fun wx => CtS w #[.int .i64 c.st.1.1, .int .i64 c.st.1.2, .int .i64 c.st.2.1, .int .i64 c.st.2.2, .slice A c.n cap, .int .i64 c.fi.1.1, .int .i64 c.fi.1.2, .int .i64 c.fi.2.1, .int .i64 c.fi.2.2] 36 g o c.n c.mf tg tO n f wx) => i_fn c A g o cap f TA tg tO n tcap (sdFrom c.st f gun (n - 1) 0) s.w hn hA s.h.1.2 hm hT s.h.2 hcp)
  have hr2 : raW c n f gun = (if (fnW c n f (sdFrom c.st f gun (n - 1) 0)).2 = true then ((fnW c n f (sdFrom c.st f gun (n - 1) 0)).1 - gun, true) else (0, false)) := by
    rw [hr]; unfold raB; rw [h1, h2, decide_eq_true h3]
    by_cases h4 : sdFrom c.st f gun (n - 1) 0 < 0
    · rw [hno h4]; simp [h4]
    · simp [h4]
  clear hr h1 h2 hno hA hT
  generalize fnW c n f (sdFrom c.st f gun (n - 1) 0) = R at *
  generalize sdFrom c.st f gun (n - 1) 0 = i at *
  generalize raW c n f gun = Q at *
  obtain ⟨ft, fb⟩ := R
  dsimp only at *
  have re0 := fun s : Held (fun wx => CtS w #[.int .i64 c.st.1.1, .int .i64 c.st.1.2, .int .i64 c.st.2.1, .int .i64 c.st.2.2, .slice A c.n cap, .int .i64 c.fi.1.1, .int .i64 c.fi.1.2, .int .i64 c.fi.2.1, .int .i64 c.fi.2.2] 36 g o c.n c.mf tg tO n f wx) => (cells9 s.h.1.1.1).1
  have re1 := fun s : Held (fun wx => CtS w #[.int .i64 c.st.1.1, .int .i64 c.st.1.2, .int .i64 c.st.2.1, .int .i64 c.st.2.2, .slice A c.n cap, .int .i64 c.fi.1.1, .int .i64 c.fi.1.2, .int .i64 c.fi.2.1, .int .i64 c.fi.2.2] 36 g o c.n c.mf tg tO n f wx) => (cells9 s.h.1.1.1).2.1
  have re2 := fun s : Held (fun wx => CtS w #[.int .i64 c.st.1.1, .int .i64 c.st.1.2, .int .i64 c.st.2.1, .int .i64 c.st.2.2, .slice A c.n cap, .int .i64 c.fi.1.1, .int .i64 c.fi.1.2, .int .i64 c.fi.2.1, .int .i64 c.fi.2.2] 36 g o c.n c.mf tg tO n f wx) => (cells9 s.h.1.1.1).2.2.1
  have re3 := fun s : Held (fun wx => CtS w #[.int .i64 c.st.1.1, .int .i64 c.st.1.2, .int .i64 c.st.2.1, .int .i64 c.st.2.2, .slice A c.n cap, .int .i64 c.fi.1.1, .int .i64 c.fi.1.2, .int .i64 c.fi.2.1, .int .i64 c.fi.2.2] 36 g o c.n c.mf tg tO n f wx) => (cells9 s.h.1.1.1).2.2.2.1
  have re4 := fun s : Held (fun wx => CtS w #[.int .i64 c.st.1.1, .int .i64 c.st.1.2, .int .i64 c.st.2.1, .int .i64 c.st.2.2, .slice A c.n cap, .int .i64 c.fi.1.1, .int .i64 c.fi.1.2, .int .i64 c.fi.2.1, .int .i64 c.fi.2.2] 36 g o c.n c.mf tg tO n f wx) => (cells9 s.h.1.1.1).2.2.2.2.1
  have re5 := fun s : Held (fun wx => CtS w #[.int .i64 c.st.1.1, .int .i64 c.st.1.2, .int .i64 c.st.2.1, .int .i64 c.st.2.2, .slice A c.n cap, .int .i64 c.fi.1.1, .int .i64 c.fi.1.2, .int .i64 c.fi.2.1, .int .i64 c.fi.2.2] 36 g o c.n c.mf tg tO n f wx) => (cells9 s.h.1.1.1).2.2.2.2.2.1
  have re6 := fun s : Held (fun wx => CtS w #[.int .i64 c.st.1.1, .int .i64 c.st.1.2, .int .i64 c.st.2.1, .int .i64 c.st.2.2, .slice A c.n cap, .int .i64 c.fi.1.1, .int .i64 c.fi.1.2, .int .i64 c.fi.2.1, .int .i64 c.fi.2.2] 36 g o c.n c.mf tg tO n f wx) => (cells9 s.h.1.1.1).2.2.2.2.2.2.1
  have re7 := fun s : Held (fun wx => CtS w #[.int .i64 c.st.1.1, .int .i64 c.st.1.2, .int .i64 c.st.2.1, .int .i64 c.st.2.2, .slice A c.n cap, .int .i64 c.fi.1.1, .int .i64 c.fi.1.2, .int .i64 c.fi.2.1, .int .i64 c.fi.2.2] 36 g o c.n c.mf tg tO n f wx) => (cells9 s.h.1.1.1).2.2.2.2.2.2.2.1
  have re8 := fun s : Held (fun wx => CtS w #[.int .i64 c.st.1.1, .int .i64 c.st.1.2, .int .i64 c.st.2.1, .int .i64 c.st.2.2, .slice A c.n cap, .int .i64 c.fi.1.1, .int .i64 c.fi.1.2, .int .i64 c.fi.2.1, .int .i64 c.fi.2.2] 36 g o c.n c.mf tg tO n f wx) => (cells9 s.h.1.1.1).2.2.2.2.2.2.2.2
  cases fb
  · rw [if_neg (by simp)] at hr2
    subst hr2
    go_enter Try.func41, Try.ntmps41
    obtain ⟨e0, e1, e2, e3, e4, e5, e6, e7, e8⟩ := cells9 hs.out.1.1.1
    go_wp2_with fail
    refine (HC.out _ hs.out.1.2).mono ?_
    rintro e w1 ⟨rfl, b⟩
    have hs' := Lib.hid (hs.out.step b)
    clear hs b e0 e1 e2 e3 e4 e5 e6 e7 e8
    have hs := hs'
    clear hs'
    obtain ⟨e0, e1, e2, e3, e4, e5, e6, e7, e8⟩ := cells9 hs.out.1.1.1
    go_wp2_with fail
    refine (HT.out _ hs.out.2).mono ?_
    rintro e w2 ⟨rfl, b⟩
    have hs' := Lib.hid (hs.out.step b)
    clear hs b e0 e1 e2 e3 e4 e5 e6 e7 e8
    have hs := hs'
    clear hs'
    obtain ⟨e0, e1, e2, e3, e4, e5, e6, e7, e8⟩ := cells9 hs.out.1.1.1
    go_wp2_with fail
    refine (HB.out _).mono ?_
    rintro e w3 ⟨rfl, b⟩
    have hs' := Lib.hid (hs.out.step b)
    clear hs b e0 e1 e2 e3 e4 e5 e6 e7 e8
    have hs := hs'
    clear hs'
    have hst := hs.out
    haveI hne : Nonempty (Held (fun wx => CtS w #[.int .i64 c.st.1.1, .int .i64 c.st.1.2, .int .i64 c.st.2.1, .int .i64 c.st.2.2, .slice A c.n cap, .int .i64 c.fi.1.1, .int .i64 c.fi.1.2, .int .i64 c.fi.2.1, .int .i64 c.fi.2.2] 36 g o c.n c.mf tg tO n f wx)) := ⟨⟨_, hst⟩⟩
    go_wp2
    refine wp_region_class (fun wx => CtS w #[.int .i64 c.st.1.1, .int .i64 c.st.1.2, .int .i64 c.st.2.1, .int .i64 c.st.2.2, .slice A c.n cap, .int .i64 c.fi.1.1, .int .i64 c.fi.1.2, .int .i64 c.fi.2.1, .int .i64 c.fi.2.2] 36 g o c.n c.mf tg tO n f wx) (by kernel_rfl) (by kernel_rfl) (CtS.drew hst) ?_
    repeat (go_big_quiet_step (first
      | (go_at_call 74; with_reducible exact held_call CtS.step (HS.out _))
      | (go_at_call 39; with_reducible exact held_call CtS.step (HFS.out _))))
    refine wpQuiet_nil ?_
    intro wy hw'
    obtain ⟨⟨wq, hst6⟩, rfl⟩ := hw'
    (try dsimp only)
    go_wp2
    go_ret2
    exact ⟨rfl, hst6.below⟩
  · rw [if_pos rfl] at hr2
    subst hr2
    go_enter Try.func41, Try.ntmps41
    obtain ⟨e0, e1, e2, e3, e4, e5, e6, e7, e8⟩ := cells9 hs.out.1.1.1
    go_wp2_with fail
    refine (HC.out _ hs.out.1.2).mono ?_
    rintro e w1 ⟨rfl, b⟩
    have hs' := Lib.hid (hs.out.step b)
    clear hs b e0 e1 e2 e3 e4 e5 e6 e7 e8
    have hs := hs'
    clear hs'
    obtain ⟨e0, e1, e2, e3, e4, e5, e6, e7, e8⟩ := cells9 hs.out.1.1.1
    go_wp2_with fail
    refine (HT.out _ hs.out.2).mono ?_
    rintro e w2 ⟨rfl, b⟩
    have hs' := Lib.hid (hs.out.step b)
    clear hs b e0 e1 e2 e3 e4 e5 e6 e7 e8
    have hs := hs'
    clear hs'
    obtain ⟨e0, e1, e2, e3, e4, e5, e6, e7, e8⟩ := cells9 hs.out.1.1.1
    go_wp2_with fail
    refine (HB.out _).mono ?_
    rintro e w3 ⟨rfl, b⟩
    have hs' := Lib.hid (hs.out.step b)
    clear hs b e0 e1 e2 e3 e4 e5 e6 e7 e8
    have hs := hs'
    clear hs'
    have hst := hs.out
    haveI hne : Nonempty (Held (fun wx => CtS w #[.int .i64 c.st.1.1, .int .i64 c.st.1.2, .int .i64 c.st.2.1, .int .i64 c.st.2.2, .slice A c.n cap, .int .i64 c.fi.1.1, .int .i64 c.fi.1.2, .int .i64 c.fi.2.1, .int .i64 c.fi.2.2] 36 g o c.n c.mf tg tO n f wx)) := ⟨⟨_, hst⟩⟩
    go_wp2
    refine wp_region_class (fun wx => CtS w #[.int .i64 c.st.1.1, .int .i64 c.st.1.2, .int .i64 c.st.2.1, .int .i64 c.st.2.2, .slice A c.n cap, .int .i64 c.fi.1.1, .int .i64 c.fi.1.2, .int .i64 c.fi.2.1, .int .i64 c.fi.2.2] 36 g o c.n c.mf tg tO n f wx) (by kernel_rfl) (by kernel_rfl) (CtS.drew hst) ?_
    repeat (go_big_quiet_step (first
      | (go_at_call 74; with_reducible exact held_call CtS.step (HS.out _))
      | (go_at_call 39; with_reducible exact held_call CtS.step (HFS.out _))))
    refine wpQuiet_nil ?_
    intro wy hw'
    obtain ⟨⟨wq, hst6⟩, rfl⟩ := hw'
    (try dsimp only)
    go_wp2
    go_ret2
    exact ⟨rfl, hst6.below⟩
end Go.Proofs.Ythahakefmpajfaa

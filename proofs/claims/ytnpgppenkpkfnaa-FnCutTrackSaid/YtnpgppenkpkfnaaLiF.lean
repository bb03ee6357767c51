/- Early at the gun (spec): EarlyAt. -/
import Derived.Test.YtnpgppenkpkfnaaLiE
namespace Go.Proofs.Ytnpgppenkpkfnaa
open Go.RowKit
set_option linter.unusedVariables false
set_option linter.unusedSimpArgs false

/-- A step during which the gun falls, with the boat ahead of the line then. -/
def eaV (h k s t gun : Int) : Int := h * (t - gun) + k * (gun - s)
def eaHit (l : Ln) (f : Nat → Sg) (gun : Int) (k : Nat) : Bool := decide ((f k).2 ≤ gun ∧ gun ≤ (f (k + 1)).2) && decide (eaV (hgt l (f k).1) (hgt l (f (k + 1)).1) (f k).2 (f (k + 1)).2 gun < 0)
def eaFrom (l : Ln) (f : Nat → Sg) (gun : Int) : Nat → Nat → Bool
  | 0, _ => false
  | m + 1, k => if eaHit l f gun k = true then true else eaFrom l f gun m (k + 1)
noncomputable def eaR (l : Ln) (n : Nat) (f : Nat → Sg) (gun : Int) : Bool := if (liB l && tkB n f) = true then eaFrom l f gun (n - 1) 0 else false
theorem eaV_bd {h k s t gun : Int} (bh : -800000000 ≤ h ∧ h ≤ 800000000) (bk : -800000000 ≤ k ∧ k ≤ 800000000) (hs : 0 ≤ s) (ht : t ≤ 10000000) (g1 : s ≤ gun) (g2 : gun ≤ t) :
    (-(800000000 * 10000000) ≤ h * (t - gun) ∧ h * (t - gun) ≤ 800000000 * 10000000) ∧ (-(800000000 * 10000000) ≤ k * (gun - s) ∧ k * (gun - s) ≤ 800000000 * 10000000) :=
  ⟨mul_bdI bh.1 bh.2 (by omega) (by omega), mul_bdI bk.1 bk.2 (by omega) (by omega)⟩
/-- The copies of both sights stand, too. -/
def EaS (w : World) (c : Array Value) (ty : TypeId) (g o n : Nat) (f : Nat → Sg) (q : Nat) (c1 c2 : Array Value) (t2 : TypeId) (wr : World) : Prop :=
  LtS w c ty g o n f wr ∧ wr.heap[q]? = some (.cells c1 t2 (0, 0)) ∧ wr.heap[q + 1]? = some (.cells c2 t2 (0, 0))
theorem EaS.step {w w1 w2 : World} {c : Array Value} {ty : TypeId} {g o n : Nat} {f : Nat → Sg} {q : Nat} {c1 c2 : Array Value} {t2 : TypeId} (h : EaS w c ty g o n f q c1 c2 t2 w1) (b : Below w1.heap.size w1 w2) : EaS w c ty g o n f q c1 c2 t2 w2 :=
  ⟨h.1.step b, (b.block _ (heap_lt h.2.1)).trans h.2.1, (b.block _ (heap_lt h.2.2)).trans h.2.2⟩
theorem EaS.drew {w w1 : World} {c : Array Value} {ty : TypeId} {g o n : Nat} {f : Nat → Sg} {q : Nat} {c1 c2 : Array Value} {t2 : TypeId} (h : EaS w c ty g o n f q c1 c2 t2 w1) : EaS w c ty g o n f q c1 c2 t2 w1.drew := ⟨h.1.drew, h.2⟩
theorem EaS.new {w wr : World} {c : Array Value} {ty : TypeId} {g o n : Nat} {f : Nat → Sg} {c1 c2 : Array Value} {t2 : TypeId} (h : LtS w c ty g o n f wr) :
    EaS w c ty g o n f wr.heap.size c1 c2 t2 ((wr.alloc (.cells c1 t2)).alloc (.cells c2 t2)) := by
  have k := Bx2.new wr c1 t2 c2 t2
  exact ⟨h.step k.2.2, k.1, k.2.1⟩
set_option maxRecDepth 100000 in
set_option maxHeartbeats 2000000 in
theorem s_early (l : Ln) (f : Nat → Sg) (A : Option Addr) (g o n cap : Nat) (gun : Int) (w : World) (hn : n ≤ 1048576) (hA : 0 < n → A = some ⟨g, o, none⟩) (hw : SigsIn w g o n f) :
    Calls Try.prog 43 #[.agg #[.int .i64 l.1.1, .int .i64 l.1.2, .int .i64 l.2.1, .int .i64 l.2.2], .slice A n cap, .int .i64 gun] w
      fun e w' => e = .returned (.bool (eaR l n f gun)) ∧ Below w.heap.size w w' := by
  have HL := Lib.hid (fun w => s_liB l w)
  have HV := Lib.hid (fun (h : liB l = true) => liB_iff.1 h)
  have HB := Lib.hid (fun (h : liB l = true) p (hp : plB p = true) => hgt_bd (l := l) h hp)
  obtain ⟨⟨x1, x2⟩, x3, x4⟩ := l
  dsimp only at *
  have hst := Lib.hid (LtS.new (c := #[.int .i64 x1, .int .i64 x2, .int .i64 x3, .int .i64 x4]) (ty := 27) hw)
  have HT := Lib.hid (fun w' (h : SigsIn w' g o n f) => s_tk f A g o n cap w' hn hA h)
  have HTK := Lib.hid (fun (h : tkB n f = true) => tkB_iff.1 h)
  clear hw
  have hst0 := hst.out
  have c0 := (cells_ln hst0.1.1).1
  have c1 := (cells_ln hst0.1.1).2.1
  have c2 := (cells_ln hst0.1.1).2.2.1
  have c3 := (cells_ln hst0.1.1).2.2.2
  clear hst0
  cases hl : liB ((x1, x2), x3, x4)
  · rw [show eaR ((x1, x2), x3, x4) n f gun = false by unfold eaR; rw [hl]; rfl]
    rw [hl] at HL
    clear hl HV HB HT HTK
    go_enter Try.func43, Try.ntmps43
    go_wp2_with fail
    refine (HL.out _).mono ?_
    rintro e w1 ⟨rfl, b1⟩
    have hst1 := Lib.hid (hst.out.step b1)
    clear hst b1
    go_wp2
    go_ret
    exact ⟨rfl, hst1.out.below⟩
  have HLV := Lib.hid hl
  cases ht : tkB n f
  · rw [show eaR ((x1, x2), x3, x4) n f gun = false by unfold eaR; rw [hl, ht]; rfl]
    rw [hl] at HL
    rw [ht] at HT
    clear hl ht HV HB HTK HLV
    go_enter Try.func43, Try.ntmps43
    go_wp2_with fail
    refine (HL.out _).mono ?_
    rintro e w1 ⟨rfl, b1⟩
    have hst1 := Lib.hid (hst.out.step b1)
    clear hst b1
    go_wp2_with fail
    refine (HT.out _ hst1.out.2).mono ?_
    rintro e w2 ⟨rfl, b2⟩
    have hst2 := Lib.hid (hst1.out.step b2)
    clear hst1 b2
    go_wp2
    go_ret
    exact ⟨rfl, hst2.out.below⟩
  · have hR : eaR ((x1, x2), x3, x4) n f gun = eaFrom ((x1, x2), x3, x4) f gun (n - 1) 0 := by unfold eaR; rw [hl, ht]; rfl
    rw [hR]
    rw [hl] at HL
    rw [ht] at HT
    have HTV := Lib.hid (HTK.out ht)
    clear hR ht hl HTK
    obtain ⟨r, hr⟩ : ∃ r, eaFrom ((x1, x2), x3, x4) f gun (n - 1) 0 = r := ⟨_, rfl⟩
    rw [hr]
    go_enter Try.func43, Try.ntmps43
    go_wp2_with fail
    refine (HL.out _).mono ?_
    rintro e w1 ⟨rfl, b1⟩
    have hst1 := Lib.hid (hst.out.step b1)
    clear hst b1 c0 c1 c2 c3
    go_wp2_with fail
    refine (HT.out _ hst1.out.2).mono ?_
    rintro e w2 ⟨rfl, b2⟩
    have hst2 := Lib.hid (hst1.out.step b2)
    have HR0 := Lib.hid hr
    clear hst1 b2 hr HT
    go_wp2
    go_loopw [7, 8, 9] (fun i _ _ wr => ∃ k : Nat, (k ≤ n) ∧ i = .int .i64 k ∧ eaFrom ((x1, x2), x3, x4) f gun (n - 1 - k) k = r ∧ LtS w #[.int .i64 x1, .int .i64 x2, .int .i64 x3, .int .i64 x4] 27 g o n f wr) (fun i _ _ _ => n - (intOf i).toNat)
    case atStart => exact ⟨0, Nat.zero_le _, rfl, HR0.out, hst2.out⟩
    case round =>
      obtain ⟨k, hk, rfl, hrr, hst⟩ := hrel
      have HR := Lib.hid hrr
      clear hrr
      by_cases hlt : k + 1 < n
      · obtain rfl := hA (by omega)
        have z0 : (0 : Int) ≤ (k : Int) := by omega
        have z1' : (k : Int) < (n : Int) := by omega
        have z2' : (k : Int) + 1 < (n : Int) := by omega
        have z3' : (0 : Int) ≤ (k : Int) + 1 := by omega
        have z4 : ((k : Int) + 1).toNat = k + 1 := by omega
        have z5 : IntKind.i64.wrap ((k : Int) + 1) = (k : Int) + 1 := IntWalk.i64_in _ (by omega)
        obtain ⟨⟨⟨y1, y2⟩, y3⟩, hy⟩ : ∃ s, f k = s := ⟨_, rfl⟩
        obtain ⟨⟨⟨z1, z2⟩, z3⟩, hz⟩ : ∃ s, f (k + 1) = s := ⟨_, rfl⟩
        have HK := Lib.hid (And.intro hy hz)
        clear hy hz
        have d0 := (hst.2 k (by omega)).1
        have d1 := (hst.2 k (by omega)).2.1
        have d2 := (hst.2 k (by omega)).2.2
        rw [HK.out.1] at d0 d1 d2
        have d3 := ((hst.2.below ((Below.refl _ wr).alloc (Nat.le_refl _) (.cells #[.int .i64 y1, .int .i64 y2, .int .i64 y3] 29)) (Nat.le_refl _)) (k + 1) (by omega)).1
        have d4 := ((hst.2.below ((Below.refl _ wr).alloc (Nat.le_refl _) (.cells #[.int .i64 y1, .int .i64 y2, .int .i64 y3] 29)) (Nat.le_refl _)) (k + 1) (by omega)).2.1
        have d5 := ((hst.2.below ((Below.refl _ wr).alloc (Nat.le_refl _) (.cells #[.int .i64 y1, .int .i64 y2, .int .i64 y3] 29)) (Nat.le_refl _)) (k + 1) (by omega)).2.2
        rw [HK.out.2] at d3 d4 d5
        have vy : plB (y1, y2) = true := by have := (HTV.out.2 k (by omega)).1; rw [HK.out.1] at this; exact this
        have vz : plB (z1, z2) = true := by have := (HTV.out.2 (k + 1) (by omega)).1; rw [HK.out.2] at this; exact this
        have ty : 0 ≤ y3 := by have := (HTV.out.2 k (by omega)).2.1.1; rw [HK.out.1] at this; exact this
        have tz : z3 ≤ 10000000 := by have := (HTV.out.2 (k + 1) (by omega)).2.1.2; rw [HK.out.2] at this; exact this
        have HH := Lib.hid (fun w => s_hgt ((x1, x2), x3, x4) (y1, y2) w (HV.out HLV.out).1 (HV.out HLV.out).2.1 vy)
        have HG := Lib.hid (fun w => s_hgt ((x1, x2), x3, x4) (z1, z2) w (HV.out HLV.out).1 (HV.out HLV.out).2.1 vz)
        have bh := HB.out HLV.out _ vy
        have bk := HB.out HLV.out _ vz
        have e0 : eaFrom ((x1, x2), x3, x4) f gun (n - 1 - k) k = if eaHit ((x1, x2), x3, x4) f gun k = true then true else eaFrom ((x1, x2), x3, x4) f gun (n - 1 - (k + 1)) (k + 1) := by
          rw [show n - 1 - k = (n - 1 - (k + 1)) + 1 by omega]; rfl
        have e1 : eaHit ((x1, x2), x3, x4) f gun k = (decide ((f k).2 ≤ gun ∧ gun ≤ (f (k + 1)).2) && decide (eaV (hgt ((x1, x2), x3, x4) (f k).1) (hgt ((x1, x2), x3, x4) (f (k + 1)).1) (f k).2 (f (k + 1)).2 gun < 0)) := rfl
        rw [HK.out.1, HK.out.2] at e1
        dsimp only at e1 HH HG
        generalize hgt ((x1, x2), x3, x4) (y1, y2) = h at *
        generalize hgt ((x1, x2), x3, x4) (z1, z2) = h' at *
        have hs8 := EaS.new (c1 := #[.int .i64 y1, .int .i64 y2, .int .i64 y3]) (c2 := #[.int .i64 z1, .int .i64 z2, .int .i64 z3]) (t2 := 29) hst
        have l0 := fun s : Held (fun wx => EaS w #[.int .i64 x1, .int .i64 x2, .int .i64 x3, .int .i64 x4] 27 g o n f wr.heap.size #[.int .i64 y1, .int .i64 y2, .int .i64 y3] #[.int .i64 z1, .int .i64 z2, .int .i64 z3] 29 wx) => (cells_ln s.h.1.1.1).1
        have l1 := fun s : Held (fun wx => EaS w #[.int .i64 x1, .int .i64 x2, .int .i64 x3, .int .i64 x4] 27 g o n f wr.heap.size #[.int .i64 y1, .int .i64 y2, .int .i64 y3] #[.int .i64 z1, .int .i64 z2, .int .i64 z3] 29 wx) => (cells_ln s.h.1.1.1).2.1
        have l2 := fun s : Held (fun wx => EaS w #[.int .i64 x1, .int .i64 x2, .int .i64 x3, .int .i64 x4] 27 g o n f wr.heap.size #[.int .i64 y1, .int .i64 y2, .int .i64 y3] #[.int .i64 z1, .int .i64 z2, .int .i64 z3] 29 wx) => (cells_ln s.h.1.1.1).2.2.1
        have l3 := fun s : Held (fun wx => EaS w #[.int .i64 x1, .int .i64 x2, .int .i64 x3, .int .i64 x4] 27 g o n f wr.heap.size #[.int .i64 y1, .int .i64 y2, .int .i64 y3] #[.int .i64 z1, .int .i64 z2, .int .i64 z3] 29 wx) => (cells_ln s.h.1.1.1).2.2.2
        have p0 := fun s : Held (fun wx => EaS w #[.int .i64 x1, .int .i64 x2, .int .i64 x3, .int .i64 x4] 27 g o n f wr.heap.size #[.int .i64 y1, .int .i64 y2, .int .i64 y3] #[.int .i64 z1, .int .i64 z2, .int .i64 z3] 29 wx) => (cells_sg s.h.2.1).1
        have p1 := fun s : Held (fun wx => EaS w #[.int .i64 x1, .int .i64 x2, .int .i64 x3, .int .i64 x4] 27 g o n f wr.heap.size #[.int .i64 y1, .int .i64 y2, .int .i64 y3] #[.int .i64 z1, .int .i64 z2, .int .i64 z3] 29 wx) => (cells_sg s.h.2.1).2.1
        have p2 := fun s : Held (fun wx => EaS w #[.int .i64 x1, .int .i64 x2, .int .i64 x3, .int .i64 x4] 27 g o n f wr.heap.size #[.int .i64 y1, .int .i64 y2, .int .i64 y3] #[.int .i64 z1, .int .i64 z2, .int .i64 z3] 29 wx) => (cells_sg s.h.2.1).2.2
        have p3 := fun s : Held (fun wx => EaS w #[.int .i64 x1, .int .i64 x2, .int .i64 x3, .int .i64 x4] 27 g o n f wr.heap.size #[.int .i64 y1, .int .i64 y2, .int .i64 y3] #[.int .i64 z1, .int .i64 z2, .int .i64 z3] 29 wx) => (cells_sg s.h.2.2).1
        have p4 := fun s : Held (fun wx => EaS w #[.int .i64 x1, .int .i64 x2, .int .i64 x3, .int .i64 x4] 27 g o n f wr.heap.size #[.int .i64 y1, .int .i64 y2, .int .i64 y3] #[.int .i64 z1, .int .i64 z2, .int .i64 z3] 29 wx) => (cells_sg s.h.2.2).2.1
        have p5 := fun s : Held (fun wx => EaS w #[.int .i64 x1, .int .i64 x2, .int .i64 x3, .int .i64 x4] 27 g o n f wr.heap.size #[.int .i64 y1, .int .i64 y2, .int .i64 y3] #[.int .i64 z1, .int .i64 z2, .int .i64 z3] 29 wx) => (cells_sg s.h.2.2).2.2
        clear vy vz
        by_cases hin : y3 ≤ gun ∧ gun ≤ z3
        · have HI := Lib.hid (fun w => s_inW gun y3 z3 true w (by rw [eq_comm]; exact decide_eq_true hin))
          obtain ⟨m1, m2⟩ := eaV_bd bh bk ty tz hin.1 hin.2
          have w1 : IntKind.i64.wrap (z3 - gun) = z3 - gun := IntWalk.i64_in _ (by omega)
          have w2 : IntKind.i64.wrap (h * (z3 - gun)) = h * (z3 - gun) := IntWalk.i64_in _ (by omega)
          have w3 : IntKind.i64.wrap (gun - y3) = gun - y3 := IntWalk.i64_in _ (by omega)
          have w4 : IntKind.i64.wrap (h' * (gun - y3)) = h' * (gun - y3) := IntWalk.i64_in _ (by omega)
          have w5 : IntKind.i64.wrap (h * (z3 - gun) + h' * (gun - y3)) = h * (z3 - gun) + h' * (gun - y3) := IntWalk.i64_in _ (by omega)
          by_cases hneg : h * (z3 - gun) + h' * (gun - y3) < 0
          · have HN := Lib.hid (show true = r by rw [← HR.out, e0, e1]; unfold eaV; rw [decide_eq_true hin, decide_eq_true hneg]; rfl)
            obtain rfl := HN.out
            have hd : decide (h * (z3 - gun) + h' * (gun - y3) < 0) = true := decide_eq_true hneg
            clear e0 e1 HN
            go_wp2
            haveI hne : Nonempty (Held fun wx => EaS w #[.int .i64 x1, .int .i64 x2, .int .i64 x3, .int .i64 x4] 27 g o n f wr.heap.size #[.int .i64 y1, .int .i64 y2, .int .i64 y3] #[.int .i64 z1, .int .i64 z2, .int .i64 z3] 29 wx) := ⟨⟨_, hs8⟩⟩
            refine wp_region_class (fun wx => EaS w #[.int .i64 x1, .int .i64 x2, .int .i64 x3, .int .i64 x4] 27 g o n f wr.heap.size #[.int .i64 y1, .int .i64 y2, .int .i64 y3] #[.int .i64 z1, .int .i64 z2, .int .i64 z3] 29 wx) (by kernel_rfl) (by kernel_rfl) (EaS.drew hs8) ?_
            repeat (go_big_quiet_step (first
              | (go_at_call 52; with_reducible exact held_call EaS.step (HI.out _))
              | (go_at_call 59; with_reducible exact held_call EaS.step (HH.out _))
              | (go_at_call 59; with_reducible exact held_call EaS.step (HG.out _))))
            refine wpQuiet_nil ?_
            intro _ hw'
            obtain ⟨⟨wq, hst8⟩, rfl⟩ := hw'
            (try dsimp only)
            go_wp2
            go_ret
            exact ⟨rfl, hst8.1.below⟩
          · have HN := Lib.hid (show eaFrom ((x1, x2), x3, x4) f gun (n - 1 - (k + 1)) (k + 1) = r by rw [← HR.out, e0, e1]; unfold eaV; rw [decide_eq_true hin, decide_eq_false hneg]; rfl)
            have hd : decide (h * (z3 - gun) + h' * (gun - y3) < 0) = false := decide_eq_false hneg
            clear e0 e1
            go_wp2
            haveI hne : Nonempty (Held fun wx => EaS w #[.int .i64 x1, .int .i64 x2, .int .i64 x3, .int .i64 x4] 27 g o n f wr.heap.size #[.int .i64 y1, .int .i64 y2, .int .i64 y3] #[.int .i64 z1, .int .i64 z2, .int .i64 z3] 29 wx) := ⟨⟨_, hs8⟩⟩
            refine wp_region_class (fun wx => EaS w #[.int .i64 x1, .int .i64 x2, .int .i64 x3, .int .i64 x4] 27 g o n f wr.heap.size #[.int .i64 y1, .int .i64 y2, .int .i64 y3] #[.int .i64 z1, .int .i64 z2, .int .i64 z3] 29 wx) (by kernel_rfl) (by kernel_rfl) (EaS.drew hs8) ?_
            repeat (go_big_quiet_step (first
              | (go_at_call 52; with_reducible exact held_call EaS.step (HI.out _))
              | (go_at_call 59; with_reducible exact held_call EaS.step (HH.out _))
              | (go_at_call 59; with_reducible exact held_call EaS.step (HG.out _))))
            refine wpQuiet_nil ?_
            intro _ hw'
            obtain ⟨⟨wq, hst8⟩, rfl⟩ := hw'
            (try dsimp only)
            all_goals
              go_wp2_with fail
              go_roundw
              case rel => exact ⟨k + 1, by omega, by go_num, HN.out, hst8.1⟩
              case measure => simp [intOf]; omega
        · have HI := Lib.hid (fun w => s_inW gun y3 z3 false w (by rw [eq_comm]; exact decide_eq_false hin))
          have HN := Lib.hid (show eaFrom ((x1, x2), x3, x4) f gun (n - 1 - (k + 1)) (k + 1) = r by rw [← HR.out, e0, e1, decide_eq_false hin]; rfl)
          clear e0 e1 hin
          go_wp2
          haveI hne : Nonempty (Held fun wx => EaS w #[.int .i64 x1, .int .i64 x2, .int .i64 x3, .int .i64 x4] 27 g o n f wr.heap.size #[.int .i64 y1, .int .i64 y2, .int .i64 y3] #[.int .i64 z1, .int .i64 z2, .int .i64 z3] 29 wx) := ⟨⟨_, hs8⟩⟩
          refine wp_region_class (fun wx => EaS w #[.int .i64 x1, .int .i64 x2, .int .i64 x3, .int .i64 x4] 27 g o n f wr.heap.size #[.int .i64 y1, .int .i64 y2, .int .i64 y3] #[.int .i64 z1, .int .i64 z2, .int .i64 z3] 29 wx) (by kernel_rfl) (by kernel_rfl) (EaS.drew hs8) ?_
          repeat (go_big_quiet_step (first
            | (go_at_call 52; with_reducible exact held_call EaS.step (HI.out _))
            | (go_at_call 59; with_reducible exact held_call EaS.step (HH.out _))
            | (go_at_call 59; with_reducible exact held_call EaS.step (HG.out _))))
          refine wpQuiet_nil ?_
          intro _ hw'
          obtain ⟨⟨wq, hst8⟩, rfl⟩ := hw'
          (try dsimp only)
          all_goals
            go_wp2_with fail
            go_roundw
            case rel => exact ⟨k + 1, by omega, by go_num, HN.out, hst8.1⟩
            case measure => simp [intOf]; omega
      · have HN := Lib.hid (show false = r by rw [← HR.out, show n - 1 - k = 0 by omega]; rfl)
        obtain rfl := HN.out
        have z2' : ¬ (k : Int) + 1 < (n : Int) := by omega
        have z5 : IntKind.i64.wrap ((k : Int) + 1) = (k : Int) + 1 := IntWalk.i64_in _ (by omega)
        go_wp2
        go_ret
        exact ⟨rfl, hst.below⟩
end Go.Proofs.Ytnpgppenkpkfnaa

/- Early (impl): EarlyAt. -/
import Derived.Test.YtnpgppenkpkfnaaLjH
namespace Go.Proofs.Ytnpgppenkpkfnaa
open Go.RowKit
set_option linter.unusedVariables false
set_option linter.unusedSimpArgs false

set_option maxRecDepth 100000 in
set_option maxHeartbeats 4000000 in
theorem i_early (l : Ln) (f : Nat → Sg) (A : Option Addr) (g o n cap : Nat) (gun : Int) (w : World) (hn : n ≤ 1048576) (hA : 0 < n → A = some ⟨g, o, none⟩) (hw : SigsIn w g o n f) :
    Calls Try.prog 24 #[.agg #[.int .i64 l.1.1, .int .i64 l.1.2, .int .i64 l.2.1, .int .i64 l.2.2], .slice A n cap, .int .i64 gun] w
      fun e w' => e = .returned (.bool (eaR l n f gun)) ∧ Below w.heap.size w w' := by
  have HL := Lib.hid (fun w => i_liB l w)
  obtain ⟨⟨x1, x2⟩, x3, x4⟩ := l
  dsimp only at *
  have hst := Lib.hid (LtS.new (c := #[.int .i64 x1, .int .i64 x2, .int .i64 x3, .int .i64 x4]) (ty := 27) hw)
  have HT := Lib.hid (fun w' (h : SigsIn w' g o n f) => i_tk f A g o n cap w' hn hA h)
  have HTK := Lib.hid (fun (h : tkB n f = true) => tkB_iff.1 h)
  clear hw
  have hst0 := hst.out
  have c0 := (cells_ln hst0.1.1).1
  have c1 := (cells_ln hst0.1.1).2.1
  have c2 := (cells_ln hst0.1.1).2.2.1
  have c3 := (cells_ln hst0.1.1).2.2.2
  clear hst0
  cases hl : liB ((x1, x2), x3, x4)
  · rw [show eaR ((x1, x2), x3, x4) n f gun = false by unfold eaR; rw [hl]; rfl]
    rw [hl] at HL
    clear hl HT HTK
    go_enter Try.func24, Try.ntmps24
    go_wp2_with fail
    refine wp_scope_on 0 (by rfl) ?_
    go_wp2_with fail
    refine (HL.out _).mono ?_
    rintro e w1 ⟨rfl, b1⟩
    have hst1 := Lib.hid (hst.out.step b1)
    clear hst b1 c0 c1 c2 c3
    go_wp2
    refine wp_goto (And.intro rfl ?_)
    show Go.Code.wp _ _ _ _ _
    go_wp2
    rw [Exit.noGoto_ret]
    go_ret
    exact ⟨rfl, hst1.out.below⟩
  have HLV := Lib.hid hl
  cases ht : tkB n f
  · rw [show eaR ((x1, x2), x3, x4) n f gun = false by unfold eaR; rw [hl, ht]; rfl]
    rw [hl] at HL
    rw [ht] at HT
    clear hl ht HTK HLV
    go_enter Try.func24, Try.ntmps24
    go_wp2_with fail
    refine wp_scope_on 0 (by rfl) ?_
    go_wp2_with fail
    refine (HL.out _).mono ?_
    rintro e w1 ⟨rfl, b1⟩
    have hst1 := Lib.hid (hst.out.step b1)
    clear hst b1 c0 c1 c2 c3
    go_wp2_with fail
    refine (HT.out _ hst1.out.2).mono ?_
    rintro e w2 ⟨rfl, b2⟩
    have hst2 := Lib.hid (hst1.out.step b2)
    clear hst1 b2
    go_wp2
    refine wp_goto (And.intro rfl ?_)
    show Go.Code.wp _ _ _ _ _
    go_wp2
    rw [Exit.noGoto_ret]
    go_ret
    exact ⟨rfl, hst2.out.below⟩
  · have hR : eaR ((x1, x2), x3, x4) n f gun = eaFrom ((x1, x2), x3, x4) f gun (n - 1) 0 := by unfold eaR; rw [hl, ht]; rfl
    rw [hR]
    rw [hl] at HL
    rw [ht] at HT
    have HTV := Lib.hid (HTK.out ht)
    clear hR ht hl HTK
    obtain ⟨r, hr⟩ : ∃ r, eaFrom ((x1, x2), x3, x4) f gun (n - 1) 0 = r := ⟨_, rfl⟩
    rw [hr]
    go_enter Try.func24, Try.ntmps24
    go_wp2_with fail
    refine wp_scope_on 0 (by rfl) ?_
    go_wp2_with fail
    refine (HL.out _).mono ?_
    rintro e w1 ⟨rfl, b1⟩
    have hst1 := Lib.hid (hst.out.step b1)
    clear hst b1 c0 c1 c2 c3
    go_wp2_with fail
    refine (HT.out _ hst1.out.2).mono ?_
    rintro e w2 ⟨rfl, b2⟩
    have hst2 := Lib.hid (hst1.out.step b2)
    have HR0 := Lib.hid hr
    clear hst1 b2 hr HT
    go_wp2
    go_loopw [7, 8, 9, 21] (fun _ _ _ i wr => ∃ k : Nat, (k ≤ n) ∧ i = .int .i64 k ∧ eaFrom ((x1, x2), x3, x4) f gun (n - 1 - k) k = r ∧ LtS w #[.int .i64 x1, .int .i64 x2, .int .i64 x3, .int .i64 x4] 27 g o n f wr) (fun _ _ _ i _ => n - (intOf i).toNat)
    case atStart => exact ⟨0, Nat.zero_le _, rfl, HR0.out, hst2.out⟩
    case round =>
      obtain ⟨k, hk, rfl, hrr, hst⟩ := hrel
      have HR := Lib.hid hrr
      clear hrr
      by_cases hlt : k + 1 < n
      · obtain rfl := hA (by omega)
        have z0 : (0 : Int) ≤ (k : Int) := by omega
        have z1' : (k : Int) < (n : Int) := by omega
        have z2' : (k : Int) + 1 < (n : Int) := by omega
        have z3' : (0 : Int) ≤ (k : Int) + 1 := by omega
        have z4 : ((k : Int) + 1).toNat = k + 1 := by omega
        have z5 : IntKind.i64.wrap ((k : Int) + 1) = (k : Int) + 1 := IntWalk.i64_in _ (by omega)
        have z6 : (k : Int) < (n : Int) - 1 := by omega
        obtain ⟨⟨⟨y1, y2⟩, y3⟩, hy⟩ : ∃ s, f k = s := ⟨_, rfl⟩
        obtain ⟨⟨⟨z1, z2⟩, z3⟩, hz⟩ : ∃ s, f (k + 1) = s := ⟨_, rfl⟩
        have HK := Lib.hid (And.intro hy hz)
        clear hy hz
        have hg : g < wr.heap.size := hst.2.lt (by omega)
        have d0 : wr.cell? ⟨g, o + k * 3, none⟩ = some (.int .i64 y1) := by have := (hst.2 k (by omega)).1; rw [HK.out.1] at this; exact this
        have u0 : ∀ O, (wr.alloc O).cell? ⟨g, o + k * 3, none⟩ = some (.int .i64 y1) := fun O => (Below.cell ((Below.refl _ wr).alloc (Nat.le_refl _) O) hg).trans d0
        have v0 : ∀ O O', ((wr.alloc O).alloc O').cell? ⟨g, o + k * 3, none⟩ = some (.int .i64 y1) := fun O O' => (Below.cell (((Below.refl _ wr).alloc (Nat.le_refl _) O).alloc (by simp) O') hg).trans d0
        have d1 : wr.cell? ⟨g, o + k * 3 + 1, none⟩ = some (.int .i64 y2) := by have := (hst.2 k (by omega)).2.1; rw [HK.out.1] at this; exact this
        have u1 : ∀ O, (wr.alloc O).cell? ⟨g, o + k * 3 + 1, none⟩ = some (.int .i64 y2) := fun O => (Below.cell ((Below.refl _ wr).alloc (Nat.le_refl _) O) hg).trans d1
        have v1 : ∀ O O', ((wr.alloc O).alloc O').cell? ⟨g, o + k * 3 + 1, none⟩ = some (.int .i64 y2) := fun O O' => (Below.cell (((Below.refl _ wr).alloc (Nat.le_refl _) O).alloc (by simp) O') hg).trans d1
        have d2 : wr.cell? ⟨g, o + k * 3 + 2, none⟩ = some (.int .i64 y3) := by have := (hst.2 k (by omega)).2.2; rw [HK.out.1] at this; exact this
        have u2 : ∀ O, (wr.alloc O).cell? ⟨g, o + k * 3 + 2, none⟩ = some (.int .i64 y3) := fun O => (Below.cell ((Below.refl _ wr).alloc (Nat.le_refl _) O) hg).trans d2
        have v2 : ∀ O O', ((wr.alloc O).alloc O').cell? ⟨g, o + k * 3 + 2, none⟩ = some (.int .i64 y3) := fun O O' => (Below.cell (((Below.refl _ wr).alloc (Nat.le_refl _) O).alloc (by simp) O') hg).trans d2
        have d3 : wr.cell? ⟨g, o + (k + 1) * 3, none⟩ = some (.int .i64 z1) := by have := (hst.2 (k + 1) (by omega)).1; rw [HK.out.2] at this; exact this
        have u3 : ∀ O, (wr.alloc O).cell? ⟨g, o + (k + 1) * 3, none⟩ = some (.int .i64 z1) := fun O => (Below.cell ((Below.refl _ wr).alloc (Nat.le_refl _) O) hg).trans d3
        have v3 : ∀ O O', ((wr.alloc O).alloc O').cell? ⟨g, o + (k + 1) * 3, none⟩ = some (.int .i64 z1) := fun O O' => (Below.cell (((Below.refl _ wr).alloc (Nat.le_refl _) O).alloc (by simp) O') hg).trans d3
        have d4 : wr.cell? ⟨g, o + (k + 1) * 3 + 1, none⟩ = some (.int .i64 z2) := by have := (hst.2 (k + 1) (by omega)).2.1; rw [HK.out.2] at this; exact this
        have u4 : ∀ O, (wr.alloc O).cell? ⟨g, o + (k + 1) * 3 + 1, none⟩ = some (.int .i64 z2) := fun O => (Below.cell ((Below.refl _ wr).alloc (Nat.le_refl _) O) hg).trans d4
        have v4 : ∀ O O', ((wr.alloc O).alloc O').cell? ⟨g, o + (k + 1) * 3 + 1, none⟩ = some (.int .i64 z2) := fun O O' => (Below.cell (((Below.refl _ wr).alloc (Nat.le_refl _) O).alloc (by simp) O') hg).trans d4
        have d5 : wr.cell? ⟨g, o + (k + 1) * 3 + 2, none⟩ = some (.int .i64 z3) := by have := (hst.2 (k + 1) (by omega)).2.2; rw [HK.out.2] at this; exact this
        have u5 : ∀ O, (wr.alloc O).cell? ⟨g, o + (k + 1) * 3 + 2, none⟩ = some (.int .i64 z3) := fun O => (Below.cell ((Below.refl _ wr).alloc (Nat.le_refl _) O) hg).trans d5
        have v5 : ∀ O O', ((wr.alloc O).alloc O').cell? ⟨g, o + (k + 1) * 3 + 2, none⟩ = some (.int .i64 z3) := fun O O' => (Below.cell (((Below.refl _ wr).alloc (Nat.le_refl _) O).alloc (by simp) O') hg).trans d5
        have vy : plB (y1, y2) = true := by have := (HTV.out.2 k (by omega)).1; rw [HK.out.1] at this; exact this
        have vz : plB (z1, z2) = true := by have := (HTV.out.2 (k + 1) (by omega)).1; rw [HK.out.2] at this; exact this
        have ty : 0 ≤ y3 := by have := (HTV.out.2 k (by omega)).2.1.1; rw [HK.out.1] at this; exact this
        have tz : z3 ≤ 10000000 := by have := (HTV.out.2 (k + 1) (by omega)).2.1.2; rw [HK.out.2] at this; exact this
        have HH := Lib.hid (fun (g1 : y3 ≤ gun) (g2 : gun ≤ z3) w => i_ahead ((x1, x2), x3, x4) ((y1, y2), y3) ((z1, z2), z3) gun w HLV.out vy vz ty tz g1 g2)
        have e0 : eaFrom ((x1, x2), x3, x4) f gun (n - 1 - k) k = if eaHit ((x1, x2), x3, x4) f gun k = true then true else eaFrom ((x1, x2), x3, x4) f gun (n - 1 - (k + 1)) (k + 1) := by
          rw [show n - 1 - k = (n - 1 - (k + 1)) + 1 by omega]; rfl
        have e1 : eaHit ((x1, x2), x3, x4) f gun k = (decide ((f k).2 ≤ gun ∧ gun ≤ (f (k + 1)).2) && decide (eaV (hgt ((x1, x2), x3, x4) (f k).1) (hgt ((x1, x2), x3, x4) (f (k + 1)).1) (f k).2 (f (k + 1)).2 gun < 0)) := rfl
        rw [HK.out.1, HK.out.2] at e1
        dsimp only at e1 HH
        generalize decide (eaV (hgt ((x1, x2), x3, x4) (y1, y2)) (hgt ((x1, x2), x3, x4) (z1, z2)) y3 z3 gun < 0) = d at *
        clear vy vz ty tz
        have hq : (¬ y3 ≤ gun) ∨ (y3 ≤ gun ∧ ¬ gun ≤ z3) ∨ (y3 ≤ gun ∧ gun ≤ z3) := by omega
        rcases hq with h1 | ⟨h1, h2⟩ | ⟨h1, h2⟩
        · have HN := Lib.hid (show eaFrom ((x1, x2), x3, x4) f gun (n - 1 - (k + 1)) (k + 1) = r by rw [← HR.out, e0, e1]; simp [h1])
          clear e0 e1 HH
          go_wp2
          go_region
          all_goals
            first
              | (show Exit.then _ _ _ _ (World.drew (World.alloc (World.alloc wr (.cells #[.int .i64 y1, .int .i64 y2, .int .i64 y3] 29)) (.cells #[.int .i64 z1, .int .i64 z2, .int .i64 z3] 29))); have hs := Lib.hid (EaP.new1 hst #[.int .i64 y1, .int .i64 y2, .int .i64 y3] #[.int .i64 z1, .int .i64 z2, .int .i64 z3] 29); generalize hW : World.drew (World.alloc (World.alloc wr (.cells #[.int .i64 y1, .int .i64 y2, .int .i64 y3] 29)) _) = W at *)
              | (show Exit.then _ _ _ _ (World.drew (World.alloc (World.alloc wr (.cells #[.int .i64 z1, .int .i64 z2, .int .i64 z3] 29)) (.cells #[.int .i64 y1, .int .i64 y2, .int .i64 y3] 29))); have hs := Lib.hid (EaP.new2 hst #[.int .i64 y1, .int .i64 y2, .int .i64 y3] #[.int .i64 z1, .int .i64 z2, .int .i64 z3] 29); generalize hW : World.drew (World.alloc (World.alloc wr (.cells #[.int .i64 z1, .int .i64 z2, .int .i64 z3] 29)) _) = W at *)
            clear hW hst
            clear d0 u0 v0 d1 u1 v1 d2 u2 v2 d3 u3 v3 d4 u4 v4 d5 u5 v5 hg
            have q0 := cells_ln hs.out.1.1.1
            obtain ⟨c00, c01, c02, c03⟩ := q0
            have q1 := cells_sg hs.out.2.1
            obtain ⟨c10, c11, c12⟩ := q1
            have q2 := cells_sg hs.out.2.2
            obtain ⟨c20, c21, c22⟩ := q2
            go_wp2_with fail
            go_roundw
            case rel => exact ⟨k + 1, by omega, by go_num, HN.out, hs.out.1⟩
            case measure => simp [intOf]; omega
        · have HN := Lib.hid (show eaFrom ((x1, x2), x3, x4) f gun (n - 1 - (k + 1)) (k + 1) = r by rw [← HR.out, e0, e1]; simp [h2])
          have h3 : decide (gun ≤ z3) = false := decide_eq_false h2
          clear e0 e1 HH
          go_wp2
          go_region
          all_goals
            first
              | (show Exit.then _ _ _ _ (World.drew (World.alloc (World.alloc wr (.cells #[.int .i64 y1, .int .i64 y2, .int .i64 y3] 29)) (.cells #[.int .i64 z1, .int .i64 z2, .int .i64 z3] 29))); have hs := Lib.hid (EaP.new1 hst #[.int .i64 y1, .int .i64 y2, .int .i64 y3] #[.int .i64 z1, .int .i64 z2, .int .i64 z3] 29); generalize hW : World.drew (World.alloc (World.alloc wr (.cells #[.int .i64 y1, .int .i64 y2, .int .i64 y3] 29)) _) = W at *)
              | (show Exit.then _ _ _ _ (World.drew (World.alloc (World.alloc wr (.cells #[.int .i64 z1, .int .i64 z2, .int .i64 z3] 29)) (.cells #[.int .i64 y1, .int .i64 y2, .int .i64 y3] 29))); have hs := Lib.hid (EaP.new2 hst #[.int .i64 y1, .int .i64 y2, .int .i64 y3] #[.int .i64 z1, .int .i64 z2, .int .i64 z3] 29); generalize hW : World.drew (World.alloc (World.alloc wr (.cells #[.int .i64 z1, .int .i64 z2, .int .i64 z3] 29)) _) = W at *)
            clear hW hst
            clear d0 u0 v0 d1 u1 v1 d2 u2 v2 d3 u3 v3 d4 u4 v4 d5 u5 v5 hg
            have q0 := cells_ln hs.out.1.1.1
            obtain ⟨c00, c01, c02, c03⟩ := q0
            have q1 := cells_sg hs.out.2.1
            obtain ⟨c10, c11, c12⟩ := q1
            have q2 := cells_sg hs.out.2.2
            obtain ⟨c20, c21, c22⟩ := q2
            go_wp2_with fail
            go_roundw
            case rel => exact ⟨k + 1, by omega, by go_num, HN.out, hs.out.1⟩
            case measure => simp [intOf]; omega
        · have HB := Lib.hid (HH.out h1 h2)
          have h3 : decide (gun ≤ z3) = true := decide_eq_true h2
          cases d
          · have HN := Lib.hid (show eaFrom ((x1, x2), x3, x4) f gun (n - 1 - (k + 1)) (k + 1) = r by rw [← HR.out, e0, e1]; simp)
            clear e0 e1 HH
            go_wp2
            go_region
            all_goals
              first
                | (show Exit.then _ _ _ _ (World.drew (World.alloc (World.alloc wr (.cells #[.int .i64 y1, .int .i64 y2, .int .i64 y3] 29)) (.cells #[.int .i64 z1, .int .i64 z2, .int .i64 z3] 29))); have hs := Lib.hid (EaP.new1 hst #[.int .i64 y1, .int .i64 y2, .int .i64 y3] #[.int .i64 z1, .int .i64 z2, .int .i64 z3] 29); generalize hW : World.drew (World.alloc (World.alloc wr (.cells #[.int .i64 y1, .int .i64 y2, .int .i64 y3] 29)) _) = W at *)
                | (show Exit.then _ _ _ _ (World.drew (World.alloc (World.alloc wr (.cells #[.int .i64 z1, .int .i64 z2, .int .i64 z3] 29)) (.cells #[.int .i64 y1, .int .i64 y2, .int .i64 y3] 29))); have hs := Lib.hid (EaP.new2 hst #[.int .i64 y1, .int .i64 y2, .int .i64 y3] #[.int .i64 z1, .int .i64 z2, .int .i64 z3] 29); generalize hW : World.drew (World.alloc (World.alloc wr (.cells #[.int .i64 z1, .int .i64 z2, .int .i64 z3] 29)) _) = W at *)
              clear hW hst
              clear d0 u0 v0 d1 u1 v1 d2 u2 v2 d3 u3 v3 d4 u4 v4 d5 u5 v5 hg
              have q0 := cells_ln hs.out.1.1.1
              obtain ⟨c00, c01, c02, c03⟩ := q0
              have q1 := cells_sg hs.out.2.1
              obtain ⟨c10, c11, c12⟩ := q1
              have q2 := cells_sg hs.out.2.2
              obtain ⟨c20, c21, c22⟩ := q2
              go_wp2_with fail
              refine (HB.out _).mono ?_
              rintro e w2 ⟨rfl, b1⟩
              have hs' := Lib.hid (EaP.step hs.out b1)
              clear hs b1 c00 c01 c02 c03 c10 c11 c12 c20 c21 c22
              have hs := hs'
              clear hs'
              go_wp2_with fail
              go_roundw
              case rel => exact ⟨k + 1, by omega, by go_num, HN.out, hs.out.1⟩
              case measure => simp [intOf]; omega
          · have HN := Lib.hid (show true = r by rw [← HR.out, e0, e1]; simp [h1, h2])
            obtain rfl := HN.out
            clear e0 e1 HN HH
            go_wp2
            go_region
            all_goals
              first
                | (show Exit.then _ _ _ _ (World.drew (World.alloc (World.alloc wr (.cells #[.int .i64 y1, .int .i64 y2, .int .i64 y3] 29)) (.cells #[.int .i64 z1, .int .i64 z2, .int .i64 z3] 29))); have hs := Lib.hid (EaP.new1 hst #[.int .i64 y1, .int .i64 y2, .int .i64 y3] #[.int .i64 z1, .int .i64 z2, .int .i64 z3] 29); generalize hW : World.drew (World.alloc (World.alloc wr (.cells #[.int .i64 y1, .int .i64 y2, .int .i64 y3] 29)) _) = W at *)
                | (show Exit.then _ _ _ _ (World.drew (World.alloc (World.alloc wr (.cells #[.int .i64 z1, .int .i64 z2, .int .i64 z3] 29)) (.cells #[.int .i64 y1, .int .i64 y2, .int .i64 y3] 29))); have hs := Lib.hid (EaP.new2 hst #[.int .i64 y1, .int .i64 y2, .int .i64 y3] #[.int .i64 z1, .int .i64 z2, .int .i64 z3] 29); generalize hW : World.drew (World.alloc (World.alloc wr (.cells #[.int .i64 z1, .int .i64 z2, .int .i64 z3] 29)) _) = W at *)
              clear hW hst
              clear d0 u0 v0 d1 u1 v1 d2 u2 v2 d3 u3 v3 d4 u4 v4 d5 u5 v5 hg
              have q0 := cells_ln hs.out.1.1.1
              obtain ⟨c00, c01, c02, c03⟩ := q0
              have q1 := cells_sg hs.out.2.1
              obtain ⟨c10, c11, c12⟩ := q1
              have q2 := cells_sg hs.out.2.2
              obtain ⟨c20, c21, c22⟩ := q2
              go_wp2_with fail
              refine (HB.out _).mono ?_
              rintro e w2 ⟨rfl, b1⟩
              have hs' := Lib.hid (EaP.step hs.out b1)
              clear hs b1 c00 c01 c02 c03 c10 c11 c12 c20 c21 c22
              have hs := hs'
              clear hs'
              go_wp2
              refine jump_out (l := 0) ?_
              go_ret
              exact ⟨rfl, hs.out.1.below⟩
      · have HN := Lib.hid (show false = r by rw [← HR.out, show n - 1 - k = 0 by omega]; rfl)
        obtain rfl := HN.out
        have z2' : ¬ (k : Int) < (n : Int) - 1 := by omega
        go_wp2
        go_step3
        go_wp2
        refine jump_out (l := 0) ?_
        go_ret
        exact ⟨rfl, hst.below⟩
end Go.Proofs.Ytnpgppenkpkfnaa

/- Starts (impl): StartTime. -/
import Derived.Test.YthahakefmpajfaaLjG
import Derived.Test.YthahakefmpajfaaLiE
import Derived.RegionTactic
import Derived.BigRegion
namespace Go.Proofs.Ythahakefmpajfaa
open Go.RowKit
set_option linter.unusedVariables false
set_option linter.unusedSimpArgs false

/-- What stands while a step of a track is looked at: line and track, and both sights in boxes. -/
def EaP (w : World) (c : Array Value) (ty : TypeId) (g o n : Nat) (f : Nat → Sg) (p : Nat) (c1 : Array Value) (q : Nat) (c2 : Array Value) (t2 : TypeId) (wr : World) : Prop :=
  LtS w c ty g o n f wr ∧ wr.heap[p]? = some (.cells c1 t2 (0, 0)) ∧ wr.heap[q]? = some (.cells c2 t2 (0, 0))
theorem EaP.step {w w1 w2 : World} {c : Array Value} {ty : TypeId} {g o n : Nat} {f : Nat → Sg} {p : Nat} {c1 : Array Value} {q : Nat} {c2 : Array Value} {t2 : TypeId} (h : EaP w c ty g o n f p c1 q c2 t2 w1) (b : Below w1.heap.size w1 w2) : EaP w c ty g o n f p c1 q c2 t2 w2 :=
  ⟨h.1.step b, (b.block _ (heap_lt h.2.1)).trans h.2.1, (b.block _ (heap_lt h.2.2)).trans h.2.2⟩
theorem EaP.new1 {w wr : World} {c : Array Value} {ty : TypeId} {g o n : Nat} {f : Nat → Sg} (h : LtS w c ty g o n f wr) (c1 c2 : Array Value) (t2 : TypeId) : EaP w c ty g o n f wr.heap.size c1 (wr.heap.size + 1) c2 t2 ((wr.alloc (.cells c1 t2)).alloc (.cells c2 t2)).drew := by
  have k := Bx2.new wr c1 t2 c2 t2
  exact ⟨(h.step k.2.2).drew, k.1, k.2.1⟩
theorem EaP.new2 {w wr : World} {c : Array Value} {ty : TypeId} {g o n : Nat} {f : Nat → Sg} (h : LtS w c ty g o n f wr) (c1 c2 : Array Value) (t2 : TypeId) : EaP w c ty g o n f (wr.heap.size + 1) c1 wr.heap.size c2 t2 ((wr.alloc (.cells c2 t2)).alloc (.cells c1 t2)).drew := by
  have k := Bx2.new wr c2 t2 c1 t2
  exact ⟨(h.step k.2.2).drew, k.2.1, k.1⟩
theorem tk_step {n : Nat} {f : Nat → Sg} (h : tkB n f = true) {k : Nat} (hk : k + 1 < n) : tk2 (f k) (f (k + 1)) = true := by
  obtain ⟨_, h2⟩ := tkB_iff.1 h
  obtain ⟨a0, b0, _⟩ := h2 k (by omega)
  obtain ⟨a1, b1, c1⟩ := h2 (k + 1) hk
  exact tk2_iff.2 ⟨a0, a1, b0, b1, c1 (by omega)⟩
set_option maxRecDepth 100000 in
set_option maxHeartbeats 4000000 in
theorem i_start (l : Ln) (f : Nat → Sg) (A : Option Addr) (g o n cap : Nat) (gun : Int) (w : World) (hn : n ≤ 1048576) (hA : 0 < n → A = some ⟨g, o, none⟩) (hw : SigsIn w g o n f) :
    Calls Try.prog 71 #[.agg #[.int .i64 l.1.1, .int .i64 l.1.2, .int .i64 l.2.1, .int .i64 l.2.2], .slice A n cap, .int .i64 gun] w
      fun e w' => e = .returned (.tuple #[.int .i64 (stR l n f gun).1, .bool (stR l n f gun).2]) ∧ Below w.heap.size w w' := by
  obtain ⟨⟨x1, x2⟩, x3, x4⟩ := l
  dsimp only
  have hst := Lib.hid (LtS.new (c := #[.int .i64 x1, .int .i64 x2, .int .i64 x3, .int .i64 x4]) (ty := 33) hw)
  have HT := Lib.hid (fun w' (h : SigsIn w' g o n f) => i_tk f A g o n cap w' hn hA h)
  clear hw
  cases ht : tkB n f
  · have hR : stR ((x1, x2), x3, x4) n f gun = (0, false) := by unfold stR; rw [ht]; rfl
    rw [hR]
    rw [ht] at HT
    clear hR ht
    go_enter Try.func71, Try.ntmps71
    go_wp2_with fail
    refine wp_scope_on 0 (by rfl) ?_
    go_wp2_with fail
    refine (HT.out _ hst.out.2).mono ?_
    rintro e w1 ⟨rfl, b1⟩
    have hst1 := Lib.hid (hst.out.step b1)
    clear hst b1
    go_wp2
    refine wp_goto (And.intro rfl ?_)
    show Go.Code.wp _ _ _ _ _
    go_wp2
    rw [Exit.noGoto_ret]
    go_ret2
    exact ⟨rfl, hst1.out.below⟩
  · have hR : stR ((x1, x2), x3, x4) n f gun = stFrom ((x1, x2), x3, x4) f gun (n - 1) 0 := by unfold stR; rw [ht]; rfl
    have HTV := Lib.hid ht
    rw [hR]
    rw [ht] at HT
    clear hR ht
    obtain ⟨⟨r1, r2⟩, hr⟩ : ∃ r, stFrom ((x1, x2), x3, x4) f gun (n - 1) 0 = r := ⟨_, rfl⟩
    rw [hr]
    go_enter Try.func71, Try.ntmps71
    go_wp2_with fail
    refine wp_scope_on 0 (by rfl) ?_
    go_wp2_with fail
    refine (HT.out _ hst.out.2).mono ?_
    rintro e w1 ⟨rfl, b1⟩
    have hst1 := Lib.hid (hst.out.step b1)
    have HR0 := Lib.hid hr
    clear hst b1 hr HT
    go_wp2
    go_loopw [8, 9, 10, 11, 12, 19] (fun _ _ _ _ _ i wr => ∃ k : Nat, (k ≤ n) ∧ i = .int .i64 k ∧ stFrom ((x1, x2), x3, x4) f gun (n - 1 - k) k = (r1, r2) ∧ LtS w #[.int .i64 x1, .int .i64 x2, .int .i64 x3, .int .i64 x4] 33 g o n f wr) (fun _ _ _ _ _ i _ => n - (intOf i).toNat)
    case atStart => exact ⟨0, Nat.zero_le _, rfl, HR0.out, hst1.out⟩
    case round =>
      obtain ⟨k, hk, rfl, hrr, hst⟩ := hrel
      have HR := Lib.hid hrr
      clear hrr
      by_cases hlt : k + 1 < n
      · obtain rfl := hA (by omega)
        have z0 : (0 : Int) ≤ (k : Int) := by omega
        have z1' : (k : Int) < (n : Int) := by omega
        have z2' : (k : Int) + 1 < (n : Int) := by omega
        have z3' : (0 : Int) ≤ (k : Int) + 1 := by omega
        have z4 : ((k : Int) + 1).toNat = k + 1 := by omega
        have z5 : IntKind.i64.wrap ((k : Int) + 1) = (k : Int) + 1 := IntWalk.i64_in _ (by omega)
        have z6 : (k : Int) < (n : Int) - 1 := by omega
        obtain ⟨⟨⟨y1, y2⟩, y3⟩, hy⟩ : ∃ s, f k = s := ⟨_, rfl⟩
        obtain ⟨⟨⟨z1, z2⟩, z3⟩, hz⟩ : ∃ s, f (k + 1) = s := ⟨_, rfl⟩
        have HK := Lib.hid (And.intro hy hz)
        clear hy hz
        have hg : g < wr.heap.size := hst.2.lt (by omega)
        have d0 : wr.cell? ⟨g, o + k * 3, none⟩ = some (.int .i64 y1) := by have := (hst.2 k (by omega)).1; rw [HK.out.1] at this; exact this
        have u0 : ∀ O, (wr.alloc O).cell? ⟨g, o + k * 3, none⟩ = some (.int .i64 y1) := fun O => (Below.cell ((Below.refl _ wr).alloc (Nat.le_refl _) O) hg).trans d0
        have v0 : ∀ O O', ((wr.alloc O).alloc O').cell? ⟨g, o + k * 3, none⟩ = some (.int .i64 y1) := fun O O' => (Below.cell (((Below.refl _ wr).alloc (Nat.le_refl _) O).alloc (by simp) O') hg).trans d0
        have d1 : wr.cell? ⟨g, o + k * 3 + 1, none⟩ = some (.int .i64 y2) := by have := (hst.2 k (by omega)).2.1; rw [HK.out.1] at this; exact this
        have u1 : ∀ O, (wr.alloc O).cell? ⟨g, o + k * 3 + 1, none⟩ = some (.int .i64 y2) := fun O => (Below.cell ((Below.refl _ wr).alloc (Nat.le_refl _) O) hg).trans d1
        have v1 : ∀ O O', ((wr.alloc O).alloc O').cell? ⟨g, o + k * 3 + 1, none⟩ = some (.int .i64 y2) := fun O O' => (Below.cell (((Below.refl _ wr).alloc (Nat.le_refl _) O).alloc (by simp) O') hg).trans d1
        have d2 : wr.cell? ⟨g, o + k * 3 + 2, none⟩ = some (.int .i64 y3) := by have := (hst.2 k (by omega)).2.2; rw [HK.out.1] at this; exact this
        have u2 : ∀ O, (wr.alloc O).cell? ⟨g, o + k * 3 + 2, none⟩ = some (.int .i64 y3) := fun O => (Below.cell ((Below.refl _ wr).alloc (Nat.le_refl _) O) hg).trans d2
        have v2 : ∀ O O', ((wr.alloc O).alloc O').cell? ⟨g, o + k * 3 + 2, none⟩ = some (.int .i64 y3) := fun O O' => (Below.cell (((Below.refl _ wr).alloc (Nat.le_refl _) O).alloc (by simp) O') hg).trans d2
        have d3 : wr.cell? ⟨g, o + (k + 1) * 3, none⟩ = some (.int .i64 z1) := by have := (hst.2 (k + 1) (by omega)).1; rw [HK.out.2] at this; exact this
        have u3 : ∀ O, (wr.alloc O).cell? ⟨g, o + (k + 1) * 3, none⟩ = some (.int .i64 z1) := fun O => (Below.cell ((Below.refl _ wr).alloc (Nat.le_refl _) O) hg).trans d3
        have v3 : ∀ O O', ((wr.alloc O).alloc O').cell? ⟨g, o + (k + 1) * 3, none⟩ = some (.int .i64 z1) := fun O O' => (Below.cell (((Below.refl _ wr).alloc (Nat.le_refl _) O).alloc (by simp) O') hg).trans d3
        have d4 : wr.cell? ⟨g, o + (k + 1) * 3 + 1, none⟩ = some (.int .i64 z2) := by have := (hst.2 (k + 1) (by omega)).2.1; rw [HK.out.2] at this; exact this
        have u4 : ∀ O, (wr.alloc O).cell? ⟨g, o + (k + 1) * 3 + 1, none⟩ = some (.int .i64 z2) := fun O => (Below.cell ((Below.refl _ wr).alloc (Nat.le_refl _) O) hg).trans d4
        have v4 : ∀ O O', ((wr.alloc O).alloc O').cell? ⟨g, o + (k + 1) * 3 + 1, none⟩ = some (.int .i64 z2) := fun O O' => (Below.cell (((Below.refl _ wr).alloc (Nat.le_refl _) O).alloc (by simp) O') hg).trans d4
        have d5 : wr.cell? ⟨g, o + (k + 1) * 3 + 2, none⟩ = some (.int .i64 z3) := by have := (hst.2 (k + 1) (by omega)).2.2; rw [HK.out.2] at this; exact this
        have u5 : ∀ O, (wr.alloc O).cell? ⟨g, o + (k + 1) * 3 + 2, none⟩ = some (.int .i64 z3) := fun O => (Below.cell ((Below.refl _ wr).alloc (Nat.le_refl _) O) hg).trans d5
        have v5 : ∀ O O', ((wr.alloc O).alloc O').cell? ⟨g, o + (k + 1) * 3 + 2, none⟩ = some (.int .i64 z3) := fun O O' => (Below.cell (((Below.refl _ wr).alloc (Nat.le_refl _) O).alloc (by simp) O') hg).trans d5
        have HC := Lib.hid (fun w => i_ct ((x1, x2), x3, x4) ((y1, y2), y3) ((z1, z2), z3) w)
        have HX := Lib.hid (fun w => i_cr ((x1, x2), x3, x4) (y1, y2) (z1, z2) w)
        have e0 : stFrom ((x1, x2), x3, x4) f gun (n - 1 - k) k = if hitB ((x1, x2), x3, x4) f gun k = true then (ctW ((x1, x2), x3, x4) (f k) (f (k + 1)), true) else stFrom ((x1, x2), x3, x4) f gun (n - 1 - (k + 1)) (k + 1) := by
          rw [show n - 1 - k = (n - 1 - (k + 1)) + 1 by omega]; rfl
        have e1 : hitB ((x1, x2), x3, x4) f gun k = (ctB ((x1, x2), x3, x4) (f k) (f (k + 1)) && decide (gun ≤ ctW ((x1, x2), x3, x4) (f k) (f (k + 1))) && decide (crW ((x1, x2), x3, x4) (f k).1 (f (k + 1)).1 = 1)) := rfl
        have e2 : ctB ((x1, x2), x3, x4) (f k) (f (k + 1)) = !(decide (crW ((x1, x2), x3, x4) (f k).1 (f (k + 1)).1 = 0)) := by
          unfold ctB; rw [tk_step HTV.out hlt, Bool.and_true]
        rw [HK.out.1, HK.out.2] at e0 e1 e2
        dsimp only at e0 e1 e2 HC
        generalize ctW ((x1, x2), x3, x4) ((y1, y2), y3) ((z1, z2), z3) = m at *
        generalize ctB ((x1, x2), x3, x4) ((y1, y2), y3) ((z1, z2), z3) = t at *
        generalize crW ((x1, x2), x3, x4) (y1, y2) (z1, z2) = c at *
        have hq : (¬ c = 1) ∨ (c = 1 ∧ ¬ gun ≤ m) ∨ (c = 1 ∧ gun ≤ m) := by omega
        rcases hq with ha | ⟨rfl, ha⟩ | ⟨rfl, ha⟩
        · have HN := Lib.hid (show stFrom ((x1, x2), x3, x4) f gun (n - 1 - (k + 1)) (k + 1) = (r1, r2) by rw [← HR.out, e0, e1]; simp [ha])
          have hcc : (c == 1) = false := by rw [beq_eq_false_iff_ne]; exact ha
          clear e0 e1 e2
          go_wp2
          go_region
          all_goals
            first
              | (show Exit.then _ _ _ _ (World.drew (World.alloc (World.alloc wr (.cells #[.int .i64 y1, .int .i64 y2, .int .i64 y3] 86)) (.cells #[.int .i64 z1, .int .i64 z2, .int .i64 z3] 86))); have hs := Lib.hid (EaP.new1 hst #[.int .i64 y1, .int .i64 y2, .int .i64 y3] #[.int .i64 z1, .int .i64 z2, .int .i64 z3] 86); generalize hW : World.drew (World.alloc (World.alloc wr (.cells #[.int .i64 y1, .int .i64 y2, .int .i64 y3] 86)) _) = W at *)
              | (show Exit.then _ _ _ _ (World.drew (World.alloc (World.alloc wr (.cells #[.int .i64 z1, .int .i64 z2, .int .i64 z3] 86)) (.cells #[.int .i64 y1, .int .i64 y2, .int .i64 y3] 86))); have hs := Lib.hid (EaP.new2 hst #[.int .i64 y1, .int .i64 y2, .int .i64 y3] #[.int .i64 z1, .int .i64 z2, .int .i64 z3] 86); generalize hW : World.drew (World.alloc (World.alloc wr (.cells #[.int .i64 z1, .int .i64 z2, .int .i64 z3] 86)) _) = W at *)
            clear hW hst
            clear d0 u0 v0 d1 u1 v1 d2 u2 v2 d3 u3 v3 d4 u4 v4 d5 u5 v5 hg
            have q0 := cells_ln hs.out.1.1.1
            obtain ⟨c00, c01, c02, c03⟩ := q0
            have q1 := cells_sg hs.out.2.1
            obtain ⟨c10, c11, c12⟩ := q1
            have q2 := cells_sg hs.out.2.2
            obtain ⟨c20, c21, c22⟩ := q2
            go_wp2_with fail
            refine (HX.out _).mono ?_
            rintro e w2 ⟨rfl, b1⟩
            have hs' := Lib.hid (EaP.step hs.out b1)
            clear hs b1 c00 c01 c02 c03 c10 c11 c12 c20 c21 c22
            have hs := hs'
            clear hs'
            go_wp2_with fail
            go_roundw
            case rel => exact ⟨k + 1, by omega, by go_num, HN.out, hs.out.1⟩
            case measure => simp [intOf]; omega
        · have HN := Lib.hid (show stFrom ((x1, x2), x3, x4) f gun (n - 1 - (k + 1)) (k + 1) = (r1, r2) by rw [← HR.out, e0, e1]; simp [ha])
          clear e0 e1
          go_wp2
          go_region
          all_goals
            first
              | (show Exit.then _ _ _ _ (World.drew (World.alloc (World.alloc wr (.cells #[.int .i64 y1, .int .i64 y2, .int .i64 y3] 86)) (.cells #[.int .i64 z1, .int .i64 z2, .int .i64 z3] 86))); have hs := Lib.hid (EaP.new1 hst #[.int .i64 y1, .int .i64 y2, .int .i64 y3] #[.int .i64 z1, .int .i64 z2, .int .i64 z3] 86); generalize hW : World.drew (World.alloc (World.alloc wr (.cells #[.int .i64 y1, .int .i64 y2, .int .i64 y3] 86)) _) = W at *)
              | (show Exit.then _ _ _ _ (World.drew (World.alloc (World.alloc wr (.cells #[.int .i64 z1, .int .i64 z2, .int .i64 z3] 86)) (.cells #[.int .i64 y1, .int .i64 y2, .int .i64 y3] 86))); have hs := Lib.hid (EaP.new2 hst #[.int .i64 y1, .int .i64 y2, .int .i64 y3] #[.int .i64 z1, .int .i64 z2, .int .i64 z3] 86); generalize hW : World.drew (World.alloc (World.alloc wr (.cells #[.int .i64 z1, .int .i64 z2, .int .i64 z3] 86)) _) = W at *)
            clear hW hst
            clear d0 u0 v0 d1 u1 v1 d2 u2 v2 d3 u3 v3 d4 u4 v4 d5 u5 v5 hg
            have q0 := cells_ln hs.out.1.1.1
            obtain ⟨c00, c01, c02, c03⟩ := q0
            have q1 := cells_sg hs.out.2.1
            obtain ⟨c10, c11, c12⟩ := q1
            have q2 := cells_sg hs.out.2.2
            obtain ⟨c20, c21, c22⟩ := q2
            go_wp2_with fail
            refine (HX.out _).mono ?_
            rintro e w2 ⟨rfl, b1⟩
            have hs' := Lib.hid (EaP.step hs.out b1)
            clear hs b1 c00 c01 c02 c03 c10 c11 c12 c20 c21 c22
            have hs := hs'
            clear hs'
            have q0 := cells_ln hs.out.1.1.1
            obtain ⟨c00, c01, c02, c03⟩ := q0
            have q1 := cells_sg hs.out.2.1
            obtain ⟨c10, c11, c12⟩ := q1
            have q2 := cells_sg hs.out.2.2
            obtain ⟨c20, c21, c22⟩ := q2
            go_wp2_with fail
            refine (HC.out _).mono ?_
            rintro e w3 ⟨rfl, b1⟩
            have hs' := Lib.hid (EaP.step hs.out b1)
            clear hs b1 c00 c01 c02 c03 c10 c11 c12 c20 c21 c22
            have hs := hs'
            clear hs'
            go_wp2_with fail
            go_roundw
            case rel => exact ⟨k + 1, by omega, by go_num, HN.out, hs.out.1⟩
            case measure => simp [intOf]; omega
        · have HN := Lib.hid (show (m, true) = (r1, r2) by rw [← HR.out, e0, e1, e2]; simp [ha])
          obtain ⟨rfl, rfl⟩ := Prod.mk.injEq .. ▸ HN.out
          clear e0 e1
          go_wp2
          go_region
          all_goals
            first
              | (show Exit.then _ _ _ _ (World.drew (World.alloc (World.alloc wr (.cells #[.int .i64 y1, .int .i64 y2, .int .i64 y3] 86)) (.cells #[.int .i64 z1, .int .i64 z2, .int .i64 z3] 86))); have hs := Lib.hid (EaP.new1 hst #[.int .i64 y1, .int .i64 y2, .int .i64 y3] #[.int .i64 z1, .int .i64 z2, .int .i64 z3] 86); generalize hW : World.drew (World.alloc (World.alloc wr (.cells #[.int .i64 y1, .int .i64 y2, .int .i64 y3] 86)) _) = W at *)
              | (show Exit.then _ _ _ _ (World.drew (World.alloc (World.alloc wr (.cells #[.int .i64 z1, .int .i64 z2, .int .i64 z3] 86)) (.cells #[.int .i64 y1, .int .i64 y2, .int .i64 y3] 86))); have hs := Lib.hid (EaP.new2 hst #[.int .i64 y1, .int .i64 y2, .int .i64 y3] #[.int .i64 z1, .int .i64 z2, .int .i64 z3] 86); generalize hW : World.drew (World.alloc (World.alloc wr (.cells #[.int .i64 z1, .int .i64 z2, .int .i64 z3] 86)) _) = W at *)
            clear hW hst
            clear d0 u0 v0 d1 u1 v1 d2 u2 v2 d3 u3 v3 d4 u4 v4 d5 u5 v5 hg
            have q0 := cells_ln hs.out.1.1.1
            obtain ⟨c00, c01, c02, c03⟩ := q0
            have q1 := cells_sg hs.out.2.1
            obtain ⟨c10, c11, c12⟩ := q1
            have q2 := cells_sg hs.out.2.2
            obtain ⟨c20, c21, c22⟩ := q2
            go_wp2_with fail
            refine (HX.out _).mono ?_
            rintro e w2 ⟨rfl, b1⟩
            have hs' := Lib.hid (EaP.step hs.out b1)
            clear hs b1 c00 c01 c02 c03 c10 c11 c12 c20 c21 c22
            have hs := hs'
            clear hs'
            have q0 := cells_ln hs.out.1.1.1
            obtain ⟨c00, c01, c02, c03⟩ := q0
            have q1 := cells_sg hs.out.2.1
            obtain ⟨c10, c11, c12⟩ := q1
            have q2 := cells_sg hs.out.2.2
            obtain ⟨c20, c21, c22⟩ := q2
            go_wp2_with fail
            refine (HC.out _).mono ?_
            rintro e w3 ⟨rfl, b1⟩
            have hs' := Lib.hid (EaP.step hs.out b1)
            clear hs b1 c00 c01 c02 c03 c10 c11 c12 c20 c21 c22
            have hs := hs'
            clear hs'
            go_wp2
            refine jump_out (l := 0) ?_
            go_ret2
            exact ⟨rfl, hs.out.1.below⟩
      · have HN := Lib.hid (show (0, false) = (r1, r2) by rw [← HR.out, show n - 1 - k = 0 by omega]; rfl)
        obtain ⟨rfl, rfl⟩ := Prod.mk.injEq .. ▸ HN.out
        have z2' : ¬ (k : Int) < (n : Int) - 1 := by omega
        go_wp2
        go_step3
        go_wp2
        refine jump_out (l := 0) ?_
        go_ret2
        exact ⟨rfl, hst.below⟩
end Go.Proofs.Ythahakefmpajfaa

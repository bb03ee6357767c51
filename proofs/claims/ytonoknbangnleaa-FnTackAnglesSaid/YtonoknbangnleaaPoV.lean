/- speedOf, SpeedAt (impl). -/
import Derived.Test.YtonoknbangnleaaPoR
namespace Go.Proofs.Ytonoknbangnleaa
open Go.RowKit Ieee
set_option linter.unusedSimpArgs false
set_option linter.unusedVariables false

/-- The box of a polar stands, and nothing old has turned. -/
def BoxIn (w : World) (P : Pol) (w' : World) : Prop :=
  w'.heap[w.heap.size]? = some (.cells #[.slice P.W P.nw P.cw, .slice P.A P.na P.ca, .slice P.S P.ns P.cs] 28 (0, 0)) ∧ Below w.heap.size w w'
theorem BoxIn.new (w : World) (P : Pol) : BoxIn w P (w.alloc (.cells #[.slice P.W P.nw P.cw, .slice P.A P.na P.ca, .slice P.S P.ns P.cs] 28)) := ⟨heap_alloc_new w _, (Below.refl _ w).alloc (Nat.le_refl _) _⟩
theorem BoxIn.step {w : World} {P : Pol} {w1 w2 : World} (h : BoxIn w P w1) (b : Below w1.heap.size w1 w2) : BoxIn w P w2 := by
  have hlt : w.heap.size < w1.heap.size := by
    rcases Nat.lt_or_ge w.heap.size w1.heap.size with h' | h'
    · exact h'
    · have := h.1; rw [Array.getElem?_eq_none h'] at this; cases this
  exact ⟨(b.block _ hlt).trans h.1, h.2.trans (b.mono h.2.size)⟩
theorem BoxIn.drawn {w : World} {P : Pol} {w1 w2 : World} (h : BoxIn w P w1) (d : Drawn w1 w2) : BoxIn w P w2 := by
  obtain ⟨n, rfl⟩ := d
  exact ⟨h.1, below_drewN h.2 n⟩
theorem BoxIn.c0 {w : World} {P : Pol} {w' : World} (h : BoxIn w P w') : w'.cell? ⟨w.heap.size, 0, none⟩ = some (.slice P.W P.nw P.cw) := cell_of_row w' _ 0 _ _ _ h.1
theorem BoxIn.c1 {w : World} {P : Pol} {w' : World} (h : BoxIn w P w') : w'.cell? ⟨w.heap.size, 1, none⟩ = some (.slice P.A P.na P.ca) := cell_of_row w' _ 1 _ _ _ h.1
theorem BoxIn.c2 {w : World} {P : Pol} {w' : World} (h : BoxIn w P w') : w'.cell? ⟨w.heap.size, 2, none⟩ = some (.slice P.S P.ns P.cs) := cell_of_row w' _ 2 _ _ _ h.1
theorem BoxIn.below {w : World} {P : Pol} {w' : World} (h : BoxIn w P w') : Below w.heap.size w w' := h.2
theorem BoxIn.keeps {w : World} {P : Pol} {w' : World} (h : BoxIn w P w') : Keeps w w' := Below.keeps h.2
set_option maxRecDepth 100000 in
set_option maxHeartbeats 4000000 in
theorem i_speedOf (P : Pol) (x : Nat) (a : Int) (w : World) (h : PolIn w P) (hP : PolOk P) (hx : okA x) (h0 : 0 ≤ a) (h1 : a ≤ 180) :
    Calls Try.prog 72 #[.agg #[.slice P.W P.nw P.cw, .slice P.A P.na P.ca, .slice P.S P.ns P.cs], .float .f32 x, .int .i64 a] w fun e w' => e = .returned (.float .f32 (spd P x a)) ∧ Below w.heap.size w w' := by
  have hs := (spd_ok hP hx h0 h1).1
  generalize spd P x a = r at hs
  have hnw := hP.1.1
  have HNS := Lib.hid hP.2.2.1
  have hasc := hP.1.2.2
  have hl : ∀ w', Keeps w w' → Calls Try.prog 87 #[.slice P.W P.nw P.cw, .float .f32 x] w' fun e w'' => LastUp P.nw (fun j => S.fval (P.ws j)) (S.fval x) w' e w'' :=
    fun w' k => i_lastF P.ws P.W P.nw P.cw x w' (h.1.keeps k) (fun j hj => (hP.1.2.1 j hj).1.2.1) hx.2.1 hasc
  have hrow : ∀ w' i, BoxIn w P w' → i < P.ns → Calls Try.prog 88 #[.agg #[.slice P.W P.nw P.cw, .slice P.A P.na P.ca, .slice P.S P.ns P.cs], .int .i64 i, .int .i64 a] w' fun e w'' => e = .returned (.float .f32 (rowS P i a)) ∧ Below w'.heap.size w' w'' :=
    fun w' i hb hi => i_row P i a w' (h.keeps hb.keeps) hP hi h0 h1
  have hcw : ∀ w', BoxIn w P w' → ∃ gW oW, P.W = some ⟨gW, oW, none⟩ ∧ ∀ k, k < P.nw → w'.cell? ⟨gW, oW + k, none⟩ = some (.float .f32 (P.ws k)) := fun w' hb => wnd_at (h.keeps hb.keeps) hP
  have hn0 := (hP.1.2.1 0 (by omega)).1.2.1
  have HL := Lib.hid hl
  have HR := Lib.hid hrow
  have HC := Lib.hid hcw
  have hok := fun i (hi : i < P.nw) => (hP.1.2.1 i hi).1
  have HO := Lib.hid hok
  have HA := Lib.hid hasc
  have HP := Lib.hid hP
  clear hl hrow hcw hasc hok
  rcases hs with ⟨hle, q, s, hq, hrs, hm⟩ | ⟨hlt, i, hi, hcase⟩
  · have e1 := ord_le hx.2.1 hn0
    rw [decide_eq_true hle] at e1
    have hqr := fun w => run_float_arith (P := Try.prog) w .quo 37 .f32 _ _ _ hq
    have hmr := fun w => run_float_arith (P := Try.prog) w .mul 37 .f32 _ _ _ hm
    have hs0 := rowS_is hP hrs
    clear hq hm hrs hP h hx hn0
    generalize hf : P.ws 0 = f at *
    have HF := Lib.hid hf
    clear hf hle
    go_enter Try.func72, Try.ntmps72
    go_wp2_with fail
    refine (HL.out _ (keeps_alloc _ _)).mono ?_
    rintro e w1 ⟨k, hk, rfl, d⟩
    have hB := (BoxIn.new w P).drawn d
    have hkb : -1 ≤ k ∧ k < P.nw := by
      rcases hk with ⟨k', rfl, hk⟩ | ⟨rfl, _⟩
      · have := hk.1; omega
      · omega
    obtain ⟨hk0, hk1⟩ := hkb
    clear d hk
    have c0 := hB.c0
    have c1 := hB.c1
    have c2 := hB.c2
    obtain ⟨gW, oW, eW, cW⟩ := HC.out w1 hB
    have cf : w1.cell? ⟨gW, oW, none⟩ = some (.float .f32 f) := by rw [← HF.out]; exact cW 0 (by omega)
    clear cW
    have hR : Calls Try.prog 88 #[.agg #[.slice P.W P.nw P.cw, .slice P.A P.na P.ca, .slice P.S P.ns P.cs], .int .i64 0, .int .i64 a] w1 _ := HR.out w1 0 hB (by rw [HNS.out]; omega)
    have HB := Lib.hid hB
    clear hB
    rw [hs0] at hR
    rw [eW] at c0 hR ⊢
    have HE := Lib.hid eW
    clear eW
    have hnw1 : (0 : Int) < (P.nw : Int) := by omega
    go_wp2_with fail
    with_reducible refine hR.mono ?_
    rintro e w2 ⟨rfl, b2⟩
    have HB2 := Lib.hid (HB.out.step b2)
    clear hR b2
    go_wp2
    go_ret
    exact ⟨rfl, HB2.out.2⟩
  · have e1 := ord_le hx.2.1 hn0
    rw [decide_eq_false (by omega)] at e1
    have hlf := fun k (hk : LastIs P.nw (fun i => S.fval (P.ws i)) (S.fval x) k) => last_fun (f := fun i => S.fval (P.ws i)) HA.out hk hi
    have hnn : ¬ ∀ k, k < P.nw → S.fval x < S.fval (P.ws k) := fun hk => by have := hk 0 (by omega); omega
    have hin := hi.1
    have HF := Lib.hid hlf
    have HN := Lib.hid hnn
    have hin1 : (i : Int) < (P.nw : Int) := by omega
    rcases hcase with ⟨hl, hrs⟩ | ⟨hl, d, e, q, s, t, hd, he, hq, hqok, hrs, hrt, hdm⟩
    · have hs0 := rowS_is hP hrs
      have hl1 : ((i : Int) == (P.nw : Int) - 1) = true := by simp; omega
      have HX := Lib.hid hl
      clear hlf hnn hrs hP h hx hn0 hlt hi hl
      generalize hf : P.ws 0 = f at *
      have HFF := Lib.hid hf
      clear hf
      go_enter Try.func72, Try.ntmps72
      go_wp2_with fail
      refine (HL.out _ (keeps_alloc _ _)).mono ?_
      rintro e w1 ⟨k, hk, rfl, d⟩
      have hB := (BoxIn.new w P).drawn d
      have hkj : k = (i : Int) := by
        rcases hk with ⟨k', rfl, hk⟩ | ⟨_, hk⟩
        · rw [HF.out _ hk]
        · exact absurd hk HN.out
      subst hkj
      clear d hk
      have c0 := hB.c0
      have c1 := hB.c1
      have c2 := hB.c2
      obtain ⟨gW, oW, eW, cW⟩ := HC.out w1 hB
      have cf : w1.cell? ⟨gW, oW, none⟩ = some (.float .f32 f) := by rw [← HFF.out]; exact cW 0 (by omega)
      clear cW
      have hR := HR.out w1 i hB (by rw [HNS.out]; omega)
      have HB := Lib.hid hB
      clear hB
      rw [hs0] at hR
      rw [eW] at c0 hR ⊢
      have HE := Lib.hid eW
      clear eW
      have hnw1 : (0 : Int) < (P.nw : Int) := by omega
      go_wp2_with fail
      with_reducible refine hR.mono ?_
      rintro e w2 ⟨rfl, b2⟩
      have HB2 := Lib.hid (HB.out.step b2)
      clear hR b2
      go_wp2
      go_ret
      exact ⟨rfl, HB2.out.2⟩
    · have hs0 := rowS_is hP hrs
      have ht0 := rowS_is hP hrt
      have hdr := fun w => run_float_arith (P := Try.prog) w .sub 37 .f32 _ _ _ hd
      have her := fun w => run_float_arith (P := Try.prog) w .sub 37 .f32 _ _ _ he
      have hqr := fun w => run_float_arith (P := Try.prog) w .quo 37 .f32 _ _ _ hq
      have hdam := fun w => i_damped _ _ _ _ w hdm
      have hl1 : ((i : Int) == (P.nw : Int) - 1) = false := by simp; omega
      have hl2 : (i : Int) + 1 < (P.nw : Int) := by omega
      have wi : IntKind.i64.wrap ((i : Int) + 1) = (i : Int) + 1 := IntWalk.i64_in _ (by omega)
      have i3 : (0 : Int) ≤ (i : Int) + 1 := by omega
      have i1 : (0 : Int) ≤ (i : Int) := by omega
      have i5 : ((i : Int) + 1).toNat = i + 1 := by omega
      have hne : ¬ ((i : Int) = (P.nw : Int) - 1) := by omega
      have HD := Lib.hid hdam
      clear hlf hnn hrs hrt hP h hx hn0 hlt hi hd he hq hdm hdam hqok
      generalize hf : P.ws 0 = f at *
      generalize hu : P.ws i = u at *
      generalize hv : P.ws (i + 1) = v at *
      have HFF := Lib.hid (And.intro hf (And.intro hu hv))
      clear hf hu hv
      go_enter Try.func72, Try.ntmps72
      go_wp2_with fail
      refine (HL.out _ (keeps_alloc _ _)).mono ?_
      rintro e w1 ⟨k, hk, rfl, dd⟩
      have hB := (BoxIn.new w P).drawn dd
      have hkj : k = (i : Int) := by
        rcases hk with ⟨k', rfl, hk⟩ | ⟨_, hk⟩
        · rw [HF.out _ hk]
        · exact absurd hk HN.out
      subst hkj
      clear dd hk
      have c0 := hB.c0
      have c1 := hB.c1
      have c2 := hB.c2
      obtain ⟨gW, oW, eW, cW⟩ := HC.out w1 hB
      have cf : w1.cell? ⟨gW, oW, none⟩ = some (.float .f32 f) := by rw [← HFF.out.1]; exact cW 0 (by omega)
      have cu : w1.cell? ⟨gW, oW + i, none⟩ = some (.float .f32 u) := by rw [← HFF.out.2.1]; exact cW i (by omega)
      have cv' : w1.cell? ⟨gW, oW + (i + 1), none⟩ = some (.float .f32 v) := by rw [← HFF.out.2.2]; exact cW (i + 1) (by omega)
      clear cW
      have HE := Lib.hid eW
      have HB := Lib.hid hB
      clear hB
      rw [eW] at c0 ⊢
      clear eW
      have hnw1 : (0 : Int) < (P.nw : Int) := by omega
      go_wp2
      go_quiet (fail)
      have hB2 := HB.out.drawn (Drawn.one w1 nq)
      generalize w1.drewN nq = w2 at *
      clear c0 c1 c2 cf cu cv' HB
      have k0 : ∀ w', BoxIn w P w' → w'.cell? ⟨w.heap.size, 0, none⟩ = some (.slice (some ⟨gW, oW, none⟩) P.nw P.cw) := fun w' hb => by rw [← HE.out]; exact hb.c0
      have k1 : ∀ w', BoxIn w P w' → w'.cell? ⟨w.heap.size, 1, none⟩ = some (.slice P.A P.na P.ca) := fun w' hb => hb.c1
      have k2 : ∀ w', BoxIn w P w' → w'.cell? ⟨w.heap.size, 2, none⟩ = some (.slice P.S P.ns P.cs) := fun w' hb => hb.c2
      have hRi := Lib.hid (fun w' (hb : BoxIn w P w') => (show Calls Try.prog 88 #[.agg #[.slice (some ⟨gW, oW, none⟩) P.nw P.cw, .slice P.A P.na P.ca, .slice P.S P.ns P.cs], .int .i64 i, .int .i64 a] w' fun e w'' => e = .returned (.float .f32 s) ∧ Below w'.heap.size w' w'' from by
        have := HR.out w' i hb (by rw [HNS.out]; omega)
        rw [HE.out, hs0] at this
        exact this))
      have hRj := Lib.hid (fun w' (hb : BoxIn w P w') => (show Calls Try.prog 88 #[.agg #[.slice (some ⟨gW, oW, none⟩) P.nw P.cw, .slice P.A P.na P.ca, .slice P.S P.ns P.cs], .int .i64 ((i : Int) + 1), .int .i64 a] w' fun e w'' => e = .returned (.float .f32 t) ∧ Below w'.heap.size w' w'' from by
        have := HR.out w' (i + 1) hb (by rw [HNS.out]; omega)
        rw [HE.out, ht0] at this
        exact this))
      clear hs0 ht0
      go_wp2
      go_region_held3 (fun w' => BoxIn w P w') (first | assumption | exact BoxIn.drawn (by assumption) (Drawn.one _ 1) | exact BoxIn.step (by assumption) (by assumption))
        (first
          | (go_at_call 89; ((with_reducible refine (HD.out _).mono ?_); rintro e w' ⟨rfl, rfl⟩))
          | (go_at_call 88; with_reducible refine (hRi.out _ (by assumption)).mono ?_; rintro e w' ⟨rfl, b⟩)
          | (go_at_call 88; with_reducible refine (hRj.out _ (by assumption)).mono ?_; rintro e w' ⟨rfl, b⟩))
      go_wp2
      go_ret
      exact ⟨rfl, by first | assumption | exact BoxIn.below (by assumption)⟩
end Go.Proofs.Ytonoknbangnleaa

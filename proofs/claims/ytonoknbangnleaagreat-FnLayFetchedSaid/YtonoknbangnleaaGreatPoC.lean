/- BestUp, BestDown, Fastest (impl). -/
import Derived.Test.YtonoknbangnleaaGreatPoB
namespace Go.Proofs.YtonoknbangnleaaGreat
open Go.RowKit Ieee
set_option linter.unusedSimpArgs false
set_option linter.unusedVariables false

theorem told_below {v : Prop} {lo hi : Nat} {G : Nat → Int} {w w0 : World} {e : Ending} {w' : World} (h : TellsBest v lo hi G w0 e w') (b : Below w.heap.size w w0) : TellsBest v lo hi G w e w' := ⟨b.trans (h.1.mono b.size), h.2⟩
theorem told_congr {v : Prop} {lo hi : Nat} {G G' : Nat → Int} {w : World} {e : Ending} {w' : World} (h : TellsBest v lo hi G w e w') (k : v → ∀ j, lo ≤ j → j ≤ hi → G j = G' j) : TellsBest v lo hi G' w e w' := by
  obtain ⟨b, ⟨hv, bb, t, h1, h2⟩ | h2⟩ := h
  · exact ⟨b, .inl ⟨hv, bb, t, best_congr h1 (k hv), h2⟩⟩
  · exact ⟨b, .inr h2⟩
set_option maxRecDepth 100000 in
set_option maxHeartbeats 1000000 in
theorem i_BestUp (P : Pol) (x : Nat) (w : World) (h : PolIn w P) (hx : x < 4294967296) :
    Calls Tryz.prog 10 #[.agg #[.slice P.W P.nw P.cw, .slice P.A P.na P.ca, .slice P.S P.ns P.cs], .float .f32 x] w fun e w' => TellsBest (PolOk P ∧ okA x) 0 90 (fun j : Nat => S.fval (madeW P x j)) w e w' := by
  suffices hs : ∀ (V : Prop) (G : Nat → Int), Hid (V ↔ PolOk P ∧ okA x) → Hid (G = fun j : Nat => S.fval (madeW P x j)) → Calls Tryz.prog 10 #[.agg #[.slice P.W P.nw P.cw, .slice P.A P.na P.ca, .slice P.S P.ns P.cs], .float .f32 x] w fun e w' => TellsBest V 0 90 G w e w' from hs _ _ (Lib.hid Iff.rfl) (Lib.hid rfl)
  intro V G HV HG
  have HI := Lib.hid h
  clear h
  have hmf : ∀ (fn : Fn) (first cap : Array Value) (w : World), (Instr.makeFunc fn first cap).run Tryz.prog w = .ok (.func fn first cap) w := fun _ _ _ _ => rfl
  obtain ⟨hz, hi⟩ := zero_of_info Tryz.infoTurns
  go_enter Tryz.func10, Tryz.ntmps10
  go_wp2_with fail
  with_reducible refine (i_turns _).mono ?_
  rintro e w1 ⟨cs, ht, rfl, b1⟩
  have hB := (BoxIn.new w P).step b1
  have hst := run_storeCells_new (P := Tryz.prog) w1 52 zeroT cs (by rw [ht.1]; exact hi) (by rw [ht.1]; exact size_zeroT) ht.2.2
  have hsz := ht.1
  have hB2 : BoxIn w P (w1.alloc (.cells cs 52)) := hB.step ((Below.refl _ w1).alloc (Nat.le_refl _) _)
  have hT : TurnsAt (w1.alloc (.cells cs 52)) w1.heap.size := fun k hk => by
    rw [cell_of_row _ _ k _ _ _ (heap_alloc_last w1 _)]; exact ht.2.1 k hk
  have c0 := hB2.c0
  have c1 := hB2.c1
  have c2 := hB2.c2
  have HB2 := Lib.hid (And.intro hB2 hT)
  clear hi ht b1 hB hB2 hT
  go_wp2_with fail
  refine (i_best_up P x 0 90 w1.heap.size _ (HI.out.keeps HB2.out.1.keeps) hx (by omega) (by omega) HB2.out.2).mono ?_
  rintro e w2 ⟨b2, ⟨hv, b, t, hb, rfl⟩ | ⟨hv, rfl⟩⟩
  · have HY := Lib.hid (And.intro (HV.out.2 hv) (And.intro (show Best 0 90 G b t from by rw [HG.out]; exact hb) (HB2.out.1.2.trans (b2.mono HB2.out.1.2.size))))
    clear hv hb b2 hst c0 c1 c2
    go_wp2
    go_ret2
    exact TellsBest.yes HY.out.1 b t HY.out.2.1 rfl HY.out.2.2
  · have HN := Lib.hid (And.intro (show ¬ V from fun h => hv (HV.out.1 h)) (HB2.out.1.2.trans (b2.mono HB2.out.1.2.size)))
    clear hv b2 hst c0 c1 c2
    go_wp2
    go_ret2
    exact TellsBest.no HN.out.1 rfl HN.out.2
theorem neg_made {P : Pol} (hP : PolOk P) {w : Nat} (hw : okA w) {a : Nat} (h : a ≤ 180) : S.fval (mulS (spd P w a) (Op.negFloat .f32 (cosW a))) = -S.fval (madeW P w a) := by
  obtain ⟨m1, m2, m3, _⟩ := made_ok hP hw h
  obtain ⟨_, c1, c2, _⟩ := cos_ok a (by omega)
  have := mul_neg (spd_ok hP hw (a := a) (by omega) (by omega)).2.2.1 c2 c1 m1
  unfold mulS
  rw [this]
  exact (neg_val m2 m3).2
set_option maxRecDepth 100000 in
set_option maxHeartbeats 1000000 in
theorem i_BestDown (P : Pol) (x : Nat) (w : World) (h : PolIn w P) (hx : x < 4294967296) :
    Calls Tryz.prog 6 #[.agg #[.slice P.W P.nw P.cw, .slice P.A P.na P.ca, .slice P.S P.ns P.cs], .float .f32 x] w fun e w' => TellsBest (PolOk P ∧ okA x) 91 180 (fun j : Nat => -S.fval (madeW P x j)) w e w' := by
  suffices hs : ∀ (V : Prop) (G : Nat → Int), Hid (V ↔ PolOk P ∧ okA x) → Hid (PolOk P ∧ okA x → ∀ j : Nat, 91 ≤ j → j ≤ 180 → S.fval (mulS (spd P x j) (Op.negFloat .f32 (cosW j))) = G j) → Calls Tryz.prog 6 #[.agg #[.slice P.W P.nw P.cw, .slice P.A P.na P.ca, .slice P.S P.ns P.cs], .float .f32 x] w fun e w' => TellsBest V 91 180 G w e w' from
    hs _ _ (Lib.hid Iff.rfl) (Lib.hid fun hv j _ h2 => neg_made hv.1 hv.2 h2)
  intro V G HV HG
  have HI := Lib.hid h
  clear h
  have hmf : ∀ (fn : Fn) (first cap : Array Value) (w : World), (Instr.makeFunc fn first cap).run Tryz.prog w = .ok (.func fn first cap) w := fun _ _ _ _ => rfl
  obtain ⟨hz, hi⟩ := zero_of_info Tryz.infoTurns
  go_enter Tryz.func6, Tryz.ntmps6
  go_wp2_with fail
  with_reducible refine (i_turns _).mono ?_
  rintro e w1 ⟨cs, ht, rfl, b1⟩
  have hB := (BoxIn.new w P).step b1
  have hst := run_storeCells_new (P := Tryz.prog) w1 52 zeroT cs (by rw [ht.1]; exact hi) (by rw [ht.1]; exact size_zeroT) ht.2.2
  have hsz := ht.1
  have hB2 : BoxIn w P (w1.alloc (.cells cs 52)) := hB.step ((Below.refl _ w1).alloc (Nat.le_refl _) _)
  have hT : TurnsAt (w1.alloc (.cells cs 52)) w1.heap.size := fun k hk => by
    rw [cell_of_row _ _ k _ _ _ (heap_alloc_last w1 _)]; exact ht.2.1 k hk
  have c0 := hB2.c0
  have c1 := hB2.c1
  have c2 := hB2.c2
  have HB2 := Lib.hid (And.intro hB2 hT)
  clear hi ht b1 hB hB2 hT
  go_wp2_with fail
  refine (i_best_down P x 91 180 w1.heap.size _ (HI.out.keeps HB2.out.1.keeps) hx (by omega) (by omega) HB2.out.2).mono ?_
  rintro e w2 ⟨b2, ⟨hv, b, t, hb, rfl⟩ | ⟨hv, rfl⟩⟩
  · have HY := Lib.hid (And.intro (HV.out.2 hv) (And.intro (best_congr hb (HG.out hv)) (HB2.out.1.2.trans (b2.mono HB2.out.1.2.size))))
    clear hv hb b2 hst c0 c1 c2
    go_wp2
    go_ret2
    exact TellsBest.yes HY.out.1 b t HY.out.2.1 rfl HY.out.2.2
  · have HN := Lib.hid (And.intro (show ¬ V from fun h => hv (HV.out.1 h)) (HB2.out.1.2.trans (b2.mono HB2.out.1.2.size)))
    clear hv b2 hst c0 c1 c2
    go_wp2
    go_ret2
    exact TellsBest.no HN.out.1 rfl HN.out.2
theorem one_made {P : Pol} (hP : PolOk P) {w : Nat} (hw : okA w) {a : Nat} (h : a ≤ 180) : S.fval (mulS (spd P w a) 1065353216) = S.fval (spd P w a) := by
  obtain ⟨_, h1, h2, _⟩ := spd_ok hP hw (a := a) (by omega) (by omega)
  unfold mulS
  rw [mul_one h1 h2]; rfl
end Go.Proofs.YtonoknbangnleaaGreat

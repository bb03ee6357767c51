/- bestAngle, BestUp, BestDown, Fastest (impl). Made by gen_PoB.py. -/
import Derived.Test.YtonoknbangnleaaGreatPoU
namespace Go.Proofs.YtonoknbangnleaaGreat
open Go.RowKit Ieee
set_option linter.unusedSimpArgs false
set_option linter.unusedVariables false

/-- The best of some angles: the first one at which the most is made, if that is more than nothing. -/
def Best (lo hi : Nat) (G : Nat → Int) (b : Int) (t : Bool) : Prop :=
  (t = false ∧ b = 0 ∧ ∀ j, lo ≤ j → j ≤ hi → G j ≤ 0) ∨
  (t = true ∧ ∃ n : Nat, b = n ∧ lo ≤ n ∧ n ≤ hi ∧ 0 < G n ∧ (∀ j, lo ≤ j → j < n → G j < G n) ∧ ∀ j, lo ≤ j → j ≤ hi → G j ≤ G n)
theorem best_fun {lo hi : Nat} {G : Nat → Int} {b b' : Int} {t t' : Bool} (h : Best lo hi G b t) (h' : Best lo hi G b' t') : b = b' ∧ t = t' := by
  rcases h with ⟨rfl, rfl, h1⟩ | ⟨rfl, n, rfl, h1, h2, h3, h4, h5⟩ <;> rcases h' with ⟨rfl, rfl, h1'⟩ | ⟨rfl, n', rfl, h1', h2', h3', h4', h5'⟩
  · exact ⟨rfl, rfl⟩
  · have := h1 n' h1' h2'; omega
  · have := h1' n h1 h2; omega
  · refine ⟨?_, rfl⟩
    rcases Nat.lt_trichotomy n n' with h | h | h
    · have := h4' n h1 h; have := h5 n' h1' h2'; omega
    · rw [h]
    · have := h4 n' h1' h; have := h5' n h1 h2; omega
theorem best_congr {lo hi : Nat} {G G' : Nat → Int} {b : Int} {t : Bool} (h : Best lo hi G b t) (e : ∀ j, lo ≤ j → j ≤ hi → G j = G' j) : Best lo hi G' b t := by
  rcases h with ⟨rfl, rfl, h1⟩ | ⟨rfl, n, rfl, h1, h2, h3, h4, h5⟩
  · exact .inl ⟨rfl, rfl, fun j a b => by rw [← e j a b]; exact h1 j a b⟩
  · refine .inr ⟨rfl, n, rfl, h1, h2, by rw [← e n h1 h2]; exact h3, fun j a b => ?_, fun j a b => ?_⟩
    · rw [← e n h1 h2, ← e j a (by omega)]; exact h4 j a b
    · rw [← e n h1 h2, ← e j a b]; exact h5 j a b
/-- .. so far. -/
def BestSo (lo k : Nat) (g : Nat → Nat) (b : Int) (m : Nat) : Prop :=
  (b = 0 ∧ m = 0 ∧ ∀ j, lo ≤ j → j < k → S.fval (g j) ≤ 0) ∨
  (∃ n : Nat, b = n ∧ lo ≤ n ∧ n < k ∧ m = g n ∧ 0 < S.fval (g n) ∧ (∀ j, lo ≤ j → j < n → S.fval (g j) < S.fval (g n)) ∧ ∀ j, lo ≤ j → j < k → S.fval (g j) ≤ S.fval (g n))
theorem so_val {lo k : Nat} {g : Nat → Nat} {b : Int} {m : Nat} (h : BestSo lo k g b m) (hg : ∀ j, lo ≤ j → j < k → S.isNum (g j)) : S.isNum m ∧ (∀ j, lo ≤ j → j < k → S.fval (g j) ≤ S.fval m) ∧ 0 ≤ S.fval m ∧ 0 ≤ b ∧ b ≤ k := by
  rcases h with ⟨rfl, rfl, h1⟩ | ⟨n, rfl, h1, h2, rfl, h3, h4, h5⟩
  · exact ⟨S.isNum_of S.nought_num, by rw [S.nought_val]; exact h1, by rw [S.nought_val]; omega, by omega, by omega⟩
  · exact ⟨hg n h1 h2, h5, by omega, by omega, by omega⟩
theorem so_more {lo k : Nat} {g : Nat → Nat} {b : Int} {m : Nat} (h : BestSo lo k g b m) (hg : ∀ j, lo ≤ j → j < k → S.isNum (g j)) (hk : lo ≤ k) (hm : S.fval m < S.fval (g k)) : BestSo lo (k + 1) g k (g k) := by
  obtain ⟨_, h1, h2, _⟩ := so_val h hg
  refine .inr ⟨k, rfl, hk, by omega, rfl, by omega, fun j a b => ?_, fun j a b => ?_⟩
  · have := h1 j a b; omega
  · rcases Nat.lt_or_ge j k with h | h
    · have := h1 j a h; omega
    · rw [show j = k by omega]; exact Int.le_refl _
theorem so_less {lo k : Nat} {g : Nat → Nat} {b : Int} {m : Nat} (h : BestSo lo k g b m) (hm : S.fval (g k) ≤ S.fval m) : BestSo lo (k + 1) g b m := by
  rcases h with ⟨rfl, rfl, h1⟩ | ⟨n, rfl, h1, h2, rfl, h3, h4, h5⟩
  · refine .inl ⟨rfl, rfl, fun j a b => ?_⟩
    rcases Nat.lt_or_ge j k with h | h
    · exact h1 j a h
    · rw [show j = k by omega]; rw [S.nought_val] at hm; exact hm
  · refine .inr ⟨n, rfl, h1, by omega, rfl, h3, h4, fun j a b => ?_⟩
    rcases Nat.lt_or_ge j k with h | h
    · exact h5 j a h
    · rw [show j = k by omega]; exact hm
theorem so_best {lo hi : Nat} {g : Nat → Nat} {b : Int} {m : Nat} (h : BestSo lo (hi + 1) g b m) : Best lo hi (fun j => S.fval (g j)) b (decide (0 < S.fval m)) := by
  rcases h with ⟨rfl, rfl, h1⟩ | ⟨n, rfl, h1, h2, rfl, h3, h4, h5⟩
  · rw [S.nought_val]
    exact .inl ⟨rfl, rfl, fun j a b => h1 j a (by omega)⟩
  · rw [decide_eq_true h3]
    exact .inr ⟨rfl, n, rfl, h1, by omega, h3, h4, fun j a b => h5 j a (by omega)⟩
/-- What is told of the best angle. -/
def TellsBest (v : Prop) (lo hi : Nat) (G : Nat → Int) (w : World) (e : Ending) (w' : World) : Prop :=
  Below w.heap.size w w' ∧ ((v ∧ ∃ b t, Best lo hi G b t ∧ e = .returned (.tuple #[.int .i64 b, .bool t])) ∨ (¬ v ∧ e = .returned (.tuple #[.int .i64 0, .bool false])))
theorem TellsBest.yes {v : Prop} {lo hi : Nat} {G : Nat → Int} {w : World} {e : Ending} {w' : World} (h : v) (b : Int) (t : Bool) (hb : Best lo hi G b t) (he : e = .returned (.tuple #[.int .i64 b, .bool t])) (bl : Below w.heap.size w w') : TellsBest v lo hi G w e w' := ⟨bl, .inl ⟨h, b, t, hb, he⟩⟩
theorem TellsBest.no {v : Prop} {lo hi : Nat} {G : Nat → Int} {w : World} {e : Ending} {w' : World} (h : ¬ v) (he : e = .returned (.tuple #[.int .i64 0, .bool false])) (bl : Below w.heap.size w w') : TellsBest v lo hi G w e w' := ⟨bl, .inr ⟨h, he⟩⟩
/-- The turns lie in an array. -/
def TurnsAt (w : World) (g : Nat) : Prop := ∀ k, k < 360 → w.cell? ⟨g, k, none⟩ = some (tv k)
theorem TurnsAt.keeps {w w' : World} {g : Nat} (h : TurnsAt w g) (k : Keeps w w') : TurnsAt w' g := fun j hj => k.2 _ _ (h j hj)
set_option maxHeartbeats 400000 in
theorem i_up (k g : Nat) (w : World) (hk : k < 360) (hc : TurnsAt w g) :
    Calls Tryz.prog 31 #[.int .i64 k, .pointer (some ⟨g, 0, none⟩)] w fun e w' => e = .returned (.float .f32 (cosW k)) ∧ w = w' := by
  have c := hc k hk
  have hw := fun w => i_windward k w hk
  have hk1 : (k : Int) < 360 := by omega
  unfold tv at c
  generalize trn k = t at *
  clear hc
  go_enter Tryz.func31, Tryz.ntmps31
  go_wp2_with fail
  with_reducible refine (hw _).mono ?_
  rintro e w1 ⟨rfl, rfl⟩
  clear hw
  go_wp2
  go_ret
  exact ⟨rfl, rfl⟩
set_option maxHeartbeats 400000 in
theorem i_down (k g : Nat) (w : World) (hk : k < 360) (hc : TurnsAt w g) :
    Calls Tryz.prog 23 #[.int .i64 k, .pointer (some ⟨g, 0, none⟩)] w fun e w' => e = .returned (.float .f32 (Op.negFloat .f32 (cosW k))) ∧ w = w' := by
  have c := hc k hk
  have hw := fun w => i_windward k w hk
  have hk1 : (k : Int) < 360 := by omega
  have hneg : ∀ x w, (Op.unary .neg (.float .f32 x)).run Tryz.prog w = .ok (.float .f32 (Op.negFloat .f32 x)) w := fun _ _ => rfl
  unfold tv at c
  generalize trn k = t at *
  clear hc
  go_enter Tryz.func23, Tryz.ntmps23
  go_wp2_with fail
  with_reducible refine (hw _).mono ?_
  rintro e w1 ⟨rfl, rfl⟩
  clear hw
  go_wp2
  go_ret
  exact ⟨rfl, rfl⟩
theorem neg_cos (k : Nat) (hk : k < 360) : S.isNum (Op.negFloat .f32 (cosW k)) ∧ (S.fval (Op.negFloat .f32 (cosW k))).natAbs ≤ 2 * S.oneV := by
  obtain ⟨_, h1, h2, h3⟩ := cos_ok k hk
  obtain ⟨a, b⟩ := neg_val h1 h2
  exact ⟨a, by rw [b, Int.natAbs_neg]; exact h3⟩
theorem one_ok : S.isNum 1065353216 ∧ (S.fval 1065353216).natAbs ≤ 2 * S.oneV := ⟨S.isNum_of oneW_num, by rw [oneW_val]; omega⟩
set_option maxRecDepth 100000 in
set_option maxHeartbeats 4000000 in
theorem i_best_up (P : Pol) (x lo hi g : Nat) (w : World) (h : PolIn w P) (hx : x < 4294967296) (hlo : lo ≤ hi) (hhi : hi ≤ 180) (hg : TurnsAt w g) :
    Calls Tryz.prog 25 #[.agg #[.slice P.W P.nw P.cw, .slice P.A P.na P.ca, .slice P.S P.ns P.cs], .float .f32 x, .int .i64 lo, .int .i64 hi, .func (.func 31) #[] #[.pointer (some ⟨g, 0, none⟩)]] w fun e w' => TellsBest (PolOk P ∧ okA x) lo hi (fun j : Nat => S.fval (mulS (spd P x j) (cosW j))) w e w' := by
  suffices hs : ∀ (V : Prop) (g0 : Nat → Nat), Hid (V ↔ PolOk P ∧ okA x) → Hid (g0 = fun j : Nat => mulS (spd P x j) (cosW j)) → Calls Tryz.prog 25 #[.agg #[.slice P.W P.nw P.cw, .slice P.A P.na P.ca, .slice P.S P.ns P.cs], .float .f32 x, .int .i64 lo, .int .i64 hi, .func (.func 31) #[] #[.pointer (some ⟨g, 0, none⟩)]] w fun e w' => TellsBest V lo hi (fun j => S.fval (g0 j)) w e w' from hs _ _ (Lib.hid Iff.rfl) (Lib.hid rfl)
  intro V g0 HV HG
  have HI := Lib.hid h
  have HT := Lib.hid hg
  clear hg
  clear h
  go_enter Tryz.func25, Tryz.ntmps25
  go_wp2_with fail
  with_reducible refine (i_polarOk P _ (HI.out.keeps (keeps_alloc _ _))).mono ?_
  rintro e w1 ⟨t, ht, rfl, b1⟩
  have hB := (BoxIn.new w P).step b1
  have c0 := hB.c0
  have c1 := hB.c1
  have c2 := hB.c2
  have HB := Lib.hid hB
  clear hB b1
  cases t
  · have HN := Lib.hid (show ¬ V from fun h => says_no ht (HV.out.1 h).1)
    clear ht
    go_wp2
    go_ret2
    exact TellsBest.no HN.out rfl HB.out.2
  · have HP := Lib.hid (says_yes ht)
    clear ht
    go_wp2_with fail
    with_reducible refine (i_air x _ hx).mono ?_
    rintro e w2 ⟨t, ht, rfl, rfl⟩
    cases t
    · have HN := Lib.hid (show ¬ V from fun h => says_no ht (HV.out.1 h).2)
      clear ht
      go_wp2
      go_ret2
      exact TellsBest.no HN.out rfl HB.out.2
    · have HX := Lib.hid (says_yes ht)
      have HY := Lib.hid (show V from HV.out.2 ⟨HP.out, HX.out⟩)
      have hgok : ∀ k : Nat, k ≤ 180 → floatBits .mul .f32 (spd P x k) (cosW k) = some (g0 k) ∧ S.isNum (g0 k) := fun k hk => by
        obtain ⟨a, _, b, _⟩ := mulS_ok (M := 1250) (c := 2) (spd_ok HP.out HX.out (a := k) (by omega) (by omega)).2 ((cos_ok k (by omega)).2.2) (by omega)
        rw [HG.out]; exact ⟨a, b⟩
      have HGO := Lib.hid hgok
      clear ht hgok c0 c1 c2
      go_wp2
      go_loopw [12, 13, 14] (fun b m i wr => ∃ (k : Nat) (bi : Int) (mi : Nat), lo ≤ k ∧ k ≤ hi + 1 ∧ b = .int .i64 bi ∧ m = .float .f32 mi ∧ i = .int .i64 k ∧ BestSo lo k g0 bi mi ∧ BoxIn w P wr) (fun _ _ i _ => hi + 1 - (intOf i).toNat)
      case atStart => exact ⟨lo, 0, 0, Nat.le_refl _, by omega, rfl, rfl, rfl, .inl ⟨rfl, rfl, fun j a b => by omega⟩, HB.out⟩
      case round =>
        obtain ⟨k, bi, mi, hk0, hk1, rfl, rfl, rfl, hso, hB⟩ := hrel
        obtain ⟨n1, n2, n3, n4, n5⟩ := so_val hso (fun j a b => (HGO.out j (by omega)).2)
        by_cases hlt : k ≤ hi
        · have hlt1 : (k : Int) ≤ (hi : Int) := by omega
          have c0 := hB.c0
          have c1 := hB.c1
          have c2 := hB.c2
          have HB' := Lib.hid hB
          have HSO := Lib.hid hso
          have hsp := i_speedOf P x k wr (HI.out.keeps HB'.out.keeps) HP.out HX.out (by omega) (by omega)
          obtain ⟨hm, hgn⟩ := HGO.out k (by omega)
          have hmr := fun w => run_float_arith (P := Tryz.prog) w .mul 35 .f32 _ _ _ hm
          have e1 := ord_gt hgn n1
          have hcl := fun w' (hk' : Keeps w w') => i_up k g w' (by omega) (HT.out.keeps hk')
          clear hB hso hm hgn n2
          generalize hs : spd P x k = s at *
          generalize hsh : cosW k = c at *
          have HSS := Lib.hid (And.intro hs hsh)
          clear hs hsh
          cases hd : decide (S.fval mi < S.fval (g0 k))
          · rw [hd] at e1
            have HNX := Lib.hid (so_less HSO.out (show S.fval (g0 k) ≤ S.fval mi by have := of_decide_eq_false hd; omega))
            clear hd
            generalize g0 k = y at *
            go_wp2_with fail
            with_reducible refine hsp.mono ?_
            rintro e w3 ⟨rfl, b3⟩
            have HB3 := Lib.hid (HB'.out.step b3)
            have hcl3 := hcl w3 HB3.out.keeps
            clear hsp b3 hcl c0 c1 c2
            go_wp2_with fail
            with_reducible refine hcl3.mono ?_
            rintro e w4 ⟨rfl, rfl⟩
            clear hcl3
            go_wp2
            go_roundw
            case rel => exact ⟨k + 1, bi, mi, by omega, by omega, rfl, rfl, by go_num, HNX.out, HB3.out⟩
            case measure => simp [intOf]; omega
          · rw [hd] at e1
            have HNX := Lib.hid (so_more HSO.out (fun j a b => (HGO.out j (by omega)).2) hk0 (of_decide_eq_true hd))
            clear hd
            generalize hy : g0 k = y at *
            go_wp2_with fail
            with_reducible refine hsp.mono ?_
            rintro e w3 ⟨rfl, b3⟩
            have HB3 := Lib.hid (HB'.out.step b3)
            have hcl3 := hcl w3 HB3.out.keeps
            clear hsp b3 hcl c0 c1 c2
            go_wp2_with fail
            with_reducible refine hcl3.mono ?_
            rintro e w4 ⟨rfl, rfl⟩
            clear hcl3
            go_wp2
            go_roundw
            case rel => exact ⟨k + 1, k, y, by omega, by omega, rfl, rfl, by go_num, HNX.out, HB3.out⟩
            case measure => simp [intOf]; omega
        · obtain rfl : k = hi + 1 := by omega
          have hlt1 : ¬ (((hi + 1 : Nat) : Int) ≤ (hi : Int)) := by omega
          have e1 := ord_gt n1 (S.isNum_of S.nought_num)
          rw [S.nought_val] at e1
          have HF := Lib.hid (so_best hso)
          have HB' := Lib.hid hB
          clear hso hB n2
          cases hd : decide (0 < S.fval mi)
          · rw [hd] at e1
            have HF2 := Lib.hid (show Best lo hi (fun j => S.fval (g0 j)) bi false from by rw [← hd]; exact HF.out)
            clear hd HF
            go_wp2
            go_ret2
            exact TellsBest.yes HY.out bi false HF2.out rfl HB'.out.2
          · rw [hd] at e1
            have HF2 := Lib.hid (show Best lo hi (fun j => S.fval (g0 j)) bi true from by rw [← hd]; exact HF.out)
            clear hd HF
            go_wp2
            go_ret2
            exact TellsBest.yes HY.out bi true HF2.out rfl HB'.out.2
set_option maxRecDepth 100000 in
set_option maxHeartbeats 4000000 in
theorem i_best_down (P : Pol) (x lo hi g : Nat) (w : World) (h : PolIn w P) (hx : x < 4294967296) (hlo : lo ≤ hi) (hhi : hi ≤ 180) (hg : TurnsAt w g) :
    Calls Tryz.prog 25 #[.agg #[.slice P.W P.nw P.cw, .slice P.A P.na P.ca, .slice P.S P.ns P.cs], .float .f32 x, .int .i64 lo, .int .i64 hi, .func (.func 23) #[] #[.pointer (some ⟨g, 0, none⟩)]] w fun e w' => TellsBest (PolOk P ∧ okA x) lo hi (fun j : Nat => S.fval (mulS (spd P x j) (Op.negFloat .f32 (cosW j)))) w e w' := by
  suffices hs : ∀ (V : Prop) (g0 : Nat → Nat), Hid (V ↔ PolOk P ∧ okA x) → Hid (g0 = fun j : Nat => mulS (spd P x j) (Op.negFloat .f32 (cosW j))) → Calls Tryz.prog 25 #[.agg #[.slice P.W P.nw P.cw, .slice P.A P.na P.ca, .slice P.S P.ns P.cs], .float .f32 x, .int .i64 lo, .int .i64 hi, .func (.func 23) #[] #[.pointer (some ⟨g, 0, none⟩)]] w fun e w' => TellsBest V lo hi (fun j => S.fval (g0 j)) w e w' from hs _ _ (Lib.hid Iff.rfl) (Lib.hid rfl)
  intro V g0 HV HG
  have HI := Lib.hid h
  have HT := Lib.hid hg
  clear hg
  clear h
  go_enter Tryz.func25, Tryz.ntmps25
  go_wp2_with fail
  with_reducible refine (i_polarOk P _ (HI.out.keeps (keeps_alloc _ _))).mono ?_
  rintro e w1 ⟨t, ht, rfl, b1⟩
  have hB := (BoxIn.new w P).step b1
  have c0 := hB.c0
  have c1 := hB.c1
  have c2 := hB.c2
  have HB := Lib.hid hB
  clear hB b1
  cases t
  · have HN := Lib.hid (show ¬ V from fun h => says_no ht (HV.out.1 h).1)
    clear ht
    go_wp2
    go_ret2
    exact TellsBest.no HN.out rfl HB.out.2
  · have HP := Lib.hid (says_yes ht)
    clear ht
    go_wp2_with fail
    with_reducible refine (i_air x _ hx).mono ?_
    rintro e w2 ⟨t, ht, rfl, rfl⟩
    cases t
    · have HN := Lib.hid (show ¬ V from fun h => says_no ht (HV.out.1 h).2)
      clear ht
      go_wp2
      go_ret2
      exact TellsBest.no HN.out rfl HB.out.2
    · have HX := Lib.hid (says_yes ht)
      have HY := Lib.hid (show V from HV.out.2 ⟨HP.out, HX.out⟩)
      have hgok : ∀ k : Nat, k ≤ 180 → floatBits .mul .f32 (spd P x k) (Op.negFloat .f32 (cosW k)) = some (g0 k) ∧ S.isNum (g0 k) := fun k hk => by
        obtain ⟨a, _, b, _⟩ := mulS_ok (M := 1250) (c := 2) (spd_ok HP.out HX.out (a := k) (by omega) (by omega)).2 (neg_cos k (by omega)) (by omega)
        rw [HG.out]; exact ⟨a, b⟩
      have HGO := Lib.hid hgok
      clear ht hgok c0 c1 c2
      go_wp2
      go_loopw [12, 13, 14] (fun b m i wr => ∃ (k : Nat) (bi : Int) (mi : Nat), lo ≤ k ∧ k ≤ hi + 1 ∧ b = .int .i64 bi ∧ m = .float .f32 mi ∧ i = .int .i64 k ∧ BestSo lo k g0 bi mi ∧ BoxIn w P wr) (fun _ _ i _ => hi + 1 - (intOf i).toNat)
      case atStart => exact ⟨lo, 0, 0, Nat.le_refl _, by omega, rfl, rfl, rfl, .inl ⟨rfl, rfl, fun j a b => by omega⟩, HB.out⟩
      case round =>
        obtain ⟨k, bi, mi, hk0, hk1, rfl, rfl, rfl, hso, hB⟩ := hrel
        obtain ⟨n1, n2, n3, n4, n5⟩ := so_val hso (fun j a b => (HGO.out j (by omega)).2)
        by_cases hlt : k ≤ hi
        · have hlt1 : (k : Int) ≤ (hi : Int) := by omega
          have c0 := hB.c0
          have c1 := hB.c1
          have c2 := hB.c2
          have HB' := Lib.hid hB
          have HSO := Lib.hid hso
          have hsp := i_speedOf P x k wr (HI.out.keeps HB'.out.keeps) HP.out HX.out (by omega) (by omega)
          obtain ⟨hm, hgn⟩ := HGO.out k (by omega)
          have hmr := fun w => run_float_arith (P := Tryz.prog) w .mul 35 .f32 _ _ _ hm
          have e1 := ord_gt hgn n1
          have hcl := fun w' (hk' : Keeps w w') => i_down k g w' (by omega) (HT.out.keeps hk')
          clear hB hso hm hgn n2
          generalize hs : spd P x k = s at *
          generalize hsh : Op.negFloat .f32 (cosW k) = c at *
          have HSS := Lib.hid (And.intro hs hsh)
          clear hs hsh
          cases hd : decide (S.fval mi < S.fval (g0 k))
          · rw [hd] at e1
            have HNX := Lib.hid (so_less HSO.out (show S.fval (g0 k) ≤ S.fval mi by have := of_decide_eq_false hd; omega))
            clear hd
            generalize g0 k = y at *
            go_wp2_with fail
            with_reducible refine hsp.mono ?_
            rintro e w3 ⟨rfl, b3⟩
            have HB3 := Lib.hid (HB'.out.step b3)
            have hcl3 := hcl w3 HB3.out.keeps
            clear hsp b3 hcl c0 c1 c2
            go_wp2_with fail
            with_reducible refine hcl3.mono ?_
            rintro e w4 ⟨rfl, rfl⟩
            clear hcl3
            go_wp2
            go_roundw
            case rel => exact ⟨k + 1, bi, mi, by omega, by omega, rfl, rfl, by go_num, HNX.out, HB3.out⟩
            case measure => simp [intOf]; omega
          · rw [hd] at e1
            have HNX := Lib.hid (so_more HSO.out (fun j a b => (HGO.out j (by omega)).2) hk0 (of_decide_eq_true hd))
            clear hd
            generalize hy : g0 k = y at *
            go_wp2_with fail
            with_reducible refine hsp.mono ?_
            rintro e w3 ⟨rfl, b3⟩
            have HB3 := Lib.hid (HB'.out.step b3)
            have hcl3 := hcl w3 HB3.out.keeps
            clear hsp b3 hcl c0 c1 c2
            go_wp2_with fail
            with_reducible refine hcl3.mono ?_
            rintro e w4 ⟨rfl, rfl⟩
            clear hcl3
            go_wp2
            go_roundw
            case rel => exact ⟨k + 1, k, y, by omega, by omega, rfl, rfl, by go_num, HNX.out, HB3.out⟩
            case measure => simp [intOf]; omega
        · obtain rfl : k = hi + 1 := by omega
          have hlt1 : ¬ (((hi + 1 : Nat) : Int) ≤ (hi : Int)) := by omega
          have e1 := ord_gt n1 (S.isNum_of S.nought_num)
          rw [S.nought_val] at e1
          have HF := Lib.hid (so_best hso)
          have HB' := Lib.hid hB
          clear hso hB n2
          cases hd : decide (0 < S.fval mi)
          · rw [hd] at e1
            have HF2 := Lib.hid (show Best lo hi (fun j => S.fval (g0 j)) bi false from by rw [← hd]; exact HF.out)
            clear hd HF
            go_wp2
            go_ret2
            exact TellsBest.yes HY.out bi false HF2.out rfl HB'.out.2
          · rw [hd] at e1
            have HF2 := Lib.hid (show Best lo hi (fun j => S.fval (g0 j)) bi true from by rw [← hd]; exact HF.out)
            clear hd HF
            go_wp2
            go_ret2
            exact TellsBest.yes HY.out bi true HF2.out rfl HB'.out.2
end Go.Proofs.YtonoknbangnleaaGreat

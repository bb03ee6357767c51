/- Without a stream a track is left least by itself. Plain facts on words. -/
import Derived.Test.YtlenmnffnbldbaaGvK
import Derived.Test.YtlenmnffnbldbaaGvE
namespace Go.Proofs.Ytlenmnffnbldbaa
open Go.RowKit Ieee
set_option linter.unusedVariables false
set_option linter.unusedSimpArgs false

theorem okV_zero : okV 0 0 := ⟨⟨by decide, by decide⟩, ⟨S.isNum_of S.nought_num, by rw [S.nought_val]; exact Nat.zero_le _⟩, ⟨S.isNum_of S.nought_num, by rw [S.nought_val]; exact Nat.zero_le _⟩⟩
theorem oneS_big : (1267650600228229401496703205376 : Int) ≤ (S.oneV : Int) := by
  have h : 2 ^ 100 ≤ S.oneV := by unfold S.oneV; have := S.fixE_eq; exact Nat.pow_le_pow_right (by decide) (by omega)
  rw [show (2 : Nat) ^ 100 = 1267650600228229401496703205376 from rfl] at h
  omega
theorem oneV_mul : (oneV : Int) = (S.oneV : Int) * (widV : Int) := by rw [oneV_wid, Int.natCast_mul]
theorem oneV_big : (1267650600228229401496703205376 : Int) ≤ (oneV : Int) := by
  rw [oneV_mul]
  have h := oneS_big
  have hw := widV_pos
  have := Int.mul_le_mul h (show (1 : Int) ≤ (widV : Int) by omega) (by decide) (by omega)
  rw [Int.mul_one] at this
  exact this

/-- A part of the velocity without a stream. -/
theorem part_err {s T c p g : Nat} (hs : okBs s) (hh : (S.oneV : Int) ≤ 2 * S.fval s) (hT : (fval T).natAbs ≤ 2 * oneV)
    (r : S.NearI (S.fval c) (fval T) widV) (q : S.NearI (S.fval p) (S.fval c * S.fval s) S.oneV) (hp : S.isNum p) (a : S.NearI (S.fval g) (S.fval p + S.fval 0) 1) (hv : fval (wid g) = S.fval g * (widV : Int)) :
    1048576 * (fval (wid g) * (S.oneV : Int) - fval T * S.fval s) ≤ (oneV : Int) * S.fval s ∧ 1048576 * (fval T * S.fval s - fval (wid g) * (S.oneV : Int)) ≤ (oneV : Int) * S.fval s := by
  rw [S.nought_val, Int.add_zero] at a
  have hg : S.fval g = S.fval p := near_one a (S.rep_num hp)
  rw [hv, hg, oneV_mul]
  obtain ⟨x1, x2⟩ := S.near_err r widV_pos
  obtain ⟨y1, y2⟩ := S.near_err q oneS_pos
  exact ve_err (by have := widV_pos; omega) hs.2.2.1 hh oneS_big (by rw [← oneV_mul]; omega) x1 x2 y1 y2

theorem pr_V {T T' s : Int} {O : Int} (hs : 0 ≤ s) (hO : 0 ≤ O) (h : (T.natAbs : Int) ≤ 2 * O) (h' : (T'.natAbs : Int) ≤ 2 * O) : ((T' * s).natAbs : Int) ≤ 2 * (O * s) ∧ ((T * (T' * s)).natAbs : Int) ≤ 4 * (O * (O * s)) := by
  have e : ((T' * s).natAbs : Int) = (T'.natAbs : Int) * s := by rw [Int.natAbs_mul, Int.natCast_mul, show (s.natAbs : Int) = s by omega]
  have a := mul_le_r h' hs
  rw [Int.mul_assoc] at a
  have b : ((T' * s).natAbs : Int) ≤ 2 * (O * s) := by rw [e]; exact a
  refine ⟨b, ?_⟩
  rw [Int.natAbs_mul, Int.natCast_mul]
  have c := Int.mul_le_mul h b (by omega) (by omega)
  rw [Int.mul_assoc 2, Int.mul_left_comm O 2, ← Int.mul_assoc 2 2] at c
  exact c

theorem near_err_one {v N : Int} (h : NearI v N 1) : 4503599627370496 * (v - N) ≤ (N.natAbs : Int) + 4503599627370496 ∧ 4503599627370496 * (N - v) ≤ (N.natAbs : Int) + 4503599627370496 := by
  have := near_err h (by omega)
  simp only [Int.natCast_one, Int.mul_one] at this
  exact this

/-- What is made along and across a track, but for a trifle. -/
theorem st_err {s j k : Nat} (hs : okBs s) (hh : (S.oneV : Int) ≤ 2 * S.fval s) (hj : j < 360) (hk : k < 360) :
    (65536 * (fval (alW s 0 0 j k) * ((oneV : Int) * (S.oneV : Int)) - (fval (trn j).1 * fval (trn k).1 + fval (trn j).2 * fval (trn k).2) * S.fval s) ≤ (oneV : Int) * ((oneV : Int) * S.fval s) ∧
     65536 * ((fval (trn j).1 * fval (trn k).1 + fval (trn j).2 * fval (trn k).2) * S.fval s - fval (alW s 0 0 j k) * ((oneV : Int) * (S.oneV : Int))) ≤ (oneV : Int) * ((oneV : Int) * S.fval s)) ∧
    (65536 * (fval (ofW s 0 0 j k) * ((oneV : Int) * (S.oneV : Int)) - (fval (trn j).1 * fval (trn k).2 - fval (trn j).2 * fval (trn k).1) * S.fval s) ≤ (oneV : Int) * ((oneV : Int) * S.fval s) ∧
     65536 * ((fval (trn j).1 * fval (trn k).2 - fval (trn j).2 * fval (trn k).1) * S.fval s - fval (ofW s 0 0 j k) * ((oneV : Int) * (S.oneV : Int))) ≤ (oneV : Int) * ((oneV : Int) * S.fval s)) := by
  have V := vel_ok hs hk
  have G := grd_ok hs hk okV_zero
  have D := dc_grd hs hj hk okV_zero
  obtain ⟨⟨_, j2⟩, _, j4⟩ := turn_part hj
  obtain ⟨⟨_, k2⟩, _, k4⟩ := turn_part hk
  obtain ⟨g1, g1'⟩ := part_err hs hh k2 V.r1 V.q1 V.n1 G.r1 G.v1
  obtain ⟨g2, g2'⟩ := part_err hs hh k4 V.r2 V.q2 V.n2 G.r2 G.v2
  have hs0 := hs.2.2.1
  have hO := oneV_big
  have hOS : (0 : Int) ≤ (S.oneV : Int) := by omega
  have hpos : 0 < oneV := Nat.two_pow_pos _
  have q0 : 0 ≤ (oneV : Int) * S.fval s := Int.mul_nonneg (by omega) hs0
  have oo : (oneV : Int) * (S.oneV : Int) ≤ 2 * ((oneV : Int) * S.fval s) := by
    have := Int.mul_le_mul_of_nonneg_left hh (show (0 : Int) ≤ (oneV : Int) by omega)
    rw [Int.mul_left_comm] at this
    exact this
  have oo0 : 0 ≤ (oneV : Int) * (S.oneV : Int) := Int.mul_nonneg (by omega) hOS
  have qb : 1267650600228229401496703205376 * ((oneV : Int) * S.fval s) ≤ (oneV : Int) * ((oneV : Int) * S.fval s) := mul_le_r hO q0
  have tj1 : ((fval (trn j).1).natAbs : Int) ≤ 2 * (oneV : Int) := by omega
  have tj2 : ((fval (trn j).2).natAbs : Int) ≤ 2 * (oneV : Int) := by omega
  have tk1 : ((fval (trn k).1).natAbs : Int) ≤ 2 * (oneV : Int) := by omega
  have tk2 : ((fval (trn k).2).natAbs : Int) ≤ 2 * (oneV : Int) := by omega
  obtain ⟨e1, e1'⟩ := near_err D.e1 hpos
  obtain ⟨e2, e2'⟩ := near_err D.e2 hpos
  obtain ⟨e3, e3'⟩ := near_err_one D.e3
  obtain ⟨f1, f1'⟩ := near_err D.f1 hpos
  obtain ⟨f2, f2'⟩ := near_err D.f2 hpos
  obtain ⟨f3, f3'⟩ := near_err_one D.f3
  have pr := fun {T T' : Int} (a : (T.natAbs : Int) ≤ 2 * (oneV : Int)) (b : (T'.natAbs : Int) ≤ 2 * (oneV : Int)) => pr_V hs0 (show (0 : Int) ≤ (oneV : Int) by omega) a b
  obtain ⟨u1, u1'⟩ := pr_err hs0 hh hO tj1 hOS g1 g1' (pr tj1 tk1).1 e1 e1'
  obtain ⟨u2, u2'⟩ := pr_err hs0 hh hO tj2 hOS g2 g2' (pr tj2 tk2).1 e2 e2'
  obtain ⟨v1, v1'⟩ := pr_err hs0 hh hO tj1 hOS g2 g2' (pr tj1 tk2).1 f1 f1'
  obtain ⟨v2, v2'⟩ := pr_err hs0 hh hO tj2 hOS g1 g1' (pr tj2 tk1).1 f2 f2'
  refine ⟨?_, ?_⟩
  · have h := su_err qb q0 oo oo0 u1 u1' u2 u2' (pr tj1 tk1).2 (pr tj2 tk2).2 e3 e3'
    have e : fval (trn j).1 * (fval (trn k).1 * S.fval s) + fval (trn j).2 * (fval (trn k).2 * S.fval s) = (fval (trn j).1 * fval (trn k).1 + fval (trn j).2 * fval (trn k).2) * S.fval s := by rw [Int.add_mul, Int.mul_assoc, Int.mul_assoc]
    rw [e] at h
    exact h
  · have h := su_err (m2 := -fval (ml (trn j).2 (widW (grdW s 0 0 k)).1)) (V2 := -(fval (trn j).2 * (fval (trn k).1 * S.fval s))) qb q0 oo oo0 v1 v1' (by rw [Int.neg_mul]; omega) (by rw [Int.neg_mul]; omega) (pr tj1 tk2).2 (by rw [Int.natAbs_neg]; exact (pr tj2 tk1).2) (by rw [← Int.sub_eq_add_neg]; exact f3) (by rw [← Int.sub_eq_add_neg]; exact f3')
    have e : fval (trn j).1 * (fval (trn k).2 * S.fval s) + -(fval (trn j).2 * (fval (trn k).1 * S.fval s)) = (fval (trn j).1 * fval (trn k).2 - fval (trn j).2 * fval (trn k).1) * S.fval s := by rw [Int.sub_mul, Int.mul_assoc, Int.mul_assoc, Int.sub_eq_add_neg]
    rw [e] at h
    exact h
theorem four_sq (X Y X' Y' : Int) : (X * X' + Y * Y') * (X * X' + Y * Y') + (X * Y' - Y * X') * (X * Y' - Y * X') = (X * X + Y * Y) * (X' * X' + Y' * Y') := by
  simp only [Int.add_mul, Int.mul_add, Int.sub_mul, Int.mul_sub, Int.mul_assoc, Int.mul_comm, Int.mul_left_comm]
  omega
theorem sq_le {a b : Int} (h : (a.natAbs : Int) ≤ b) : a * a ≤ b * b := by
  have := Int.mul_le_mul h h (by omega) (by omega)
  rw [← Int.natCast_mul, ← Int.natAbs_mul] at this
  generalize a * a = x at *
  omega
theorem mul4 (a b c d : Int) : (a * b) * (c * d) = (a * c) * (b * d) := by rw [Int.mul_assoc, Int.mul_left_comm b, ← Int.mul_assoc]
/-- Of two different turns whose product is not far below nought the other product is not small. -/
theorem cross_big {X Y X' Y' : Int} (l : 1766847064778384329583297500742918515827483896875618958121606201292619776 - 1606938044258990275541962092341162602522202993782792835301376 ≤ X * X + Y * Y) (l' : 1766847064778384329583297500742918515827483896875618958121606201292619776 - 1606938044258990275541962092341162602522202993782792835301376 ≤ X' * X' + Y' * Y')
    (hap : 2 * (X * X' + Y * Y') ≤ 3533586289799024939871582617519355412436067144868638224222639136996065280) (hd : -(65536 * (X * X' + Y * Y')) ≤ 1766847064778384329583297500742918515827483896875618958121606201292619776) : 6901746346790563787434755862277025452451108972170386555162524223799296 ≤ ((X * Y' - Y * X').natAbs : Int) := by
  have id := four_sq X Y X' Y'
  have k := Int.mul_le_mul l l' (by decide) (by omega)
  rw [← id] at k
  rcases Int.lt_or_le ((X * Y' - Y * X').natAbs : Int) 6901746346790563787434755862277025452451108972170386555162524223799296 with h | h
  · exfalso
    have a := sq_le (b := 1766793144899512469935791308759677706218033572434319112111319568498032640) (a := X * X' + Y * Y') (by omega)
    have b := sq_le (b := 6901746346790563787434755862277025452451108972170386555162524223799296) (a := X * Y' - Y * X') (by omega)
    generalize (X * X' + Y * Y') * (X * X' + Y * Y') = x at *
    generalize (X * Y' - Y * X') * (X * Y' - Y * X') = y at *
    clear id l l' hap hd h
    omega
  · exact h

theorem prod_grain (X Y X' Y' g s : Int) : ((X * g) * (X' * g) + (Y * g) * (Y' * g)) * s = (X * X' + Y * Y') * (g * g * s) ∧ ((X * g) * (Y' * g) - (Y * g) * (X' * g)) * s = (X * Y' - Y * X') * (g * g * s) := by
  rw [mul4 X g X' g, mul4 Y g Y' g, mul4 X g Y' g, mul4 Y g X' g, ← Int.add_mul, ← Int.sub_mul]
  exact ⟨Int.mul_assoc _ _ _, Int.mul_assoc _ _ _⟩
theorem one_grain (s : Int) : (oneV : Int) * ((oneV : Int) * s) = 1766847064778384329583297500742918515827483896875618958121606201292619776 * ((grainV : Int) * (grainV : Int) * s) := by
  rw [oneV_grain, Int.natCast_mul, ← Int.mul_assoc, mul4, Int.mul_assoc]
  rfl

theorem al_pos {s j k : Nat} (hs : okBs s) (hj : j < 360) (hk : k < 360) : mayP s 0 0 j k = true ↔ 0 < fval (alW s 0 0 j k) := by
  have D := dc_grd hs hj hk okV_zero
  have o : f64.order (alW s 0 0 j k) 0 = some (compare (fval (alW s 0 0 j k)) 0) := by
    have := order_val D.dn (isNum_of nought_num)
    rw [nought_val] at this
    exact this
  unfold mayP
  rw [o]
  rcases Int.lt_trichotomy (fval (alW s 0 0 j k)) 0 with h | h | h
  · rw [Int.compare_eq_lt.2 h]; simp; omega
  · rw [Int.compare_eq_eq.2 h]; simp; omega
  · rw [Int.compare_eq_gt.2 h]; simp; omega

/-- The track itself may be taken. -/
theorem st_self {s j : Nat} (hs : okBs s) (hh : (S.oneV : Int) ≤ 2 * S.fval s) (hj : j < 360) : mayP s 0 0 j j = true ∧ 65536 * ((offX s 0 0 j j : Int) * ((oneV : Int) * (S.oneV : Int))) ≤ 1766847064778384329583297500742918515827483896875618958121606201292619776 * ((grainV : Int) * (grainV : Int) * S.fval s) := by
  obtain ⟨n, _, _, ht⟩ := turn_at j hj
  obtain ⟨⟨_, e2⟩, e3, e4⟩ := st_err hs hh hj hj
  have hO := oneV_big
  have hOS := oneS_big
  have hoo : 0 < (oneV : Int) * (S.oneV : Int) := Int.mul_pos (by omega) (by omega)
  have hg : 0 < (grainV : Int) := by have : 0 < grainV := Nat.two_pow_pos _; omega
  have hZ : 0 < (grainV : Int) * (grainV : Int) * S.fval s := Int.mul_pos (Int.mul_pos hg hg) (by omega)
  rw [one_grain, ht.v1, ht.v2] at e2 e3 e4
  obtain ⟨p1, p2⟩ := prod_grain ((n.1 : Int) - 5316911983139663491615228241121378304) ((n.2 : Int) - 5316911983139663491615228241121378304) ((n.1 : Int) - 5316911983139663491615228241121378304) ((n.2 : Int) - 5316911983139663491615228241121378304) (grainV : Int) (S.fval s)
  rw [p1] at e2
  rw [p2] at e3 e4
  have hlo := ht.lo
  clear p1 p2 ht
  generalize (n.1 : Int) - 5316911983139663491615228241121378304 = X at *
  generalize (n.2 : Int) - 5316911983139663491615228241121378304 = Y at *
  rw [show X * Y - Y * X = 0 by rw [Int.mul_comm Y X]; omega, Int.zero_mul] at e3 e4
  have k := Int.mul_le_mul_of_nonneg_right hlo (Int.le_of_lt hZ)
  generalize (grainV : Int) * (grainV : Int) * S.fval s = Z at *
  refine ⟨(al_pos hs hj hj).2 ?_, ?_⟩
  · refine Int.pos_of_mul_pos_left ?_ hoo
    generalize (X * X + Y * Y) * Z = u at *
    generalize fval (alW s 0 0 j j) * ((oneV : Int) * (S.oneV : Int)) = v at *
    omega
  · unfold offX
    rcases Int.le_total 0 (fval (ofW s 0 0 j j)) with h | h
    · rw [show (((fval (ofW s 0 0 j j)).natAbs : Nat) : Int) = fval (ofW s 0 0 j j) by omega]; omega
    · rw [show (((fval (ofW s 0 0 j j)).natAbs : Nat) : Int) = -fval (ofW s 0 0 j j) by omega, Int.neg_mul]; omega
/-- Any other heading that comes on leaves it more. -/
theorem st_still {s j k : Nat} (hs : okBs s) (hh : (S.oneV : Int) ≤ 2 * S.fval s) (hj : j < 360) (hk : k < 360) (hne : j ≠ k) (hp : mayP s 0 0 j k = true) : offX s 0 0 j j < offX s 0 0 j k := by
  obtain ⟨_, hself⟩ := st_self hs hh hj
  have hal := (al_pos hs hj hk).1 hp
  obtain ⟨X, Y, X', Y', ht, ht', hap⟩ := turn_apart hj hk hne
  obtain ⟨⟨e2, _⟩, e3, e4⟩ := st_err hs hh hj hk
  have hO := oneV_big
  have hOS := oneS_big
  have hoo : 0 < (oneV : Int) * (S.oneV : Int) := Int.mul_pos (by omega) (by omega)
  have hg : 0 < (grainV : Int) := by have : 0 < grainV := Nat.two_pow_pos _; omega
  have hZ : 0 < (grainV : Int) * (grainV : Int) * S.fval s := Int.mul_pos (Int.mul_pos hg hg) (by omega)
  rw [one_grain, ht.v1, ht.v2, ht'.v1, ht'.v2] at e2 e3 e4
  obtain ⟨p1, p2⟩ := prod_grain X Y X' Y' (grainV : Int) (S.fval s)
  rw [p1] at e2
  rw [p2] at e3 e4
  have lo := ht.lo
  have lo' := ht'.lo
  have hpp : 0 ≤ fval (alW s 0 0 j k) * ((oneV : Int) * (S.oneV : Int)) := Int.mul_nonneg (by omega) (by omega)
  clear p1 p2 ht ht' hp
  generalize (grainV : Int) * (grainV : Int) * S.fval s = Z at *
  have hd : -(65536 * (X * X' + Y * Y')) ≤ 1766847064778384329583297500742918515827483896875618958121606201292619776 := by
    refine Int.le_of_mul_le_mul_right ?_ hZ
    rw [Int.neg_mul, Int.mul_assoc]
    generalize (X * X' + Y * Y') * Z = u at *
    generalize fval (alW s 0 0 j k) * ((oneV : Int) * (S.oneV : Int)) = q at *
    clear e3 e4 lo lo' hself hap
    omega
  have hc := cross_big lo lo' hap hd
  have hcZ := Int.mul_le_mul_of_nonneg_right hc (Int.le_of_lt hZ)
  have hX : ((X * Y' - Y * X').natAbs : Int) * Z = (((X * Y' - Y * X') * Z).natAbs : Int) := by
    rw [Int.natAbs_mul, Int.natCast_mul, show (Z.natAbs : Int) = Z by omega]
  have hY : ((offX s 0 0 j k : Nat) : Int) * ((oneV : Int) * (S.oneV : Int)) = ((fval (ofW s 0 0 j k) * ((oneV : Int) * (S.oneV : Int))).natAbs : Int) := by
    unfold offX
    rw [Int.natAbs_mul, Int.natCast_mul, show (((oneV : Int) * (S.oneV : Int)).natAbs : Int) = (oneV : Int) * (S.oneV : Int) by omega]
  rw [hX] at hcZ
  have fin : ((offX s 0 0 j j : Nat) : Int) * ((oneV : Int) * (S.oneV : Int)) < ((offX s 0 0 j k : Nat) : Int) * ((oneV : Int) * (S.oneV : Int)) := by
    rw [hY]
    generalize (X * Y' - Y * X') * Z = c at *
    generalize fval (ofW s 0 0 j k) * ((oneV : Int) * (S.oneV : Int)) = q at *
    generalize ((offX s 0 0 j j : Nat) : Int) * ((oneV : Int) * (S.oneV : Int)) = r at *
    clear hX hY hc hd hap lo lo' e2 hpp
    omega
  have := Int.lt_of_mul_lt_mul_right fin (Int.le_of_lt hoo)
  omega

/-- Without a stream the heading is the track. -/
theorem st_is {s j : Nat} (hs : okBs s) (hh : (S.oneV : Int) ≤ 2 * S.fval s) (hj : j < 360) : stW s 0 0 j = some j := by
  obtain ⟨hself, _⟩ := st_self hs hh hj
  cases e : stW s 0 0 j with
  | none => exact absurd hself (by rw [bsF_nothing e j hj]; decide)
  | some b =>
    obtain ⟨h1, h2, h3⟩ := bsF_some e
    by_cases hb : j = b
    · rw [hb]
    · have h4 := st_still hs hh hj h1 hb h2
      rcases h3 j hj hself with h5 | ⟨h5, _⟩ <;> omega
end Go.Proofs.Ytlenmnffnbldbaa

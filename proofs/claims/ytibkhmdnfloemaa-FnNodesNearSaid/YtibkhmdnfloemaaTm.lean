/- Turns: the product of a turn with itself, part by part, is greater than that with any other turn. Nothing here speaks of the program. -/
import Derived.Test.YtibkhmdnfloemaaTnW
import Derived.Test.YtibkhmdnfloemaaFA
namespace Go.Proofs.Ytibkhmdnfloemaa
open Go.RowKit Ieee

noncomputable def grainV : Nat := 2 ^ (fixE - 120)
theorem oneV_grain : oneV = 1329227995784915872903807060280344576 * grainV := by
  have hE := fixE_eq
  unfold oneV grainV
  rw [show (1329227995784915872903807060280344576 : Nat) = 2 ^ 120 from rfl, ← Nat.pow_add, show 120 + (fixE - 120) = fixE by omega]

theorem fits_val {w n : Nat} (h : fits w n = true) : isNum w ∧ fval w = ((n : Int) - 5316911983139663491615228241121378304) * (grainV : Int) := by
  have hE := fixE_eq
  unfold fits at h
  cases e : f64.read w with
  | nan a b => rw [e] at h; cases h
  | infinity a => rw [e] at h; cases h
  | number s m i =>
    rw [e] at h
    refine ⟨isNum_of e, ?_⟩
    have hv : fval w = signed s m (i + 1074).toNat := by unfold fval; rw [e]; rfl
    have hi := (read_num e).1
    simp only [Bool.or_eq_true, Bool.and_eq_true, decide_eq_true_eq] at h
    rcases h with ⟨h1, h2⟩ | ⟨h1, h2⟩
    · have e1 := Nat.eq_of_beq_eq_true h1
      have e2 := Nat.eq_of_beq_eq_true h2
      rw [hv, e1, fl_signed_zero, e2]
      simp
    · obtain ⟨j, hj⟩ : ∃ j : Nat, (i + 120).toNat = j := ⟨_, rfl⟩
      rw [hj] at h2
      rw [hv, show (i + 1074).toNat = j + (fixE - 120) by omega, signed_shift]
      show signed s m j * (grainV : Int) = _
      congr 1
      rw [signed_eq]
      rw [Nat.shiftLeft_eq] at h2
      cases s
      · have e2 : n = 5316911983139663491615228241121378304 + m * 2 ^ j := Nat.eq_of_beq_eq_true h2
        generalize m * 2 ^ j = y at *
        simp only [Bool.false_eq_true, if_false]
        omega
      · have e2 : n + m * 2 ^ j = 5316911983139663491615228241121378304 := Nat.eq_of_beq_eq_true h2
        generalize m * 2 ^ j = y at *
        simp only [if_true]
        omega

theorem fitsAll_at : ∀ (ts ns : List (Nat × Nat)), fitsAll ts ns = true → ∀ (i : Nat) (t : Nat × Nat), ts[i]? = some t → ∃ n, ns[i]? = some n ∧ fits t.1 n.1 = true ∧ fits t.2 n.2 = true
  | [], _, _, i, t, h => by simp at h
  | _ :: _, [], hf, _, _, _ => by rw [fitsAll.eq_def] at hf; cases hf
  | t0 :: ts, n0 :: ns, hf, i, t, h => by
    rw [fitsAll.eq_def] at hf
    simp only [Bool.and_eq_true] at hf
    cases i with
    | zero =>
      have : t0 = t := by simpa using h
      subst this
      exact ⟨n0, rfl, hf.1.1, hf.1.2⟩
    | succ i =>
      obtain ⟨n, h1, h2, h3⟩ := fitsAll_at ts ns hf.2 i t (by simpa using h)
      exact ⟨n, by simpa using h1, h2, h3⟩
theorem cutAll_at : ∀ (ns ss : List (Nat × Nat)), cutAll ns ss = true → ∀ (i : Nat) (n : Nat × Nat), ns[i]? = some n → ∃ s, ss[i]? = some s ∧ n.1 / 1237940039285380274899124224 = s.1 ∧ n.2 / 1237940039285380274899124224 = s.2
  | [], _, _, i, t, h => by simp at h
  | _ :: _, [], hf, _, _, _ => by rw [cutAll.eq_def] at hf; cases hf
  | t0 :: ts, n0 :: ns, hf, i, t, h => by
    rw [cutAll.eq_def] at hf
    simp only [Bool.and_eq_true] at hf
    cases i with
    | zero =>
      have : t0 = t := by simpa using h
      subst this
      have hc := hf.1
      unfold cutB at hc
      simp only [Bool.and_eq_true] at hc
      exact ⟨n0, rfl, Nat.eq_of_beq_eq_true hc.1, Nat.eq_of_beq_eq_true hc.2⟩
    | succ i =>
      obtain ⟨n, h1, h2, h3⟩ := cutAll_at ts ns hf.2 i t (by simpa using h)
      exact ⟨n, by simpa using h1, h2, h3⟩
/-- Two are far apart in one part at least. -/
def Far (a b : Nat × Nat) : Prop := 8388608 ≤ dst a.1 b.1 ∨ 8388608 ≤ dst a.2 b.2
theorem farFrom_cons (x y : Nat) (b : Nat × Nat) (bs : List (Nat × Nat)) (h : farFrom x y (b :: bs) = true) : Far (x, y) b ∧ farFrom x y bs = true := by
  have e : farFrom x y (b :: bs) = Bool.rec (motive := fun _ => Bool) (Bool.rec (motive := fun _ => Bool) false (farFrom x y bs) (Nat.ble 8388608 (Nat.add (Nat.sub y b.2) (Nat.sub b.2 y)))) (farFrom x y bs) (Nat.ble 8388608 (Nat.add (Nat.sub x b.1) (Nat.sub b.1 x))) := rfl
  rw [e] at h
  cases h1 : Nat.ble 8388608 (Nat.add (Nat.sub x b.1) (Nat.sub b.1 x)) with
  | true => rw [h1] at h; exact ⟨.inl (Nat.le_of_ble_eq_true h1), h⟩
  | false =>
    rw [h1] at h
    cases h2 : Nat.ble 8388608 (Nat.add (Nat.sub y b.2) (Nat.sub b.2 y)) with
    | true => rw [h2] at h; exact ⟨.inr (Nat.le_of_ble_eq_true h2), h⟩
    | false => rw [h2] at h; cases h
theorem farFrom_at (x y : Nat) : ∀ (l : List (Nat × Nat)), farFrom x y l = true → ∀ (i : Nat) (b : Nat × Nat), l[i]? = some b → Far (x, y) b
  | [], _, i, b, h => by simp at h
  | b0 :: bs, hf, i, b, h => by
    obtain ⟨h1, h2⟩ := farFrom_cons x y b0 bs hf
    cases i with
    | zero =>
      have : b0 = b := by simpa using h
      subst this; exact h1
    | succ i => exact farFrom_at x y bs h2 i b (by simpa using h)
theorem farAll_cons (a : Nat × Nat) (bs : List (Nat × Nat)) (h : farAll (a :: bs) = true) : farFrom a.1 a.2 bs = true ∧ farAll bs = true := by
  have e : farAll (a :: bs) = Bool.rec (motive := fun _ => Bool) false (farAll bs) (farFrom a.1 a.2 bs) := rfl
  rw [e] at h
  cases h1 : farFrom a.1 a.2 bs with
  | true => rw [h1] at h; exact ⟨rfl, h⟩
  | false => rw [h1] at h; cases h
theorem farAll_at : ∀ (l : List (Nat × Nat)), farAll l = true → ∀ (i j : Nat) (a b : Nat × Nat), i < j → l[i]? = some a → l[j]? = some b → Far a b
  | [], _, i, j, a, b, _, h, _ => by simp at h
  | a0 :: l, hf, i, j, a, b, hij, ha, hb => by
    obtain ⟨h1, h2⟩ := farAll_cons a0 l hf
    obtain ⟨j', rfl⟩ : ∃ j', j = j' + 1 := ⟨j - 1, by omega⟩
    have hb' : l[j']? = some b := by simpa using hb
    cases i with
    | zero =>
      have : a0 = a := by simpa using ha
      subst this
      exact farFrom_at _ _ l h1 j' b hb'
    | succ i => exact farAll_at l h2 i j' a b (by omega) (by simpa using ha) hb'
theorem far_symm {a b : Nat × Nat} (h : Far a b) : Far b a := by
  unfold Far dst at *
  omega

/-- The values of a turn: two whole numbers of parts of 2 to the -120. -/
structure TurnIs (k : Nat) (X Y : Int) : Prop where
  n1 : isNum (trn k).1
  n2 : isNum (trn k).2
  v1 : fval (trn k).1 = X * (grainV : Int)
  v2 : fval (trn k).2 = Y * (grainV : Int)
  lo : 1766847064778384329583297500742918515827483896875618958121606201292619776 - 1606938044258990275541962092341162602522202993782792835301376 ≤ X * X + Y * Y
  hi : X * X + Y * Y ≤ 1766847064778384329583297500742918515827483896875618958121606201292619776 + 1606938044258990275541962092341162602522202993782792835301376
theorem dst_sq (a b : Nat) : ((dst a b : Nat) : Int) * ((dst a b : Nat) : Int) = ((a : Int) - (b : Int)) * ((a : Int) - (b : Int)) := by
  unfold dst
  rcases Nat.le_total a b with h | h
  · rw [Nat.sub_eq_zero_of_le h, Nat.zero_add, Int.natCast_sub h, ← Int.neg_mul_neg, Int.neg_sub]
  · rw [Nat.sub_eq_zero_of_le h, Nat.add_zero, Int.natCast_sub h]
theorem turn_at (k : Nat) (hk : k < 360) : ∃ n : Nat × Nat, tabN[k]? = some n ∧ (∃ s, tabS[k]? = some s ∧ n.1 / 1237940039285380274899124224 = s.1 ∧ n.2 / 1237940039285380274899124224 = s.2) ∧
    TurnIs k ((n.1 : Int) - 5316911983139663491615228241121378304) ((n.2 : Int) - 5316911983139663491615228241121378304) := by
  obtain ⟨n, hn, f1, f2⟩ := fitsAll_at tabW tabN fits_tab k _ (tab_at k hk).1
  obtain ⟨a1, b1⟩ := fits_val f1
  obtain ⟨a2, b2⟩ := fits_val f2
  refine ⟨n, hn, cutAll_at tabN tabS cut_tab k n hn, a1, a2, b1, b2, ?_, ?_⟩
  all_goals
    have hu := List.all_eq_true.1 unit_tab n (List.mem_of_getElem? hn)
    unfold unitN at hu
    simp only [Bool.and_eq_true] at hu
    have u1 := Nat.le_of_ble_eq_true hu.1
    have u2 := Nat.le_of_ble_eq_true hu.2
    unfold sqd at u1 u2
    have e1 := dst_sq n.1 5316911983139663491615228241121378304
    have e2 := dst_sq n.2 5316911983139663491615228241121378304
    have e0 : ((5316911983139663491615228241121378304 : Nat) : Int) = 5316911983139663491615228241121378304 := rfl
    rw [e0] at e1 e2
    rw [← e1, ← e2, ← Int.natCast_mul, ← Int.natCast_mul]
    generalize dst n.1 5316911983139663491615228241121378304 * dst n.1 5316911983139663491615228241121378304 = x at *
    generalize dst n.2 5316911983139663491615228241121378304 * dst n.2 5316911983139663491615228241121378304 = y at *
    omega

/-- Two different turns: what their product, part by part, is at most. -/
theorem turn_apart {k j : Nat} (hk : k < 360) (hj : j < 360) (hne : k ≠ j) : ∃ X Y X' Y' : Int, TurnIs k X Y ∧ TurnIs j X' Y' ∧ 2 * (X * X' + Y * Y') ≤ 3533586289799024939871582617519355412436067144868638224222639136996065280 := by
  obtain ⟨n, hn, ⟨s, hs, c1, c2⟩, ht⟩ := turn_at k hk
  obtain ⟨n', hn', ⟨s', hs', c1', c2'⟩, ht'⟩ := turn_at j hj
  have hfar : Far s s' := by
    rcases Nat.lt_or_ge k j with h | h
    · exact farAll_at tabS far_tab k j s s' h hs hs'
    · exact far_symm (farAll_at tabS far_tab j k s' s (by omega) hs' hs)
  refine ⟨_, _, _, _, ht, ht', ?_⟩
  have h1 := ht.hi
  have h2 := ht'.hi
  have hd : 107839760957595383530364517565543403582974087644098008138851259777024 ≤ ((n.1 : Int) - (n'.1 : Int)) * ((n.1 : Int) - (n'.1 : Int)) + ((n.2 : Int) - (n'.2 : Int)) * ((n.2 : Int) - (n'.2 : Int)) := by
    rw [← dst_sq, ← dst_sq, ← Int.natCast_mul, ← Int.natCast_mul]
    rcases hfar with h | h
    · have hb : 10384592479129615971680717759315968 ≤ dst n.1 n'.1 := by unfold dst at *; omega
      have := Nat.mul_le_mul hb hb
      generalize dst n.1 n'.1 * dst n.1 n'.1 = x at *
      generalize dst n.2 n'.2 * dst n.2 n'.2 = y at *
      omega
    · have hb : 10384592479129615971680717759315968 ≤ dst n.2 n'.2 := by unfold dst at *; omega
      have := Nat.mul_le_mul hb hb
      generalize dst n.1 n'.1 * dst n.1 n'.1 = x at *
      generalize dst n.2 n'.2 * dst n.2 n'.2 = y at *
      omega
  have e : ∀ a b : Int, ((n.1 : Int) - (n'.1 : Int)) = a - b → ((n.1 : Int) - (n'.1 : Int)) * ((n.1 : Int) - (n'.1 : Int)) = a * a + b * b - 2 * (a * b) := fun a b h => by
    rw [h, Int.sub_mul, Int.mul_sub, Int.mul_sub, Int.mul_comm b a]; omega
  have e' : ∀ a b : Int, ((n.2 : Int) - (n'.2 : Int)) = a - b → ((n.2 : Int) - (n'.2 : Int)) * ((n.2 : Int) - (n'.2 : Int)) = a * a + b * b - 2 * (a * b) := fun a b h => by
    rw [h, Int.sub_mul, Int.mul_sub, Int.mul_sub, Int.mul_comm b a]; omega
  rw [e ((n.1 : Int) - 5316911983139663491615228241121378304) ((n'.1 : Int) - 5316911983139663491615228241121378304) (by omega), e' ((n.2 : Int) - 5316911983139663491615228241121378304) ((n'.2 : Int) - 5316911983139663491615228241121378304) (by omega)] at hd
  generalize (n.1 : Int) - 5316911983139663491615228241121378304 = X at *
  generalize (n.2 : Int) - 5316911983139663491615228241121378304 = Y at *
  generalize (n'.1 : Int) - 5316911983139663491615228241121378304 = X' at *
  generalize (n'.2 : Int) - 5316911983139663491615228241121378304 = Y' at *
  generalize X * X' = p at *
  generalize Y * Y' = q at *
  generalize X * X = x at *
  generalize Y * Y = y at *
  generalize X' * X' = x' at *
  generalize Y' * Y' = y' at *
  omega
end Go.Proofs.Ytibkhmdnfloemaa

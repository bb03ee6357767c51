/- The sign of a float32 turned; the widened wind with its signs turned. -/
import Derived.Test.YtgohekdikgfcnaaDmM
import Derived.Test.YtgohekdikgfcnaaBrW
namespace Go.Proofs.Ytgohekdikgfcnaa
open Go.RowKit Ieee

theorem xor_top {r : Nat} (h : r < 2147483648) : r ^^^ 2147483648 = r + 2147483648 := by
  have hlt : r < 2 ^ 31 := h
  show r ^^^ 2 ^ 31 = r + 2 ^ 31
  rw [Nat.add_comm]
  have hor : 2 ^ 31 + r = 2 ^ 31 ||| r := by
    have := Nat.two_pow_add_eq_or_of_lt hlt 1
    simpa using this
  rw [hor]
  apply Nat.eq_of_testBit_eq
  intro i
  rw [Nat.testBit_xor, Nat.testBit_or, Nat.testBit_two_pow]
  by_cases hi : 31 = i
  · subst hi
    rw [Nat.testBit_lt_two_pow hlt]; rfl
  · simp [hi]
theorem xor_back {r : Nat} (h : r < 2147483648) : (r + 2147483648) ^^^ 2147483648 = r := by
  rw [← xor_top h, Nat.xor_assoc, Nat.xor_self, Nat.xor_zero]
/-- A number with its sign turned. -/
theorem neg_num {x : Nat} (hx : x < 4294967296) (h : S.isNum x) : Op.negFloat .f32 x < 4294967296 ∧ S.isNum (Op.negFloat .f32 x) ∧ S.fval (Op.negFloat .f32 x) = -S.fval x := by
  have hy : ∃ y, Op.negFloat .f32 x = y ∧ y < 4294967296 ∧ S.rung y = S.rung x ∧ S.sneg y = !S.sneg x := by
    rcases Nat.lt_or_ge x 2147483648 with hl | hl
    · refine ⟨x + 2147483648, xor_top hl, by omega, by unfold S.rung; omega, ?_⟩
      unfold S.sneg
      rw [show (x + 2147483648) / 2147483648 = 1 by omega, show x / 2147483648 = 0 by omega]; rfl
    · obtain ⟨r, rfl⟩ : ∃ r, x = r + 2147483648 := ⟨x - 2147483648, by omega⟩
      refine ⟨r, xor_back (by omega), by omega, by unfold S.rung; omega, ?_⟩
      unfold S.sneg
      rw [show (r + 2147483648) / 2147483648 = 1 by omega, show r / 2147483648 = 0 by omega]; rfl
  obtain ⟨y, e, yl, hr, hs⟩ := hy
  rw [e]
  have hE := S.expo_of_num hx h
  have he : S.expo y = S.expo x := by rw [S.expo_rung y yl, S.expo_rung x hx, hr]
  obtain ⟨M, P, h1, h2, h3⟩ := S.num_form x hx hE
  obtain ⟨M', P', h1', h2', h3'⟩ := S.num_form y yl (by rw [he]; exact hE)
  rw [he, hr] at h3'
  obtain ⟨rfl, rfl⟩ : M' = M ∧ P' = P := by omega
  refine ⟨yl, S.isNum_of h1', ?_⟩
  unfold S.fval
  rw [h1, h1', hs]
  show signed (!S.sneg x) M' (-149 + (P' : Int) + 149).toNat = -signed (S.sneg x) M' (-149 + (P' : Int) + 149).toNat
  rw [signed_eq, signed_eq]
  cases S.sneg x <;> simp

/-- A wind, widened, with its signs turned. -/
def wnd (a b : Nat) : Nat × Nat := (wid (Op.negFloat .f32 a), wid (Op.negFloat .f32 b))
theorem part_okP {a : Nat} (ha : a < 4294967296) (h : S.okP a) : okP (wid (Op.negFloat .f32 a)) ∧ (f64.order (wid (Op.negFloat .f32 a)) 0 == some .eq) = (FloatKind.f32.format.order a 0 == some .eq) := by
  obtain ⟨n1, n2, n3⟩ := neg_num ha h.1
  obtain ⟨_, w2, w3⟩ := wid_num n1 n2
  have hb := (okP_wid n1 n2).2 (by rw [n3, Int.natAbs_neg]; exact h.2)
  refine ⟨⟨w2, by omega⟩, ?_⟩
  rw [order_val w2 (isNum_of nought_num), nought_val, w3, n3]
  rw [show FloatKind.f32.format.order a 0 = some (compare (S.fval a) (S.fval 0)) from S.order_val h.1 (S.isNum_of S.nought_num), S.nought_val]
  generalize S.fval a = v
  have hw := widV_pos
  generalize widV = c at *
  have hc : (0 : Int) < (c : Int) := by omega
  rcases Int.lt_trichotomy v 0 with hv | hv | hv
  · have : 0 < -v * (c : Int) := Int.mul_pos (by omega) hc
    rw [Int.compare_eq_gt.2 this, Int.compare_eq_lt.2 hv]; rfl
  · subst hv; simp
  · have : -v * (c : Int) < 0 := Int.mul_neg_of_neg_of_pos (by omega) hc
    rw [Int.compare_eq_lt.2 this, Int.compare_eq_gt.2 hv]; rfl
theorem wnd_points {a b : Nat} (h : okV a b) : Points (wnd a b) ↔ (FloatKind.f32.format.order a 0 == some .eq && FloatKind.f32.format.order b 0 == some .eq) = false := by
  obtain ⟨⟨ha, hb⟩, h1, h2⟩ := h
  obtain ⟨p1, q1⟩ := part_okP ha h1
  obtain ⟨p2, q2⟩ := part_okP hb h2
  unfold Points
  rw [show (wnd a b).1 = wid (Op.negFloat .f32 a) from rfl, show (wnd a b).2 = wid (Op.negFloat .f32 b) from rfl, q1, q2]
  exact ⟨fun h => h.2.2, fun h => ⟨p1, p2, h⟩⟩
theorem wnd_conv {a b : Nat} (h : okV a b) : cConvBits .f32 (Op.negFloat .f32 a) (Op.negFloat .f32 b) .f64 = some (wnd a b) := by
  obtain ⟨⟨ha, hb⟩, h1, h2⟩ := h
  obtain ⟨n1, n2, _⟩ := neg_num ha h1.1
  obtain ⟨m1, m2, _⟩ := neg_num hb h2.1
  unfold cConvBits
  rw [(wid_num n1 n2).1, (wid_num m1 m2).1]; rfl
end Go.Proofs.Ytgohekdikgfcnaa

/- The walks of FromOf and Veer (impl and spec), and of the law FnVeerBack. -/
import Derived.Test.YtgohekdikgfcnaaNgS
import Derived.Test.YtgohekdikgfcnaaLnW
import Derived.Test.YtgohekdikgfcnaaDeg
import Derived.Test.YtgohekdikgfcnaaDrW
namespace Go.Proofs.Ytgohekdikgfcnaa
open Go.RowKit Ieee

/-- The bearing from which a wind blows. -/
def FromIs (a b : Nat) (n : Int) : Prop := (okV a b ∧ Points (wnd a b) ∧ n = ((bst (wnd a b) 359).1 : Nat)) ∨ (¬ (okV a b ∧ Points (wnd a b)) ∧ n = -1)
theorem from_ex (a b : Nat) : ∃ n, FromIs a b n ∧ -1 ≤ n ∧ n < 360 := by
  by_cases h : okV a b ∧ Points (wnd a b)
  · have := (bst_num h.2 359 (by omega)).2
    exact ⟨_, .inl ⟨h.1, h.2, rfl⟩, by omega, by omega⟩
  · exact ⟨-1, .inr ⟨h, rfl⟩, by omega, by omega⟩

set_option maxRecDepth 100000 in
set_option maxHeartbeats 1000000 in
theorem i_wfrom (a b : Nat) (n : Int) (w : World) (ha : a < 4294967296) (hb : b < 4294967296) (h : FromIs a b n) :
    Calls Try.prog 51 #[.complex .f32 a b] w fun e w' => e = .returned (.int .i64 n) ∧ Below w.heap.size w w' := by
  have hs : (Try.prog.underlying 47).isSome = true := by rw [Try.underlying47]; rfl
  have H := Lib.hid h
  clear h
  go_enter Try.func51, Try.ntmps51
  go_wp2_with fail
  refine (i_ok a b _ ha hb).mono ?_
  rintro e w1 ⟨t, ht, rfl, h1, h2⟩
  cases t
  · have b1 : Below w.heap.size w w1 := (Below.refl _ w).grown h2 (Nat.le_refl _) (fun _ h => by cases h)
    have hn : n = -1 := by
      rcases H.out with ⟨o, _⟩ | ⟨_, o⟩
      · exact absurd (ht.2 o.2) (by decide)
      · exact o
    subst hn
    clear ht h1 h2
    go_wp2
    go_ret
    exact ⟨rfl, b1⟩
  · obtain rfl := h1 rfl
    have o1 : okV a b := ⟨⟨ha, hb⟩, ht.1 rfl⟩
    clear ht h1 h2
    have q := fun w => run_convert_complex (P := Try.prog) w 47 55 .f32 .f64 _ _ (wnd a b).1 (wnd a b).2 hs Try.underlying55 (wnd_conv o1)
    have qn : ∀ w, (Op.unary .neg (.complex .f32 a b)).run Try.prog w = .ok (.complex .f32 (Op.negFloat .f32 a) (Op.negFloat .f32 b)) w := fun w => rfl
    by_cases hp : Points (wnd a b)
    · have hn : n = ((bst (wnd a b) 359).1 : Nat) := by
        rcases H.out with ⟨_, _, o⟩ | ⟨o, _⟩
        · exact o
        · exact absurd ⟨o1, hp⟩ o
      subst hn
      have D := fun w => i_bear (wnd a b) w (wid_lt _) (wid_lt _) hp
      clear hp o1
      generalize hgz : wnd a b = z at *
      have HG := Lib.hid hgz
      clear hgz
      go_wp2_with (first
        | (go_at_call 34; go_in)
        | (go_at_call 59; ((with_reducible refine (D _).mono ?_); rintro e w2 ⟨rfl, b2⟩)))
      go_ret
      exact ⟨by rw [HG.out]; rfl, b2⟩
    · have hn : n = -1 := by
        rcases H.out with ⟨_, o, _⟩ | ⟨_, o⟩
        · exact absurd o hp
        · exact o
      subst hn
      have D := fun w => i_bear_no (wnd a b).1 (wnd a b).2 w (wid_lt _) (wid_lt _) hp
      clear hp o1
      generalize hgz : wnd a b = z at *
      have HG := Lib.hid hgz
      clear hgz
      go_wp2_with (first
        | (go_at_call 34; go_in)
        | (go_at_call 59; ((with_reducible refine (D _).mono ?_); rintro e w2 ⟨rfl, rfl⟩)))
      go_ret
      exact ⟨rfl, Below.refl _ _⟩
theorem i_from (a b : Nat) (n : Int) (w : World) (ha : a < 4294967296) (hb : b < 4294967296) (h : FromIs a b n) :
    Calls Try.prog 37 #[.complex .f32 a b] w fun e w' => e = .returned (.int .i64 n) ∧ Below w.heap.size w w' := by
  go_enter Try.func37, Try.ntmps37
  go_wp2_with (go_at_call 51; ((with_reducible refine (i_wfrom a b n _ ha hb h).mono ?_); rintro e w1 ⟨rfl, b1⟩))
  go_ret
  exact ⟨rfl, b1⟩
set_option maxRecDepth 100000 in
set_option maxHeartbeats 1000000 in
theorem s_from (a b : Nat) (n : Int) (w : World) (ha : a < 4294967296) (hb : b < 4294967296) (h : FromIs a b n) :
    Calls Try.prog 39 #[.complex .f32 a b] w fun e w' => e = .returned (.int .i64 n) ∧ w = w' := by
  have hs : (Try.prog.underlying 26).isSome = true := by rw [Try.underlying26]; rfl
  obtain ⟨za, hza⟩ : ∃ za, (FloatKind.f32.format.order a 0 == some .eq) = za := ⟨_, rfl⟩
  obtain ⟨zb, hzb⟩ : ∃ zb, (FloatKind.f32.format.order b 0 == some .eq) = zb := ⟨_, rfl⟩
  have H := Lib.hid h
  have HZ := Lib.hid (And.intro hza hzb)
  clear h
  go_enter Try.func39, Try.ntmps39
  go_wp2_with fail
  refine (S.s_vok a b _ ha hb).mono ?_
  rintro e w1 ⟨t, ht, rfl, rfl⟩
  cases t
  · have hn : n = -1 := by
      rcases H.out with ⟨o, _⟩ | ⟨_, o⟩
      · exact absurd (ht.2 o.2) (by decide)
      · exact o
    subst hn
    clear ht
    go_wp2
    go_ret
    exact ⟨rfl, rfl⟩
  · have o1 : okV a b := ⟨⟨ha, hb⟩, ht.1 rfl⟩
    clear ht
    have hp := wnd_points o1
    rw [HZ.out.1, HZ.out.2] at hp
    by_cases hz : (za && zb) = true
    · obtain ⟨rfl, rfl⟩ : za = true ∧ zb = true := by simpa using hz
      have hn : n = -1 := by
        rcases H.out with ⟨_, o, _⟩ | ⟨_, o⟩
        · exact absurd (hp.1 o) (by decide)
        · exact o
      subst hn
      clear hp
      go_wp2
      go_ret
      exact ⟨rfl, rfl⟩
    · have hz2 : (za && zb) = false := by simpa using hz
      have hpp := hp.2 hz2
      have hn : n = ((bst (wnd a b) 359).1 : Nat) := by
        rcases H.out with ⟨_, _, o⟩ | ⟨o, _⟩
        · exact o
        · exact absurd ⟨o1, hpp⟩ o
      subst hn
      have q := fun w => run_convert_complex (P := Try.prog) w 26 55 .f32 .f64 _ _ (wnd a b).1 (wnd a b).2 hs Try.underlying55 (wnd_conv o1)
      have qa : ∀ w, (Op.unary .neg (.float .f32 a)).run Try.prog w = .ok (.float .f32 (Op.negFloat .f32 a)) w := fun w => rfl
      have qb : ∀ w, (Op.unary .neg (.float .f32 b)).run Try.prog w = .ok (.float .f32 (Op.negFloat .f32 b)) w := fun w => rfl
      have D := fun w => s_bear (wnd a b) w (wid_lt _) (wid_lt _) hpp
      clear hp hpp o1 hz
      generalize hgz : wnd a b = z at *
      have HG := Lib.hid hgz
      clear hgz
      cases za <;> cases zb
      · go_wp2_with (first
          | (go_at_call 54; go_in)
          | (go_at_call 53; ((with_reducible refine (D _).mono ?_); rintro e w2 ⟨rfl, rfl⟩)))
        go_ret
        exact ⟨by rw [HG.out]; rfl, rfl⟩
      · go_wp2_with (first
          | (go_at_call 54; go_in)
          | (go_at_call 53; ((with_reducible refine (D _).mono ?_); rintro e w2 ⟨rfl, rfl⟩)))
        go_ret
        exact ⟨by rw [HG.out]; rfl, rfl⟩
      · go_wp2_with (first
          | (go_at_call 54; go_in)
          | (go_at_call 53; ((with_reducible refine (D _).mono ?_); rintro e w2 ⟨rfl, rfl⟩)))
        go_ret
        exact ⟨by rw [HG.out]; rfl, rfl⟩
      · cases hz2
/-- What Veer answers. -/
def vrs (n m : Int) : Int := if n = -1 ∨ m = -1 then 0 else asd n m
def vok (n m : Int) : Bool := if n = -1 ∨ m = -1 then false else true
set_option maxRecDepth 100000 in
set_option maxHeartbeats 1000000 in
theorem i_veer (a b c d : Nat) (n m : Int) (w : World) (h1 : a < 4294967296 ∧ b < 4294967296) (h2 : c < 4294967296 ∧ d < 4294967296) (hn : FromIs a b n) (hm : FromIs c d m) :
    Calls Try.prog 20 #[.complex .f32 a b, .complex .f32 c d] w fun e w' => e = .returned (.tuple #[.int .i64 (vrs n m), .bool (vok n m)]) ∧ Below w.heap.size w w' := by
  have D1 := fun w => i_from a b n w h1.1 h1.2 hn
  have D2 := fun w => i_from c d m w h2.1 h2.2 hm
  clear hn hm
  by_cases c1 : n = -1
  · have e1 : vrs n m = 0 := if_pos (Or.inl c1)
    have e2 : vok n m = false := if_pos (Or.inl c1)
    rw [e1, e2]
    clear e1 e2
    subst c1
    go_enter Try.func20, Try.ntmps20
    go_wp2_with (first
      | (go_at_call 37; ((with_reducible refine (D1 _).mono ?_); rintro e w1 ⟨rfl, b1⟩))
      | (go_at_call 37; ((with_reducible refine (D2 _).mono ?_); rintro e w2 ⟨rfl, b2⟩)))
    go_ret2
    exact ⟨rfl, b1.trans (b2.mono b1.size)⟩
  · by_cases c2 : m = -1
    · have e1 : vrs n m = 0 := if_pos (Or.inr c2)
      have e2 : vok n m = false := if_pos (Or.inr c2)
      rw [e1, e2]
      clear e1 e2
      subst c2
      go_enter Try.func20, Try.ntmps20
      go_wp2_with (first
        | (go_at_call 37; ((with_reducible refine (D1 _).mono ?_); rintro e w1 ⟨rfl, b1⟩))
        | (go_at_call 37; ((with_reducible refine (D2 _).mono ?_); rintro e w2 ⟨rfl, b2⟩)))
      go_ret2
      exact ⟨rfl, b1.trans (b2.mono b1.size)⟩
    · have e1 : vrs n m = asd n m := if_neg (by omega)
      have e2 : vok n m = true := if_neg (by omega)
      have c3 : (n == -1) = false := by simpa using c1
      have c4 : (m == -1) = false := by simpa using c2
      rw [e1, e2]
      clear e1 e2
      go_enter Try.func20, Try.ntmps20
      go_wp2_with (first
        | (go_at_call 37; ((with_reducible refine (D1 _).mono ?_); rintro e w1 ⟨rfl, b1⟩))
        | (go_at_call 37; ((with_reducible refine (D2 _).mono ?_); rintro e w2 ⟨rfl, b2⟩))
        | (go_at_call 38; ((with_reducible refine (i_asd _ _ _).mono ?_); rintro e w' ⟨rfl, rfl⟩)))
      go_ret2
      exact ⟨rfl, b1.trans (b2.mono b1.size)⟩
set_option maxRecDepth 100000 in
set_option maxHeartbeats 1000000 in
theorem s_veer (a b c d : Nat) (n m : Int) (w : World) (h1 : a < 4294967296 ∧ b < 4294967296) (h2 : c < 4294967296 ∧ d < 4294967296) (hn : FromIs a b n) (hm : FromIs c d m) (n0 : -1 ≤ n) (m0 : -1 ≤ m) :
    Calls Try.prog 21 #[.complex .f32 a b, .complex .f32 c d] w fun e w' => e = .returned (.tuple #[.int .i64 (vrs n m), .bool (vok n m)]) ∧ w = w' := by
  have D1 := fun w => s_from a b n w h1.1 h1.2 hn
  have D2 := fun w => s_from c d m w h2.1 h2.2 hm
  clear hn hm
  by_cases c1 : n = -1
  · have e1 : vrs n m = 0 := if_pos (Or.inl c1)
    have e2 : vok n m = false := if_pos (Or.inl c1)
    rw [e1, e2]
    clear e1 e2
    subst c1
    go_enter Try.func21, Try.ntmps21
    go_wp2_with (first
      | (go_at_call 39; ((with_reducible refine (D1 _).mono ?_); rintro e w1 ⟨rfl, rfl⟩))
      | (go_at_call 39; ((with_reducible refine (D2 _).mono ?_); rintro e w2 ⟨rfl, rfl⟩)))
    go_ret2
    exact ⟨rfl, rfl⟩
  · by_cases c2 : m = -1
    · have e1 : vrs n m = 0 := if_pos (Or.inr c2)
      have e2 : vok n m = false := if_pos (Or.inr c2)
      rw [e1, e2]
      clear e1 e2
      subst c2
      go_enter Try.func21, Try.ntmps21
      go_wp2_with (first
        | (go_at_call 39; ((with_reducible refine (D1 _).mono ?_); rintro e w1 ⟨rfl, rfl⟩))
        | (go_at_call 39; ((with_reducible refine (D2 _).mono ?_); rintro e w2 ⟨rfl, rfl⟩)))
      go_ret2
      exact ⟨rfl, rfl⟩
    · have e1 : vrs n m = asd n m := if_neg (by omega)
      have e2 : vok n m = true := if_neg (by omega)
      rw [e1, e2]
      clear e1 e2
      go_enter Try.func21, Try.ntmps21
      go_wp2_with (first
        | (go_at_call 39; ((with_reducible refine (D1 _).mono ?_); rintro e w1 ⟨rfl, rfl⟩))
        | (go_at_call 39; ((with_reducible refine (D2 _).mono ?_); rintro e w2 ⟨rfl, rfl⟩))
        | (go_at_call 40; ((with_reducible refine (s_asd _ _ _).mono ?_); rintro e w' ⟨rfl, rfl⟩)))
      go_ret2
      exact ⟨rfl, rfl⟩
theorem veer_back (n m : Int) : vok m n = vok n m ∧ ((vrs n m = -vrs m n ∧ -180 ≤ vrs m n ∧ vrs m n ≤ 180) ∨ (vrs n m = 180 ∧ vrs m n = 180)) := by
  by_cases c : n = -1 ∨ m = -1
  · have c' : m = -1 ∨ n = -1 := c.symm
    unfold vok vrs
    rw [if_pos c, if_pos c', if_pos c, if_pos c']
    exact ⟨rfl, .inl ⟨rfl, by omega, by omega⟩⟩
  · have c' : ¬ (m = -1 ∨ n = -1) := fun h => c h.symm
    unfold vok vrs
    rw [if_neg c, if_neg c', if_neg c, if_neg c']
    refine ⟨rfl, ?_⟩
    unfold asd
    split <;> split <;> omega
set_option maxRecDepth 100000 in
set_option maxHeartbeats 2000000 in
theorem w_FnVeerBack (a0 : Option Addr) (len cap : Nat) (zs : List Int) (w : World) (hr : IsRow .u8 w a0 len cap zs) :
    Calls Try.prog 6 #[.slice a0 len cap] w fun e w' => e = .returned (.bool true) ∧ Below w.heap.size w w' := by
  by_cases hbig : len ≤ 1048576
  · have hcode := code_of_row hr hbig
    go_enter Try.func6, Try.ntmps6
    go_wp2_with (first
      | (go_at_call 8; go_in)
      | (go_at_call 19; ((with_reducible refine (d_veer _ len cap a0 hcode).mono ?_); rintro e w1 ⟨x, y, c, d, h1, h2, rfl, b1⟩)))
    obtain ⟨n, hn, n0, n1⟩ := from_ex x y
    obtain ⟨m, hm, m0, m1⟩ := from_ex c d
    have D1 := fun w => i_veer x y c d n m w h1 h2 hn hm
    have D2 := fun w => i_veer c d x y m n w h2 h1 hm hn
    have D3 := fun w => s_veer x y c d n m w h1 h2 hn hm n0 m0
    obtain ⟨hk, hv⟩ := veer_back n m
    rw [hk] at D2
    clear hn hm hk
    generalize vrs n m = p at *
    generalize vrs m n = q at *
    generalize vok n m = o at *
    rcases hv with ⟨hv, hv1, hv2⟩ | ⟨hv, hv2⟩ <;> cases o
    all_goals
      go_wp2_with (first
        | (go_at_call 20; ((with_reducible refine (D1 _).mono ?_); rintro e w2 ⟨rfl, b2⟩))
        | (go_at_call 20; ((with_reducible refine (D2 _).mono ?_); rintro e w3 ⟨rfl, b3⟩))
        | (go_at_call 21; ((with_reducible refine (D3 _).mono ?_); rintro e w' ⟨rfl, rfl⟩)))
      go_ret
      have b12 := b1.trans (b2.mono b1.size)
      exact ⟨rfl, b12.trans (b3.mono b12.size)⟩
  · go_enter Try.func6, Try.ntmps6
    go_wp2
    go_ret
    exact ⟨rfl, Below.refl _ _⟩
end Go.Proofs.Ytgohekdikgfcnaa

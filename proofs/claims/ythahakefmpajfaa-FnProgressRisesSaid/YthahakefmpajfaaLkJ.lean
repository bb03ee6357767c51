/- Courses of the laws: their size; alike; a course that comes into a law, opened. -/
import Derived.Test.YthahakefmpajfaaLkI
import Derived.Test.YthahakefmpajfaaLjM
import Derived.Deep.Strs
namespace Go.Proofs.Ythahakefmpajfaa
open Go.RowKit Go.ChangeShapes Go.WideShapes
set_option linter.unusedVariables false
set_option linter.unusedSimpArgs false

/-- What a size leaves. -/
def SzL (l : Int) (n : Nat) (e : Ending) : Prop := ∃ r : Int, (r = -1 ∨ (0 ≤ r ∧ r = l - n)) ∧ e = .returned (.int .i64 r)
theorem l_szS2 (l : Int) (A : Option Addr) (n cap : Nat) (w : World) (h0 : 0 ≤ l) (h9 : l ≤ 1048576) (hn : n ≤ 9223372036854775807) :
    Calls Try.prog 28 #[.slice A n cap, .int .i64 l] w fun e w' => SzL l n e ∧ w' = w := by
  by_cases h : (n : Int) ≤ l
  · have h1 : ¬ (l - (n : Int)) < 0 := by omega
    go_enter Try.func28, Try.ntmps28
    go_wp2
    go_ret
    exact ⟨⟨_, .inr ⟨by omega, rfl⟩, rfl⟩, rfl⟩
  · have h1 : (l - (n : Int)) < 0 := by omega
    go_enter Try.func28, Try.ntmps28
    go_wp2
    go_ret
    exact ⟨⟨_, .inl rfl, rfl⟩, rfl⟩
theorem l_szM (l : Int) (A : Option Addr) (n cap : Nat) (w : World) (h0 : 0 ≤ l) (h9 : l ≤ 1048576) (hn : n ≤ 9223372036854775807) :
    Calls Try.prog 58 #[.slice A n cap, .int .i64 l] w fun e w' => SzL l n e ∧ w' = w := by
  by_cases h : (n : Int) ≤ l
  · have h1 : ¬ (l - (n : Int)) < 0 := by omega
    go_enter Try.func58, Try.ntmps58
    go_wp2
    go_ret
    exact ⟨⟨_, .inr ⟨by omega, rfl⟩, rfl⟩, rfl⟩
  · have h1 : (l - (n : Int)) < 0 := by omega
    go_enter Try.func58, Try.ntmps58
    go_wp2
    go_ret
    exact ⟨⟨_, .inl rfl, rfl⟩, rfl⟩
set_option maxRecDepth 100000 in
theorem l_szC (l : Int) (c : Crs) (A : Option Addr) (cap : Nat) (w : World) (h0 : 0 ≤ l) (h9 : l ≤ 1048576) (hn : c.n ≤ 9223372036854775807) :
    Calls Try.prog 22 #[.agg #[.int .i64 c.st.1.1, .int .i64 c.st.1.2, .int .i64 c.st.2.1, .int .i64 c.st.2.2, .slice A c.n cap, .int .i64 c.fi.1.1, .int .i64 c.fi.1.2, .int .i64 c.fi.2.1, .int .i64 c.fi.2.2], .int .i64 l] w fun e w' => SzL l c.n e ∧ Below w.heap.size w w' := by
  have hs := Lib.hid (Bx1.new w #[.int .i64 c.st.1.1, .int .i64 c.st.1.2, .int .i64 c.st.2.1, .int .i64 c.st.2.2, .slice A c.n cap, .int .i64 c.fi.1.1, .int .i64 c.fi.1.2, .int .i64 c.fi.2.1, .int .i64 c.fi.2.2] 50)
  obtain ⟨e0, e1, e2, e3, e4, e5, e6, e7, e8⟩ := cells9 hs.out.1
  go_enter Try.func22, Try.ntmps22
  go_wp2_with fail
  refine (l_szM l A c.n cap _ h0 h9 hn).mono ?_
  rintro e w1 ⟨⟨r, hr, rfl⟩, rfl⟩
  rcases hr with rfl | ⟨r0, r1⟩
  · go_wp2
    go_ret
    exact ⟨⟨_, .inl rfl, rfl⟩, hs.out.2⟩
  · have r2 : ¬ r < 0 := by omega
    have HR := Lib.hid r1
    clear r1
    go_wp2
    go_ret
    exact ⟨⟨_, .inr ⟨r0, HR.out⟩, rfl⟩, hs.out.2⟩
set_option maxRecDepth 100000 in
theorem l_eqLn (l : Ln) (w : World) :
    Calls Try.prog 63 #[.agg #[.int .i64 l.1.1, .int .i64 l.1.2, .int .i64 l.2.1, .int .i64 l.2.2], .agg #[.int .i64 l.1.1, .int .i64 l.1.2, .int .i64 l.2.1, .int .i64 l.2.2]] w fun e w' => e = .returned (.bool true) ∧ Below w.heap.size w w' := by
  obtain ⟨⟨x1, x2⟩, x3, x4⟩ := l
  dsimp only
  have hs := Lib.hid (Bx2.new w #[.int .i64 x1, .int .i64 x2, .int .i64 x3, .int .i64 x4] 33 #[.int .i64 x1, .int .i64 x2, .int .i64 x3, .int .i64 x4] 33)
  obtain ⟨c0, c1, c2, c3⟩ := cells4 hs.out.1
  obtain ⟨d0, d1, d2, d3⟩ := cells4 hs.out.2.1
  go_enter Try.func63, Try.ntmps63
  go_wp2_with fail
  refine (l_eqPl (x1, x2) _).mono ?_
  rintro e w1 ⟨rfl, b1⟩
  have hs1 := Lib.hid (Bx2.step hs.out b1)
  clear hs b1 c0 c1 c2 c3 d0 d1 d2 d3
  obtain ⟨c0, c1, c2, c3⟩ := cells4 hs1.out.1
  obtain ⟨d0, d1, d2, d3⟩ := cells4 hs1.out.2.1
  go_wp2_with fail
  refine (l_eqPl (x3, x4) _).mono ?_
  rintro e w2 ⟨rfl, b1⟩
  have hs2 := Lib.hid (Bx2.step hs1.out b1)
  clear hs1 b1 c0 c1 c2 c3 d0 d1 d2 d3
  go_wp2
  go_ret
  exact ⟨rfl, hs2.out.2.2⟩
set_option maxRecDepth 100000 in
theorem l_eqMk (s : Mk) (w : World) :
    Calls Try.prog 86 #[.agg #[.int .i64 s.1.1, .int .i64 s.1.2, .bool s.2], .agg #[.int .i64 s.1.1, .int .i64 s.1.2, .bool s.2]] w fun e w' => e = .returned (.bool true) ∧ Below w.heap.size w w' := by
  obtain ⟨⟨x, y⟩, z⟩ := s
  dsimp only
  have hs := Lib.hid (Bx2.new w #[.int .i64 x, .int .i64 y, .bool z] 88 #[.int .i64 x, .int .i64 y, .bool z] 88)
  obtain ⟨c0, c1, c2⟩ := cells3 hs.out.1
  obtain ⟨d0, d1, d2⟩ := cells3 hs.out.2.1
  cases z
  all_goals
    go_enter Try.func86, Try.ntmps86
    go_wp2_with fail
    refine (l_eqPl (x, y) _).mono ?_
    rintro e w1 ⟨rfl, b1⟩
    have hs1 := Lib.hid (Bx2.step hs.out b1)
    clear hs b1 c0 c1 c2 d0 d1 d2
    obtain ⟨c0, c1, c2⟩ := cells3 hs1.out.1
    obtain ⟨d0, d1, d2⟩ := cells3 hs1.out.2.1
    go_wp2
    go_ret
    exact ⟨rfl, hs1.out.2.2⟩
/-- Two lists of marks that are alike. -/
def TwoM (w : World) (g o g' o' n : Nat) (f : Nat → Mk) (wr : World) : Prop := MksIn wr g o n f ∧ MksIn wr g' o' n f ∧ Below w.heap.size w wr
theorem TwoM.step {w w1 w2 : World} {g o g' o' n : Nat} {f : Nat → Mk} (h : TwoM w g o g' o' n f w1) (b : Below w1.heap.size w1 w2) : TwoM w g o g' o' n f w2 := ⟨h.1.below b (Nat.le_refl _), h.2.1.below b (Nat.le_refl _), h.2.2.trans (b.mono h.2.2.size)⟩
theorem TwoM.drew {w w1 : World} {g o g' o' n : Nat} {f : Nat → Mk} (h : TwoM w g o g' o' n f w1) : TwoM w g o g' o' n f w1.drew := ⟨h.1, h.2.1, h.2.2.drew⟩
set_option maxRecDepth 100000 in
set_option maxHeartbeats 2000000 in
theorem l_eqM (f : Nat → Mk) (A A' : Option Addr) (g o g' o' n cap cap' : Nat) (w : World) (hn : n ≤ 1048576) (hA : 0 < n → A = some ⟨g, o, none⟩) (hA' : 0 < n → A' = some ⟨g', o', none⟩) (hw : MksIn w g o n f) (hw' : MksIn w g' o' n f) :
    Calls Try.prog 64 #[.slice A n cap, .slice A' n cap'] w fun e w' => e = .returned (.bool true) ∧ Below w.heap.size w w' := by
  have HW := Lib.hid (show TwoM w g o g' o' n f w from ⟨hw, hw', Below.refl _ _⟩)
  clear hw hw'
  have nn : ((n : Int) == (n : Int)) = true := by simp
  go_enter Try.func64, Try.ntmps64
  go_wp2
  go_loopw [5] (fun i wr => ∃ k : Nat, k ≤ n ∧ i = .int .i64 k ∧ TwoM w g o g' o' n f wr) (fun i _ => n - (intOf i).toNat)
  case atStart => exact ⟨0, Nat.zero_le _, rfl, HW.out⟩
  case round =>
    obtain ⟨k, hk, rfl, hst⟩ := hrel
    by_cases hlt : k < n
    · obtain rfl := hA (by omega)
      obtain rfl := hA' (by omega)
      obtain ⟨⟨⟨x, y⟩, z⟩, hkk⟩ : ∃ s, f k = s := ⟨_, rfl⟩
      have HK := Lib.hid hkk
      clear hkk
      have d0 : ∀ s : Held (fun wx => TwoM w g o g' o' n f wx), s.w.cell? ⟨g, o + k * 3, none⟩ = some (.int .i64 x) := fun s => by have := (s.h.1 k hlt).1; rw [HK.out] at this; exact this
      have d1 : ∀ s : Held (fun wx => TwoM w g o g' o' n f wx), s.w.cell? ⟨g, o + k * 3 + 1, none⟩ = some (.int .i64 y) := fun s => by have := (s.h.1 k hlt).2.1; rw [HK.out] at this; exact this
      have d2 : ∀ s : Held (fun wx => TwoM w g o g' o' n f wx), s.w.cell? ⟨g, o + k * 3 + 2, none⟩ = some (.bool z) := fun s => by have := (s.h.1 k hlt).2.2; rw [HK.out] at this; exact this
      have d3 : ∀ s : Held (fun wx => TwoM w g o g' o' n f wx), s.w.cell? ⟨g', o' + k * 3, none⟩ = some (.int .i64 x) := fun s => by have := (s.h.2.1 k hlt).1; rw [HK.out] at this; exact this
      have d4 : ∀ s : Held (fun wx => TwoM w g o g' o' n f wx), s.w.cell? ⟨g', o' + k * 3 + 1, none⟩ = some (.int .i64 y) := fun s => by have := (s.h.2.1 k hlt).2.1; rw [HK.out] at this; exact this
      have d5 : ∀ s : Held (fun wx => TwoM w g o g' o' n f wx), s.w.cell? ⟨g', o' + k * 3 + 2, none⟩ = some (.bool z) := fun s => by have := (s.h.2.1 k hlt).2.2; rw [HK.out] at this; exact this
      have z1 : (k : Int) < (n : Int) := by omega
      have z0 : (0 : Int) ≤ (k : Int) := by omega
      have HS := Lib.hid (fun w => l_eqMk ((x, y), z) w)
      go_wp2
      haveI hne : Nonempty (Held fun wx => TwoM w g o g' o' n f wx) := ⟨⟨_, hst⟩⟩
      refine wp_region_class (fun wx => TwoM w g o g' o' n f wx) (by kernel_rfl) (by kernel_rfl) (TwoM.drew hst) ?_
      repeat (go_big_quiet_step (first
        | (go_at_call 86; exact held_call TwoM.step (HS.out _))))
      refine wpQuiet_nil ?_
      intro _ hw'
      obtain ⟨⟨wq, hst6⟩, rfl⟩ := hw'
      (try dsimp only)
      all_goals
        go_wp2_with fail
        go_roundw
        case rel => exact ⟨k + 1, by omega, by go_num, hst6⟩
        case measure => simp [intOf]; omega
    · obtain rfl : k = n := by omega
      have hk1 : ¬ ((k : Int) < (k : Int)) := by omega
      go_wp2
      go_ret
      exact ⟨rfl, hst.2.2⟩
set_option maxRecDepth 100000 in
set_option maxHeartbeats 2000000 in
theorem l_eqC (c : Crs) (b b' : Nat) (w : World) (hn : c.n ≤ 1048576) (h1 : MkOwn w b c.n c.mf) (h2 : MkOwn w b' c.n c.mf) :
    Calls Try.prog 26 #[.agg #[.int .i64 c.st.1.1, .int .i64 c.st.1.2, .int .i64 c.st.2.1, .int .i64 c.st.2.2, .slice (some ⟨b, 0, none⟩) c.n c.n, .int .i64 c.fi.1.1, .int .i64 c.fi.1.2, .int .i64 c.fi.2.1, .int .i64 c.fi.2.2],
      .agg #[.int .i64 c.st.1.1, .int .i64 c.st.1.2, .int .i64 c.st.2.1, .int .i64 c.st.2.2, .slice (some ⟨b', 0, none⟩) c.n c.n, .int .i64 c.fi.1.1, .int .i64 c.fi.1.2, .int .i64 c.fi.2.1, .int .i64 c.fi.2.2]] w fun e w' => e = .returned (.bool true) ∧ Below w.heap.size w w' := by
  have HE := Lib.hid (fun w (k1 : MkOwn w b c.n c.mf) (k2 : MkOwn w b' c.n c.mf) => l_eqM c.mf (some ⟨b, 0, none⟩) (some ⟨b', 0, none⟩) b 0 b' 0 c.n c.n c.n w hn (fun _ => rfl) (fun _ => rfl) k1.mks k2.mks)
  have hs := Lib.hid (Bx2.new w #[.int .i64 c.st.1.1, .int .i64 c.st.1.2, .int .i64 c.st.2.1, .int .i64 c.st.2.2, .slice (some ⟨b, 0, none⟩) c.n c.n, .int .i64 c.fi.1.1, .int .i64 c.fi.1.2, .int .i64 c.fi.2.1, .int .i64 c.fi.2.2] 36 #[.int .i64 c.st.1.1, .int .i64 c.st.1.2, .int .i64 c.st.2.1, .int .i64 c.st.2.2, .slice (some ⟨b', 0, none⟩) c.n c.n, .int .i64 c.fi.1.1, .int .i64 c.fi.1.2, .int .i64 c.fi.2.1, .int .i64 c.fi.2.2] 36)
  have o1 := Lib.hid (h1.below hs.out.2.2)
  have o2 := Lib.hid (h2.below hs.out.2.2)
  clear h1 h2
  obtain ⟨e0, e1, e2, e3, e4, e5, e6, e7, e8⟩ := cells9 hs.out.1
  obtain ⟨f0, f1, f2, f3, f4, f5, f6, f7, f8⟩ := cells9 hs.out.2.1
  go_enter Try.func26, Try.ntmps26
  go_wp2_with fail
  refine (l_eqLn c.st _).mono ?_
  rintro e w1 ⟨rfl, b1⟩
  have hs1 := Lib.hid (Bx2.step hs.out b1)
  have o3 := Lib.hid (o1.out.below b1)
  have o4 := Lib.hid (o2.out.below b1)
  clear hs b1 o1 o2 e0 e1 e2 e3 e4 e5 e6 e7 e8 f0 f1 f2 f3 f4 f5 f6 f7 f8
  obtain ⟨e0, e1, e2, e3, e4, e5, e6, e7, e8⟩ := cells9 hs1.out.1
  obtain ⟨f0, f1, f2, f3, f4, f5, f6, f7, f8⟩ := cells9 hs1.out.2.1
  go_wp2_with fail
  refine (HE.out _ o3.out o4.out).mono ?_
  rintro e w2 ⟨rfl, b1⟩
  have hs2 := Lib.hid (Bx2.step hs1.out b1)
  clear hs1 b1 o3 o4 e0 e1 e2 e3 e4 e5 e6 e7 e8 f0 f1 f2 f3 f4 f5 f6 f7 f8
  obtain ⟨e0, e1, e2, e3, e4, e5, e6, e7, e8⟩ := cells9 hs2.out.1
  obtain ⟨f0, f1, f2, f3, f4, f5, f6, f7, f8⟩ := cells9 hs2.out.2.1
  go_wp2_with fail
  refine (l_eqLn c.fi _).mono ?_
  rintro e w3 ⟨rfl, b1⟩
  have hs3 := Lib.hid (Bx2.step hs2.out b1)
  clear hs2 b1 e0 e1 e2 e3 e4 e5 e6 e7 e8 f0 f1 f2 f3 f4 f5 f6 f7 f8
  go_wp2
  go_ret
  exact ⟨rfl, hs3.out.2.2⟩
section
variable {H : Type} {enc : TypeId × Value → H} {w : World} {base b0 : Nat} {spare : Nat → Bool} {held : Bool} {r : Reach}
theorem list1 {α : Type} {l : List α} (h : l.length = 1) : ∃ a, l = [a] := by match l, h with | [a], _ => exact ⟨a, rfl⟩
theorem list9 {α : Type} {l : List α} (h : l.length = 9) : ∃ a b c d e f g i j, l = [a, b, c, d, e, f, g, i, j] := by match l, h with | [a, b, c, d, e, f, g, i, j], _ => exact ⟨a, b, c, d, e, f, g, i, j, rfl⟩
set_option maxRecDepth 100000 in
theorem trod_ln {fuel : Nat} {cs : List Value} {x : DataW H × List MemPlace} (h : DataW.trod enc Try.prog w base spare held fuel 47 cs = some x) : ∃ l : Ln, cs = [.int .i64 l.1.1, .int .i64 l.1.2, .int .i64 l.2.1, .int .i64 l.2.2] := by
  obtain ⟨y0, y1, n, _, hl, h0, h1⟩ := trod_struct2 Try.underlying47 h
  obtain ⟨a, b, c, e, rfl⟩ := list4 (hl.trans Try.cLn)
  rw [Try.cPl] at h0 h1
  obtain ⟨p, e0⟩ := trod_pl h0
  obtain ⟨q, e1⟩ := trod_pl h1
  simp at e0 e1
  obtain ⟨rfl, rfl⟩ := e0
  obtain ⟨rfl, rfl⟩ := e1
  exact ⟨(p, q), rfl⟩
theorem Try.cB : Try.prog.cellsOf 4 = 1 := by kernel_rfl
theorem Try.cMk : Try.prog.cellsOf 119 = 3 := by kernel_rfl
theorem Try.cMS : Try.prog.cellsOf 48 = 1 := by kernel_rfl
theorem Try.cCo : Try.prog.cellsOf 50 = 9 := by kernel_rfl
set_option maxRecDepth 100000 in
theorem trod_mk {fuel : Nat} {cs : List Value} {x : DataW H × List MemPlace} (h : DataW.trod enc Try.prog w base spare held fuel 119 cs = some x) : ∃ s : Mk, cs = [.int .i64 s.1.1, .int .i64 s.1.2, .bool s.2] := by
  obtain ⟨y0, y1, n, _, hl, h0, h1⟩ := trod_struct2 Try.underlying119 h
  obtain ⟨a, b, c, rfl⟩ := list3 (hl.trans Try.cMk)
  rw [Try.cPl] at h0
  rw [Try.cB] at h1
  obtain ⟨p, e0⟩ := trod_pl h0
  obtain ⟨t, e1, _⟩ := DataW.trod_bool Try.underlying4 h1
  simp at e0 e1
  obtain ⟨rfl, rfl⟩ := e0
  subst e1
  exact ⟨(p, t), rfl⟩
/-- Marks, as they come into a law. -/
def MrkIn (w : World) (A : Option Addr) (n : Nat) (f : Nat → Mk) : Prop := n ≤ 9223372036854775807 ∧ ∃ g o, (0 < n → A = some ⟨g, o, none⟩) ∧ MksIn w g o n f
set_option maxRecDepth 100000 in
theorem trod_mks {fuel : Nat} {cs : List Value} {x : DataW H × List MemPlace} (h : DataW.trod enc Try.prog w base spare held fuel 48 cs = some x) : ∃ y : Option Addr × Nat × Nat × (Nat → Mk), cs = [.slice y.1 y.2.1 y.2.2.1] ∧ MrkIn w y.1 y.2.1 y.2.2.2 := by
  rcases Go.Deep.open_slice Try.underlying48 h with ⟨rfl, _⟩ | ⟨a, len, cap, m, n, D, Pl, rfl, _, hl, hmx, hm, _, hx⟩
  · exact ⟨(none, 0, 0, fun _ => ((0, 0), false)), rfl, Nat.zero_le _, 0, 0, fun h => absurd h (Nat.lt_irrefl _), fun j hj => absurd hj (Nat.not_lt_zero _)⟩
  · have hlm : len ≤ m := by subst hm; split <;> omega
    have each : ∀ i, i < len → ∃ s : Mk, w.cell? (a.add (i * 3)) = some (.int .i64 s.1.1) ∧ w.cell? (a.add (i * 3 + 1)) = some (.int .i64 s.1.2) ∧ w.cell? (a.add (i * 3 + 2)) = some (.bool s.2) := fun i hi => by
      obtain ⟨cs', h1, h2⟩ := hx i (by omega)
      rw [Try.cMk] at h1
      obtain ⟨_, hlen, hcell⟩ := World.cells?_some h1
      obtain ⟨s, rfl⟩ := trod_mk h2
      have e0 := hcell 0 (by omega)
      have e1 := hcell 1 (by omega)
      have e2 := hcell 2 (by omega)
      rw [Go.Deep.add_add] at e0 e1 e2
      exact ⟨s, by simpa using e0, by simpa using e1, by simpa using e2⟩
    obtain ⟨b, off, spot⟩ := a
    by_cases h0 : 0 < len
    · obtain ⟨s, hc0, _⟩ := each 0 h0
      have hs : spot = none := by simpa [Addr.add] using World.cell?_spot hc0
      subst hs
      have hadd : ∀ j, (⟨b, off, none⟩ : Addr).add j = ⟨b, off + j, none⟩ := fun j => by unfold Addr.add; split <;> simp_all
      obtain ⟨f, hf⟩ := Go.Deep.choose_lt (α := Mk) each
      refine ⟨(some ⟨b, off, none⟩, len, cap, f), rfl, (by have : maxLen = 9223372036854775807 := rfl; show len ≤ _; omega), b, off, fun _ => rfl, fun j hj => ?_⟩
      obtain ⟨h1, h2, h3⟩ := hf j hj
      rw [hadd] at h1 h2 h3
      exact ⟨h1, h2, h3⟩
    · exact ⟨(some ⟨b, off, spot⟩, len, cap, fun _ => ((0, 0), false)), rfl, (by show len ≤ _; omega), 0, 0, fun h => absurd h h0, fun j hj => absurd (show j < len from hj) (by omega)⟩
set_option maxRecDepth 100000 in
/-- A course, opened. -/
theorem open_course {v : Value} {d : DataW H} {p : List MemPlace} (hv : Value.okWide Try.prog w r b0 50 v) (h : DataW.Trod enc Try.prog w base spare held 50 v d p) :
    ∃ x : Crs × Option Addr × Nat, v = .agg #[.int .i64 x.1.st.1.1, .int .i64 x.1.st.1.2, .int .i64 x.1.st.2.1, .int .i64 x.1.st.2.2, .slice x.2.1 x.1.n x.2.2, .int .i64 x.1.fi.1.1, .int .i64 x.1.fi.1.2, .int .i64 x.1.fi.2.1, .int .i64 x.1.fi.2.2] ∧ MrkIn w x.2.1 x.1.n x.1.mf := by
  obtain ⟨⟨cs⟩, rfl, _⟩ := okWide_struct Try.underlying50 hv
  obtain ⟨fuel, hf⟩ := h
  have hf' : DataW.trod enc Try.prog w base spare held fuel 50 cs = some (d, p) := by simpa [Value.cells] using hf
  obtain ⟨y0, y1, y2, n, _, hl, h0, h1, h2⟩ := Go.Deep.trod_struct3 Try.underlying50 hf'
  obtain ⟨a1, a2, a3, a4, a5, a6, a7, a8, a9, rfl⟩ := list9 (hl.trans Try.cCo)
  rw [Try.cLn] at h0 h2
  rw [Try.cMS] at h1
  obtain ⟨l, e0⟩ := trod_ln h0
  obtain ⟨k, e2⟩ := trod_ln h2
  obtain ⟨y, e1, hm⟩ := trod_mks h1
  simp at e0 e1 e2
  obtain ⟨rfl, rfl, rfl, rfl⟩ := e0
  obtain ⟨rfl, rfl, rfl, rfl⟩ := e2
  subst e1
  exact ⟨(⟨l, y.2.1, y.2.2.2, k⟩, y.1, y.2.2.1), rfl, hm⟩
end
end Go.Proofs.Ythahakefmpajfaa

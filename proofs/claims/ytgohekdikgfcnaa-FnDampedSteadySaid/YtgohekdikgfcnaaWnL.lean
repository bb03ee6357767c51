/- Lists of winds: windsOk and l03All. -/
import Derived.Test.YtgohekdikgfcnaaWk
namespace Go.Proofs.Ytgohekdikgfcnaa
open Go.RowKit Ieee

/-- The winds that lie in a block. -/
def Winds (w : World) (g n : Nat) (ws : Nat → Nat × Nat) : Prop := ∀ j, j < n → w.cell? ⟨g, j, none⟩ = some (.complex .f32 (ws j).1 (ws j).2) ∧ (ws j).1 < 4294967296 ∧ (ws j).2 < 4294967296
/-- All of them are valid, and not too many. -/
def WindsOk (n : Nat) (ws : Nat → Nat × Nat) : Prop := n ≤ 100 ∧ ∀ j, j < n → okV (ws j).1 (ws j).2
/-- What is told of it. -/
def WindsIs (n : Nat) (ws : Nat → Nat × Nat) (t : Bool) : Prop := t = true ↔ WindsOk n ws

set_option maxRecDepth 100000 in
set_option maxHeartbeats 1000000 in
theorem i_winds (ws : Nat → Nat × Nat) (g n cap : Nat) (w : World) (hn : n ≤ 1000000) (hw : Winds w g n ws) :
    Calls Try.prog 33 #[.slice (some ⟨g, 0, none⟩) n cap] w fun e w' => ∃ t, WindsIs n ws t ∧ e = .returned (.bool t) ∧ (t = true → w' = w) ∧ w.grownBy w' none := by
  have HW := Lib.hid hw
  clear hw
  by_cases hbig : n ≤ 100
  · go_enter Try.func33, Try.ntmps33
    go_wp2
    go_loop [4, 10] (fun v i => ∃ k : Nat, k ≤ n ∧ i = .int .i64 k ∧ ∀ j, j < k → okV (ws j).1 (ws j).2) (fun _ i => n - (intOf i).toNat)
    case atStart => exact ⟨0, Nat.zero_le _, rfl, fun j h => by omega⟩
    case round =>
      obtain ⟨k, hk, rfl, hall⟩ := hrel
      have HA := Lib.hid hall
      clear hall
      by_cases hlt : k < n
      · obtain ⟨hc, ha, hb⟩ := HW.out k hlt
        have hsplit := Lib.hid (And.intro ha hb)
        generalize hx : (ws k).1 = x at *
        generalize hy : (ws k).2 = y at *
        have HX := Lib.hid (And.intro hx hy)
        clear hx hy
        go_wp2_with fail
        refine (i_velok x y _ ha hb).mono ?_
        rintro e w1 ⟨t, ht, rfl, e1, g1⟩
        cases t
        · have hno : ¬ WindsOk n ws := fun h => by
            have := h.2 k hlt
            rw [HX.out.1, HX.out.2] at this
            exact absurd (ht.2 this.2) (by decide)
          have HN := Lib.hid hno
          clear e1 ht hno
          go_wp2
          go_ret
          exact ⟨false, ⟨fun h => (by cases h), fun h => absurd h HN.out⟩, rfl, fun h => (by cases h), g1⟩
        · obtain rfl := e1 rfl
          have o1 : okV (ws k).1 (ws k).2 := by rw [HX.out.1, HX.out.2]; exact ⟨⟨ha, hb⟩, ht.1 rfl⟩
          have HO := Lib.hid o1
          clear e1 ht o1 g1
          go_wp2
          go_round
          case rel => exact ⟨k + 1, by omega, by go_num, fun j hj => by
            rcases Nat.lt_or_ge j k with h | h
            · exact HA.out j h
            · obtain rfl : j = k := by omega
              exact HO.out⟩
          case measure => simp [intOf]; omega
      · obtain rfl : k = n := by omega
        go_wp2
        go_ret
        exact Or.inr ⟨⟨fun _ => ⟨hbig, HA.out⟩, fun _ => rfl⟩, rfl, rfl, grown_refl _ _⟩
  · go_enter Try.func33, Try.ntmps33
    go_wp2
    go_ret
    exact ⟨false, ⟨fun h => (by cases h), fun h => absurd h.1 hbig⟩, rfl, fun h => (by cases h), grown_refl _ _⟩
set_option maxRecDepth 100000 in
set_option maxHeartbeats 1000000 in
theorem s_all (ws : Nat → Nat × Nat) (g n cap : Nat) (w : World) (hn : n ≤ 1000000) (hw : Winds w g n ws) :
    Calls Try.prog 43 #[.slice (some ⟨g, 0, none⟩) n cap] w fun e w' => ∃ t, WindsIs n ws t ∧ e = .returned (.bool t) ∧ w = w' := by
  have HW := Lib.hid hw
  clear hw
  go_enter Try.func43, Try.ntmps43
  go_wp2
  go_loop [3] (fun i => ∃ k : Nat, k ≤ n ∧ i = .int .i64 k ∧ ∀ j, j < k → okV (ws j).1 (ws j).2) (fun i => n - (intOf i).toNat)
  case atStart => exact ⟨0, Nat.zero_le _, rfl, fun j h => by omega⟩
  case round =>
    obtain ⟨k, hk, rfl, hall⟩ := hrel
    have HA := Lib.hid hall
    clear hall
    by_cases hlt : k < n
    · obtain ⟨hc, ha, hb⟩ := HW.out k hlt
      generalize hx : (ws k).1 = x at *
      generalize hy : (ws k).2 = y at *
      have HX := Lib.hid (And.intro hx hy)
      clear hx hy
      go_wp2_with fail
      refine (S.s_vok x y _ ha hb).mono ?_
      rintro e w1 ⟨t, ht, rfl, rfl⟩
      cases t
      · have hno : ¬ WindsOk n ws := fun h => by
          have := h.2 k hlt
          rw [HX.out.1, HX.out.2] at this
          exact absurd (ht.2 this.2) (by decide)
        have HN := Lib.hid hno
        clear ht hno
        go_wp2
        go_ret
        exact ⟨false, ⟨fun h => (by cases h), fun h => absurd h HN.out⟩, rfl, rfl⟩
      · have o1 : okV (ws k).1 (ws k).2 := by rw [HX.out.1, HX.out.2]; exact ⟨⟨ha, hb⟩, ht.1 rfl⟩
        have HO := Lib.hid o1
        clear ht o1
        go_wp2
        go_round
        case rel => exact ⟨k + 1, by omega, by go_num, fun j hj => by
          rcases Nat.lt_or_ge j k with h | h
          · exact HA.out j h
          · obtain rfl : j = k := by omega
            exact HO.out⟩
        case measure => simp [intOf]; omega
    · obtain rfl : k = n := by omega
      by_cases hbig : k ≤ 100
      · go_wp2
        go_ret
        exact Or.inr ⟨⟨fun _ => ⟨hbig, HA.out⟩, fun _ => rfl⟩, by simp; omega⟩
      · go_wp2
        go_ret
        exact Or.inl ⟨⟨fun h => (by cases h), fun h => absurd h.1 hbig⟩, by simp; omega⟩
end Go.Proofs.Ytgohekdikgfcnaa

/- What fits (impl): sailNameOk, Sail.against, Fits, FitsWide. -/
import Derived.Test.YtlliiecdadiagaaLrA
namespace Go.Proofs.Ytlliiecdadiagaa
open Go.RowKit Ieee
set_option linter.unusedVariables false
set_option linter.unusedSimpArgs false

set_option maxRecDepth 100000 in
set_option maxHeartbeats 1000000 in
theorem i_name (s : ByteArray) (w : World) (hs : s.size ≤ 9223372036854775807) :
    Calls Try.prog 81 #[.string s] w fun e w' => e = .returned (.bool (nmB s)) ∧ w' = w := by
  by_cases h0 : s.size = 0
  · have HN := Lib.hid (nmB_no (s := s) (fun h => by have := h.2.1; omega))
    have q1 : (s.toList == []) = true := by rw [ByteArray.toList_eq, List.eq_nil_of_length_eq_zero (show s.data.toList.length = 0 from h0)]; rfl
    go_enter Try.func81, Try.ntmps81
    go_wp2
    go_ret
    exact ⟨by rw [HN.out]; rfl, rfl⟩
  have q1 : (s.toList == []) = false := by
    rw [ByteArray.toList_eq]
    cases e : s.data.toList with
    | nil => exact absurd (show s.size = 0 by rw [show s.size = s.data.toList.length from rfl, e]; rfl) h0
    | cons a b => rfl
  by_cases h1 : 16 < s.size
  · have HN := Lib.hid (nmB_no (s := s) (fun h => by have := h.2.1; omega))
    have k1 : (16 : Int) < (s.size : Int) := by omega
    have k2 : decide ((s.size : Int) > 16) = true := decide_eq_true k1
    go_enter Try.func81, Try.ntmps81
    go_wp2
    go_ret
    exact ⟨by rw [HN.out]; rfl, rfl⟩
  have k2 : decide ((s.size : Int) > 16) = false := decide_eq_false (by omega)
  by_cases h2 : s.data.toList = [110, 111, 110, 101]
  · have HN := Lib.hid (nmB_no (s := s) (fun h => h.2.2 h2))
    have q3 : (s.toList == [110, 111, 110, 101]) = true := by rw [ByteArray.toList_eq, h2]; rfl
    clear h2
    go_enter Try.func81, Try.ntmps81
    go_wp2
    go_ret
    exact ⟨by rw [HN.out]; rfl, rfl⟩
  have q3 : (s.toList == [110, 111, 110, 101]) = false := by rw [ByteArray.toList_eq]; simpa using h2
  have HZ := Lib.hid h2
  clear h2
  go_enter Try.func81, Try.ntmps81
  go_wp2
  clear q1 q3 k2
  go_loopw [17, 3] (fun i _ wr => ∃ k : Nat, k ≤ s.size ∧ i = .int .i64 k ∧ (∀ j, j < k → 97 ≤ byteAt s j ∧ byteAt s j ≤ 122) ∧ wr = w) (fun i _ _ => s.size - (intOf i).toNat)
  case atStart => exact ⟨0, Nat.zero_le _, rfl, (fun j h => by omega), rfl⟩
  case round =>
    obtain ⟨k, hk, rfl, hall, rfl⟩ := hrel
    have HA := Lib.hid hall
    clear hall
    by_cases hlt : k < s.size
    · obtain ⟨b0, b1⟩ := byteAt_bd s k
      have q1 := byteAt_eq s k hlt
      by_cases g1 : byteAt s k < 97
      · have HN := Lib.hid (nmB_no (s := s) (fun h => by have := (h.1 k hlt).1; omega))
        go_wp2
        go_ret
        exact ⟨by rw [HN.out]; rfl, rfl⟩
      · by_cases g2 : 122 < byteAt s k
        · have HN := Lib.hid (nmB_no (s := s) (fun h => by have := (h.1 k hlt).2; omega))
          go_wp2
          go_ret
          exact ⟨by rw [HN.out]; rfl, rfl⟩
        · have HB := Lib.hid (show 97 ≤ byteAt s k ∧ byteAt s k ≤ 122 by omega)
          go_wp2
          go_roundw
          case rel => exact ⟨k + 1, by omega, by go_num, (fun j hj => by
            rcases Nat.lt_or_ge j k with h' | h'
            · exact HA.out j h'
            · rw [show j = k by omega]; exact HB.out), trivial⟩
          case measure => simp [intOf]; omega
    · obtain rfl : k = s.size := by omega
      have HN := Lib.hid (nmB_iff.2 (show NmOk s from ⟨HA.out, by omega, HZ.out⟩))
      go_wp2
      go_ret
      exact ⟨by rw [HN.out]; rfl, rfl⟩
/-- A difference or a sum of any words, compared. -/
theorem wlk_ways (sp x k : Nat) : (wlk sp x k = false ∧ ((∃ r, (∀ w, (binOp .sub 38 (.float .f32 x) (.float .f32 k)).run Try.prog w = .ok (.float .f32 r) w) ∧ leW r sp = false) ∨ ∃ nb : World → Nat, (∀ w, (binOp .sub 38 (.float .f32 x) (.float .f32 k)).run Try.prog w = .ok (.float .f32 (nb w)) w.drew) ∧ ∀ w, leW (nb w) sp = false)) ∨
      (wlk sp x k = true ∧ ∃ r, (∀ w, (binOp .sub 38 (.float .f32 x) (.float .f32 k)).run Try.prog w = .ok (.float .f32 r) w) ∧ leW r sp = true) := by
  unfold wlk
  rcases ar_any .sub (.inr rfl) x k with ⟨r, h1, h2⟩ | ⟨h1, nb, h2, h3⟩
  · rw [h1]
    cases hg : leW r sp
    · exact .inl ⟨hg, .inl ⟨r, h2, hg⟩⟩
    · exact .inr ⟨hg, r, h2, hg⟩
  · rw [h1]
    exact .inl ⟨rfl, .inr ⟨nb, h3, fun w => by unfold leW; rw [(h2 w sp).1]; rfl⟩⟩
theorem whk_ways (sp x k : Nat) : (whk sp x k = false ∧ ((∃ r, (∀ w, (binOp .add 38 (.float .f32 x) (.float .f32 k)).run Try.prog w = .ok (.float .f32 r) w) ∧ leW sp r = false) ∨ ∃ nb : World → Nat, (∀ w, (binOp .add 38 (.float .f32 x) (.float .f32 k)).run Try.prog w = .ok (.float .f32 (nb w)) w.drew) ∧ ∀ w, leW sp (nb w) = false)) ∨
      (whk sp x k = true ∧ ∃ r, (∀ w, (binOp .add 38 (.float .f32 x) (.float .f32 k)).run Try.prog w = .ok (.float .f32 r) w) ∧ leW sp r = true) := by
  unfold whk
  rcases ar_any .add (.inl rfl) x k with ⟨r, h1, h2⟩ | ⟨h1, nb, h2, h3⟩
  · rw [h1]
    cases hg : leW sp r
    · exact .inl ⟨hg, .inl ⟨r, h2, hg⟩⟩
    · exact .inr ⟨hg, r, h2, hg⟩
  · rw [h1]
    exact .inl ⟨rfl, .inr ⟨nb, h3, fun w => by unfold leW; rw [(h2 w sp).2]; rfl⟩⟩
set_option maxRecDepth 100000 in
set_option maxHeartbeats 4000000 in
theorem i_ag (s : Sl) (m : Mm) (k : Nat) (d : Int) (w : World) (hs1 : SlWf s) (hm1 : MmWf m) (hd : 0 ≤ d ∧ d ≤ 5) :
    Calls Try.prog 63 #[.agg #[.string s.nm, .float .f32 s.lo, .float .f32 s.hi, .int .i64 s.fr, .int .i64 s.to], .agg #[.float .f32 m.1, .int .i64 m.2], .float .f32 k, .int .i64 d] w fun e w' => e = .returned (.int .i64 (agR (wlk m.1 s.lo k && whk m.1 s.hi k) (akB s m d))) ∧ Below w.heap.size w w' := by
  have hs := Lib.hid (Bx2.new w #[.string s.nm, .float .f32 s.lo, .float .f32 s.hi, .int .i64 s.fr, .int .i64 s.to] 40 #[.float .f32 m.1, .int .i64 m.2] 42)
  obtain ⟨_, _, _, wf1, wf2⟩ := hs1
  obtain ⟨_, wf3⟩ := hm1
  have hq := wlk_ways m.1 s.lo k
  have hq2 := whk_ways m.1 s.hi k
  unfold leW at hq hq2
  obtain ⟨c0, c1, c2, c3, c4⟩ := cells5 hs.out.1
  obtain ⟨k0, k1⟩ : _ ∧ _ := ⟨cell_of_row _ _ 0 _ _ _ hs.out.2.1, cell_of_row _ _ 1 _ _ _ hs.out.2.1⟩
  have HQ := Lib.hid hq
  have HQ2 := Lib.hid hq2
  clear hq hq2
  go_enter Try.func63, Try.ntmps63
  go_upto_region 2 with fail
  go_cut [9, 10] (fun s9 s10 wx => ∃ F T : Int, s9 = .int .i64 F ∧ s10 = .int .i64 T ∧ (m.2 < F ↔ m.2 < s.fr - d) ∧ (T < m.2 ↔ s.to + d < m.2) ∧ Bx2 w #[.string s.nm, .float .f32 s.lo, .float .f32 s.hi, .int .i64 s.fr, .int .i64 s.to] 40 #[.float .f32 m.1, .int .i64 m.2] 42 wx)
  case first =>
    go_wp2_with fail
    all_goals (
      go_meet
      exact ⟨_, _, rfl, rfl, by omega, by omega, hs.out⟩)
  case rest =>
  clear hs c0 c1 c2 c3 c4 k0 k1
  obtain ⟨F, T, rfl, rfl, hF, hT, hb⟩ := hcut
  have hs := Lib.hid hb
  clear hb
  have hq := HQ.out
  have hq2 := HQ2.out
  clear HQ HQ2
  obtain ⟨c0, c1, c2, c3, c4⟩ := cells5 hs.out.1
  obtain ⟨k0, k1⟩ : _ ∧ _ := ⟨cell_of_row _ _ 0 _ _ _ hs.out.2.1, cell_of_row _ _ 1 _ _ _ hs.out.2.1⟩
  rcases hq with ⟨e1, ⟨r, a1, a2⟩ | ⟨nb, a1, a2⟩⟩ | ⟨e1, r, a1, a2⟩
  · have HN := Lib.hid (show agR (wlk m.1 s.lo k && whk m.1 s.hi k) (akB s m d) = 1 by rw [e1]; rfl)
    clear hq2 e1
    go_wp2
    go_ret
    exact ⟨by rw [HN.out]; rfl, hs.out.2.2⟩
  · have HN := Lib.hid (show agR (wlk m.1 s.lo k && whk m.1 s.hi k) (akB s m d) = 1 by rw [e1]; rfl)
    clear hq2 e1
    go_wp2
    go_ret
    exact ⟨by rw [HN.out]; rfl, hs.out.2.2.drew⟩
  rcases hq2 with ⟨e2, ⟨r2, b1, b2⟩ | ⟨nb, b1, b2⟩⟩ | ⟨e2, r2, b1, b2⟩
  · have HN := Lib.hid (show agR (wlk m.1 s.lo k && whk m.1 s.hi k) (akB s m d) = 1 by rw [e1, e2]; rfl)
    clear e1 e2
    go_wp2
    go_ret
    exact ⟨by rw [HN.out]; rfl, hs.out.2.2⟩
  · have HN := Lib.hid (show agR (wlk m.1 s.lo k && whk m.1 s.hi k) (akB s m d) = 1 by rw [e1, e2]; rfl)
    clear e1 e2
    go_wp2
    go_ret
    exact ⟨by rw [HN.out]; rfl, hs.out.2.2.drew⟩
  have HA := Lib.hid (show agR (wlk m.1 s.lo k && whk m.1 s.hi k) (akB s m d) = if akB s m d = true then 0 else 2 by rw [e1, e2]; rfl)
  clear e1 e2
  by_cases h1 : m.2 < F
  · have HN := Lib.hid (show agR (wlk m.1 s.lo k && whk m.1 s.hi k) (akB s m d) = 2 by
      rw [HA.out, if_neg (by unfold akB; rw [decide_eq_false (show ¬ s.fr - d ≤ m.2 by omega)]; simp)])
    clear HA hT
    go_wp2
    go_ret
    exact ⟨by rw [HN.out]; rfl, hs.out.2.2⟩
  by_cases h2 : T < m.2
  · have HN := Lib.hid (show agR (wlk m.1 s.lo k && whk m.1 s.hi k) (akB s m d) = 2 by
      rw [HA.out, if_neg (by unfold akB; rw [decide_eq_false (show ¬ m.2 ≤ s.to + d by omega)]; simp)])
    have h2d : decide (m.2 > T) = true := decide_eq_true h2
    clear HA hF
    go_wp2
    go_ret
    exact ⟨by rw [HN.out]; rfl, hs.out.2.2⟩
  · have HN := Lib.hid (show agR (wlk m.1 s.lo k && whk m.1 s.hi k) (akB s m d) = 0 by
      rw [HA.out, if_pos (by unfold akB; rw [decide_eq_true (show s.fr - d ≤ m.2 by omega), decide_eq_true (show m.2 ≤ s.to + d by omega)]; rfl)])
    have h2d : decide (m.2 > T) = false := decide_eq_false h2
    clear HA hF hT
    go_wp2
    go_ret
    exact ⟨by rw [HN.out]; rfl, hs.out.2.2⟩
set_option maxRecDepth 100000 in
set_option maxHeartbeats 2000000 in
theorem i_fit (s : Sl) (m : Mm) (w : World) (hs1 : SlWf s) (hm1 : MmWf m) :
    Calls Try.prog 27 #[.agg #[.string s.nm, .float .f32 s.lo, .float .f32 s.hi, .int .i64 s.fr, .int .i64 s.to], .agg #[.float .f32 m.1, .int .i64 m.2]] w fun e w' => e = .returned (.bool (fitB s m)) ∧ Below w.heap.size w w' := by
  have hs := Lib.hid (Bx2.new w #[.string s.nm, .float .f32 s.lo, .float .f32 s.hi, .int .i64 s.fr, .int .i64 s.to] 40 #[.float .f32 m.1, .int .i64 m.2] 42)
  obtain ⟨c0, c1, c2, c3, c4⟩ := cells5 hs.out.1
  obtain ⟨k0, k1⟩ : _ ∧ _ := ⟨cell_of_row _ _ 0 _ _ _ hs.out.2.1, cell_of_row _ _ 1 _ _ _ hs.out.2.1⟩
  rw [fit_ag s m hs1]
  have HC := Lib.hid (fun w => i_ag s m 0 0 w hs1 hm1 (by omega))
  clear hs1 hm1
  generalize (wlk m.1 s.lo 0 && whk m.1 s.hi 0) = t at *
  generalize akB s m 0 = u at *
  cases t <;> cases u
  all_goals
    go_enter Try.func27, Try.ntmps27
    go_wp2_with fail
    refine (HC.out _).mono ?_
    rintro e w1 ⟨rfl, b⟩
    have HS := Lib.hid (hs.out.step b)
    clear hs b c0 c1 c2 c3 c4 k0 k1 HC
    go_wp2
    go_ret
    exact ⟨rfl, HS.out.2.2⟩
set_option maxRecDepth 100000 in
set_option maxHeartbeats 2000000 in
theorem i_wide (s : Sl) (m : Mm) (w : World) (hs1 : SlWf s) (hm1 : MmWf m) :
    Calls Try.prog 24 #[.agg #[.string s.nm, .float .f32 s.lo, .float .f32 s.hi, .int .i64 s.fr, .int .i64 s.to], .agg #[.float .f32 m.1, .int .i64 m.2]] w fun e w' => e = .returned (.bool (wideB s m)) ∧ Below w.heap.size w w' := by
  have hs := Lib.hid (Bx2.new w #[.string s.nm, .float .f32 s.lo, .float .f32 s.hi, .int .i64 s.fr, .int .i64 s.to] 40 #[.float .f32 m.1, .int .i64 m.2] 42)
  obtain ⟨c0, c1, c2, c3, c4⟩ := cells5 hs.out.1
  obtain ⟨k0, k1⟩ : _ ∧ _ := ⟨cell_of_row _ _ 0 _ _ _ hs.out.2.1, cell_of_row _ _ 1 _ _ _ hs.out.2.1⟩
  rw [wide_ag s m]
  have HC := Lib.hid (fun w => i_ag s m 1065353216 5 w hs1 hm1 (by omega))
  clear hs1 hm1
  generalize (wlk m.1 s.lo 1065353216 && whk m.1 s.hi 1065353216) = t at *
  generalize akB s m 5 = u at *
  cases t <;> cases u
  all_goals
    go_enter Try.func24, Try.ntmps24
    go_wp2_with fail
    refine (HC.out _).mono ?_
    rintro e w1 ⟨rfl, b⟩
    have HS := Lib.hid (hs.out.step b)
    clear hs b c0 c1 c2 c3 c4 k0 k1 HC
    go_wp2
    go_ret
    exact ⟨rfl, HS.out.2.2⟩
end Go.Proofs.Ytlliiecdadiagaa

/- The walk of spec.ParseFixed and of the law FnExactParseFixed. -/
import Derived.Test.YtciebalkfeoabaaDoorM6
namespace Go.Proofs.YtciebalkfeoabaaDoor
open Go.RowKit

theorem head_list {s : ByteArray} (h : 0 < s.size) : ∃ c l, s.data.toList = c :: l ∧ byteAt s 0 = (c.toNat : Int) := by
  cases e : s.data.toList with
  | nil => rw [str_size, e] at h; simp at h
  | cons c l => exact ⟨c, l, rfl, by rw [byte_list e]; rfl⟩
theorem neg_of {s : ByteArray} (h : 0 < s.size) (h1 : byteAt s 0 = 45) : pNeg s = true ∧ s.extract 1 s.size = pRest s ∧ (pRest s).size + 1 = s.size := by
  obtain ⟨c, l, e, hb⟩ := head_list h
  have hc : c = 45 := by
    apply UInt8.toNat_inj.1
    show c.toNat = 45
    omega
  subst hc
  have hn : pNeg s = true := by unfold pNeg Lib.hasPrefix; rw [e]; simp [List.isPrefixOf]
  have hr : (pRest s).data.toList = l := by
    show Lib.trimPrefix s.data.toList [45] = l
    unfold Lib.trimPrefix
    rw [show Lib.hasPrefix s.data.toList [45] = true from hn, if_pos rfl, e]; rfl
  refine ⟨hn, str_ext ?_, ?_⟩
  · rw [hr]
    have := Lib.extract_toList s 1 s.size
    rw [ByteArray.toList_eq, e] at this
    rw [this, str_size, e]
    simp
  · rw [str_size, hr, str_size s, e, List.length_cons]
theorem pos_of {s : ByteArray} (h : s.size = 0 ∨ byteAt s 0 ≠ 45) : pNeg s = false ∧ pRest s = s := by
  have hn : pNeg s = false := by
    unfold pNeg Lib.hasPrefix
    rcases Nat.eq_zero_or_pos s.size with hz | hz
    · have : s.data.toList = [] := List.eq_nil_of_length_eq_zero (by rw [← str_size]; exact hz)
      rw [this]; rfl
    · obtain ⟨c, l, e, hb⟩ := head_list hz
      rw [e]
      simp only [List.isPrefixOf, Bool.and_eq_false_iff, beq_eq_false_iff_ne]
      refine Or.inl fun hc => ?_
      rcases h with h | h
      · omega
      · rw [← hc] at hb; exact h hb
  refine ⟨hn, str_ext ?_⟩
  show (Lib.trimPrefix s.data.toList [45] : List UInt8) = s.data.toList
  unfold Lib.trimPrefix
  rw [show Lib.hasPrefix s.data.toList [45] = false from hn]; simp
theorem sp_form {s : ByteArray} (h : ∀ p, ¬ FormOk (pRest s) p) : Ending.returned (.tuple #[.int .i64 0, .bool false]) = .returned (.tuple #[.int .i64 (pfVal s), .bool (pfOk s)]) :=
  sp_no fun p hp => absurd hp (h p)

set_option maxRecDepth 100000 in
set_option maxHeartbeats 4000000 in
theorem s_pf_neg (s : ByteArray) (w : World) (hs : s.size ≤ 1048576) (h0 : 0 < s.size) (h1 : byteAt s 0 = 45) :
    Calls Tryd.prog 34 #[.string s] w fun e w' => e = .returned (.tuple #[.int .i64 (pfVal s), .bool (pfOk s)]) ∧ Below w.heap.size w w' := by
  obtain ⟨hn, hx, hl⟩ := neg_of h0 h1
  have q0 : (s[0].toNat : Int) = 45 := by rw [byteAt_eq s 0 h0, h1]
  have HNg := Lib.hid hn
  clear hn h1
  by_cases h5 : (pRest s).size < 5
  · have hno := Lib.hid (sp_form (s := s) (fun p hp => by have := hp.1; have := hp.2.1; omega))
    go_enter Tryd.func34, Tryd.ntmps34
    go_wp2
    go_ret2
    exact ⟨hno.out, Below.refl _ _⟩
  · by_cases h12 : 12 < (pRest s).size
    · have hno := Lib.hid (sp_form (s := s) (fun p hp => by have := hp.1; have := hp.2.2.1; omega))
      go_enter Tryd.func34, Tryd.ntmps34
      go_wp2
      go_ret2
      exact ⟨hno.out, Below.refl _ _⟩
    · obtain ⟨p, hp⟩ : ∃ p, (pRest s).size = p + 4 := ⟨(pRest s).size - 4, by omega⟩
      have hpl : p < (pRest s).size := by omega
      have qd := byteAt_eq (pRest s) p hpl
      have p1 : 1 ≤ p := by omega
      have p8 : p ≤ 8 := by omega
      have hlt : (p : Int) + 4 < (s.size : Int) := by omega
      by_cases hd : byteAt (pRest s) p = 46
      · go_enter Tryd.func34, Tryd.ntmps34
        have HP := Lib.hid hp
        have HD := Lib.hid hd
        go_wp2
        clear qd hd
        go_loop [5, 6] (fun n i => ∃ k : Nat, k ≤ p + 4 ∧ i = .int .i64 k ∧ skDig (pRest s) p k ∧ n = .int .i64 (numSkip (pRest s) p k)) (fun _ i => p + 4 - (intOf i).toNat)
        case atStart => exact ⟨0, Nat.zero_le _, rfl, skDig_zero _ _, rfl⟩
        case round =>
          obtain ⟨k, hk, rfl, hsk, rfl⟩ := hrel
          have HS := Lib.hid hsk
          obtain ⟨n0, n1⟩ := numSkip_bd hsk (by omega)
          clear hsk
          by_cases hlt2 : k < p + 4
          · have hlk : (k : Int) < (p : Int) + 4 := by omega
            by_cases hkp : k = p
            · have hb : ((k : Int) == (p : Int)) = true := by rw [hkp]; simp
              have hs2 : Hid (skDig (pRest s) p (k + 1) ∧ numSkip (pRest s) p (k + 1) = numSkip (pRest s) p k) := ⟨by rw [hkp] at HS ⊢; exact skDig_at HS.out, by rw [hkp, numSkip_at]⟩
              clear hkp
              go_wp2
              go_round
              case rel => exact ⟨k + 1, by omega, by go_num, hs2.out.1, by rw [hs2.out.2]⟩
              case measure => simp [intOf]; omega
            · have hb : ((k : Int) == (p : Int)) = false := by simp; omega
              have qk := byteAt_eq (pRest s) k (by rw [HP.out]; exact hlt2)
              obtain ⟨c0, c1⟩ := byteAt_bd (pRest s) k
              have hs2 := Lib.hid (numSkip_off (pRest s) p k hkp)
              have HK := Lib.hid hkp
              clear hkp
              by_cases g1 : byteAt (pRest s) k < 48
              · have hno := Lib.hid (sp_form (s := s) (fun q hq => by have hq1 := hq.1; have := HP.out; have e : q = p := (by omega); rw [e] at hq; have := (hq.2.2.2.2 k hlt2 HK.out).1; omega))
                go_wp2
                go_ret2
                exact ⟨hno.out, Below.refl _ _⟩
              · by_cases g2 : 57 < byteAt (pRest s) k
                · have hno := Lib.hid (sp_form (s := s) (fun q hq => by have hq1 := hq.1; have := HP.out; have e : q = p := (by omega); rw [e] at hq; have := (hq.2.2.2.2 k hlt2 HK.out).2; omega))
                  go_wp2
                  go_ret2
                  exact ⟨hno.out, Below.refl _ _⟩
                · go_wp2
                  go_round
                  case rel => exact ⟨k + 1, by omega, by go_num, skDig_off HS.out ⟨by omega, by omega⟩, by rw [hs2.out]; go_num⟩
                  case measure => simp [intOf]; omega
          · obtain rfl : k = p + 4 := by omega
            by_cases hq : fixText (-(numSkip (pRest s) p (p + 4))) = s
            · have hy := Lib.hid (sp_yes (by omega) hq)
              have hb := beq_str hq
              clear hq
              go_wp2_with (go_at_call 33; ((with_reducible refine (s_ff _ _).mono ?_); rintro e w3 ⟨rfl, b3⟩))
              go_ret2
              exact ⟨hy.out, b3⟩
            · have hno := Lib.hid (sp_no (s := s) (fun q hq' hh => by have hq1 := hq'.1; have := HP.out; have e : q = p := (by omega); rw [e] at hh; rw [HNg.out] at hh; exact hq (by simpa using hh)))
              have hb := bne_str hq
              clear hq
              go_wp2_with (go_at_call 33; ((with_reducible refine (s_ff _ _).mono ?_); rintro e w3 ⟨rfl, b3⟩))
              go_ret2
              exact ⟨hno.out, b3⟩
      · have hno := Lib.hid (sp_form (s := s) (fun q hq => by have hq1 := hq.1; have e : q = p := (by omega); rw [e] at hq; exact hd hq.2.2.2.1))
        have hd' : (byteAt (pRest s) p == 46) = false := by simpa using hd
        have hd2 : (byteAt (pRest s) p != 46) = true := by simpa using hd
        go_enter Tryd.func34, Tryd.ntmps34
        go_wp2
        go_ret2
        exact ⟨hno.out, Below.refl _ _⟩

set_option maxRecDepth 100000 in
set_option maxHeartbeats 4000000 in
theorem s_pf_pos (s : ByteArray) (w : World) (hs : s.size ≤ 1048576) (h0 : 0 < s.size) (h1 : byteAt s 0 ≠ 45) :
    Calls Tryd.prog 34 #[.string s] w fun e w' => e = .returned (.tuple #[.int .i64 (pfVal s), .bool (pfOk s)]) ∧ Below w.heap.size w w' := by
  obtain ⟨hn, hx⟩ := pos_of (s := s) (Or.inr h1)
  have q0 := byteAt_eq s 0 h0
  have hb0 : (byteAt s 0 == 45) = false := by simpa using h1
  have HR : Hid (pRest s = s) := hx
  have HNg := Lib.hid hn
  clear hn h1 hx
  by_cases h5 : s.size < 5
  · have hno := Lib.hid (sp_form (s := s) (fun p hp => by rw [HR.out] at hp; have := hp.1; have := hp.2.1; omega))
    go_enter Tryd.func34, Tryd.ntmps34
    go_wp2
    go_ret2
    exact ⟨hno.out, Below.refl _ _⟩
  · by_cases h12 : 12 < s.size
    · have hno := Lib.hid (sp_form (s := s) (fun p hp => by rw [HR.out] at hp; have := hp.1; have := hp.2.2.1; omega))
      go_enter Tryd.func34, Tryd.ntmps34
      go_wp2
      go_ret2
      exact ⟨hno.out, Below.refl _ _⟩
    · obtain ⟨p, hp⟩ : ∃ p, s.size = p + 4 := ⟨s.size - 4, by omega⟩
      have hpl : p < s.size := by omega
      have qd := byteAt_eq s p hpl
      have p1 : 1 ≤ p := by omega
      have p8 : p ≤ 8 := by omega
      by_cases hd : byteAt s p = 46
      · go_enter Tryd.func34, Tryd.ntmps34
        have HP := Lib.hid hp
        have HD := Lib.hid hd
        go_wp2
        clear qd hd
        go_loop [5, 6] (fun n i => ∃ k : Nat, k ≤ p + 4 ∧ i = .int .i64 k ∧ skDig s p k ∧ n = .int .i64 (numSkip s p k)) (fun _ i => p + 4 - (intOf i).toNat)
        case atStart => exact ⟨0, Nat.zero_le _, rfl, skDig_zero _ _, rfl⟩
        case round =>
          obtain ⟨k, hk, rfl, hsk, rfl⟩ := hrel
          have HS := Lib.hid hsk
          obtain ⟨n0, n1⟩ := numSkip_bd hsk (by omega)
          clear hsk
          by_cases hlt2 : k < p + 4
          · have hlk : (k : Int) < (p : Int) + 4 := by omega
            by_cases hkp : k = p
            · have hb : ((k : Int) == (p : Int)) = true := by rw [hkp]; simp
              have hs2 : Hid (skDig s p (k + 1) ∧ numSkip s p (k + 1) = numSkip s p k) := ⟨by rw [hkp] at HS ⊢; exact skDig_at HS.out, by rw [hkp, numSkip_at]⟩
              clear hkp
              go_wp2
              go_round
              case rel => exact ⟨k + 1, by omega, by go_num, hs2.out.1, by rw [hs2.out.2]⟩
              case measure => simp [intOf]; omega
            · have hb : ((k : Int) == (p : Int)) = false := by simp; omega
              have qk := byteAt_eq s k (by rw [HP.out]; exact hlt2)
              obtain ⟨c0, c1⟩ := byteAt_bd s k
              have hs2 := Lib.hid (numSkip_off s p k hkp)
              have HK := Lib.hid hkp
              clear hkp
              by_cases g1 : byteAt s k < 48
              · have hno := Lib.hid (sp_form (s := s) (fun q hq => by rw [HR.out] at hq; have hq1 := hq.1; have := HP.out; have e : q = p := (by omega); rw [e] at hq; have := (hq.2.2.2.2 k hlt2 HK.out).1; omega))
                go_wp2
                go_ret2
                exact ⟨hno.out, Below.refl _ _⟩
              · by_cases g2 : 57 < byteAt s k
                · have hno := Lib.hid (sp_form (s := s) (fun q hq => by rw [HR.out] at hq; have hq1 := hq.1; have := HP.out; have e : q = p := (by omega); rw [e] at hq; have := (hq.2.2.2.2 k hlt2 HK.out).2; omega))
                  go_wp2
                  go_ret2
                  exact ⟨hno.out, Below.refl _ _⟩
                · go_wp2
                  go_round
                  case rel => exact ⟨k + 1, by omega, by go_num, skDig_off HS.out ⟨by omega, by omega⟩, by rw [hs2.out]; go_num⟩
                  case measure => simp [intOf]; omega
          · obtain rfl : k = p + 4 := by omega
            by_cases hq : fixText (numSkip s p (p + 4)) = s
            · have hy := Lib.hid (sp_yes (by omega) hq)
              have hb := beq_str hq
              clear hq
              go_wp2_with (go_at_call 33; ((with_reducible refine (s_ff _ _).mono ?_); rintro e w3 ⟨rfl, b3⟩))
              go_ret2
              exact ⟨hy.out, b3⟩
            · have hno := Lib.hid (sp_no (s := s) (fun q hq' hh => by rw [HR.out] at hq' hh; have hq1 := hq'.1; have := HP.out; have e : q = p := (by omega); rw [e] at hh; rw [HNg.out] at hh; exact hq (by simpa using hh)))
              have hb := bne_str hq
              clear hq
              go_wp2_with (go_at_call 33; ((with_reducible refine (s_ff _ _).mono ?_); rintro e w3 ⟨rfl, b3⟩))
              go_ret2
              exact ⟨hno.out, b3⟩
      · have hno := Lib.hid (sp_form (s := s) (fun q hq => by rw [HR.out] at hq; have hq1 := hq.1; have e : q = p := (by omega); rw [e] at hq; exact hd hq.2.2.2.1))
        have hd' : (byteAt s p == 46) = false := by simpa using hd
        have hd2 : (byteAt s p != 46) = true := by simpa using hd
        go_enter Tryd.func34, Tryd.ntmps34
        go_wp2
        go_ret2
        exact ⟨hno.out, Below.refl _ _⟩

theorem s_pf (s : ByteArray) (w : World) (hs : s.size ≤ 1048576) :
    Calls Tryd.prog 34 #[.string s] w fun e w' => e = .returned (.tuple #[.int .i64 (pfVal s), .bool (pfOk s)]) ∧ Below w.heap.size w w' := by
  by_cases h0 : 0 < s.size
  · by_cases h1 : byteAt s 0 = 45
    · exact s_pf_neg s w hs h0 h1
    · exact s_pf_pos s w hs h0 h1
  · obtain ⟨hn, hx⟩ := pos_of (s := s) (Or.inl (by omega))
    have hno := Lib.hid (sp_form (s := s) (fun p hp => by rw [hx] at hp; have := hp.1; omega))
    have hz : s.size = 0 := by omega
    clear hn hx h0
    go_enter Tryd.func34, Tryd.ntmps34
    go_wp2
    go_ret2
    exact ⟨hno.out, Below.refl _ _⟩

abbrev Tabs_FnExactParseFixed (w : World) : Prop := TabI w ∧ w.ShapedOpen Tryd.prog
set_option maxHeartbeats 400000 in
theorem w_FnExactParseFixed (s : ByteArray) (w : World) (hs : s.size ≤ maxLen) (hts : Tabs_FnExactParseFixed w) :
    Calls Tryd.prog 12 #[.string s] w fun e w' => e = .returned (.bool true) ∧ Below w.heap.size w w' := by
  obtain ⟨ht, hsh⟩ := hts
  have hm := TabM.of hsh
  clear hsh
  unfold maxLen at hs
  by_cases h : s.size ≤ 1048576
  · go_enter Tryd.func12, Tryd.ntmps12
    go_wp2_with (first
      | (go_at_call 34; ((with_reducible refine (s_pf _ _ h).mono ?_); rintro e w1 ⟨rfl, b1⟩))
      | (go_at_call 26; ((with_reducible refine (i_pf _ _ h (TabI.below ht b1) (TabM.below hm b1)).mono ?_); rintro e w2 ⟨rfl, b2⟩)))
    go_ret
    exact ⟨rfl, b1.trans (b2.mono b1.size)⟩
  · go_enter Tryd.func12, Tryd.ntmps12
    go_wp2
    all_goals go_ret
    all_goals exact ⟨rfl, Below.refl _ _⟩
end Go.Proofs.YtciebalkfeoabaaDoor

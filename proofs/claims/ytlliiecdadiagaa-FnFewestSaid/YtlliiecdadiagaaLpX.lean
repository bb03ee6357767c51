/- The drawing of sails: l11Sails. -/
import Derived.Test.YtlliiecdadiagaaLpW
import Derived.Test.YtlliiecdadiagaaLpM
namespace Go.Proofs.Ytlliiecdadiagaa
open Go.RowKit Ieee
set_option linter.unusedVariables false
set_option linter.unusedSimpArgs false

theorem SaV.new {w : World} {B g : Nat} {A : Option Addr} {len cap : Nat} (hc : Cur w B g A len cap) : SaV w B g A len cap (.slice (some ⟨w.heap.size + 1, 0, none⟩) 0 0) 0 ((w.alloc (.cells #[.string ⟨#[109, 97, 105, 110]⟩, .string ⟨#[106, 105, 98]⟩, .string ⟨#[103, 101, 110, 111, 97]⟩, .string ⟨#[115, 116, 111, 114, 109]⟩, .string ⟨#[99, 111, 100, 101]⟩, .string ⟨#[107, 105, 116, 101]⟩] 9)).alloc (.cells #[] 40)) := by
  refine ⟨grown_trans (World.grownBy_alloc w _ _) (World.grownBy_alloc _ _ _), (hc.alloc _).alloc _, hc.lt, (Below.heap_alloc _ _ _ (by simp)).trans (heap_alloc_new w _), ⟨[], (fun c x hx => by simp at hx), by simp, .inr ⟨w.heap.size + 1, 0, #[], rfl, by omega, ?_, Nat.le_refl _, by simp [maxLen], by simp, by simp⟩⟩⟩
  have h := heap_alloc_new (w.alloc (.cells #[.string ⟨#[109, 97, 105, 110]⟩, .string ⟨#[106, 105, 98]⟩, .string ⟨#[103, 101, 110, 111, 97]⟩, .string ⟨#[115, 116, 111, 114, 109]⟩, .string ⟨#[99, 111, 100, 101]⟩, .string ⟨#[107, 105, 116, 101]⟩] 9)) (.cells #[] 40)
  rwa [World.size_alloc] at h
theorem SbV.fz {w w1 : World} {B g : Nat} {A : Option Addr} {len cap gx : Nat} {s : Sl} {v : Value} {n : Nat} (h : SbV w B g A len cap gx s v n w1) : w1.frozen? ⟨gx, 0, none⟩ = false := by have h2 := h.2.2.1; simp [World.frozen?, h2]
set_option maxRecDepth 100000 in
set_option maxHeartbeats 16000000 in
theorem d_sails (w : World) (B g len cap : Nat) (A : Option Addr) (hc : Cur w B g A len cap) :
    Calls Try.prog 53 #[.pointer (some ⟨g, 0, none⟩)] w fun e w' => ∃ (v : Value) (n : Nat), n ≤ 20 ∧ e = .returned v ∧ OwnSa w' w.heap.size v n ∧ Cur w' B g A len cap ∧ w.grownBy w' (some g) := by
  obtain ⟨i0, hi, hz0, hz1, hz2⟩ := info_parts Try.info11Sv
  have H0 := Lib.hid (SaV.new hc)
  have hsz : (w.alloc (.cells #[.string ⟨#[109, 97, 105, 110]⟩, .string ⟨#[106, 105, 98]⟩, .string ⟨#[103, 101, 110, 111, 97]⟩, .string ⟨#[115, 116, 111, 114, 109]⟩, .string ⟨#[99, 111, 100, 101]⟩, .string ⟨#[107, 105, 116, 101]⟩] 9)).heap.size = w.heap.size + 1 := by simp
  clear hc
  go_enter Try.func53, Try.ntmps53
  go_wp2_with fail
  refine (d_below 5 _ B g len cap A H0.out.2.1 (by omega)).mono ?_
  rintro e w1 ⟨x, x0, x1, _, rfl, cu1, gr1⟩
  have H1 := Lib.hid (H0.out.draw cu1 gr1)
  have x2 := x1 (by omega)
  clear cu1 gr1 H0 x1 hsz
  obtain ⟨x, rfl⟩ : ∃ k : Nat, x = k := ⟨x.toNat, by omega⟩
  have vx : IntKind.i64.wrap (1 + (x : Int)) = ((1 + x : Nat) : Int) := by rw [IntWalk.i64_in _ (by omega)]; omega
  go_wp2
  go_loopw [5, 4] (fun nn o wr => ∃ (k c : Nat), nn = .int .i64 k ∧ k + c = 1 + x ∧ SaV w B g A len cap o c wr) (fun nn _ _ => (intOf nn).toNat)
  case atStart => exact ⟨1 + x, 0, by go_num, by omega, H1.out⟩
  case round =>
    clear H1 vx
    obtain ⟨k, c, rfl, hkc, hs⟩ := hrel
    obtain ⟨Ao, co, rfl, _⟩ := hs.2.2.2.2.value
    have HS := Lib.hid hs
    clear hs
    by_cases hk0 : k = 0
    · subst hk0
      have hc0 : 0 < c := by omega
      have hc5 : c ≤ 5 := by omega
      clear hkc x0 x2
      go_wp2_with fail
      refine (d_below c _ B g len cap A HS.out.2.1 (by omega)).mono ?_
      rintro e w2 ⟨y, y0, y1, _, rfl, cu, gr⟩
      have H2 := Lib.hid (HS.out.draw cu gr)
      have y2 := y1 (by omega)
      clear cu gr HS y1
      obtain ⟨y, rfl⟩ : ∃ k : Nat, y = k := ⟨y.toNat, by omega⟩
      have y3 : y < c := by omega
      go_wp2_with fail
      refine (d_below 24 _ B g len cap A H2.out.2.1 (by omega)).mono ?_
      rintro e w3 ⟨z, z0, z1, _, rfl, cu, gr⟩
      have H3 := Lib.hid (H2.out.draw cu gr)
      have z2 := z1 (by omega)
      clear cu gr H2 z1
      obtain ⟨gM, hAo, hB⟩ : ∃ gM, Ao = some ⟨gM, 0, none⟩ ∧ (Value.slice Ao c co).ownBlock = some gM := by
        obtain ⟨g', cap', cs, e2, _⟩ := H3.out.2.2.2.2.form hc0
        cases e2
        exact ⟨g', rfl, rfl⟩
      subst hAo
      have HB := Lib.hid hB
      clear hB
      have hz : z = 0 ∨ z = 1 ∨ z = 2 ∨ z = 3 ∨ z = 4 ∨ z = 5 ∨ z = 6 ∨ 7 ≤ z := by omega
      rcases hz with rfl | rfl | rfl | rfl | rfl | rfl | rfl | hz7
      · obtain ⟨nm, hn0, hn1⟩ : ∃ nm : ByteArray, w3.cell? ⟨gM, 0, none⟩ = some (.string nm) ∧ nm.size ≤ 1000 := by
          obtain ⟨g', cap', cs, e2, a1, a2, a3, a4, a5, a6⟩ := H3.out.2.2.2.2.form hc0
          cases e2
          obtain ⟨v0, hv0, p0⟩ := a6 0 (by omega)
          obtain ⟨b, rfl, hb⟩ := p0.1 rfl
          exact ⟨b, (cell_of_row w3 _ 0 _ _ _ a4).trans hv0, hb⟩
        have hne : w3.heap.size ≠ g := by have := H3.out.2.1.lt; omega
        have HP := Lib.hid (d_pick11 (w3.alloc (.cells #[.string ⟨#[]⟩, .string ⟨#[74, 105, 98]⟩, .string ⟨#[97, 98, 99, 100, 101, 102, 103, 104, 105, 106, 107, 108, 109, 110, 111, 112, 113]⟩, .string ⟨#[97, 98, 99, 100, 101, 102, 103, 104, 105, 106, 107, 108, 109, 110, 111, 112]⟩, .string nm] 9)) B g len cap w3.heap.size 5 5 A 9 [⟨#[]⟩, ⟨#[74, 105, 98]⟩, ⟨#[97, 98, 99, 100, 101, 102, 103, 104, 105, 106, 107, 108, 109, 110, 111, 112, 113]⟩, ⟨#[97, 98, 99, 100, 101, 102, 103, 104, 105, 106, 107, 108, 109, 110, 111, 112]⟩, nm] (H3.out.2.1.alloc _) rfl (by omega) (by omega) hne (fun x hx => by
          simp only [List.mem_cons, List.not_mem_nil, or_false] at hx
          rcases hx with rfl | rfl | rfl | rfl | rfl
          · decide
          · decide
          · decide
          · decide
          · exact hn1) (heap_alloc_new w3 _))
        clear hn1 hne
        go_wp2_with fail
        refine HP.out.mono ?_
        rintro e w4 ⟨r, rl, rfl, cu, gr⟩
        have H4 := Lib.hid ((H3.out.alloc _).draw cu gr)
        clear cu gr H3 HP hn0
        obtain ⟨cs, hb, hs⟩ := H4.out.spot HB.out (c := y * 5) (by omega)
        obtain ⟨_, e1, f1⟩ := cell_at hb rfl hs
        have H5 := Lib.hid (H4.out.elem (c := y * 5) HB.out (x := .string r) (by rw [show (y * 5) % 5 = 0 by omega]; exact ⟨fun _ => ⟨_, rfl, rl⟩, fun e => by omega, fun e => by omega⟩))
        clear H4 hb hs
        go_wp2_with fail
        go_ret
        exact ⟨_, c, by omega, rfl, H5.out.2.2.2.2, H5.out.2.1, H5.out.1⟩
      · go_wp2_with fail
        refine (d_single 300 _ B g len cap A H3.out.2.1 (by omega) (by omega)).mono ?_
        rintro e w4 ⟨r, rl, rfl, cu, gr⟩
        have H4 := Lib.hid (H3.out.draw cu gr)
        clear cu gr H3
        obtain ⟨cs, hb, hs⟩ := H4.out.spot HB.out (c := y * 5 + 1) (by omega)
        have st := store_at (P := Try.prog) hb rfl hs (.float .f32 r) rfl
        obtain ⟨_, e1, f1⟩ := cell_at hb rfl hs
        have H5 := Lib.hid (H4.out.elem (c := y * 5 + 1) HB.out (x := .float .f32 r) (by rw [show (y * 5 + 1) % 5 = 1 by omega]; exact ⟨fun e => by omega, fun _ => ⟨_, rfl, rl⟩, fun e => by omega⟩))
        clear H4 hb hs
        go_wp2_with fail
        go_ret
        exact ⟨_, c, by omega, rfl, H5.out.2.2.2.2, H5.out.2.1, H5.out.1⟩
      · go_wp2_with fail
        refine (d_single 300 _ B g len cap A H3.out.2.1 (by omega) (by omega)).mono ?_
        rintro e w4 ⟨r, rl, rfl, cu, gr⟩
        have H4 := Lib.hid (H3.out.draw cu gr)
        clear cu gr H3
        obtain ⟨cs, hb, hs⟩ := H4.out.spot HB.out (c := y * 5 + 2) (by omega)
        have st := store_at (P := Try.prog) hb rfl hs (.float .f32 r) rfl
        obtain ⟨_, e1, f1⟩ := cell_at hb rfl hs
        have H5 := Lib.hid (H4.out.elem (c := y * 5 + 2) HB.out (x := .float .f32 r) (by rw [show (y * 5 + 2) % 5 = 2 by omega]; exact ⟨fun e => by omega, fun _ => ⟨_, rfl, rl⟩, fun e => by omega⟩))
        clear H4 hb hs
        go_wp2_with fail
        go_ret
        exact ⟨_, c, by omega, rfl, H5.out.2.2.2.2, H5.out.2.1, H5.out.1⟩
      · go_wp2_with fail
        refine (d_number _ B g len cap A H3.out.2.1).mono ?_
        rintro e w4 ⟨u, u0, u1, rfl, cu, gr⟩
        have H4 := Lib.hid (H3.out.draw cu gr)
        have hv := wrap_in11 (u - 2)
        generalize hvv : IntKind.i64.wrap (u - 2) = v at *
        clear cu gr H3
        obtain ⟨cs, hb, hs⟩ := H4.out.spot HB.out (c := y * 5 + 4) (by omega)
        obtain ⟨_, e1, f1⟩ := cell_at hb rfl hs
        have H5 := Lib.hid (H4.out.elem (c := y * 5 + 4) HB.out (x := .int .i64 v) (by rw [show (y * 5 + 4) % 5 = 4 by omega]; exact ⟨fun e => by omega, fun e => by omega, fun _ => ⟨_, rfl, hv⟩⟩))
        clear H4 hb hs
        go_wp2_with fail
        go_ret
        exact ⟨_, c, by omega, rfl, H5.out.2.2.2.2, H5.out.2.1, H5.out.1⟩
      · go_wp2_with fail
        refine (d_number _ B g len cap A H3.out.2.1).mono ?_
        rintro e w4 ⟨u, u0, u1, rfl, cu, gr⟩
        have H4 := Lib.hid (H3.out.draw cu gr)
        have hv := wrap_in11 (u - 2)
        generalize hvv : IntKind.i64.wrap (u - 2) = v at *
        clear cu gr H3
        obtain ⟨cs, hb, hs⟩ := H4.out.spot HB.out (c := y * 5 + 3) (by omega)
        obtain ⟨_, e1, f1⟩ := cell_at hb rfl hs
        have H5 := Lib.hid (H4.out.elem (c := y * 5 + 3) HB.out (x := .int .i64 v) (by rw [show (y * 5 + 3) % 5 = 3 by omega]; exact ⟨fun e => by omega, fun e => by omega, fun _ => ⟨_, rfl, hv⟩⟩))
        clear H4 hb hs
        go_wp2_with fail
        go_ret
        exact ⟨_, c, by omega, rfl, H5.out.2.2.2.2, H5.out.2.1, H5.out.1⟩
      · have H4 := Lib.hid (H3.out.alloc (.cells #[] 40))
        have HE := Lib.hid (show OwnSa (w3.alloc (.cells #[] 40)) w.heap.size (.slice (some ⟨w3.heap.size, 0, none⟩) 0 0) 0 from ⟨[], (fun c x hx => by simp at hx), by simp, .inr ⟨w3.heap.size, 0, #[], rfl, H3.out.1.size, heap_alloc_new w3 _, Nat.le_refl _, by simp [maxLen], by simp, by simp⟩⟩)
        clear H3
        go_wp2_with fail
        go_ret
        exact ⟨_, 0, by omega, rfl, HE.out, H4.out.2.1, H4.out.1⟩
      · clear y0 y2 y3 z0 z2
        have hgi : (Value.slice (some ⟨gM, 0, none⟩) c co).ownBlock = some gM := HB.out
        go_wp2_with fail
        go_loopg [4, 10] (14 - c) (fun gk v _ wr => ∃ (m r : Nat), gk = r ∧ m + r = 14 ∧ 0 < m ∧ SaV w B g A len cap v m wr)
        case atStart => exact ⟨c, 14 - c, rfl, by omega, hc0, H3.out⟩
        case round =>
          obtain ⟨m, r, rfl, hmr, hm0, hst⟩ := hrel
          obtain ⟨Am, cm, rfl, _⟩ := hst.2.2.2.2.value
          have HS := Lib.hid hst
          clear hst H3 hgi
          go_wp2_with fail
          refine (d_below 2 _ B g len cap A HS.out.2.1 (by omega)).mono ?_
          rintro e w5 ⟨q, q0, q1, _, rfl, cu, gr⟩
          have H5 := Lib.hid (HS.out.draw cu gr)
          have q2 := q1 (by omega)
          clear cu gr HS q1
          by_cases hlt : (m : Int) < 12 + q
          · have hb := OwnSa.list H5.out.2.2.2.2
            obtain ⟨A', c', gm, f, e1, hA, hv, hwf, _⟩ := hb
            cases e1
            obtain rfl := hA hm0
            obtain ⟨s, hs1⟩ : ∃ s, f 0 = s := ⟨_, rfl⟩
            obtain ⟨d0, d1, d2, d3, d4⟩ := hv.at hm0 hs1
            have hwd := hwf 0 hm0
            rw [hs1] at hwd
            simp only [Nat.zero_mul, Nat.add_zero, Nat.zero_add] at d0 d1 d2 d3 d4
            have K := Lib.hid (SbV.new H5.out hwd)
            have HWD := Lib.hid hwd
            have mi : (0 : Int) < (m : Int) := by omega
            have a0 := fun (x y z u r : Value) => st_new5 Try.prog w5 x y z u r (.string s.nm) 40 0 (by omega) rfl
            have a1 := fun (x y z u r : Value) => st_new5 Try.prog w5 x y z u r (.float .f32 s.lo) 40 1 (by omega) rfl
            have a2 := fun (x y z u r : Value) => st_new5 Try.prog w5 x y z u r (.float .f32 s.hi) 40 2 (by omega) rfl
            have a3 := fun (x y z u r : Value) => st_new5 Try.prog w5 x y z u r (.int .i64 s.fr) 40 3 (by omega) rfl
            have a4 := fun (x y z u r : Value) => st_new5 Try.prog w5 x y z u r (.int .i64 s.to) 40 4 (by omega) rfl
            clear hv hwf hs1 hwd hA H5
            go_upto_region 31 with fail
            generalize hW : w5.alloc _ = W at *
            generalize w5.heap.size = gb at *
            clear hW a0 a1 a2 a3 a4 d0 d1 d2 d3 d4
            have hcv := fun x => conv_dig11 Try.underlying22 Try.underlying5 Try.underlying9 W x
            have hs1 := fun x : Int => strOfNums_size [x]
            have hu : IntKind.u8.wrap (97 + (m : Int)) = 97 + (m : Int) := by rw [IntKind.wrap_u8]; omega
            have K2 := Lib.hid (K.out.alloc (.cells #[.int .u8 (97 + (m : Int))] 5))
            have k0 := (cells5 K2.out.2.2.1).1
            have k1 := K2.out.fz
            have hsz : (⟨#[115]⟩ ++ strOfNums [97 + (m : Int)] : ByteArray).size ≤ 1000 := by rw [ByteArray.size_append, hs1]; simp; decide
            have K3 := Lib.hid (K2.out.put (c := 0) (x := .string (⟨#[115]⟩ ++ strOfNums [97 + (m : Int)])) (s' := ⟨⟨#[115]⟩ ++ strOfNums [97 + (m : Int)], s.lo, s.hi, s.fr, s.to⟩) rfl ⟨hsz, HWD.out.2⟩)
            clear K
            go_upto_region 32 with fail
            clear K2 k0 k1 hcv hs1 hu
            generalize (⟨#[115]⟩ ++ strOfNums [97 + (m : Int)] : ByteArray) = nm at *
            generalize hW3 : (W.alloc _).setCell _ _ = W3 at *
            clear hW3
            obtain ⟨r0, r1, r2, r3, r4⟩ := cells5 K3.out.2.2.1
            obtain ⟨xs, hxs, hown⟩ := K3.out.1.2.2.2.2
            have HXS := Lib.hid hxs
            have hxl : xs.length = m * 5 := hown.1
            have HA := Lib.hid (K3.out.1.alloc (.cells #[.string nm, .float .f32 s.lo, .float .f32 s.hi, .int .i64 s.fr, .int .i64 s.to] 40))
            have hszw := K3.out.1.1.size
            have HW3 := Lib.hid K3.out.2.2.2.1
            clear hxs hsz
            dsimp only at r0 r1 r2 r3 r4
            go_wp2_with (at_builtin; refine wpList_append_own _ rfl _ _ 24 rfl w.heap.size 40 i0 (.agg #[.string ⟨#[]⟩, .float .f32 0, .float .f32 0, .int .i64 0, .int .i64 0]) 5 40 Try.underlying24 hi hz0 hz1 hz2 rfl (by decide) _ _ _ rfl (hown.alloc _) ⟨_, 0, none⟩ 1 1 [.string nm, .float .f32 s.lo, .float .f32 s.hi, .int .i64 s.fr, .int .i64 s.to] rfl rfl (World.news_of_block (cs := #[.string nm, .float .f32 s.lo, .float .f32 s.hi, .int .i64 s.fr, .int .i64 s.to]) (t := 40) (fr := (0, 0)) (heap_alloc_new _ _)) (by simp [Value.oneCell']) (by unfold maxLen; omega) (by omega) (by simp; omega) ?_; intro v7 w7 hown7 hgrow _)
            have HS7 := Lib.hid (HA.out.add hgrow (own_add hown7 HXS.out (sa_cells ⟨nm, s.lo, s.hi, s.fr, s.to⟩ HW3.out) (by omega)))
            clear hown7 hgrow hown HA HXS HW3 K3
            go_wp2_with fail
            go_roundg (gk - 1)
            case rel => exact ⟨m + 1, gk - 1, rfl, by omega, by omega, HS7.out⟩
            case measure => omega
          · have hm14 : m ≤ 14 := by omega
            go_wp2_with fail
            go_ret
            exact ⟨_, m, by omega, rfl, H5.out.2.2.2.2, H5.out.2.1, H5.out.1⟩
      · have n0 : (z == 0) = false := by rw [beq_eq_false_iff_ne]; omega
        have n1 : (z == 1) = false := by rw [beq_eq_false_iff_ne]; omega
        have n2 : (z == 2) = false := by rw [beq_eq_false_iff_ne]; omega
        have n3 : (z == 3) = false := by rw [beq_eq_false_iff_ne]; omega
        have n4 : (z == 4) = false := by rw [beq_eq_false_iff_ne]; omega
        have n5 : (z == 5) = false := by rw [beq_eq_false_iff_ne]; omega
        have n6 : (z == 6) = false := by rw [beq_eq_false_iff_ne]; omega
        go_wp2_with fail
        go_ret
        exact ⟨_, c, by omega, rfl, H3.out.2.2.2.2, H3.out.2.1, H3.out.1⟩
    have z1 : (0 : Int) < (k : Int) := by omega
    go_wp2_with fail
    refine (d_below 16 _ B g len cap A HS.out.2.1 (by omega)).mono ?_
    rintro e w2 ⟨y, y0, y1, _, rfl, cu, gr⟩
    have H2 := Lib.hid (HS.out.draw cu gr)
    have y2 := y1 (by omega)
    clear cu gr HS y1
    go_wp2_with fail
    refine (d_below 100 _ B g len cap A H2.out.2.1 (by omega)).mono ?_
    rintro e w3 ⟨z, z0, z2, _, rfl, cu, gr⟩
    have H3 := Lib.hid (H2.out.draw cu gr)
    have z3 := z2 (by omega)
    clear cu gr H2 z2
    go_upto_region 8 with fail
    go_cut [8] (fun s8 wx => ∃ (gx : Nat) (s : Sl), s8 = .pointer (some ⟨gx, 0, none⟩) ∧ SbV w B g A len cap gx s (.slice Ao c co) c wx)
    case first =>
      have hc6 : c < 6 := by omega
      rename_i qa ka aa la ra qb hb kb ab lb lc kc ac jj kk aj am
      clear aa ab ac la ra lb lc hb
      generalize Exit.inBlock 1 (Exit.then kb qb) = QQ
      clear kc kb qb ka qa hi hz0 hz1 hz2 i0
      have c6 : (c : Int) < 6 := by omega
      have c5 : (0 : Int) ≤ (c : Int) := by omega
      have hnm := names_small c hc6
      have HN := Lib.hid (fun (wx : World) (h : SaV w B g A len cap (.slice Ao c co) c wx) => h.name hc6)
      generalize namesB.getD c ⟨#[]⟩ = nm at *
      have HD := Lib.hid H3.out.drew
      have HZ := Lib.hid (SbV.new (s := ⟨⟨#[]⟩, 0, 0, 0, 0⟩) H3.out ⟨by decide, by decide, by decide, by decide, by decide⟩)
      have C14a := Lib.hid (d_below 14 w3.drew B g len cap A HD.out.2.1 (by omega))
      have C14b := Lib.hid (d_below 14 (w3.alloc (.cells #[.string ⟨#[]⟩, .float .f32 0, .float .f32 0, .int .i64 0, .int .i64 0] 40)).drew B g len cap A HZ.out.drew.1.2.1 (by omega))
      have n0 := HN.out _ H3.out
      have n1 := HN.out _ HD.out
      have n2 := fun O => HN.out _ (H3.out.alloc O)
      have n3 := fun O => HN.out _ (H3.out.alloc O).drew
      have hwf := Lib.hid (show ∀ (r y : Nat) (t : Int), y < 4294967296 → r < 4294967296 → SlWd ⟨nm, y, r, z, IntKind.i64.wrap t⟩ from fun r y t a b => ⟨hnm, a, b, ⟨by dsimp only; omega, by dsimp only; omega⟩, wrap_in11 t⟩)
      have hlo := Lib.hid (ofInt_lt y)
      go_wp2
      go_region_held3 (fun wx => wx.cell? ⟨w.heap.size, c, none⟩ = some (.string nm)) (first | with_reducible exact n0 | with_reducible exact n1 | with_reducible exact n2 _ | with_reducible exact n3 _ | with_reducible exact n5 | with_reducible exact n6 _ | with_reducible exact n7 | with_reducible exact n8 _ | with_reducible exact n9) ((first
        | (go_at_call 73; (with_reducible refine C14a.out.mono ?_); rintro e w5 ⟨u, u0, u1, _, rfl, cu, gr⟩; have u2 := u1 (by omega); obtain ⟨r, hr, rl⟩ := add_some y u y0 y2 u0 u2; rw [← IntWalk.i64_in (2 + u) (by omega)] at hr; have ha := fun w => run_float_arith (P := Try.prog) w .add 38 .f32 _ _ _ hr; have H5 := Lib.hid (HD.out.draw cu gr); have C81a := Lib.hid (d_below 81 w5 B g len cap A H5.out.2.1 (by omega)); have C81c := Lib.hid (d_below 81 (w5.alloc (.cells #[.string ⟨#[]⟩, .float .f32 0, .float .f32 0, .int .i64 0, .int .i64 0] 40)) B g len cap A (H5.out.alloc _).2.1 (by omega)); have n5 := HN.out _ H5.out; have n6 := fun O => HN.out _ (H5.out.alloc O); clear cu gr u1 hr)
        | (go_at_call 73; (with_reducible refine C14b.out.mono ?_); rintro e w5 ⟨u, u0, u1, _, rfl, cu, gr⟩; have u2 := u1 (by omega); obtain ⟨r, hr, rl⟩ := add_some y u y0 y2 u0 u2; rw [← IntWalk.i64_in (2 + u) (by omega)] at hr; have ha := fun w => run_float_arith (P := Try.prog) w .add 38 .f32 _ _ _ hr; have H5 := Lib.hid (HZ.out.drew.draw cu gr); have C81b := Lib.hid (d_below 81 w5 B g len cap A H5.out.1.2.1 (by omega)); have n5 := HN.out _ H5.out.1; clear cu gr u1 hr)
        | (go_at_call 73; (with_reducible refine C81a.out.mono ?_); rintro e w6 ⟨q, q0, q1, _, rfl, cu, gr⟩; have q2 := q1 (by omega); have H6 := Lib.hid (H5.out.draw cu gr); have n7 := HN.out _ H6.out; have n8 := fun O => HN.out _ (H6.out.alloc O); have HF := Lib.hid (fun t => SbV.new (s := ⟨nm, floatOfInt .f32 y, r, z, IntKind.i64.wrap t⟩) H6.out (hwf.out r _ t hlo.out rl)); have sa := fun (x y z u r : Value) => st_new5 Try.prog w6 x y z u r (.string nm) 40 0 (by omega) rfl; have sb := fun (x y z u r : Value) (f : Nat) => st_new5 Try.prog w6 x y z u r (.float .f32 f) 40 1 (by omega) rfl; have sc := fun (x y z u r : Value) (f : Nat) => st_new5 Try.prog w6 x y z u r (.float .f32 f) 40 2 (by omega) rfl; clear cu gr q1)
        | (go_at_call 73; (with_reducible refine C81b.out.mono ?_); rintro e w6 ⟨q, q0, q1, _, rfl, cu, gr⟩; have q2 := q1 (by omega); have H6 := Lib.hid (H5.out.draw cu gr); have n7 := HN.out _ H6.out.1; have HF := Lib.hid (fun t => H6.out.five (s' := ⟨nm, floatOfInt .f32 y, r, z, IntKind.i64.wrap t⟩) (hwf.out r _ t hlo.out rl)); have n9 := HN.out _ (HF.out (z + q)).1; obtain ⟨sa, sb, sc, sd, se, sf, sg⟩ := st5r (P := Try.prog) H6.out.2.2.1 nm (floatOfInt .f32 y) r z (IntKind.i64.wrap (z + q)); have s0 := (cells5 H6.out.2.2.1).1; have s1 := H6.out.fz; clear cu gr q1)
        | (go_at_call 73; (with_reducible refine C81c.out.mono ?_); rintro e w6 ⟨q, q0, q1, _, rfl, cu, gr⟩; have q2 := q1 (by omega); have H6 := Lib.hid ((SbV.new (s := ⟨⟨#[]⟩, 0, 0, 0, 0⟩) H5.out ⟨by decide, by decide, by decide, by decide, by decide⟩).draw cu gr); have n7 := HN.out _ H6.out.1; have HF := Lib.hid (fun t => H6.out.five (s' := ⟨nm, floatOfInt .f32 y, r, z, IntKind.i64.wrap t⟩) (hwf.out r _ t hlo.out rl)); have n9 := HN.out _ (HF.out (z + q)).1; obtain ⟨sa, sb, sc, sd, se, sf, sg⟩ := st5r (P := Try.prog) H6.out.2.2.1 nm (floatOfInt .f32 y) r z (IntKind.i64.wrap (z + q)); have s0 := (cells5 H6.out.2.2.1).1; have s1 := H6.out.fz; clear cu gr q1)))
      all_goals (
        go_wp2_with fail
        go_meet
        exact ⟨_, _, rfl, HF.out (z + q)⟩)
    case rest =>
    obtain ⟨gx, s, rfl, hsb⟩ := hcut
    have HX := Lib.hid hsb
    clear hsb H3
    go_wp2_with fail
    refine (d_once 4 _ B g len cap A HX.out.1.2.1 (by omega)).mono ?_
    rintro e w9 ⟨t, rfl, cu, gr⟩
    have H9 := Lib.hid (HX.out.draw cu gr)
    clear cu gr HX
    go_upto_if 44 with fail
    go_cut [] (fun wx => ∃ s : Sl, SbV w B g A len cap gx s (.slice Ao c co) c wx)
    case first =>
      cases t
      · go_wp2_with fail
        go_meet
        exact ⟨s, H9.out⟩
      · have hwd := H9.out.2.2.2.1
        have st1 := store_at (P := Try.prog) H9.out.2.2.1 (k := 1) (n := 5) rfl (by omega) (.float .f32 0) rfl
        have H10 := Lib.hid (H9.out.put (c := 1) (x := .float .f32 0) (s' := ⟨s.nm, 0, s.hi, s.fr, s.to⟩) rfl ⟨hwd.1, (by dsimp only; omega), hwd.2.2.1, hwd.2.2.2⟩)
        obtain ⟨_, e1, f1⟩ := cell_at H10.out.2.2.1 (k := 3) (n := 5) rfl (by omega)
        have H11 := Lib.hid (H10.out.put (c := 3) (x := .int .i64 0) (s' := ⟨s.nm, 0, s.hi, 0, s.to⟩) rfl ⟨hwd.1, (by dsimp only; omega), hwd.2.2.1, ⟨(by dsimp only; omega), (by dsimp only; omega)⟩, hwd.2.2.2.2⟩)
        obtain ⟨_, e2, f2⟩ := cell_at H11.out.2.2.1 (k := 4) (n := 5) rfl (by omega)
        have H12 := Lib.hid (H11.out.put (c := 4) (x := .int .i64 180) (s' := ⟨s.nm, 0, s.hi, 0, 180⟩) rfl ⟨hwd.1, (by dsimp only; omega), hwd.2.2.1, ⟨(by dsimp only; omega), (by dsimp only; omega)⟩, ⟨(by dsimp only; omega), (by dsimp only; omega)⟩⟩)
        clear H9 H10 H11 hwd
        go_wp2_with fail
        go_meet
        exact ⟨_, H12.out⟩
    case rest =>
    obtain ⟨s, hsb⟩ := hcut
    have HX := Lib.hid hsb
    clear hsb H9
    obtain ⟨r0, r1, r2, r3, r4⟩ := cells5 HX.out.2.2.1
    obtain ⟨xs, hxs, hown⟩ := HX.out.1.2.2.2.2
    have HXS := Lib.hid hxs
    have hxl : xs.length = c * 5 := hown.1
    have HA := Lib.hid (HX.out.1.alloc (.cells #[.string s.nm, .float .f32 s.lo, .float .f32 s.hi, .int .i64 s.fr, .int .i64 s.to] 40))
    have hszw := HX.out.1.1.size
    have HWD := Lib.hid HX.out.2.2.2.1
    clear hxs
    go_wp2_with (at_builtin; refine wpList_append_own _ rfl _ _ 24 rfl w.heap.size 40 i0 (.agg #[.string ⟨#[]⟩, .float .f32 0, .float .f32 0, .int .i64 0, .int .i64 0]) 5 40 Try.underlying24 hi hz0 hz1 hz2 rfl (by decide) _ _ _ rfl (hown.alloc _) ⟨_, 0, none⟩ 1 1 [.string s.nm, .float .f32 s.lo, .float .f32 s.hi, .int .i64 s.fr, .int .i64 s.to] rfl rfl (World.news_of_block (cs := #[.string s.nm, .float .f32 s.lo, .float .f32 s.hi, .int .i64 s.fr, .int .i64 s.to]) (t := 40) (fr := (0, 0)) (heap_alloc_new _ _)) (by simp [Value.oneCell']) (by unfold maxLen; omega) (by omega) (by simp; omega) ?_; intro v7 w7 hown7 hgrow _)
    have HS7 := Lib.hid (HA.out.add hgrow (own_add hown7 HXS.out (sa_cells s HWD.out) (by omega)))
    clear hown7 hgrow hown HA HXS HWD HX
    go_wp2_with fail
    go_roundw
    case rel => exact ⟨k - 1, c + 1, by go_num, by omega, HS7.out⟩
    case measure => simp [intOf]; omega
end Go.Proofs.Ytlliiecdadiagaa

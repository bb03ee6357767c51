/- Which sights round marks (spec): Progress. -/
import Derived.Test.YthahakefmpajfaaLkE
import Derived.Test.YthahakefmpajfaaPlc
namespace Go.Proofs.Ythahakefmpajfaa
open Go.RowKit
set_option linter.unusedVariables false
set_option linter.unusedSimpArgs false

theorem grown_of_below {w w' : World} (h : Below w.heap.size w w') (r : Option Nat) : w.grownBy w' r := ⟨h.os, h.tape, h.output, h.size, fun k hk _ => h.block k hk⟩
theorem CtS.far {w w1 w2 : World} {c : Array Value} {ty : TypeId} {g o m : Nat} {mf : Nat → Mk} {tg tO n : Nat} {f : Nat → Sg} {r : Option Nat} (h : CtS w c ty g o m mf tg tO n f w1) (gr : w1.grownBy w2 r) (hr : ∀ k, r = some k → w.heap.size < k)
    (hg : 0 < m → g < w.heap.size) (ht : 0 < n → tg < w.heap.size) : CtS w c ty g o m mf tg tO n f w2 := by
  have hsz := h.1.1.2.size
  refine ⟨⟨⟨(gr.block _ (heap_lt h.1.1.1) (fun e => by have := hr _ e.symm; omega)).trans h.1.1.1, h.1.1.2.grown gr hsz (fun k e => by have := hr k e; omega)⟩, fun j hj => ?_⟩, fun j hj => ?_⟩
  · have := hg (by omega)
    exact h.1.2.same (gr.block g (by omega) (fun e => by have := hr _ e.symm; omega)) j hj
  · have := ht (by omega)
    exact h.2.same (gr.block tg (by omega) (fun e => by have := hr _ e.symm; omega)) j hj
/-- What Progress tells. -/
def PgE (t : TypeId) (w : World) (l : List Int) (e : Ending) (w' : World) : Prop := ∃ v, e = .returned v ∧ w'.ownsRow w.heap.size t 1 v l.length (l.map (Value.int .i64)) ∧ Below w.heap.size w w'
theorem owns_low1 {w' : World} {B B' : Nat} {t : TypeId} {v : Value} {n : Nat} {xs : List Value} (h : w'.ownsRow B t 1 v n xs) (hB : B' ≤ B) : w'.ownsRow B' t 1 v n xs :=
  ⟨h.1, h.2.imp id fun ⟨g, c, cur, a1, a2, a3⟩ => ⟨g, c, cur, a1, Nat.le_trans hB a2, a3⟩⟩
set_option maxRecDepth 100000 in
set_option maxHeartbeats 4000000 in
theorem s_pg (c : Crs) (A : Option Addr) (g o cap : Nat) (f : Nat → Sg) (TA : Option Addr) (tg tO n tcap : Nat) (b : Int) (w : World) (hn : c.n ≤ 1048576) (hA : 0 < c.n → A = some ⟨g, o, none⟩) (hw : MksIn w g o c.n c.mf)
    (hm : n ≤ 1048576) (hT : 0 < n → TA = some ⟨tg, tO, none⟩) (hv : SigsIn w tg tO n f) :
    Calls Try.prog 32 #[.agg #[.int .i64 c.st.1.1, .int .i64 c.st.1.2, .int .i64 c.st.2.1, .int .i64 c.st.2.2, .slice A c.n cap, .int .i64 c.fi.1.1, .int .i64 c.fi.1.2, .int .i64 c.fi.2.1, .int .i64 c.fi.2.2], .slice TA n tcap, .int .i64 b] w (PgE 3 w (pgW c n f b)) := by
  obtain ⟨i0, hi, hz0, hz1, hz2⟩ := info_parts Try.infoInt
  have HR := Lib.hid (fun (k : Nat) (b : Int) (w : World) (h : MksIn w g o c.n c.mf) (h2 : SigsIn w tg tO n f) => s_ro c A g o cap k f TA tg tO n tcap b w hn hA h hm hT h2)
  have HG := Lib.hid (And.intro (fun h : 0 < c.n => hw.lt h) (fun h : 0 < n => hv.lt h))
  have hs := Lib.hid (CtS.new (c := #[.int .i64 c.st.1.1, .int .i64 c.st.1.2, .int .i64 c.st.2.1, .int .i64 c.st.2.2, .slice A c.n cap, .int .i64 c.fi.1.1, .int .i64 c.fi.1.2, .int .i64 c.fi.2.1, .int .i64 c.fi.2.2]) (ty := 36) hw hv)
  have hs2 := Lib.hid (hs.out.far (World.grownBy_alloc _ (.cells #[] 3) none) (fun k e => by cases e) HG.out.1 HG.out.2)
  have hsz : (w.alloc (.cells #[.int .i64 c.st.1.1, .int .i64 c.st.1.2, .int .i64 c.st.2.1, .int .i64 c.st.2.2, .slice A c.n cap, .int .i64 c.fi.1.1, .int .i64 c.fi.1.2, .int .i64 c.fi.2.1, .int .i64 c.fi.2.2] 36)).heap.size = w.heap.size + 1 := by simp
  obtain ⟨L, hL⟩ : ∃ L, pgW c n f b = L := ⟨_, rfl⟩
  rw [hL]
  have HL := Lib.hid hL
  clear hw hv hA hT hs hL
  go_enter Try.func32, Try.ntmps32
  go_wp2
  go_loopw [2, 7, 8] (fun z v i wr => ∃ (k : Nat) (bb : Int) (xs : List Int), k ≤ c.n ∧ z = .int .i64 bb ∧ i = .int .i64 k ∧ xs.length = k ∧ L = xs ++ pgFrom c n f (c.n - k) k bb ∧ wr.ownsRow (w.heap.size + 1) 3 1 v k (xs.map (Value.int .i64)) ∧ CtS w #[.int .i64 c.st.1.1, .int .i64 c.st.1.2, .int .i64 c.st.2.1, .int .i64 c.st.2.2, .slice A c.n cap, .int .i64 c.fi.1.1, .int .i64 c.fi.1.2, .int .i64 c.fi.2.1, .int .i64 c.fi.2.2] 36 g o c.n c.mf tg tO n f wr) (fun _ _ i _ => c.n - (intOf i).toNat)
  case atStart => exact ⟨0, b, [], Nat.zero_le _, rfl, rfl, rfl, HL.out.symm, ⟨by simp, .inr ⟨w.heap.size + 1, 0, #[], rfl, Nat.le_refl _, by rw [← hsz]; exact heap_alloc_new _ _, by simp, by simp [maxLen], by simp, by simp⟩⟩, hs2.out⟩
  case round =>
    obtain ⟨k, bb, xs, hk, rfl, rfl, hxs, hLL, hown, hst⟩ := hrel
    clear hs2 HL
    obtain ⟨e0, e1, e2, e3, e4, e5, e6, e7, e8⟩ := cells9 hst.1.1.1
    have hnw : ∀ j, u7.ownBlock = some j → w.heap.size < j := fun j e => by have := (hown.lt j e).1; omega
    by_cases hlt : k < c.n
    · have z1 : (k : Int) < (c.n : Int) := by omega
      have hp : pgFrom c n f (c.n - k) k bb = if roW c k n f bb < 0 then [] else roW c k n f bb :: pgFrom c n f (c.n - (k + 1)) (k + 1) (roW c k n f bb) := by
        rw [show c.n - k = (c.n - (k + 1)) + 1 by omega]; rfl
      have HC := Lib.hid (HR.out k bb wr hst.1.2 hst.2)
      have rb := ro_ok c k n f bb
      generalize roW c k n f bb = r at *
      have HS := Lib.hid hst
      have HO := Lib.hid hown
      have HN := Lib.hid hnw
      clear hst hown hnw
      go_wp2_with fail
      refine HC.out.mono ?_
      rintro e w2 ⟨rfl, b2⟩
      have hst2 := Lib.hid (HS.out.step b2)
      have hown1 := HO.out.kept (grown_of_below b2 (some wr.heap.size)) (.inr (fun e => by have := (HO.out.lt _ e).2; omega))
      have hs2' := HS.out.below.size
      have hs3' := b2.size
      clear HC HS HO b2 e0 e1 e2 e3 e4 e5 e6 e7 e8
      by_cases hr : r < 0
      · have HX := Lib.hid (show L = xs by rw [hLL, hp, if_pos hr, List.append_nil])
        have HW := Lib.hid (owns_low1 hown1 (show w.heap.size ≤ w.heap.size + 1 by omega))
        clear hown1 hp hLL
        go_wp2
        go_ret
        exact ⟨_, rfl, by rw [HX.out, hxs]; exact HW.out, hst2.out.below⟩
      · have HX := Lib.hid (show L = (xs ++ [r]) ++ pgFrom c n f (c.n - (k + 1)) (k + 1) r by rw [hLL, hp, if_neg hr, List.append_assoc]; rfl)
        have hsz2 : w.heap.size + 1 ≤ w2.heap.size := by have := heap_lt hst2.out.1.1.1; omega
        clear hp hLL
        go_wp2_with (at_builtin; refine wpList_append_own _ rfl _ _ 43 rfl (w.heap.size + 1) 3 i0 (.int .i64 0) 1 8 Try.underlying43 hi hz0 hz1 hz2 rfl (by decide) _ _ _ rfl (hown1.alloc _) ⟨w2.heap.size, 0, none⟩ 1 1 [.int .i64 r] rfl rfl (World.news_of_block (cs := #[.int .i64 r]) (t := 3) (fr := (0, 0)) (heap_alloc_new w2 _)) (by simp [Value.oneCell']) (by unfold maxLen; omega) (by omega) (by simp; omega) ?_; intro v' w3 hown2 hgrow _)
        have hst3 := Lib.hid ((hst2.out.step ((Below.refl _ _).alloc (Nat.le_refl _) _)).far hgrow HN.out HG.out.1 HG.out.2)
        have HW := Lib.hid (show w3.ownsRow (w.heap.size + 1) 3 1 v' (k + 1) ((xs ++ [r]).map (Value.int .i64)) by rw [List.map_append]; exact hown2)
        clear hown1 hown2 hgrow hst2
        go_wp2
        go_roundw
        case rel => exact ⟨k + 1, r, xs ++ [r], by omega, rfl, by go_num, by simp [hxs], HX.out, HW.out, hst3.out⟩
        case measure => simp [intOf]; omega
    · obtain rfl : k = c.n := by omega
      have z1 : ¬ (c.n : Int) < (c.n : Int) := by omega
      have HX := Lib.hid (show L = xs by rw [hLL, Nat.sub_self]; exact List.append_nil _)
      have HW := Lib.hid (owns_low1 hown (show w.heap.size ≤ w.heap.size + 1 by omega))
      clear hown hLL
      go_wp2
      go_ret
      exact ⟨_, rfl, by rw [HX.out, hxs]; exact HW.out, hst.below⟩
end Go.Proofs.Ythahakefmpajfaa

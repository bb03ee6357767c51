/- Fields of fields joined by blanks: the same fields. Nothing here speaks of the program. -/
import Derived.Test.YtbjaedmifacgaaaDoorFlds2
import Derived.Test.YtbjaedmifacgaaaDoorFldL
namespace Go.Proofs.YtbjaedmifacgaaaDoor
open Go.RowKit

/-- The texts, each with a blank behind it. -/
def joinL (xs : List (List UInt8)) : List UInt8 := xs.flatMap (fun x => x ++ [32])
theorem sp32 : Lib.isSp 32 = true := by kernel_rfl
theorem go_word : ∀ (x cur rest : List UInt8), (∀ b ∈ x, Lib.isSp b = false) → Lib.fieldsGo cur (x ++ rest) = Lib.fieldsGo (cur ++ x) rest
  | [], cur, rest, _ => by simp
  | b :: x, cur, rest, h => by
    rw [List.cons_append, Lib.fieldsGo_more _ _ _ (h b (by simp)), go_word x (cur ++ [b]) rest (fun c hc => h c (by simp [hc])), List.append_assoc]
    rfl
theorem fields_joined : ∀ xs : List (List UInt8), (∀ x ∈ xs, x ≠ [] ∧ ∀ b ∈ x, Lib.isSp b = false) → Lib.fieldsGo [] (joinL xs) = xs
  | [], _ => by simp [joinL, Lib.fieldsGo]
  | x :: xs, h => by
    obtain ⟨h1, h2⟩ := h x (by simp)
    have e : joinL (x :: xs) = x ++ (32 :: joinL xs) := by simp [joinL]
    rw [e, go_word x [] _ h2, List.nil_append, Lib.fieldsGo_end _ _ _ sp32 h1, fields_joined xs (fun y hy => h y (by simp [hy]))]
/-- What fields are made of. -/
theorem fields_mem (P : UInt8 → Prop) : ∀ (l cur : List UInt8), (∀ b ∈ cur, Lib.isSp b = false ∧ P b) → (∀ b ∈ l, P b) → ∀ x ∈ Lib.fieldsGo cur l, x ≠ [] ∧ (∀ b ∈ x, Lib.isSp b = false ∧ P b) ∧ x.length ≤ cur.length + l.length
  | [], cur, hc, _, x, hx => by
    rw [go_nil] at hx
    cases cur with
    | nil => simp at hx
    | cons a t =>
      have : x = a :: t := by simpa using hx
      subst this
      exact ⟨by simp, hc, by simp⟩
  | b :: l, cur, hc, hl, x, hx => by
    rw [go_cons] at hx
    have hl' : ∀ c ∈ l, P c := fun c hm => hl c (by simp [hm])
    cases hb : Lib.isSp b
    · rw [hb] at hx
      simp only [Bool.false_eq_true, if_false] at hx
      obtain ⟨a1, a2, a3⟩ := fields_mem P l (cur ++ [b]) (fun c hm => by
        rcases List.mem_append.1 hm with h | h
        · exact hc c h
        · have : c = b := by simpa using h
          subst this
          exact ⟨hb, hl c (by simp)⟩) hl' x hx
      exact ⟨a1, a2, by simp at a3 ⊢; omega⟩
    · rw [hb] at hx
      simp only [if_true] at hx
      cases cur with
      | nil =>
        simp only [List.isEmpty_nil, if_true] at hx
        obtain ⟨a1, a2, a3⟩ := fields_mem P l [] (fun c hm => by simp at hm) hl' x hx
        exact ⟨a1, a2, by simp at a3 ⊢; omega⟩
      | cons a t =>
        simp only [List.isEmpty_cons, Bool.false_eq_true, if_false, List.mem_cons] at hx
        rcases hx with h | h
        · subst h
          exact ⟨by simp, hc, by simp⟩
        · obtain ⟨a1, a2, a3⟩ := fields_mem P l [] (fun c hm => by simp at hm) hl' x h
          exact ⟨a1, a2, by simp at a3 ⊢; omega⟩

theorem okTo32_mem {s : ByteArray} (h : okTo32 s s.size) : ∀ b ∈ s.data.toList, 32 ≤ b.toNat ∧ b.toNat ≤ 126 := fun b hb => by
  obtain ⟨j, hj, e⟩ := List.getElem_of_mem hb
  have he : s.data.toList[j]? = some b := by rw [List.getElem?_eq_getElem hj, e]
  have := h j (get_lt he)
  rw [byteAt_get he] at this
  omega
theorem okTo32_of {s : ByteArray} (h : ∀ b ∈ s.data.toList, 32 ≤ b.toNat ∧ b.toNat ≤ 126) : okTo32 s s.size := fun j hj => by
  have hj' : j < s.data.toList.length := by rw [← str_size]; exact hj
  have he : s.data.toList[j]? = some s.data.toList[j] := List.getElem?_eq_getElem hj'
  rw [byteAt_get he]
  have := h _ (List.getElem_mem hj')
  omega

/-- A text is the first k fields joined. -/
def JoinTo (xs : List ByteArray) (k : Nat) (t : ByteArray) : Prop := t.data.toList = joinL ((xs.take k).map (·.data.toList)) ∧ t.size ≤ 601 * k
theorem JoinTo.start (xs : List ByteArray) : JoinTo xs 0 ⟨#[]⟩ := ⟨by simp [joinL], by simp [ByteArray.size]⟩
theorem JoinTo.step {xs : List ByteArray} {k : Nat} {t x : ByteArray} (h : JoinTo xs k t) (hx : xs[k]? = some x) (hs : x.size ≤ 600) : JoinTo xs (k + 1) (t ++ x ++ ⟨#[32]⟩) := by
  obtain ⟨h1, h2⟩ := h
  refine ⟨?_, ?_⟩
  · have hk : k < xs.length := by
      rcases Nat.lt_or_ge k xs.length with h | h
      · exact h
      · rw [List.getElem?_eq_none h] at hx; cases hx
    have ht : xs.take (k + 1) = xs.take k ++ [x] := by
      rw [List.take_add_one, hx]; rfl
    rw [ht, List.map_append]
    have e : joinL ((xs.take k).map (·.data.toList) ++ [x].map (·.data.toList)) = joinL ((xs.take k).map (·.data.toList)) ++ (x.data.toList ++ [32]) := by simp [joinL]
    rw [e, ← h1]
    simp [ByteArray.data_append]
  · rw [ByteArray.size_append, ByteArray.size_append]
    have : (⟨#[32]⟩ : ByteArray).size = 1 := rfl
    omega
/-- The fields of a good line are good. -/
theorem fld_good {s : ByteArray} (h : spOk s) : ∀ x ∈ fldS s, x.data.toList ≠ [] ∧ (∀ b ∈ x.data.toList, Lib.isSp b = false ∧ (32 ≤ b.toNat ∧ b.toNat ≤ 126)) ∧ x.size ≤ 600 := fun x hx => by
  unfold fldS at hx
  obtain ⟨l, hl, rfl⟩ := List.mem_map.1 hx
  obtain ⟨a1, a2, a3⟩ := fields_mem (fun b => 32 ≤ b.toNat ∧ b.toNat ≤ 126) s.data.toList [] (fun c hm => by simp at hm) (okTo32_mem h.2.1) l hl
  refine ⟨by simpa using a1, by simpa using a2, ?_⟩
  have h6 := h.1
  rw [str_size] at h6
  have a3' : l.length ≤ 0 + s.data.toList.length := a3
  show l.toArray.size ≤ 600
  rw [List.size_toArray]
  omega
theorem fldS_map (s : ByteArray) : (fldS s).map (·.data.toList) = Lib.fields s.data.toList := by
  unfold fldS
  rw [List.map_map]
  conv => rhs; rw [← List.map_id (Lib.fields s.data.toList)]
  exact List.map_congr_left fun l _ => by simp
/-- The fields joined have the same fields. -/
theorem join_fields {s t : ByteArray} (h : spOk s) (ht : JoinTo (fldS s) (fldS s).length t) (h6 : t.size ≤ 600) : spOk t ∧ fldS t = fldS s := by
  have hg := fld_good h
  have hj : t.data.toList = joinL ((fldS s).map (·.data.toList)) := by rw [ht.1, List.take_length]
  have hf : Lib.fields t.data.toList = (fldS s).map (·.data.toList) := by
    unfold Lib.fields
    rw [hj]
    refine fields_joined _ (fun l hl => ?_)
    obtain ⟨x, hx, rfl⟩ := List.mem_map.1 hl
    obtain ⟨a1, a2, _⟩ := hg x hx
    exact ⟨a1, fun b hb => (a2 b hb).1⟩
  have he : fldS t = fldS s := by
    show (Lib.fields t.data.toList).map (fun l => (⟨l.toArray⟩ : ByteArray)) = fldS s
    rw [hf, List.map_map]
    conv => rhs; rw [← List.map_id (fldS s)]
    exact List.map_congr_left fun x _ => by cases x; simp
  refine ⟨⟨h6, okTo32_of (fun b hb => ?_), by rw [he]; exact h.2.2⟩, he⟩
  rw [hj] at hb
  unfold joinL at hb
  obtain ⟨l, hl, hb2⟩ := List.mem_flatMap.1 hb
  obtain ⟨x, hx, rfl⟩ := List.mem_map.1 hl
  rcases List.mem_append.1 hb2 with h1 | h1
  · exact ((hg x hx).2.1 b h1).2
  · have : b = 32 := by simpa using h1
    subst this
    decide
end Go.Proofs.YtbjaedmifacgaaaDoor

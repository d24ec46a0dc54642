/- Fields joined by spaces have the same fields: plain, over lists of bytes. -/
import Derived.Test.YtcagffcmnpakjaaDoorSplitSpec
namespace Go.Proofs.YtcagffcmnpakjaaDoor.Strs
open Go.ChangeShapes Go.WideShapes Go.ChangeAt Go.RowKit
set_option linter.unusedVariables false

theorem fieldsGo_word (rest : List UInt8) : ∀ (f cur : List UInt8), (∀ b ∈ f, Lib.isSp b = false) → cur ++ f ≠ [] → Lib.fieldsGo cur (f ++ 32 :: rest) = (cur ++ f) :: Lib.fieldsGo [] rest
  | [], cur, _, hne => by
    have hs : Lib.isSp 32 = true := by decide
    have h := Lib.fieldsGo_end cur 32 rest hs (by simpa using hne)
    simpa using h
  | b :: f, cur, hf, hne => by
    have hb : Lib.isSp b = false := hf b (by simp)
    rw [List.cons_append, Lib.fieldsGo_more _ _ _ hb]
    have h := fieldsGo_word rest f (cur ++ [b]) (fun x hx => hf x (by simp [hx])) (by simp)
    rw [h]; simp

/-- The fields, each with a space behind it. -/
def joinL (fs : List (List UInt8)) : List UInt8 := fs.flatMap fun f => f ++ [32]

theorem fields_join : ∀ (fs : List (List UInt8)), (∀ f ∈ fs, f ≠ [] ∧ ∀ b ∈ f, Lib.isSp b = false) → Lib.fieldsGo [] (joinL fs) = fs
  | [], _ => by simp [joinL, Lib.fieldsGo]
  | f :: fs, h => by
    have e : joinL (f :: fs) = f ++ 32 :: joinL fs := by simp [joinL]
    rw [e, fieldsGo_word _ f [] (h f (by simp)).2 (by simpa using (h f (by simp)).1), fields_join fs (fun g hg => h g (by simp [hg]))]
    simp

theorem fieldsGo_parts : ∀ (l cur : List UInt8), (∀ b ∈ cur, Lib.isSp b = false) → ∀ f ∈ Lib.fieldsGo cur l, f ≠ [] ∧ (∀ b ∈ f, Lib.isSp b = false ∧ (b ∈ cur ∨ b ∈ l)) ∧ f.length ≤ cur.length + l.length
  | [], cur, hc, f, hf => by
    cases cur with
    | nil => simp [Lib.fieldsGo] at hf
    | cons x r =>
      have : f = x :: r := by simpa [Lib.fieldsGo] using hf
      subst this
      exact ⟨by simp, fun b hb => ⟨hc b hb, .inl hb⟩, by simp⟩
  | b :: l, cur, hc, f, hf => by
    by_cases hb : Lib.isSp b = true
    · by_cases he : cur = []
      · subst he
        rw [Lib.fieldsGo_sp _ _ hb] at hf
        obtain ⟨h1, h2, h3⟩ := fieldsGo_parts l [] (by simp) f hf
        refine ⟨h1, fun x hx => ⟨(h2 x hx).1, .inr ?_⟩, by simp at h3 ⊢; omega⟩
        rcases (h2 x hx).2 with h | h
        · simp at h
        · simp [h]
      · rw [Lib.fieldsGo_end _ _ _ hb he] at hf
        rcases List.mem_cons.1 hf with rfl | hf
        · exact ⟨he, fun x hx => ⟨hc x hx, .inl hx⟩, by simp⟩
        · obtain ⟨h1, h2, h3⟩ := fieldsGo_parts l [] (by simp) f hf
          refine ⟨h1, fun x hx => ⟨(h2 x hx).1, .inr ?_⟩, by simp at h3 ⊢; omega⟩
          rcases (h2 x hx).2 with h | h
          · simp at h
          · simp [h]
    · have hb' : Lib.isSp b = false := by simpa using hb
      rw [Lib.fieldsGo_more _ _ _ hb'] at hf
      obtain ⟨h1, h2, h3⟩ := fieldsGo_parts l (cur ++ [b]) (fun x hx => by
        rcases List.mem_append.1 hx with h | h
        · exact hc x h
        · have : x = b := by simpa using h
          rw [this]; exact hb') f hf
      refine ⟨h1, fun x hx => ⟨(h2 x hx).1, ?_⟩, by simp at h3 ⊢; omega⟩
      rcases (h2 x hx).2 with h | h
      · rcases List.mem_append.1 h with h | h
        · exact .inl h
        · right
          have : x = b := by simpa using h
          simp [this]
      · exact .inr (by simp [h])

theorem fields_parts (l : List UInt8) : ∀ f ∈ Lib.fields l, f ≠ [] ∧ (∀ b ∈ f, Lib.isSp b = false ∧ b ∈ l) ∧ f.length ≤ l.length := by
  intro f hf
  obtain ⟨h1, h2, h3⟩ := fieldsGo_parts l [] (by simp) f hf
  refine ⟨h1, fun b hb => ⟨(h2 b hb).1, ?_⟩, by simpa using h3⟩
  rcases (h2 b hb).2 with h | h
  · simp at h
  · exact h

theorem fields_again (l : List UInt8) : Lib.fields (joinL (Lib.fields l)) = Lib.fields l :=
  fields_join _ fun f hf => ⟨(fields_parts l f hf).1, fun b hb => ((fields_parts l f hf).2.1 b hb).1⟩

theorem join_mem {l : List UInt8} {b : UInt8} (h : b ∈ joinL (Lib.fields l)) : b = 32 ∨ b ∈ l := by
  unfold joinL at h
  obtain ⟨f, hf, hb⟩ := List.mem_flatMap.1 h
  rcases List.mem_append.1 hb with h | h
  · exact .inr ((fields_parts l f hf).2.1 b h).2
  · left; simpa using h

theorem join_plain {s : ByteArray} (h : Plain s) : Plain ⟨(joinL (Lib.fields s.data.toList)).toArray⟩ := by
  intro i hi
  have hi' : i < (joinL (Lib.fields s.data.toList)).length := by
    have : i < (joinL (Lib.fields s.data.toList)).toArray.size := hi
    simpa using this
  have hm : (joinL (Lib.fields s.data.toList))[i] ∈ joinL (Lib.fields s.data.toList) := List.getElem_mem _
  have e : (⟨(joinL (Lib.fields s.data.toList)).toArray⟩ : ByteArray)[i] = (joinL (Lib.fields s.data.toList))[i] := by
    show (joinL (Lib.fields s.data.toList)).toArray[i] = _
    simp
  rw [e]
  rcases join_mem hm with h1 | h1
  · rw [h1]; decide
  · obtain ⟨j, hj, e2⟩ := List.getElem_of_mem h1
    have hj' : j < s.size := by simpa using hj
    have := h j hj'
    have e3 : s[j] = s.data.toList[j] := rfl
    rw [e3, e2] at this
    exact this

theorem cat_lists (a b : List UInt8) : (⟨a.toArray⟩ : ByteArray) ++ ⟨b.toArray⟩ = ⟨(a ++ b).toArray⟩ := by
  apply ByteArray.ext
  simp [ByteArray.data_append]

theorem join_snoc (fs : List (List UInt8)) (k : Nat) (h : k < fs.length) : joinL (fs.take (k + 1)) = joinL (fs.take k) ++ fs[k] ++ [32] := by
  unfold joinL
  rw [List.take_succ_eq_append_getElem h, List.flatMap_append]
  simp [List.flatMap_cons]
end Go.Proofs.YtcagffcmnpakjaaDoor.Strs

/- What ReadCreases returns, as a text. -/
import Derived.Test.YtigakakgikcghaaCreaseDef
namespace Go.Proofs.Ytigakakgikcghaa.Crease
open Go.ChangeShapes Go.WideShapes Go.ChangeAt Go.RowKit
open Go.Proofs.Ytigakakgikcghaa.Strip Go.Proofs.Ytigakakgikcghaa.Corner Go.Proofs.Ytigakakgikcghaa.Strs Go.Proofs.Ytigakakgikcghaa.Card
set_option linter.unusedVariables false

def readV (t : ByteArray) (d f : Int) : ByteArray := ⟨(readL t.data.toList d f).toArray⟩
theorem size_list (t : ByteArray) : t.data.toList.length = t.size := by simp
theorem readV_no {t : ByteArray} {d f : Int} (h : ¬ (frameB d f = true ∧ (t.size : Int) = d + f + 1)) : readV t d f = ⟨#[]⟩ := by
  unfold readV
  rw [read_no (by rw [size_list]; exact h)]
theorem frame_in {d f : Int} (h : frameB d f = true) : 1 ≤ d ∧ d ≤ 8 ∧ 1 ≤ f ∧ f ≤ 8 := by
  unfold frameB at h
  simpa using h
theorem one_good {d f : Int} {s : ByteArray} (hf : frameB d f = true) : cardB d f [s] = goodB d f s := by
  unfold cardB
  rw [hf]
  simp
theorem good_eq (d f : Int) (s : List UInt8) : goodL d f s = goodB d f ⟨s.toArray⟩ := rfl
/-- The program's answer: the strip, if its own text is the text that came in. -/
theorem readV_impl {t : ByteArray} {d f : Int} (hf : frameB d f = true) (n : Nat) (hn : t.size = n + 1) (hs : (t.size : Int) = d + f + 1) :
    readV t d f = if textV (stripN d f [⟨(wI t.data.toList n).toArray⟩] 0) = t then ⟨(wI t.data.toList n).toArray⟩ else ⟨#[]⟩ := by
  have hfr := frame_in hf
  unfold readV
  rw [read_yes ⟨hf, by rw [size_list]; exact hs⟩, size_list, hn, Nat.add_sub_cancel]
  have hw := wI_length t.data.toList n
  generalize wI t.data.toList n = s at *
  rw [good_eq]
  cases hg : goodB d f ⟨s.toArray⟩ with
  | false =>
    rw [if_neg (by rintro ⟨h, _⟩; cases h), if_neg]
    rw [stripN_no (by rw [one_good hf, hg]; rintro ⟨h, _⟩; cases h)]
    intro e
    have e2 : (textV ⟨#[]⟩).size = t.size := by rw [e]
    have e3 : (textV ⟨#[]⟩).size = 0 := rfl
    omega
  | true =>
    have e1 : stripN d f [⟨s.toArray⟩] 0 = ⟨s.toArray⟩ := stripN_yes (l := [⟨s.toArray⟩]) (by rw [one_good hf, hg]) 0 (by simp)
    have e2 : textV ⟨s.toArray⟩ = ⟨(txt s).toArray⟩ := by
      unfold textV
      rw [if_neg]
      show ¬ s.toArray.size = 0
      rw [List.size_toArray]
      omega
    rw [e1, e2]
    by_cases h : txt s = t.data.toList
    · rw [if_pos ⟨rfl, h⟩, if_pos]
      apply ByteArray.ext
      show (txt s).toArray = t.data
      rw [h]
    · rw [if_neg (fun a => h a.2), if_neg]
      intro e
      apply h
      have : (⟨(txt s).toArray⟩ : ByteArray).data.toList = t.data.toList := by rw [e]
      simpa using this
/-- The model's answer. -/
theorem readV_spec {t : ByteArray} {d f : Int} (hf : frameB d f = true) (n : Nat) (hn : t.size = n + 1) (hs : (t.size : Int) = d + f + 1) :
    readV t d f = if numV 100 (wS (firstV t.data.toList) t.data.toList n) = d ∧ numV 102 (wS (firstV t.data.toList) t.data.toList n) = f ∧ (⟨(txt (wS (firstV t.data.toList) t.data.toList n)).toArray⟩ : ByteArray) = t then ⟨(wS (firstV t.data.toList) t.data.toList n).toArray⟩ else ⟨#[]⟩ := by
  unfold readV
  rw [read_spec ⟨hf, by rw [size_list]; exact hs⟩, size_list, hn, Nat.add_sub_cancel]
  generalize wS (firstV t.data.toList) t.data.toList n = s at *
  have hg : goodL d f s = true ↔ numV 100 s = d ∧ numV 102 s = f := by
    unfold goodL
    rw [decide_eq_true_iff]
    exact Iff.rfl
  have he : (⟨(txt s).toArray⟩ : ByteArray) = t ↔ txt s = t.data.toList := by
    constructor
    · intro e
      have : (⟨(txt s).toArray⟩ : ByteArray).data.toList = t.data.toList := by rw [e]
      simpa using this
    · intro e
      apply ByteArray.ext
      show (txt s).toArray = t.data
      rw [e]
  by_cases h : goodL d f s = true ∧ txt s = t.data.toList
  · rw [if_pos h, if_pos ⟨(hg.1 h.1).1, (hg.1 h.1).2, he.2 h.2⟩]
  · rw [if_neg h, if_neg (fun a => h ⟨hg.2 ⟨a.1, a.2.1⟩, he.1 a.2.2⟩)]

/-- The letters that are read, one more each time, as strings. -/
theorem wI_next (t : List UInt8) (k : Nat) : (⟨(wI t k).toArray⟩ : ByteArray) ++ ⟨#[letter (preF t (k + 1))]⟩ = ⟨(wI t (k + 1)).toArray⟩ := by
  rw [wI_succ, ← catL]
theorem wI_size (t : List UInt8) (k : Nat) : (⟨(wI t k).toArray⟩ : ByteArray).size = k := by
  show (wI t k).toArray.size = k
  rw [List.size_toArray, wI_length]
theorem wS_next (b : Bool) (t : List UInt8) (k : Nat) : (⟨(wS b t k).toArray⟩ : ByteArray) ++ ⟨#[letter (bitF b t k)]⟩ = ⟨(wS b t (k + 1)).toArray⟩ := by
  rw [wS_succ, ← catL]
theorem wS_size (b : Bool) (t : List UInt8) (k : Nat) : (⟨(wS b t k).toArray⟩ : ByteArray).size = k := by
  show (wS b t k).toArray.size = k
  rw [List.size_toArray, wS_length]
theorem one_size (x : UInt8) : (⟨#[x]⟩ : ByteArray).size = 1 := rfl
theorem pre_next (t : ByteArray) (k : Nat) (h : k < t.size) : preF t.data.toList (k + 1) = flipB (preF t.data.toList k) t[k] := by
  rw [preF_succ _ _ (by rw [size_list]; exact h)]
  rfl
theorem bit_next (b : Bool) (t : ByteArray) (k : Nat) (h : k + 1 < t.size) : bitF b t.data.toList (k + 1) = flipB (bitF b t.data.toList k) t[k + 1] := by
  rw [bitF_succ _ _ _ (by rw [size_list]; exact h)]
  rfl
end Go.Proofs.Ytigakakgikcghaa.Crease

/- What the property of chapter 15 asks of each strip of a card. -/
import Derived.Test.YtigakakgikcghaaReadDef
namespace Go.Proofs.Ytigakakgikcghaa.Crease
open Go.Proofs.Ytigakakgikcghaa.Strip Go.Proofs.Ytigakakgikcghaa.Corner Go.Proofs.Ytigakakgikcghaa.Strs Go.Proofs.Ytigakakgikcghaa.Card
set_option linter.unusedVariables false

/-- Of a strip s of the frame, with n steps and the text T: how many signs of each kind; it is read again. -/
structure Told (d f : Int) (s T : ByteArray) (n A B : Nat) : Prop where
  size : s.size = n
  n0 : 2 ≤ n
  n1 : n ≤ 16
  text : textV s = T
  long : T.size = n + 1
  peaks : peaksV s.data.toList = (A : Int)
  folds : foldsV s.data.toList = ((A + B : Nat) : Int)
  more : B = A + 1
  few : A ≤ 17
  back : readV T d f = s
  sign : ∀ u, u ≤ n → T.extract u (u + 1) = ⟨#[sg (crV s.data.toList (u : Nat))]⟩
theorem extract_one (l : List UInt8) (u : Nat) (x : UInt8) (h : l[u]? = some x) : (⟨l.toArray⟩ : ByteArray).extract u (u + 1) = ⟨#[x]⟩ := by
  have hu : u < l.length := by
    rw [List.getElem?_eq_some_iff] at h
    exact h.1
  apply ByteArray.ext
  apply Array.ext'
  simp only [ByteArray.data_extract, Array.toList_extract]
  have e : l.drop u = x :: l.drop (u + 1) := by
    rw [List.drop_eq_getElem_cons hu]
    rw [List.getElem?_eq_getElem hu] at h
    rw [Option.some.inj h]
  simp [List.extract, e]
theorem told_of {d f : Int} {l : List ByteArray} (h : cardB d f l = true) (s : ByteArray) (hs : s ∈ l) :
    Told d f s ⟨(txt s.data.toList).toArray⟩ s.size (cnt 109 (txt s.data.toList)) (cnt 118 (txt s.data.toList)) := by
  have hso := strip_of h s hs
  have hst := hso.strip
  obtain ⟨c1, c2, c3⟩ := count_all s.data.toList hst
  have hsl : s.data.toList.length = s.size := by simp
  have hl := cnt_txt 109 s
  refine ⟨rfl, hso.low, hso.high, ?_, ?_, ?_, ?_, c3, ?_, ?_, ?_⟩
  · unfold textV; rw [if_neg (by have := hso.low; omega)]
  · show (txt s.data.toList).toArray.size = _
    rw [List.size_toArray, txt_length, hsl]
  · unfold peaksV; rw [if_pos hst, c1]
  · rw [← c2]; omega
  · have := hso.high; omega
  · unfold readV
    have e : (⟨(txt s.data.toList).toArray⟩ : ByteArray).data.toList = txt s.data.toList := rfl
    rw [e, read_txt s.data.toList d f hst hso.down hso.forward]
  · intro u hu
    exact extract_one _ u _ (txt_at s.data.toList u (by omega))
theorem tot_more {d f : Int} {l : List ByteArray} (h : cardB d f l = true) : ∀ k, k ≤ l.length → tot 118 l k = tot 109 l k + k
  | 0, _ => rfl
  | k + 1, hk => by
    rw [tot_succ 118 l k (by omega), tot_succ 109 l k (by omega), tot_more h k (by omega), (told_of h l[k] (List.getElem_mem _)).more]
    omega
theorem sign_same (x : Int) (h : x = 0 ∨ x = 1 ∨ x = 2) : (⟨#[46, 109, 118]⟩ : ByteArray).extract x.toNat (x.toNat + 1) = ⟨#[sg x]⟩ := sign_cut x h
theorem dots : readV ⟨#[46, 46]⟩ 1 1 = ⟨#[]⟩ := readV_no (by rintro ⟨_, h⟩; exact absurd h (by decide))
theorem totV_yes {x : UInt8} {d f : Int} {l : List ByteArray} (h : cardB d f l = true) : totV x d f l = (tot x l l.length : Nat) := by unfold totV; rw [if_pos h]
end Go.Proofs.Ytigakakgikcghaa.Crease

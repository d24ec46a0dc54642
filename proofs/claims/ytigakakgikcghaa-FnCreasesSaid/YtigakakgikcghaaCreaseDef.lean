/- What the functions of chapter 15 return of a card. -/
import Derived.Test.YtigakakgikcghaaCreaseMath
import Derived.Test.YtigakakgikcghaaCardOk
namespace Go.Proofs.Ytigakakgikcghaa.Crease
open Go.ChangeShapes Go.WideShapes Go.ChangeAt Go.RowKit
open Go.Proofs.Ytigakakgikcghaa.Strip Go.Proofs.Ytigakakgikcghaa.Corner Go.Proofs.Ytigakakgikcghaa.Strs Go.Proofs.Ytigakakgikcghaa.Card
set_option linter.unusedVariables false

/-- The strip k of a card; the empty text where the card is no card or there is no such strip. -/
def stripN (d f : Int) (l : List ByteArray) (k : Int) : ByteArray := if cardB d f l = true ∧ 0 ≤ k ∧ k < (l.length : Int) then l.getD k.toNat ⟨#[]⟩ else ⟨#[]⟩
theorem stripN_no {d f : Int} {l : List ByteArray} {k : Int} (h : ¬ (cardB d f l = true ∧ 0 ≤ k ∧ k < (l.length : Int))) : stripN d f l k = ⟨#[]⟩ := by unfold stripN; rw [if_neg h]
theorem stripN_yes {d f : Int} {l : List ByteArray} (h : cardB d f l = true) (j : Nat) (hj : j < l.length) : stripN d f l (j : Nat) = l[j] := by
  unfold stripN
  rw [if_pos ⟨h, by omega, by omega⟩]
  simp [List.getD, hj]
theorem stripN_size (d f : Int) (l : List ByteArray) (k : Int) (h : ∀ s ∈ l, s.size ≤ 1048576) : (stripN d f l k).size ≤ 1048576 := by
  by_cases hc : cardB d f l = true ∧ 0 ≤ k ∧ k < (l.length : Int)
  · obtain ⟨h1, h2, h3⟩ := hc
    obtain ⟨j, rfl⟩ := Int.eq_ofNat_of_zero_le h2
    rw [stripN_yes h1 j (by omega)]
    exact h _ (List.getElem_mem _)
  · rw [stripN_no hc]; decide

/-- The signs of a strip; none where there is no strip. -/
def textV (s : ByteArray) : ByteArray := if s.size = 0 then ⟨#[]⟩ else ⟨(txt s.data.toList).toArray⟩
theorem list_beq (a b : ByteArray) : (a.toList == b.toList) = decide (a = b) := by
  rw [Bool.eq_iff_iff]
  simp only [beq_iff_eq, decide_eq_true_eq]
  constructor
  · intro h
    rw [Go.ByteArray.toList_eq, Go.ByteArray.toList_eq] at h
    exact ByteArray.ext (Array.ext' h)
  · rintro rfl; rfl
theorem empty_eq (s : ByteArray) : s.toList.isEmpty = decide (s.size = 0) := by
  rw [Go.ByteArray.toList_eq, Bool.eq_iff_iff, List.isEmpty_iff, decide_eq_true_iff, ← List.length_eq_zero_iff]
  simp

/-- A strip of a card. -/
structure StripOf (d f : Int) (s : ByteArray) : Prop where
  strip : stripB s.data.toList = true
  down : (cnt 100 s.data.toList : Int) = d
  forward : (cnt 102 s.data.toList : Int) = f
  size : (s.size : Int) = d + f
  low : 2 ≤ s.size
  high : s.size ≤ 16
theorem strip_of {d f : Int} {l : List ByteArray} (h : cardB d f l = true) (s : ByteArray) (hs : s ∈ l) : StripOf d f s := by
  obtain ⟨hf, _, _, hg⟩ := cardB_iff.1 h
  have hgd := hg s hs
  unfold goodB numV at hgd
  unfold frameB at hf
  simp only [decide_eq_true_eq] at hgd hf
  have hst : stripB s.data.toList = true := by
    cases hb : stripB s.data.toList with
    | true => rfl
    | false =>
      have h1 := hgd.1
      rw [hb] at h1
      simp at h1
      omega
  rw [if_pos hst, if_pos hst] at hgd
  have hz := strip_size hst
  have hc := cnt_sum _ (stripB_ok hst)
  have hsl : s.data.toList.length = s.size := by simp
  exact ⟨hst, hgd.1, hgd.2, by omega, by omega, by omega⟩
theorem frame_of {d f : Int} {l : List ByteArray} (h : cardB d f l = true) : 1 ≤ d ∧ d ≤ 8 ∧ 1 ≤ f ∧ f ≤ 8 ∧ 1 ≤ l.length ∧ l.length ≤ 10 := by
  obtain ⟨hf, h1, h2, _⟩ := cardB_iff.1 h
  unfold frameB at hf
  simp only [decide_eq_true_eq] at hf
  omega

def wf (a : Int) : Prop := (Lit.int .i64 a).wf = true
theorem wf_in {a : Int} (h : wf a) : -9223372036854775808 ≤ a ∧ a ≤ 9223372036854775807 := by
  unfold wf at h
  simp [Lit.wf, IntKind.min, IntKind.max, IntKind.signed, IntKind.bits] at h
  omega

/-- Two neighbors are there and equal. -/
def uncB (d f : Int) (l : List ByteArray) (k : Int) : Bool := decide ((stripN d f l k).size ≠ 0 ∧ stripN d f l k = stripN d f l (k + 1))
theorem uncB_no {d f : Int} {l : List ByteArray} {k : Int} (h : ¬ (cardB d f l = true ∧ 0 ≤ k ∧ k < (l.length : Int) - 1)) : uncB d f l k = false := by
  unfold uncB
  rw [decide_eq_false_iff_not]
  rintro ⟨h1, h2⟩
  by_cases hc : cardB d f l = true ∧ 0 ≤ k ∧ k < (l.length : Int)
  · rw [h2, stripN_no (by rintro ⟨_, _, a⟩; exact h ⟨hc.1, hc.2.1, by omega⟩)] at h1
    exact h1 rfl
  · rw [stripN_no hc] at h1
    exact h1 rfl
theorem uncB_yes {d f : Int} {l : List ByteArray} (h : cardB d f l = true) (j : Nat) (hj : j + 1 < l.length) : uncB d f l (j : Nat) = (l[j].toList == l[j + 1].toList) := by
  unfold uncB
  rw [stripN_yes h j (by omega), show ((j : Nat) : Int) + 1 = ((j + 1 : Nat) : Int) from by omega, stripN_yes h (j + 1) hj, list_beq]
  have := (strip_of h l[j] (List.getElem_mem _)).low
  rw [Bool.eq_iff_iff]
  simp only [decide_eq_true_eq]
  constructor
  · exact fun a => a.2
  · exact fun a => ⟨by omega, a⟩

/-- How often a sign stands in the texts of the first k strips; of all strips. -/
def tot (x : UInt8) (l : List ByteArray) : Nat → Nat
  | 0 => 0
  | k + 1 => tot x l k + cnt x (txt (l.getD k ⟨#[]⟩).data.toList)
def totV (x : UInt8) (d f : Int) (l : List ByteArray) : Int := if cardB d f l = true then (tot x l l.length : Int) else 0
theorem tot_succ (x : UInt8) (l : List ByteArray) (k : Nat) (h : k < l.length) : tot x l (k + 1) = tot x l k + cnt x (txt l[k].data.toList) := by
  show tot x l k + cnt x (txt (l.getD k ⟨#[]⟩).data.toList) = _
  simp [List.getD, h]
theorem cnt_txt (x : UInt8) (s : ByteArray) : cnt x (txt s.data.toList) ≤ s.size + 1 := by
  have := cnt_le x (txt s.data.toList)
  rw [txt_length] at this
  simpa using this
theorem tot_in {d f : Int} {l : List ByteArray} (h : cardB d f l = true) (x : UInt8) : ∀ k, k ≤ l.length → tot x l k ≤ 17 * k
  | 0, _ => by simp [tot]
  | k + 1, hk => by
    rw [tot_succ x l k (by omega)]
    have h1 := tot_in h x k (by omega)
    have h2 := cnt_txt x l[k]
    have h3 := (strip_of h l[k] (List.getElem_mem _)).high
    omega
end Go.Proofs.Ytigakakgikcghaa.Crease

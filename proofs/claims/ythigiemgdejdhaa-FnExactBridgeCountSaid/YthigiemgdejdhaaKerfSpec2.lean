/- What the model of chapter 7 returns: l07Heights, AreaBetween. -/
import Derived.Test.YthigiemgdejdhaaKerfSpec
namespace Go.Proofs.Ythigiemgdejdhaa.Kerf
open Go.ChangeShapes Go.WideShapes Go.ChangeAt Go.RowKit
open Go.Proofs.Ythigiemgdejdhaa.Strip Go.Proofs.Ythigiemgdejdhaa.Ints Go.Proofs.Ythigiemgdejdhaa.Corner
set_option linter.unusedVariables false

/-- The height behind k steps. -/
def uP (l : List UInt8) (k : Nat) : Int := (cnt 100 l : Int) - ((k : Int) - (cnt 102 (l.take k) : Int))
def hP (l : List UInt8) (k : Nat) : List Int := hts (cnt 100 l) (l.take k)
theorem uP_zero (l : List UInt8) : uP l 0 = cnt 100 l := by simp [uP, cnt]
theorem hP_zero (l : List UInt8) : hP l 0 = [] := rfl
theorem hP_all (l : List UInt8) (k : Nat) (h : l.length ≤ k) : hP l k = hts (cnt 100 l) l := by unfold hP; rw [List.take_of_length_le h]
theorem hP_length (l : List UInt8) (k : Nat) : (hP l k).length ≤ k := by
  unfold hP
  rw [hts_length]
  have h := cnt_le 102 (l.take k)
  rw [List.length_take] at h
  omega
theorem uP_bound (l : List UInt8) (k : Nat) (h : k ≤ l.length) : -(k : Int) ≤ uP l k ∧ uP l k ≤ l.length := by
  unfold uP
  have h1 := cnt_le 102 (l.take k)
  rw [List.length_take] at h1
  have h2 := cnt_le 100 l
  omega
theorem hP_yes (s : ByteArray) (k : Nat) (h : k < s.size) (hx : s[k] = 102) : hP s.data.toList (k + 1) = hP s.data.toList k ++ [uP s.data.toList k] ∧ uP s.data.toList (k + 1) = uP s.data.toList k := by
  have hl : (s.data.toList.take k).length = k := by rw [List.length_take]; simp; omega
  unfold hP uP
  rw [take_snoc s k h, hts_snoc, cnt_snoc, if_pos hx, if_pos hx, hl]
  exact ⟨rfl, by omega⟩
theorem hP_no (s : ByteArray) (k : Nat) (h : k < s.size) (hx : s[k] ≠ 102) : hP s.data.toList (k + 1) = hP s.data.toList k ∧ uP s.data.toList (k + 1) = uP s.data.toList k - 1 := by
  unfold hP uP
  rw [take_snoc s k h, hts_snoc, cnt_snoc, if_neg hx, if_neg hx, List.append_nil]
  exact ⟨rfl, by omega⟩

/-- The heights lie in a small range. -/
theorem hts_bound (l : List UInt8) : ∀ (u : Int) (x : Int), x ∈ hts u l → u - l.length ≤ x ∧ x ≤ u := by
  induction l with
  | nil => intro u x h; simp [hts] at h
  | cons b l ih =>
    intro u x h
    have h2 : x ∈ (if b = 102 then u :: hts u l else hts (u - 1) l) := h
    rw [List.length_cons]
    by_cases e : b = 102
    · rw [if_pos e] at h2
      rcases List.mem_cons.1 h2 with rfl | h3
      · omega
      · have := ih u x h3; omega
    · rw [if_neg e] at h2
      have := ih (u - 1) x h2; omega

/-- The area over the first k steps forward. -/
def areaP (a b : List Int) (k : Nat) : Int := sumN k fun i => dst (a.getD i 0) (b.getD i 0)
theorem areaP_zero (a b : List Int) : areaP a b 0 = 0 := rfl
theorem areaP_succ (a b : List Int) (k : Nat) (h : k < a.length) (h' : k < b.length) : areaP a b (k + 1) = areaP a b k + dst a[k] b[k] := by
  have e1 : a.getD k 0 = a[k] := by simp [List.getD, h]
  have e2 : b.getD k 0 = b[k] := by simp [List.getD, h']
  show sumN k _ + dst (a.getD k 0) (b.getD k 0) = _
  rw [e1, e2]; rfl
theorem areaP_nonneg (a b : List Int) (k : Nat) : 0 ≤ areaP a b k := sumN_nonneg fun _ _ => dst_nonneg _ _
theorem dst_le {x y : Int} (h1 : -16 ≤ x) (h2 : x ≤ 16) (h3 : -16 ≤ y) (h4 : y ≤ 16) : dst x y ≤ 32 := by unfold dst; split <;> omega
theorem getD_in {l : List Int} (h : ∀ x ∈ l, -16 ≤ x ∧ x ≤ 16) (i : Nat) : -16 ≤ l.getD i 0 ∧ l.getD i 0 ≤ 16 := by
  by_cases hi : i < l.length
  · have : l.getD i 0 = l[i] := by simp [List.getD, hi]
    rw [this]; exact h _ (List.getElem_mem hi)
  · have : l.getD i 0 = 0 := by simp [List.getD, hi]
    rw [this]; omega
theorem areaP_le (a b : List Int) (ha : ∀ x ∈ a, -16 ≤ x ∧ x ≤ 16) (hb : ∀ x ∈ b, -16 ≤ x ∧ x ≤ 16) (k : Nat) : areaP a b k ≤ 32 * k := by
  induction k with
  | zero => exact Int.le_refl _
  | succ k ih =>
    show sumN k _ + dst (a.getD k 0) (b.getD k 0) ≤ _
    have h1 := getD_in ha k
    have h2 := getD_in hb k
    have h3 := dst_le h1.1 h1.2 h2.1 h2.2
    have h4 : areaP a b k = sumN k fun i => dst (a.getD i 0) (b.getD i 0) := rfl
    omega
theorem max_dst (x y : Int) : (if x - y < y - x then y - x else x - y) = dst x y := by unfold dst; split <;> split <;> omega
theorem areaS_P (a b : List UInt8) : areaP (hts (cnt 100 a) a) (hts (cnt 100 b) b) (cnt 102 a) = areaS a b := rfl
theorem strip_in {l : List UInt8} (h : stripB l = true) : ∀ x ∈ hts (cnt 100 l) l, -16 ≤ x ∧ x ≤ 16 := by
  intro x hx
  have h1 := hts_bound l _ x hx
  have h2 := strip_size h
  have h3 := cnt_le 100 l
  omega

end Go.Proofs.Ythigiemgdejdhaa.Kerf

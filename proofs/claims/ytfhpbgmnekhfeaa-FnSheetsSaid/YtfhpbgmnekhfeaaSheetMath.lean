/- Chapter 19, pure: blanks on a sheet, sheets for copies; strips in the first band with room, the bands' loads. -/
import Derived.Test.YtfhpbgmnekhfeaaOrderMath
namespace Go.Proofs.Ytfhpbgmnekhfeaa.Sheet
open Go.Proofs.Ytfhpbgmnekhfeaa.Order
set_option linter.unusedVariables false

/-! ### sheets -/
theorem ceil_in {n b : Int} (h0 : 0 ≤ n) (hb : 1 ≤ b) : n ≤ (n + b - 1) / b * b ∧ ((n + b - 1) / b - 1) * b < max 1 n := by
  have h1 := Int.emod_add_mul_ediv (n + b - 1) b
  have h2 := Int.emod_nonneg (n + b - 1) (show b ≠ 0 by omega)
  have h3 := Int.emod_lt_of_pos (n + b - 1) (show 0 < b by omega)
  rw [Int.sub_mul, Int.mul_comm ((n + b - 1) / b) b]
  generalize b * ((n + b - 1) / b) = q at *
  omega
theorem fit_in {W H w h : Int} (hW : 0 ≤ W) (hH : 0 ≤ H) (hw : 1 ≤ w) (hh : 1 ≤ h) : W / w * (H / h) ≤ W * H / (w * h) := by
  have hp : 0 < w * h := Int.mul_pos (by omega) (by omega)
  refine (Int.le_ediv_iff_mul_le hp).2 ?_
  have e : W / w * (H / h) * (w * h) = (W / w * w) * (H / h * h) := by
    rw [Int.mul_assoc, Int.mul_assoc]; congr 1
    rw [← Int.mul_assoc, ← Int.mul_assoc, Int.mul_comm (H / h) w]
  rw [e]
  exact Int.mul_le_mul (Int.ediv_mul_le W (by omega)) (Int.ediv_mul_le H (by omega)) (Int.mul_nonneg (Int.ediv_nonneg hH (by omega)) (by omega)) hW
theorem quot_in {W w : Int} (h0 : 0 ≤ W) (h1 : W ≤ 200) (hw : 1 ≤ w) : 0 ≤ W / w ∧ W / w ≤ 200 := by
  have h2 := Int.ediv_mul_le W (show w ≠ 0 by omega)
  have h3 : 0 ≤ W / w := Int.ediv_nonneg h0 (by omega)
  refine ⟨h3, ?_⟩
  have h4 : W / w * 1 ≤ W / w * w := Int.mul_le_mul_of_nonneg_left hw h3
  omega
theorem quots_in {x y : Int} (x0 : 0 ≤ x) (x1 : x ≤ 200) (y0 : 0 ≤ y) (y1 : y ≤ 200) : 0 ≤ x * y ∧ x * y ≤ 40000 := by
  refine ⟨Int.mul_nonneg x0 y0, ?_⟩
  have := Int.mul_le_mul x1 y1 y0 (show (0 : Int) ≤ 200 by omega)
  omega
theorem quot_pos {W w : Int} (hw : 1 ≤ w) (h : w ≤ W) : 1 ≤ W / w := (Int.le_ediv_iff_mul_le (by omega)).2 (by omega)

/-! ### bands -/
/-- The first band with room for x. -/
def firstB (W x : Int) : List Int → Nat
  | [] => 0
  | b :: r => if b + x ≤ W then 0 else firstB W x r + 1
theorem first_le (W x : Int) : ∀ L, firstB W x L ≤ L.length
  | [] => Nat.le_refl _
  | b :: r => by
    unfold firstB
    split
    · exact Nat.zero_le _
    · have := first_le W x r
      simp only [List.length_cons]; omega
theorem first_full {W x : Int} : ∀ (L : List Int) (j : Nat) (h : j < L.length), j < firstB W x L → W < L[j] + x
  | [], j, h, _ => by simp at h
  | b :: r, j, h, hj => by
    unfold firstB at hj
    split at hj
    · omega
    · cases j with
      | zero => simp only [List.getElem_cons_zero]; omega
      | succ j =>
        simp only [List.getElem_cons_succ]
        exact first_full r j (by simpa using h) (by omega)
theorem first_fits {W x : Int} : ∀ (L : List Int) (h : firstB W x L < L.length), L[firstB W x L] + x ≤ W
  | [], h => by simp at h
  | b :: r, h => by
    by_cases hb : b + x ≤ W
    · have e : firstB W x (b :: r) = 0 := by unfold firstB; rw [if_pos hb]
      simp only [e, List.getElem_cons_zero]; exact hb
    · have e : firstB W x (b :: r) = firstB W x r + 1 := by
        conv => lhs; unfold firstB
        rw [if_neg hb]
      simp only [e, List.getElem_cons_succ]
      exact first_fits r (by rw [e] at h; simpa using h)
/-- What is found first is the first. -/
theorem first_is {W x : Int} {L : List Int} {j : Nat} (hj : j ≤ L.length) (hb : ∀ i (h : i < L.length), i < j → W < L[i] + x) (he : ∀ h : j < L.length, L[j] + x ≤ W) : firstB W x L = j := by
  rcases Nat.lt_trichotomy (firstB W x L) j with h | h | h
  · have h1 := first_fits (W := W) (x := x) L (by omega)
    have h2 := hb (firstB W x L) (by omega) h
    omega
  · exact h
  · have h0 := first_le W x L
    have h1 := first_full L j (by omega) h
    have h2 := he (by omega)
    omega

/-- The loads behind one more strip. -/
def stepB (W x : Int) (L : List Int) : List Int := if h : firstB W x L < L.length then L.set (firstB W x L) (L[firstB W x L] + x) else L ++ [x]
theorem step_in {W x : Int} {L : List Int} (h : firstB W x L < L.length) : stepB W x L = L.set (firstB W x L) (L[firstB W x L] + x) := by unfold stepB; rw [dif_pos h]
theorem step_new {W x : Int} {L : List Int} (h : ¬ firstB W x L < L.length) : stepB W x L = L ++ [x] := by unfold stepB; rw [dif_neg h]

/-- The numbers of the bands and the loads. -/
def ffS (W : Int) (l : List Int) : List Int × List Int := l.foldl (fun s x => (s.1 ++ [((firstB W x s.2 : Nat) : Int)], stepB W x s.2)) ([], [])
def nums (W : Int) (l : List Int) : List Int := (ffS W l).1
def loads (W : Int) (l : List Int) : List Int := (ffS W l).2
theorem nums_snoc (W x : Int) (l : List Int) : nums W (l ++ [x]) = nums W l ++ [((firstB W x (loads W l) : Nat) : Int)] := by unfold nums loads ffS; rw [List.foldl_append]; rfl
theorem loads_snoc (W x : Int) (l : List Int) : loads W (l ++ [x]) = stepB W x (loads W l) := by unfold loads ffS; rw [List.foldl_append]; rfl
theorem nums_take (W : Int) (l : List Int) (k : Nat) (h : k < l.length) : nums W (l.take (k + 1)) = nums W (l.take k) ++ [((firstB W l[k] (loads W (l.take k)) : Nat) : Int)] := by
  rw [List.take_succ_eq_append_getElem h, nums_snoc]
theorem loads_take (W : Int) (l : List Int) (k : Nat) (h : k < l.length) : loads W (l.take (k + 1)) = stepB W l[k] (loads W (l.take k)) := by
  rw [List.take_succ_eq_append_getElem h, loads_snoc]
theorem nums_length (W : Int) (l : List Int) : ∀ k, k ≤ l.length → (nums W (l.take k)).length = k
  | 0, _ => rfl
  | k + 1, h => by rw [nums_take W l k (by omega), List.length_append, nums_length W l k (by omega)]; rfl

/-- What FirstFit asks of its arguments, and what it returns. -/
def rowsB (W : Int) (l : List Int) : Bool := decide ((1 ≤ W ∧ W ≤ 1000) ∧ l.length ≤ 30 ∧ ∀ x ∈ l, 1 ≤ x ∧ x ≤ W)
def ffV (W : Int) (l : List Int) : List Int := if rowsB W l = true then nums W l else []
theorem rowsB_iff {W : Int} {l : List Int} : rowsB W l = true ↔ ((1 ≤ W ∧ W ≤ 1000) ∧ l.length ≤ 30 ∧ ∀ x ∈ l, 1 ≤ x ∧ x ≤ W) := by unfold rowsB; simp

/-- What the loads are: each at most the width, no two fit into one, all strips in them. -/
structure Loads (W : Int) (k : Nat) (s : Int) (L : List Int) : Prop where
  few : L.length ≤ k
  low : ∀ x ∈ L, 1 ≤ x ∧ x ≤ W
  two : ∀ i j (hi : i < L.length) (hj : j < L.length), i < j → W < L[i] + L[j]
  all : sumL L = s
theorem sumL_set2 (L : List Int) : ∀ (j : Nat) (h : j < L.length) (x : Int), sumL (L.set j (L[j] + x)) = sumL L + x := by
  induction L with
  | nil => intro j h x; simp at h
  | cons b r ih =>
    intro j h x
    cases j with
    | zero => simp only [List.getElem_cons_zero, List.set_cons_zero]; show (b + x) + sumL r = (b + sumL r) + x; omega
    | succ j =>
      simp only [List.getElem_cons_succ, List.set_cons_succ]
      show b + sumL (r.set j _) = (b + sumL r) + x
      have hr : j < r.length := by simp only [List.length_cons] at h; omega
      have e := ih j hr x
      rw [e]; omega
theorem Loads.nil (W : Int) : Loads W 0 0 [] := ⟨Nat.le_refl _, by simp, by intro i j hi; simp at hi, rfl⟩
theorem Loads.step {W x s : Int} {k : Nat} {L : List Int} (h : Loads W k s L) (h1 : 1 ≤ x) (h2 : x ≤ W) : Loads W (k + 1) (s + x) (stepB W x L) := by
  by_cases hf : firstB W x L < L.length
  · rw [step_in hf]
    have hfit := first_fits L hf
    have hl := h.low _ (List.getElem_mem hf)
    refine ⟨by rw [List.length_set]; have := h.few; omega, fun y hy => ?_, fun i j hi hj hij => ?_, by rw [sumL_set2, h.all]⟩
    · rcases List.mem_or_eq_of_mem_set hy with e | e
      · exact h.low y e
      · omega
    · rw [List.length_set] at hi hj
      have h3 := h.two i j hi hj hij
      rw [List.getElem_set, List.getElem_set]
      split <;> split
      · omega
      · rename_i e _; have : L[firstB W x L] = L[i] := by simp only [e]
        omega
      · rename_i e; have : L[firstB W x L] = L[j] := by simp only [e]
        omega
      · exact h3
  · have he : firstB W x L = L.length := by have := first_le W x L; omega
    rw [step_new hf]
    refine ⟨by rw [List.length_append]; have := h.few; simp; omega, fun y hy => ?_, fun i j hi hj hij => ?_, ?_⟩
    · rcases List.mem_append.1 hy with e | e
      · exact h.low y e
      · simp at e; omega
    · rw [List.length_append] at hi hj
      simp at hi hj
      rw [List.getElem_append, List.getElem_append]
      split <;> split
      · exact h.two i j _ _ hij
      · rename_i hi2 hj2
        have := first_full (W := W) (x := x) L i hi2 (by omega)
        simpa using this
      · omega
      · omega
    · rw [sumL_append, h.all]; simp [sumL]
theorem loads_in {W : Int} {l : List Int} (h : ∀ x ∈ l, 1 ≤ x ∧ x ≤ W) : ∀ k, k ≤ l.length → Loads W k (sumL (l.take k)) (loads W (l.take k))
  | 0, _ => Loads.nil W
  | k + 1, hk => by
    have h1 := h l[k] (List.getElem_mem (by omega))
    have h2 := (loads_in h k (by omega)).step h1.1 h1.2
    rw [loads_take W l k (by omega), List.take_succ_eq_append_getElem (by omega : k < l.length), sumL_append, show sumL [l[k]] = l[k] from by simp [sumL]]
    exact h2
/-- Bands of which no two neighbors fit into one are filled at least half. -/
theorem half {W : Int} (hW : 0 ≤ W) : ∀ L : List Int, (∀ x ∈ L, 0 ≤ x) → (∀ i (h : i + 1 < L.length), W < L[i] + L[i + 1]) → (∀ h : 0 < L.length, ((L.length : Int) - 1) * (W + 1) + L[0] ≤ 2 * sumL L)
  | [], _, _ => fun h => by simp at h
  | [a], h0, _ => fun h => by
    show ((1 : Int) - 1) * (W + 1) + a ≤ 2 * (a + 0)
    have := h0 a (by simp)
    omega
  | a :: b :: r, h0, ht => fun _ => by
    have h1 : (((r.length + 1 : Nat) : Int) - 1) * (W + 1) + b ≤ 2 * sumL (b :: r) := half hW (b :: r) (fun x hx => h0 x (List.mem_cons_of_mem _ hx)) (fun i h => by have := ht (i + 1) (by simpa using h); simpa using this) (by simp)
    have h2 : W < a + b := ht 0 (by simp)
    show (((r.length + 1 + 1 : Nat) : Int) - 1) * (W + 1) + a ≤ 2 * (a + sumL (b :: r))
    have e2 : (((r.length + 1 + 1 : Nat) : Int) - 1) * (W + 1) = (((r.length + 1 : Nat) : Int) - 1) * (W + 1) + (W + 1) := by
      have : (((r.length + 1 + 1 : Nat) : Int) - 1) = (((r.length + 1 : Nat) : Int) - 1) + 1 := by omega
      rw [this, Int.add_mul]; omega
    rw [e2]
    generalize (((r.length + 1 : Nat) : Int) - 1) * (W + 1) = z at *
    omega
theorem half_in {W s : Int} {k : Nat} {L : List Int} (hW : 0 ≤ W) (h : Loads W k s L) : ((L.length : Int) - 1) * W < max 1 (2 * s) := by
  by_cases h0 : 0 < L.length
  · have h1 := half hW L (fun x hx => by have := h.low x hx; omega) (fun i hi => h.two i (i + 1) (by omega) hi (by omega)) h0
    have h2 := h.low L[0] (List.getElem_mem h0)
    rw [h.all, Int.mul_add] at h1
    generalize ((L.length : Int) - 1) * W = z at *
    omega
  · have e : L.length = 0 := by omega
    rw [e]
    simp
    omega
end Go.Proofs.Ytfhpbgmnekhfeaa.Sheet

/- The counts of countRooms: nine rows of 65 numbers in one block. -/
import Derived.Test.YtjjmeenapnemdaaAreaArr
namespace Go.Proofs.Ytjjmeenapnemdaa.Area
open Go.Proofs.Ytjjmeenapnemdaa.Strip Go.Proofs.Ytjjmeenapnemdaa.Ints Go.Proofs.Ytjjmeenapnemdaa.Order
set_option linter.unusedVariables false

def flatG (g : Nat → Nat → Nat) : List Int := (List.range 585).map fun i => (g (i / 65) (i % 65) : Int)
theorem flatG_length (g : Nat → Nat → Nat) : (flatG g).length = 585 := by unfold flatG; simp
theorem flatG_get (g : Nat → Nat → Nat) (i : Nat) (h : i < 585) : (flatG g)[i]? = some (g (i / 65) (i % 65) : Int) := by unfold flatG; simp [h]
theorem flatG_at (g : Nat → Nat → Nat) (n r : Nat) (hn : n < 9) (hr : r < 65) : (flatG g)[n * 65 + r]? = some (g n r : Int) := by
  rw [flatG_get g _ (by omega), show (n * 65 + r) / 65 = n from by omega, show (n * 65 + r) % 65 = r from by omega]
theorem flatG_congr {g g' : Nat → Nat → Nat} (h : ∀ n r, n < 9 → r < 65 → g n r = g' n r) : flatG g = flatG g' := by
  refine List.ext_getElem? fun i => ?_
  by_cases hi : i < 585
  · rw [flatG_get g i hi, flatG_get g' i hi, h _ _ (by omega) (by omega)]
  · rw [List.getElem?_eq_none (by rw [flatG_length]; omega), List.getElem?_eq_none (by rw [flatG_length]; omega)]
theorem flatG_set {g g' : Nat → Nat → Nat} {n r : Nat} (hn : n < 9) (hr : r < 65) (h : ∀ n' r', n' < 9 → r' < 65 → ¬ (n' = n ∧ r' = r) → g n' r' = g' n' r') : (flatG g).set (n * 65 + r) (g' n r : Int) = flatG g' := by
  refine List.ext_getElem? fun i => ?_
  by_cases hi : i < 585
  · rw [flatG_get g' i hi, List.getElem?_set]
    by_cases e : n * 65 + r = i
    · rw [if_pos e, if_pos (by rw [flatG_length]; omega), show i / 65 = n from by omega, show i % 65 = r from by omega]
    · rw [if_neg e, flatG_get g i hi, h _ _ (by omega) (by omega) (by omega)]
  · rw [List.getElem?_eq_none (by rw [List.length_set, flatG_length]; omega), List.getElem?_eq_none (by rw [flatG_length]; omega)]

/-- The first loop: the number 1 stands at the head of the first k rows. -/
def hd0 (k n r : Nat) : Nat := if r = 0 ∧ n < k then 1 else 0
theorem hd0_zero : flatG (hd0 0) = List.replicate 585 0 := by
  refine List.ext_getElem? fun i => ?_
  by_cases hi : i < 585
  · rw [flatG_get _ i hi, List.getElem?_replicate, if_pos hi]
    unfold hd0
    rw [if_neg (by omega)]
    rfl
  · rw [List.getElem?_eq_none (by rw [flatG_length]; omega), List.getElem?_eq_none (by rw [List.length_replicate]; omega)]
theorem hd0_next (k : Nat) (hk : k < 9) : (flatG (hd0 k)).set (k * 65) 1 = flatG (hd0 (k + 1)) := by
  have h := flatG_set (g := hd0 k) (g' := hd0 (k + 1)) (n := k) (r := 0) hk (by omega) (fun n r h1 h2 h3 => by
    unfold hd0
    by_cases e : r = 0 ∧ n < k
    · rw [if_pos e, if_pos ⟨e.1, by omega⟩]
    · rw [if_neg e, if_neg (fun q => by omega)])
  have e : hd0 (k + 1) k 0 = 1 := by unfold hd0; rw [if_pos ⟨rfl, by omega⟩]
  rw [e, Nat.add_zero] at h
  exact h
/-- Between two heights: rows up to F. -/
def bs (F u n r : Nat) : Nat := if F < n then rt 0 n r else rt u n r
theorem bs_zero (F : Nat) : flatG (hd0 9) = flatG (bs F 0) := flatG_congr fun n r hn hr => by
  unfold hd0 bs
  rw [rt_u0]
  by_cases e : r = 0
  · rw [if_pos ⟨e, hn⟩, if_pos e]; split <;> rfl
  · rw [if_neg (fun q => e q.1), if_neg e]; split <;> rfl
/-- Within a height: the rows ahead of m are done, and R numbers of row m. -/
def tv (F u m R n r : Nat) : Nat := if F < n then rt 0 n r else if n < m ∨ (n = m ∧ r < R) then rt (u + 1) n r else rt u n r
theorem tv_first (F u : Nat) : flatG (bs F u) = flatG (tv F u 1 0) := flatG_congr fun n r hn hr => by
  unfold bs tv
  by_cases e : F < n
  · rw [if_pos e, if_pos e]
  · rw [if_neg e, if_neg e]
    by_cases e2 : n < 1 ∨ (n = 1 ∧ r < 0)
    · rw [if_pos e2]
      obtain rfl : n = 0 := by omega
      rw [rt_f0, rt_f0]
    · rw [if_neg e2]
theorem tv_last (F u : Nat) : flatG (tv F u (F + 1) 0) = flatG (bs F (u + 1)) := flatG_congr fun n r hn hr => by
  unfold bs tv
  by_cases e : F < n
  · rw [if_pos e, if_pos e]
  · rw [if_neg e, if_neg e, if_pos (by omega)]
theorem tv_begin (F u m : Nat) : flatG (tv F u (m + 1) 0) = flatG (tv F u (m + 1) (u + 1)) := flatG_congr fun n r hn hr => by
  unfold tv
  by_cases e : F < n
  · rw [if_pos e, if_pos e]
  · rw [if_neg e, if_neg e]
    by_cases e2 : n < m + 1
    · rw [if_pos (.inl e2), if_pos (.inl e2)]
    · rw [if_neg (by omega)]
      by_cases e3 : n = m + 1 ∧ r < u + 1
      · rw [if_pos (.inr e3), e3.1, rt_step, if_neg (by omega)]; omega
      · rw [if_neg (by omega)]
theorem tv_end (F u m : Nat) : flatG (tv F u m 65) = flatG (tv F u (m + 1) 0) := flatG_congr fun n r hn hr => by
  unfold tv
  by_cases e : F < n
  · rw [if_pos e, if_pos e]
  · rw [if_neg e, if_neg e]
    by_cases e2 : n < m + 1
    · rw [if_pos (by omega), if_pos (.inl e2)]
    · rw [if_neg (by omega), if_neg (by omega)]
theorem tv_old {F u m R : Nat} (hm : m + 1 ≤ F) : tv F u (m + 1) R (m + 1) R = rt u (m + 1) R := by
  unfold tv; rw [if_neg (by omega), if_neg (by omega)]
theorem tv_new {F u m R j : Nat} (hm : m + 1 ≤ F) : tv F u (m + 1) R m j = rt (u + 1) m j := by
  unfold tv; rw [if_neg (by omega), if_pos (.inl (by omega))]
theorem tv_next {F u m j : Nat} (hm : m + 1 ≤ F) (hf : F ≤ 8) (hR : j + (u + 1) < 65) : (flatG (tv F u (m + 1) (j + (u + 1)))).set ((m + 1) * 65 + (j + (u + 1))) ((rt u (m + 1) (j + (u + 1)) : Int) + (rt (u + 1) m j : Int)) = flatG (tv F u (m + 1) (j + (u + 1) + 1)) := by
  have h := flatG_set (g := tv F u (m + 1) (j + (u + 1))) (g' := tv F u (m + 1) (j + (u + 1) + 1)) (n := m + 1) (r := j + (u + 1)) (by omega) hR (fun n r h1 h2 h3 => by
    unfold tv
    by_cases e : F < n
    · rw [if_pos e, if_pos e]
    · rw [if_neg e, if_neg e]
      by_cases e2 : n < m + 1 ∨ (n = m + 1 ∧ r < j + (u + 1))
      · rw [if_pos e2, if_pos (by omega)]
      · rw [if_neg e2, if_neg (by omega)])
  have e : tv F u (m + 1) (j + (u + 1) + 1) (m + 1) (j + (u + 1)) = rt u (m + 1) (j + (u + 1)) + rt (u + 1) m j := by
    unfold tv
    rw [if_neg (by omega), if_pos (by omega), rt_step, if_pos (by omega), show j + (u + 1) - (u + 1) = j from by omega]
  rw [e, Int.natCast_add] at h
  exact h
/-- The row that is handed back. -/
def rowR (u f : Nat) : List Int := (List.range 65).map fun r => (rt u f r : Int)
theorem rowR_length (u f : Nat) : (rowR u f).length = 65 := by unfold rowR; simp
theorem rowR_get (u f r : Nat) (h : r < 65) : (rowR u f)[r]? = some (rt u f r : Int) := by unfold rowR; simp [h]
theorem bs_row {F u : Nat} (hf : F ≤ 8) (r : Nat) (hr : r < 65) : (flatG (bs F u))[F * 65 + r]? = some (rt u F r : Int) := by
  rw [flatG_at _ F r (by omega) hr]
  unfold bs
  rw [if_neg (by omega)]
theorem rowR_take {d f : Nat} (hd : d ≤ 8) (hf : f ≤ 8) : (rowR d f).take (d * f + 1) = tabN d f := by
  have h64 : d * f ≤ 8 * 8 := Nat.mul_le_mul hd hf
  refine List.ext_getElem? fun i => ?_
  by_cases hi : i < d * f + 1
  · rw [List.getElem?_take_of_lt hi, rowR_get d f i (by omega)]
    unfold tabN
    rw [List.getElem?_map, List.getElem?_range hi]
    rfl
  · rw [List.getElem?_eq_none (by rw [List.length_take]; omega), List.getElem?_eq_none (by rw [tabN_length]; omega)]
end Go.Proofs.Ytjjmeenapnemdaa.Area

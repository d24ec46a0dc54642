/- The peaks of a word are the places where the letters fd stand. -/
import Derived.Test.YtigakakgikcghaaCorner
import Derived.Lib.CountLaws
import Derived.Lib.Slices
namespace Go.Proofs.Ytigakakgikcghaa.Corner
open Go.Proofs.Ytigakakgikcghaa.Strip
set_option linter.unusedVariables false

def pk : List UInt8 → Nat
  | [] => 0
  | a :: r => (if a = 102 ∧ r.head? = some 100 then 1 else 0) + pk r

theorem index_pre (c : UInt8) (r sub : List UInt8) (h : sub.isPrefixOf (c :: r) = true) : Lib.index (c :: r) sub = 0 := by
  unfold Lib.index; rw [if_pos h]
theorem index_step (c : UInt8) (r sub : List UInt8) (h : sub.isPrefixOf (c :: r) = false) : Lib.index (c :: r) sub = (if Lib.index r sub = -1 then -1 else Lib.index r sub + 1) := by
  conv => lhs; unfold Lib.index
  rw [h]
  simp

theorem count_pk : ∀ (n : Nat) (l : List UInt8), l.length ≤ n → Lib.count l [102, 100] = pk l
  | n, [], _ => by
    rw [Lib.count_miss (by decide)]; rfl
  | 0, c :: r, h => by simp at h
  | n + 1, c :: r, h => by
    have hr : r.length ≤ n := by simpa using h
    have ih := count_pk n r hr
    cases hp : ([102, 100] : List UInt8).isPrefixOf (c :: r) with
    | true =>
      have hi := index_pre c r _ hp
      rw [Lib.count_hit (i := 0) (by simp) hi]
      cases r with
      | nil => simp [List.isPrefixOf] at hp
      | cons x q =>
        have hcx : c = 102 ∧ x = 100 := by
          simp [List.isPrefixOf] at hp
          exact ⟨hp.1.symm, hp.2.symm⟩
        obtain ⟨rfl, rfl⟩ := hcx
        have ihq := count_pk n q (by simp at hr; omega)
        show 1 + Lib.count q [102, 100] = pk (102 :: 100 :: q)
        rw [ihq]
        simp [pk]
    | false =>
      have hi := index_step c r _ hp
      have hz : ¬ (c = 102 ∧ r.head? = some 100) := by
        rintro ⟨rfl, h2⟩
        cases r with
        | nil => simp at h2
        | cons x q => simp at h2; subst h2; simp [List.isPrefixOf] at hp
      have hpk : pk (c :: r) = pk r := by
        show (if _ then _ else _) + pk r = _
        rw [if_neg hz, Nat.zero_add]
      rw [hpk, ← ih]
      by_cases hm : Lib.index r [102, 100] = -1
      · rw [if_pos hm] at hi
        rw [Lib.count_miss hi, Lib.count_miss hm]
      · rw [if_neg hm] at hi
        rcases Lib.index_spec r [102, 100] with ⟨h1, _⟩ | ⟨i, h1, _⟩
        · exact absurd h1 hm
        · rw [h1] at hi
          rw [Lib.count_hit (i := i + 1) (by simp) (by rw [hi]; omega), Lib.count_hit (i := i) (by simp) h1]
          rfl

theorem peaks_pk : ∀ l : List UInt8, okL l = true → peaksN l l.length = pk l
  | [], _ => rfl
  | a :: r, h => by
    have hr : okL r = true := by
      unfold okL at *
      simp only [List.all_cons, Bool.and_eq_true] at h
      exact h.2
    have ih := peaks_pk r hr
    cases r with
    | nil => simp [peaksN, peak, turn, pk, List.range_succ]
    | cons x q =>
      have hx : x = 100 ∨ x = 102 := by
        unfold okL at hr
        simp only [List.all_cons, Bool.and_eq_true, Bool.or_eq_true, beq_iff_eq] at hr
        exact hr.1
      rw [show pk (a :: x :: q) = (if a = 102 ∧ x = 100 then 1 else 0) + pk (x :: q) from by simp [pk], ← ih]
      unfold peaksN
      rw [show (a :: x :: q).length = (x :: q).length + 1 from rfl, List.range_succ_eq_map]
      rw [List.filter_cons_of_neg (by simp [peak, turn]), List.filter_map, List.length_map]
      rw [show (x :: q).length = q.length + 1 from rfl, List.range_succ_eq_map]
      rw [List.filter_cons_of_neg (p := peak (x :: q)) (by simp [peak, turn]), List.filter_map, List.length_map]
      have e2 : ((peak (a :: x :: q) ∘ Nat.succ) ∘ Nat.succ) = (peak (x :: q) ∘ Nat.succ) := by
        funext k
        simp [peak, turn]
      have e1 : (peak (a :: x :: q) ∘ Nat.succ) 0 = decide (a = 102 ∧ x = 100) := by
        rcases hx with rfl | rfl
        · by_cases ha : a = 102
          · subst ha; rfl
          · simp [peak, turn, ha]
        · by_cases ha : a = 102
          · subst ha; rfl
          · simp [peak, turn, ha]
      by_cases hc : a = 102 ∧ x = 100
      · rw [List.filter_cons_of_pos (by rw [e1]; simpa using hc), List.length_cons, List.filter_map, List.length_map, e2, if_pos hc]
        omega
      · rw [List.filter_cons_of_neg (by rw [e1]; simpa using hc), List.filter_map, List.length_map, e2, if_neg hc]
        omega

theorem count_fd (l : List UInt8) (h : okL l = true) : Lib.count l [102, 100] = peaksN l l.length := by
  rw [peaks_pk l h]; exact count_pk l.length l (Nat.le_refl _)

/-- The corners hold a position just where the letter changes at it. -/
theorem contains_turn (l : List UInt8) (k : Int) : (turns l l.length).contains k = (decide (1 ≤ k ∧ k < l.length) && turn l k.toNat) := by
  rw [Bool.eq_iff_iff]
  simp only [List.contains_iff_mem, turns_mem, Bool.and_eq_true, decide_eq_true_eq]
  constructor
  · rintro ⟨j, rfl, h1, h2⟩
    have h3 : 1 ≤ j := by
      unfold turn at h2
      simp at h2
      omega
    refine ⟨by omega, ?_⟩
    rw [show ((j : Int)).toNat = j from by omega]; exact h2
  · rintro ⟨h1, h2⟩
    exact ⟨k.toNat, by omega, by omega, h2⟩

theorem prefix_one (l : List UInt8) (x : UInt8) : ([x] : List UInt8).isPrefixOf l = (l[0]? == some x) := by
  cases l with
  | nil => rfl
  | cons a r =>
    rw [Bool.eq_iff_iff]
    simp [List.isPrefixOf]
    exact eq_comm
theorem prefix_f (l : List UInt8) : Lib.hasPrefix l [102] = (l[0]? == some 102) := prefix_one l 102
theorem suffix_d (l : List UInt8) : Lib.hasSuffix l [100] = (l[l.length - 1]? == some 100) := by
  have h := prefix_one l.reverse 100
  unfold Lib.hasSuffix List.isSuffixOf
  rw [show ([100] : List UInt8).reverse = [100] from rfl, h]
  cases l with
  | nil => rfl
  | cons a r => rw [List.getElem?_reverse (by simp), Nat.sub_zero]
end Go.Proofs.Ytigakakgikcghaa.Corner

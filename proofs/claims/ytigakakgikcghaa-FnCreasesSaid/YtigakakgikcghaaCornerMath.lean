/- What holds of the corners and runs of a strip: they alternate, they sum up, they tell the strip. -/
import Derived.Test.YtigakakgikcghaaCorner
namespace Go.Proofs.Ytigakakgikcghaa.Corner
open Go.Proofs.Ytigakakgikcghaa.Strip
set_option linter.unusedVariables false

/-- The letter before the k-th corner. -/
theorem before (l : List UInt8) (hok : okL l = true) (b : Bool) (hb : l[0]? = some (letter b)) : ∀ n, n ≤ l.length →
    ∀ k (h : k < (turns l n).length), l[(turns l n)[k].toNat - 1]? = some (letter (flip b k)) := by
  intro n
  induction n with
  | zero => intro _ k h; simp [turns_zero] at h
  | succ n ih =>
    intro hn k h
    cases ht : turn l n with
    | false =>
      have e := turns_no _ _ ht
      simp only [e] at h ⊢
      exact ih (by omega) k h
    | true =>
      have e := turns_yes _ _ ht
      simp only [e] at h ⊢
      by_cases hk : k < (turns l n).length
      · rw [List.getElem_append_left hk]
        exact ih (by omega) k hk
      · have hkn : k = (turns l n).length := by
          rw [List.length_append, List.length_singleton] at h; omega
        have hn1 : 1 ≤ n := by
          unfold turn at ht
          simp at ht
          omega
        obtain ⟨p, _, hp, hc, _⟩ := told l hok b hb n hn1 (by omega)
        subst hkn
        rw [List.getElem_append_right (Nat.le_refl _)]
        simp only [Nat.sub_self, List.getElem_singleton]
        rw [show ((n : Int)).toNat - 1 = n - 1 from by omega]
        exact hc (n - 1) (by omega) (by omega)

theorem letter_is (b : Bool) : (letter b == 102) = b ∧ (letter b == 100) = !b := by cases b <;> exact ⟨rfl, rfl⟩
theorem letter_inj {a b : Bool} (h : letter a = letter b) : a = b := by cases a <;> cases b <;> first | rfl | cases h

theorem at_corner (l : List UInt8) (hs : stripB l = true) (b : Bool) (hb : l[0]? = some (letter b)) (k : Nat) (h : k < (turns l l.length).length) :
    cornerB 102 l (turns l l.length)[k] = flip b k ∧ cornerB 100 l (turns l l.length)[k] = !(flip b k) := by
  have h1 := before l (stripB_ok hs) b hb l.length (Nat.le_refl _) k h
  have h2 := (turns_mem l l.length (turns l l.length)[k]).1 (List.getElem_mem h)
  obtain ⟨j, e, hj, ht⟩ := h2
  generalize (turns l l.length)[k] = x at *
  subst e
  have hj1 : 1 ≤ j := by
    unfold turn at ht
    simp at ht
    omega
  rw [show ((j : Int)).toNat - 1 = j - 1 from by omega] at h1
  have hl := letter_is (flip b k)
  unfold cornerB
  rw [hs, decide_eq_true (by omega), show ((j : Int)).toNat = j from by omega, ht, h1]
  simp [hl]

theorem mountain_or_valley (l : List UInt8) (hs : stripB l = true) (k : Nat) (h : k < l.length) : (cornerB 102 l (k : Int) || cornerB 100 l (k : Int)) = turn l k := by
  by_cases hk : 1 ≤ k
  · have hm : l[k - 1]? = some l[k - 1] := List.getElem?_eq_getElem (by omega)
    have hok := stripB_ok hs
    unfold okL at hok
    rw [List.all_eq_true] at hok
    have hd := hok l[k - 1] (List.getElem_mem _)
    unfold cornerB
    rw [hs, decide_eq_true (by omega), show ((k : Int)).toNat = k from by omega, hm]
    generalize l[k - 1] = x at *
    simp only [Bool.or_eq_true, beq_iff_eq] at hd
    rcases hd with rfl | rfl <;> simp
  · have hk0 : k = 0 := by omega
    subst hk0
    simp [cornerB, turn]
theorem no_corner_end (x : UInt8) (l : List UInt8) : cornerB x l (l.length : Int) = false := by
  unfold cornerB
  rw [decide_eq_false (by omega)]; simp

/-- The sums of the first runs. -/
theorem gaps_take_eq : ∀ (cs : List Int) (p : Int) (k : Nat), (gaps p cs).take k = gaps p (cs.take k)
  | [], p, k => by simp [gaps]
  | c :: cs, p, 0 => by simp [gaps]
  | c :: cs, p, k + 1 => by
    show ((c - p) :: gaps c cs).take (k + 1) = _
    rw [List.take_succ_cons, gaps_take_eq cs c k]; rfl
theorem gaps_take_sum (cs : List Int) (k : Nat) : ((gaps 0 cs).take k).sum = (cs.take k).getLastD 0 := by
  rw [gaps_take_eq, gaps_sum]; omega
theorem last_in (cs : List Int) (n : Int) (hn : 0 ≤ n) (h : ∀ x ∈ cs, 0 ≤ x ∧ x ≤ n) (k : Nat) : 0 ≤ (cs.take k).getLastD 0 ∧ (cs.take k).getLastD 0 ≤ n := by
  cases hc : cs.take k with
  | nil => exact ⟨Int.le_refl _, hn⟩
  | cons x r =>
    rw [← hc]
    have hne : cs.take k ≠ [] := by rw [hc]; simp
    rw [List.getLastD_eq_getLast?, List.getLast?_eq_some_getLast hne]
    exact h _ (List.mem_of_mem_take (List.getLast_mem hne))
theorem sum_snoc (l : List Int) (k : Nat) (h : k < l.length) : (l.take (k + 1)).sum = (l.take k).sum + l[k] := by
  rw [List.take_succ_eq_append_getElem h, List.sum_append]; simp

theorem ends_in (l : List UInt8) : ∀ x ∈ turns l l.length ++ [(l.length : Int)], 0 ≤ x ∧ x ≤ (l.length : Int) := by
  intro x hx
  rcases List.mem_append.1 hx with h | h
  · obtain ⟨j, e, hj, _⟩ := (turns_mem l l.length x).1 h
    omega
  · have e : x = (l.length : Int) := by simpa using h
    omega

theorem runs_sum_take (l : List UInt8) (k : Nat) : 0 ≤ ((gaps 0 (turns l l.length ++ [(l.length : Int)])).take k).sum ∧ ((gaps 0 (turns l l.length ++ [(l.length : Int)])).take k).sum ≤ l.length := by
  rw [gaps_take_sum]
  exact last_in _ _ (by omega) (ends_in l) k
theorem runs_sum (l : List UInt8) : (gaps 0 (turns l l.length ++ [(l.length : Int)])).sum = l.length := by
  rw [gaps_sum, List.getLastD_concat]; omega

/-- Each run has a letter at least, and at most as many as the strip has of it. -/
theorem gaps_pos (l : List UInt8) (hok : okL l = true) (b : Bool) (hb : l[0]? = some (letter b)) : ∀ n, n ≤ l.length → ∀ r ∈ gaps 0 (turns l n), (1 : Int) ≤ r := by
  intro n
  induction n with
  | zero => intro _ r hr; simp [turns_zero, gaps] at hr
  | succ n ih =>
    intro hn r hr
    cases ht : turn l n with
    | false => rw [turns_no _ _ ht] at hr; exact ih (by omega) r hr
    | true =>
      rw [turns_yes _ _ ht, gaps_snoc] at hr
      rcases List.mem_append.1 hr with h | h
      · exact ih (by omega) r h
      · have hn1 : 1 ≤ n := by
          unfold turn at ht
          simp at ht
          omega
        obtain ⟨p, hp, hpn, _, _⟩ := told l hok b hb n hn1 (by omega)
        rw [hp] at h
        have e : r = (n : Int) - (p : Int) := by simpa using h
        omega
theorem word_cnt : ∀ (rs : List Int) (b : Bool), ∀ r ∈ rs, r.toNat ≤ cnt 100 (word b rs) ∨ r.toNat ≤ cnt 102 (word b rs)
  | [], _, r, h => by cases h
  | q :: rs, b, r, h => by
    have hc : ∀ x, cnt x (word b (q :: rs)) = cnt x (List.replicate q.toNat (letter b)) + cnt x (word (!b) rs) := fun x => by
      unfold cnt; exact List.count_append
    rw [hc, hc]
    rcases List.mem_cons.1 h with rfl | h
    · cases b
      · left
        have e : cnt 100 (List.replicate r.toNat (letter false)) = r.toNat := by unfold cnt; exact List.count_replicate_self
        omega
      · right
        have e : cnt 102 (List.replicate r.toNat (letter true)) = r.toNat := by unfold cnt; exact List.count_replicate_self
        omega
    · have ih := word_cnt rs (!b) r h
      omega
theorem runs_ok (l : List UInt8) (hs : stripB l = true) (b : Bool) (hb : l[0]? = some (letter b)) : (gaps 0 (turns l l.length ++ [(l.length : Int)])).all runOk = true := by
  have hok := stripB_ok hs
  have hz := strip_size hs
  have hw := runs_word l hok b hb (by omega)
  have hf := stripB_frame hs
  unfold frameB at hf
  simp at hf
  rw [List.all_eq_true]
  intro r hr
  have h1 : 1 ≤ r := by
    rw [gaps_snoc] at hr
    rcases List.mem_append.1 hr with h | h
    · exact gaps_pos l hok b hb l.length (Nat.le_refl _) r h
    · obtain ⟨p, hp, hpn, _, _⟩ := told l hok b hb l.length (by omega) (Nat.le_refl _)
      rw [hp] at h
      have e : r = (l.length : Int) - (p : Int) := by simpa using h
      omega
  have h2 := word_cnt _ b r hr
  rw [hw] at h2
  unfold runOk
  rw [decide_eq_true_eq]
  omega
theorem runs_back (l : List UInt8) (hs : stripB l = true) (b : Bool) (hb : l[0]? = some (letter b)) : fromL ⟨#[letter b]⟩ (gaps 0 (turns l l.length ++ [(l.length : Int)])) = l := by
  have hf : firstB ⟨#[letter b]⟩ = some b := by cases b <;> rfl
  rw [from_all hf (runs_ok l hs b hb), runs_word l (stripB_ok hs) b hb (by have := strip_size hs; omega), if_pos hs]

/-- The mountains among the first k corners. -/
def mts (l : List UInt8) (k : Nat) : Nat := (((turns l l.length).take k).filter (cornerB 102 l)).length
theorem mts_zero (l : List UInt8) : mts l 0 = 0 := by simp [mts]
theorem mts_le (l : List UInt8) (k : Nat) : mts l k ≤ k := by
  unfold mts
  exact Nat.le_trans (List.length_filter_le _ _) (by rw [List.length_take]; omega)
theorem mts_succ (l : List UInt8) (k : Nat) (h : k < (turns l l.length).length) : mts l (k + 1) = mts l k + (if cornerB 102 l (turns l l.length)[k] = true then 1 else 0) := by
  unfold mts
  rw [List.take_succ_eq_append_getElem h, List.filter_append, List.length_append]
  congr 1
  cases hc : cornerB 102 l (turns l l.length)[k] <;> simp [hc]
theorem mts_all (l : List UInt8) (hs : stripB l = true) : mts l (turns l l.length).length = peaksN l l.length := by
  unfold mts peaksN
  rw [List.take_length]
  unfold turns
  rw [List.filter_map, List.length_map, List.filter_filter]
  congr 1
  apply List.filter_congr
  intro k hk
  have hk2 : k < l.length := by simpa using hk
  show (cornerB 102 l (k : Int) && turn l k) = peak l k
  unfold cornerB peak
  rw [hs, show ((k : Int)).toNat = k from by omega]
  by_cases h1 : 1 ≤ k
  · rw [decide_eq_true (by omega)]
    cases turn l k <;> simp
  · have ht : turn l k = false := by unfold turn; rw [decide_eq_false h1]; rfl
    rw [ht]; simp

/-- The number of folds, and that it is odd. -/
theorem folds_are (l : List UInt8) (hs : stripB l = true) (b : Bool) (hb : l[0]? = some (letter b)) :
    (l[l.length - 1]? == some 100) = !(flip b (turns l l.length).length) ∧
    foldsV l = ((turns l l.length).length : Int) + one b + one (!(flip b (turns l l.length).length)) := by
  have hz := strip_size hs
  obtain ⟨p, _, hp, hc, _⟩ := told l (stripB_ok hs) b hb l.length (by omega) (Nat.le_refl _)
  have hl := hc (l.length - 1) (by omega) (by omega)
  have h1 : (l[l.length - 1]? == some 100) = !(flip b (turns l l.length).length) := by
    rw [hl]; simp [(letter_is _).2]
  have h0 : (l[0]? == some 102) = b := by rw [hb]; simp [(letter_is _).1]
  refine ⟨h1, ?_⟩
  unfold foldsV
  rw [if_pos hs, h0, h1]
theorem folds_odd (m : Nat) (b : Bool) : ((m : Int) + one b + one (!(flip b m))) % 2 = 1 := by
  unfold flip one
  by_cases h : m % 2 = 0
  · rw [if_pos h]
    cases b <;> simp <;> omega
  · rw [if_neg h]
    cases b <;> simp <;> omega
end Go.Proofs.Ytigakakgikcghaa.Corner

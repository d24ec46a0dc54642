/- VIEWS: heights seen from above, depths seen from the front, strips out of heights, steps between neighbors. Pure mathematics. -/
import Derived.Test.YtbdeppbbgokfhaaTurnMath
namespace Go.Proofs.Ytbdeppbbgokfhaa.View
open Go.Proofs.Ytbdeppbbgokfhaa.Strip Go.Proofs.Ytbdeppbbgokfhaa.Kerf Go.Proofs.Ytbdeppbbgokfhaa.Order Go.Proofs.Ytbdeppbbgokfhaa.Turn
set_option linter.unusedVariables false

/-- The numbers of letters f ahead of each letter d, where g of them have been passed already. -/
def dps : Int → List UInt8 → List Int
  | _, [] => []
  | g, b :: l => if b = 102 then dps (g + 1) l else g :: dps g l
/-- What HeightsOf returns; what DepthsOf returns. -/
def htsL (l : List UInt8) : List Int := if stripB l = true then hts (cnt 100 l) l else []
def dpsL (l : List UInt8) : List Int := if stripB l = true then dps 0 l else []
theorem htsL_yes {l : List UInt8} (h : stripB l = true) : htsL l = hts (cnt 100 l) l := by unfold htsL; rw [if_pos h]
theorem htsL_no {l : List UInt8} (h : stripB l = false) : htsL l = [] := by unfold htsL; rw [if_neg (by rw [h]; simp)]
theorem dpsL_yes {l : List UInt8} (h : stripB l = true) : dpsL l = dps 0 l := by unfold dpsL; rw [if_pos h]
theorem dpsL_no {l : List UInt8} (h : stripB l = false) : dpsL l = [] := by unfold dpsL; rw [if_neg (by rw [h]; simp)]
theorem dps_cons (g : Int) (b : UInt8) (l : List UInt8) : dps g (b :: l) = if b = 102 then dps (g + 1) l else g :: dps g l := rfl
theorem hts_cons (u : Int) (b : UInt8) (l : List UInt8) : hts u (b :: l) = if b = 102 then u :: hts u l else hts (u - 1) l := rfl
theorem dps_snoc (l : List UInt8) (b : UInt8) : ∀ g : Int, dps g (l ++ [b]) = dps g l ++ (if b = 102 then [] else [g + cnt 102 l]) := by
  induction l with
  | nil =>
    intro g
    show (if b = 102 then dps (g + 1) [] else g :: dps g []) = _
    by_cases h : b = 102
    · rw [if_pos h, if_pos h]; rfl
    · rw [if_neg h, if_neg h]; simp [dps, cnt]
  | cons c l ih =>
    intro g
    rw [List.cons_append, dps_cons, dps_cons, cnt_cons]
    by_cases h : c = 102
    · rw [if_pos h, if_pos h, if_pos h, ih]
      congr 1
      split
      · rfl
      · congr 1; omega
    · rw [if_neg h, if_neg h, if_neg h, ih, List.cons_append]
      congr 2
theorem dps_length (l : List UInt8) : ∀ g : Int, (dps g l).length + cnt 102 l = l.length := by
  induction l with
  | nil => intro g; rfl
  | cons b l ih =>
    intro g
    rw [dps_cons, cnt_cons, List.length_cons]
    by_cases h : b = 102
    · rw [if_pos h, if_pos h]; have := ih (g + 1); omega
    · rw [if_neg h, if_neg h, List.length_cons]; have := ih g; omega

/-- The heights of the turned strip, from behind, are the depths. -/
theorem hts_turn : ∀ (l : List UInt8), okL l = true → ∀ g : Int, (hts ((cnt 102 l : Int) + g) (turnN l)).reverse = dps g l := by
  intro l
  induction l with
  | nil => intro _ g; rfl
  | cons b l ih =>
    intro hok g
    have hok2 : okL l = true := by
      unfold okL at hok ⊢
      simp only [List.all_cons, Bool.and_eq_true] at hok
      exact hok.2
    have hb : b = 100 ∨ b = 102 := by
      unfold okL at hok
      simp only [List.all_cons, Bool.and_eq_true] at hok
      simpa using hok.1
    have h1 : ((turnN l).length : Int) - cnt 102 (turnN l) = cnt 102 l := by
      rw [turnN_length, cnt_turn_f]
      have := cnt_sum l hok2
      omega
    rw [turnN_cons, hts_snoc, h1, dps_cons, cnt_cons]
    rcases hb with rfl | rfl
    · rw [if_pos (show turnB 100 = 102 by decide), if_neg (show ¬ (100 : UInt8) = 102 by decide), if_neg (show ¬ (100 : UInt8) = 102 by decide)]
      rw [List.reverse_append, Nat.add_zero, ih hok2 g]
      show [_] ++ _ = g :: _
      rw [show (cnt 102 l : Int) + g - cnt 102 l = g by omega]
      rfl
    · rw [if_neg (show ¬ turnB 102 = 102 by decide), if_pos (show (102 : UInt8) = 102 from rfl), if_pos (show (102 : UInt8) = 102 from rfl), List.append_nil]
      rw [show ((cnt 102 l + 1 : Nat) : Int) + g = (cnt 102 l : Int) + (g + 1) by omega]
      exact ih hok2 (g + 1)
theorem depths_turn (l : List UInt8) : (htsL (turnL l)).reverse = dpsL l := by
  cases h : stripB l with
  | false => rw [turn_no h, dpsL_no h]; rfl
  | true =>
    rw [htsL_yes (strip_turn h), turn_yes h, dpsL_yes h, cnt_turn_d (stripB_ok h)]
    have := hts_turn l (stripB_ok h) 0
    rwa [Int.add_zero] at this

/-! ### sums -/
theorem sumL_reverse (l : List Int) : sumL l.reverse = sumL l := by
  induction l with
  | nil => rfl
  | cons x l ih =>
    rw [List.reverse_cons, sumL_append, ih]
    show sumL l + (x + 0) = x + sumL l
    omega
theorem sum_htsL {l : List UInt8} (h : stripB l = true) : sumL (htsL l) = roomI l := by unfold roomI; rw [htsL_yes h, if_pos h]
theorem sum_dpsL {l : List UInt8} (h : stripB l = true) : sumL (dpsL l) = roomI l := by
  rw [← depths_turn, sumL_reverse, sum_htsL (strip_turn h), room_turn h]
theorem htsL_length {l : List UInt8} (h : stripB l = true) : (htsL l).length = cnt 102 l := by rw [htsL_yes h, hts_length]
theorem dpsL_length {l : List UInt8} (h : stripB l = true) : (dpsL l).length = cnt 100 l := by
  rw [dpsL_yes h]
  have := dps_length l 0
  have := cnt_sum l (stripB_ok h)
  omega
theorem htsL_le (l : List UInt8) : (htsL l).length ≤ 8 := by
  cases h : stripB l with
  | false => rw [htsL_no h]; simp
  | true =>
    rw [htsL_length h]
    have h3 := stripB_frame h
    unfold frameB at h3
    rw [decide_eq_true_eq] at h3
    omega
theorem dpsL_le (l : List UInt8) : (dpsL l).length ≤ 8 := by
  rw [← depths_turn, List.length_reverse]
  exact htsL_le _

/-! ### heights never rise -/
theorem hts_le (l : List UInt8) : ∀ (u : Int) (x : Int), x ∈ hts u l → x ≤ u := by
  induction l with
  | nil => intro u x h; simp [hts] at h
  | cons b l ih =>
    intro u x h
    rw [hts_cons] at h
    by_cases e : b = 102
    · rw [if_pos e] at h
      rcases List.mem_cons.1 h with rfl | h3
      · omega
      · exact ih u x h3
    · rw [if_neg e] at h
      have := ih (u - 1) x h; omega
theorem hts_down (l : List UInt8) : ∀ u : Int, (hts u l).Pairwise (fun x y => y ≤ x) := by
  induction l with
  | nil => intro u; exact List.Pairwise.nil
  | cons b l ih =>
    intro u
    rw [hts_cons]
    by_cases e : b = 102
    · rw [if_pos e]
      exact List.Pairwise.cons (fun x hx => hts_le l u x hx) (ih u)
    · rw [if_neg e]; exact ih (u - 1)
theorem htsL_down (l : List UInt8) (i : Nat) (h : i + 1 < (htsL l).length) : (htsL l)[i + 1] ≤ (htsL l)[i] := by
  have hp : (htsL l).Pairwise (fun x y => y ≤ x) := by
    unfold htsL
    split
    · exact hts_down l _
    · exact List.Pairwise.nil
  exact List.pairwise_iff_getElem.1 hp i (i + 1) (by omega) h (by omega)

/-! ### strips out of heights -/
/-- The heights are in the range and never rise, from u on. -/
def fine : Int → List Int → Bool
  | _, [] => true
  | u, h :: r => decide (0 ≤ h ∧ h ≤ u) && fine h r
/-- The last height. -/
def lastH : Int → List Int → Int
  | u, [] => u
  | _, h :: r => lastH h r
/-- The steps as far as the last step forward. -/
def descP : Int → List Int → List UInt8
  | _, [] => []
  | u, h :: r => List.replicate (u - h).toNat 100 ++ 102 :: descP h r
def descA (d : Int) (hs : List Int) : List UInt8 := descP d hs ++ List.replicate (lastH d hs).toNat 100
/-- What FromHeights returns. -/
def fromH (d : Int) (hs : List Int) : List UInt8 := if frameB d hs.length = true then (if fine d hs = true then descA d hs else []) else []
theorem fine_snoc (l : List Int) (x : Int) : ∀ u, fine u (l ++ [x]) = (fine u l && decide (0 ≤ x ∧ x ≤ lastH u l)) := by
  induction l with
  | nil =>
    intro u
    show (decide (0 ≤ x ∧ x ≤ u) && true) = (true && decide (0 ≤ x ∧ x ≤ u))
    rw [Bool.and_true, Bool.true_and]
  | cons h r ih =>
    intro u
    show (decide (0 ≤ h ∧ h ≤ u) && fine h (r ++ [x])) = (decide (0 ≤ h ∧ h ≤ u) && fine h r && _)
    rw [ih, Bool.and_assoc]; rfl
theorem lastH_snoc (l : List Int) (x : Int) : ∀ u, lastH u (l ++ [x]) = x := by
  induction l with
  | nil => intro u; rfl
  | cons h r ih => intro u; exact ih h
theorem descP_snoc (l : List Int) (x : Int) : ∀ u, descP u (l ++ [x]) = descP u l ++ List.replicate (lastH u l - x).toNat 100 ++ [102] := by
  induction l with
  | nil => intro u; simp [descP, lastH]
  | cons h r ih =>
    intro u
    show List.replicate (u - h).toNat 100 ++ 102 :: descP h (r ++ [x]) = List.replicate (u - h).toNat 100 ++ 102 :: descP h r ++ _ ++ _
    rw [ih]
    simp [lastH]
theorem fine_bad (u : Int) (hs : List Int) (k : Nat) (h : fine u (hs.take k) = false) : fine u hs = false := by
  induction hs generalizing u k with
  | nil => simp [fine] at h
  | cons x r ih =>
    cases k with
    | zero => simp [fine] at h
    | succ k =>
      rw [List.take_succ_cons] at h
      show (decide (0 ≤ x ∧ x ≤ u) && fine x r) = false
      have h2 : (decide (0 ≤ x ∧ x ≤ u) && fine x (r.take k)) = false := h
      rcases Bool.and_eq_false_iff.1 h2 with h3 | h3
      · rw [h3]; rfl
      · rw [ih x k h3, Bool.and_false]
theorem lastH_in {u : Int} {l : List Int} (hu : 0 ≤ u) (h : fine u l = true) : 0 ≤ lastH u l ∧ lastH u l ≤ u := by
  induction l generalizing u with
  | nil => exact ⟨hu, Int.le_refl _⟩
  | cons x r ih =>
    have h2 : (decide (0 ≤ x ∧ x ≤ u) && fine x r) = true := h
    rw [Bool.and_eq_true, decide_eq_true_eq] at h2
    have := ih h2.1.1 h2.2
    show 0 ≤ lastH x r ∧ lastH x r ≤ u
    omega
theorem descP_size {u : Int} {l : List Int} (hu : 0 ≤ u) (h : fine u l = true) : ((descP u l).length : Int) + lastH u l = u + l.length := by
  induction l generalizing u with
  | nil => show ((0 : Nat) : Int) + u = u + ((0 : Nat) : Int); omega
  | cons x r ih =>
    have h2 : (decide (0 ≤ x ∧ x ≤ u) && fine x r) = true := h
    rw [Bool.and_eq_true, decide_eq_true_eq] at h2
    have := ih h2.1.1 h2.2
    show ((List.replicate (u - x).toNat (100 : UInt8) ++ 102 :: descP x r).length : Int) + lastH x r = u + ((r.length + 1 : Nat) : Int)
    rw [List.length_append, List.length_replicate, List.length_cons]
    omega
/-- One step down more at the beginning. -/
theorem descA_down (u : Int) (hu : 0 ≤ u) (hs : List Int) (h : fine u hs = true) : descA (u + 1) hs = 100 :: descA u hs := by
  cases hs with
  | nil =>
    show [] ++ List.replicate (u + 1).toNat 100 = 100 :: ([] ++ List.replicate u.toNat 100)
    rw [show (u + 1).toNat = u.toNat + 1 by omega]; rfl
  | cons x r =>
    have h2 : (decide (0 ≤ x ∧ x ≤ u) && fine x r) = true := h
    rw [Bool.and_eq_true, decide_eq_true_eq] at h2
    show List.replicate (u + 1 - x).toNat 100 ++ 102 :: descP x r ++ _ = 100 :: (List.replicate (u - x).toNat 100 ++ 102 :: descP x r ++ _)
    rw [show (u + 1 - x).toNat = (u - x).toNat + 1 by omega, List.replicate_succ]; rfl
theorem fine_more (u : Int) (hs : List Int) (h : fine u hs = true) : fine (u + 1) hs = true := by
  cases hs with
  | nil => rfl
  | cons x r =>
    have h2 : (decide (0 ≤ x ∧ x ≤ u) && fine x r) = true := h
    rw [Bool.and_eq_true, decide_eq_true_eq] at h2
    show (decide (0 ≤ x ∧ x ≤ u + 1) && fine x r) = true
    rw [h2.2, Bool.and_true, decide_eq_true_eq]
    omega
theorem desc_hts : ∀ (l : List UInt8), okL l = true → fine (cnt 100 l) (hts (cnt 100 l) l) = true ∧ descA (cnt 100 l) (hts (cnt 100 l) l) = l := by
  intro l
  induction l with
  | nil => intro _; exact ⟨rfl, rfl⟩
  | cons b l ih =>
    intro hok
    have hok2 : okL l = true := by
      unfold okL at hok ⊢
      simp only [List.all_cons, Bool.and_eq_true] at hok
      exact hok.2
    have hb : b = 100 ∨ b = 102 := by
      unfold okL at hok
      simp only [List.all_cons, Bool.and_eq_true] at hok
      simpa using hok.1
    obtain ⟨h1, h2⟩ := ih hok2
    rw [cnt_cons, hts_cons]
    rcases hb with rfl | rfl
    · rw [if_pos (show (100 : UInt8) = 100 from rfl), if_neg (show ¬ (100 : UInt8) = 102 by decide)]
      rw [show ((cnt 100 l + 1 : Nat) : Int) = (cnt 100 l : Int) + 1 by omega, show (cnt 100 l : Int) + 1 - 1 = cnt 100 l by omega]
      exact ⟨fine_more _ _ h1, by rw [descA_down _ (by omega) _ h1, h2]⟩
    · rw [if_neg (show ¬ (102 : UInt8) = 100 by decide), if_pos (show (102 : UInt8) = 102 from rfl), Nat.add_zero]
      refine ⟨?_, ?_⟩
      · show (decide (_ ∧ _) && _) = true
        rw [h1, Bool.and_true, decide_eq_true_eq]
        omega
      · show List.replicate ((cnt 100 l : Int) - cnt 100 l).toNat 100 ++ 102 :: descP _ _ ++ _ = _
        rw [show ((cnt 100 l : Int) - cnt 100 l).toNat = 0 by omega]
        show 102 :: (descP _ _ ++ _) = _
        congr 1
theorem from_hts {l : List UInt8} (h : stripB l = true) : fromH (cnt 100 l) (htsL l) = l := by
  obtain ⟨h1, h2⟩ := desc_hts l (stripB_ok h)
  unfold fromH
  rw [htsL_length h, if_pos (stripB_frame h), htsL_yes h, if_pos h1, h2]

/-! ### steps between neighbors -/
/-- At how many of the first n places two rows differ. -/
def difN (a b : List Int) (n : Nat) : Int := sumN n fun i => if a.getD i 0 = b.getD i 0 then 0 else 1
theorem difN_succ (a b : List Int) (n : Nat) : difN a b (n + 1) = difN a b n + (if a.getD n 0 = b.getD n 0 then 0 else 1) := rfl
theorem difN_in (a b : List Int) (n : Nat) : 0 ≤ difN a b n ∧ difN a b n ≤ n := by
  induction n with
  | zero => exact ⟨Int.le_refl _, Int.le_refl _⟩
  | succ n ih =>
    rw [difN_succ]
    split <;> omega
end Go.Proofs.Ytbdeppbbgokfhaa.View

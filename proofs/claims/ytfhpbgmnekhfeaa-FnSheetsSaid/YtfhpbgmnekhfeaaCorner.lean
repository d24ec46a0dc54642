/- Corners and runs of a word of letters: plain facts on lists. -/
import Derived.Test.YtfhpbgmnekhfeaaStrip
import Derived.Lib.Strings
namespace Go.Proofs.Ytfhpbgmnekhfeaa.Corner
open Go.Proofs.Ytfhpbgmnekhfeaa.Strip
set_option linter.unusedVariables false

/-- The letter at position k differs from the one before it. -/
def turn (l : List UInt8) (k : Nat) : Bool := decide (1 ≤ k) && (l[k]? != l[k - 1]?)
def turns (l : List UInt8) (n : Nat) : List Int := ((List.range n).filter (turn l)).map fun (k : Nat) => (k : Int)

theorem turns_zero (l : List UInt8) : turns l 0 = [] := rfl
theorem turns_one (l : List UInt8) : turns l 1 = [] := by simp [turns, turn, List.range_succ]
theorem turns_yes (l : List UInt8) (k : Nat) (h : turn l k = true) : turns l (k + 1) = turns l k ++ [(k : Int)] := by
  unfold turns; rw [List.range_succ]; simp [h]
theorem turns_no (l : List UInt8) (k : Nat) (h : turn l k = false) : turns l (k + 1) = turns l k := by
  unfold turns; rw [List.range_succ]; simp [h]
theorem turns_le (l : List UInt8) (n : Nat) : (turns l n).length ≤ n := by
  unfold turns; rw [List.length_map]
  exact Nat.le_trans (List.length_filter_le _ _) (by simp)
theorem turns_lt (l : List UInt8) (n : Nat) (h : 1 ≤ n) : (turns l n).length < n := by
  obtain ⟨m, rfl⟩ : ∃ m, n = m + 1 := ⟨n - 1, by omega⟩
  clear h
  induction m with
  | zero => rw [turns_one]; simp
  | succ m ih =>
    cases h : turn l (m + 1) with
    | true => rw [turns_yes _ _ h]; simp; omega
    | false => rw [turns_no _ _ h]; omega
theorem turns_mem (l : List UInt8) (n : Nat) (x : Int) : x ∈ turns l n ↔ ∃ k : Nat, x = (k : Int) ∧ k < n ∧ turn l k = true := by
  unfold turns
  simp only [List.mem_map, List.mem_filter, List.mem_range]
  constructor
  · rintro ⟨k, ⟨h1, h2⟩, rfl⟩; exact ⟨k, rfl, h1, h2⟩
  · rintro ⟨k, rfl, h1, h2⟩; exact ⟨k, ⟨h1, h2⟩, rfl⟩

theorem at_get (s : ByteArray) (k : Nat) (h : k < s.size) : s.data.toList[k]? = some s[k] := by
  rw [List.getElem?_eq_getElem (by simpa using h)]; rfl

theorem turn_eq (s : ByteArray) (k : Nat) (h : k + 1 < s.size) : turn s.data.toList (k + 1) = (s[k + 1] != s[k]) := by
  unfold turn
  rw [at_get s (k + 1) h, show k + 1 - 1 = k from rfl, at_get s k (by omega)]
  rw [Bool.eq_iff_iff]
  simp

/-- The distances from one to the next. -/
def gaps : Int → List Int → List Int
  | _, [] => []
  | p, c :: cs => (c - p) :: gaps c cs

theorem gaps_length : ∀ (cs : List Int) (p : Int), (gaps p cs).length = cs.length
  | [], _ => rfl
  | c :: cs, p => by simp [gaps, gaps_length cs c]
theorem gaps_snoc : ∀ (cs : List Int) (p y : Int), gaps p (cs ++ [y]) = gaps p cs ++ [y - cs.getLastD p]
  | [], p, y => rfl
  | c :: cs, p, y => by
    show (c - p) :: gaps c (cs ++ [y]) = _
    rw [gaps_snoc cs c y, List.getLastD_cons]; rfl
theorem gaps_sum : ∀ (cs : List Int) (p : Int), (gaps p cs).sum = cs.getLastD p - p
  | [], p => by simp [gaps]
  | c :: cs, p => by
    show ((c - p) :: gaps c cs).sum = _
    rw [List.sum_cons, gaps_sum cs c, List.getLastD_cons]; omega

/-- What CornersOf, RunsOf and CountFolds return. -/
def cornersL (l : List UInt8) : List Int := if stripB l = true then turns l l.length else []
def runsL (l : List UInt8) : List Int := if stripB l = true then gaps 0 (turns l l.length ++ [(l.length : Int)]) else []
def one (b : Bool) : Int := if b = true then 1 else 0
def foldsV (l : List UInt8) : Int :=
  if stripB l = true then ((turns l l.length).length : Int) + one (l[0]? == some 102) + one (l[l.length - 1]? == some 100) else -1
/-- What IsMountain and IsValley return: x is the letter before the corner. -/
def cornerB (x : UInt8) (l : List UInt8) (k : Int) : Bool :=
  stripB l && decide (1 ≤ k ∧ k < l.length) && (turn l k.toNat && (l[k.toNat - 1]? == some x))

theorem strip_size {l : List UInt8} (h : stripB l = true) : 2 ≤ l.length ∧ l.length ≤ 16 := by
  have h1 := cnt_sum l (stripB_ok h)
  have h2 := stripB_frame h
  unfold frameB at h2
  simp at h2
  omega

theorem corners_yes {l : List UInt8} (h : stripB l = true) : cornersL l = turns l l.length := by unfold cornersL; rw [if_pos h]
theorem corners_no {l : List UInt8} (h : stripB l = false) : cornersL l = [] := by unfold cornersL; rw [h]; rfl
theorem runs_yes {l : List UInt8} (h : stripB l = true) : runsL l = gaps 0 (turns l l.length ++ [(l.length : Int)]) := by unfold runsL; rw [if_pos h]
theorem runs_no {l : List UInt8} (h : stripB l = false) : runsL l = [] := by unfold runsL; rw [h]; rfl

/-- The number of the peaks: a step forward before a step down. -/
def peak (l : List UInt8) (k : Nat) : Bool := turn l k && (l[k - 1]? == some 102)
def peaksN (l : List UInt8) (n : Nat) : Nat := ((List.range n).filter (peak l)).length
theorem peaks_yes (l : List UInt8) (k : Nat) (h : peak l k = true) : peaksN l (k + 1) = peaksN l k + 1 := by
  unfold peaksN; rw [List.range_succ]; simp [h]
theorem peaks_no (l : List UInt8) (k : Nat) (h : peak l k = false) : peaksN l (k + 1) = peaksN l k := by
  unfold peaksN; rw [List.range_succ]; simp [h]
theorem peaks_le (l : List UInt8) (n : Nat) : peaksN l n ≤ n := by
  unfold peaksN; exact Nat.le_trans (List.length_filter_le _ _) (by simp)
theorem peaks_one (l : List UInt8) : peaksN l 1 = 0 := by simp [peaksN, peak, turn, List.range_succ]
def peaksV (l : List UInt8) : Int := if stripB l = true then (peaksN l l.length : Int) else -1

/-- The word of runs that begins with one letter and changes at each run. -/
def letter (b : Bool) : UInt8 := if b = true then 102 else 100
def word : Bool → List Int → List UInt8
  | _, [] => []
  | b, r :: rs => List.replicate r.toNat (letter b) ++ word (!b) rs
/-- The letter behind n runs. -/
def flip (b : Bool) (n : Nat) : Bool := if n % 2 = 0 then b else !b
theorem flip_zero (b : Bool) : flip b 0 = b := rfl
theorem flip_succ (b : Bool) (n : Nat) : flip b (n + 1) = !(flip b n) := by
  unfold flip
  by_cases h : n % 2 = 0
  · rw [if_pos h, if_neg (by omega)]
  · rw [if_neg h, if_pos (by omega)]; simp
theorem flip_not (b : Bool) (n : Nat) : flip (!b) n = !(flip b n) := by
  unfold flip
  by_cases h : n % 2 = 0
  · rw [if_pos h, if_pos h]
  · rw [if_neg h, if_neg h]
theorem word_snoc : ∀ (rs : List Int) (b : Bool) (r : Int), word b (rs ++ [r]) = word b rs ++ List.replicate r.toNat (letter (flip b rs.length))
  | [], b, r => by simp [word, flip]
  | q :: rs, b, r => by
    show List.replicate q.toNat (letter b) ++ word (!b) (rs ++ [r]) = (List.replicate q.toNat (letter b) ++ word (!b) rs) ++ _
    rw [word_snoc rs (!b) r, List.append_assoc, flip_not, List.length_cons, flip_succ]
theorem word_length : ∀ (rs : List Int) (b : Bool), (∀ r ∈ rs, (1 : Int) ≤ r ∧ r ≤ 8) → rs.length ≤ (word b rs).length ∧ (word b rs).length ≤ 8 * rs.length
  | [], _, _ => by simp [word]
  | r :: rs, b, h => by
    have ih := word_length rs (!b) fun q hq => h q (List.mem_cons_of_mem _ hq)
    have h1 := h r List.mem_cons_self
    simp only [word, List.length_append, List.length_replicate, List.length_cons]
    omega

def runOk (r : Int) : Bool := decide (1 ≤ r ∧ r ≤ 8)
def firstB (s : ByteArray) : Option Bool := if s.data.toList = [100] then some false else if s.data.toList = [102] then some true else none
/-- What FromRuns returns. -/
def fromL (s : ByteArray) (rs : List Int) : List UInt8 :=
  match firstB s with
  | none => []
  | some b => if (rs.all runOk) = true ∧ stripB (word b rs) = true then word b rs else []

theorem all_ok {rs : List Int} (h : rs.all runOk = true) : ∀ r ∈ rs, (1 : Int) ≤ r ∧ r ≤ 8 := by
  intro r hr
  rw [List.all_eq_true] at h
  have := h r hr
  simpa [runOk] using this
theorem from_none {s : ByteArray} {rs : List Int} (h : firstB s = none) : fromL s rs = [] := by unfold fromL; rw [h]
theorem from_long {s : ByteArray} {rs : List Int} (h : 16 < rs.length) : fromL s rs = [] := by
  unfold fromL
  cases firstB s with
  | none => rfl
  | some b =>
    show (if _ then _ else _) = _
    rw [if_neg]
    rintro ⟨h1, h2⟩
    have h3 := (word_length rs b (all_ok h1)).1
    have h4 := (strip_size h2).2
    omega
theorem from_bad {s : ByteArray} {rs : List Int} (h : rs.all runOk = false) : fromL s rs = [] := by
  unfold fromL
  cases firstB s with
  | none => rfl
  | some b =>
    show (if _ then _ else _) = _
    rw [if_neg]
    rintro ⟨h1, h2⟩
    rw [h] at h1; cases h1
theorem from_all {s : ByteArray} {b : Bool} {rs : List Int} (hb : firstB s = some b) (h : rs.all runOk = true) : fromL s rs = if stripB (word b rs) = true then word b rs else [] := by
  unfold fromL
  rw [hb]
  show (if _ then _ else _) = _
  simp only [h, true_and]
theorem bad_at {rs : List Int} {k : Nat} (hk : k < rs.length) (h : runOk rs[k] = false) : rs.all runOk = false := by
  cases hb : rs.all runOk with
  | false => rfl
  | true =>
    rw [List.all_eq_true] at hb
    rw [hb _ (List.getElem_mem hk)] at h; cases h
theorem take_all_snoc {rs : List Int} {k : Nat} (hk : k < rs.length) (h : (rs.take k).all runOk = true) (hr : runOk rs[k] = true) : (rs.take (k + 1)).all runOk = true := by
  rw [List.take_succ_eq_append_getElem hk, List.all_append, h]
  simp [hr]

theorem first_eq {s : ByteArray} {b : Bool} (h : firstB s = some b) : s = ⟨#[letter b]⟩ := by
  unfold firstB at h
  by_cases h1 : s.data.toList = [100]
  · rw [if_pos h1] at h
    cases h
    exact ByteArray.ext (Array.ext' h1)
  · rw [if_neg h1] at h
    by_cases h2 : s.data.toList = [102]
    · rw [if_pos h2] at h
      cases h
      exact ByteArray.ext (Array.ext' h2)
    · rw [if_neg h2] at h; cases h
theorem first_ne {s : ByteArray} (h : firstB s = none) : s ≠ ⟨#[100]⟩ ∧ s ≠ ⟨#[102]⟩ := by
  constructor
  · rintro rfl; cases h
  · rintro rfl; cases h

/-- THE RUNS TELL THE WORD. What holds of a prefix of n letters. -/
theorem told (l : List UInt8) (hok : okL l = true) (b : Bool) (hb : l[0]? = some (letter b)) : ∀ n, 1 ≤ n → n ≤ l.length →
    ∃ p : Nat, (turns l n).getLastD 0 = (p : Int) ∧ p < n ∧ (∀ j, p ≤ j → j < n → l[j]? = some (letter (flip b (turns l n).length))) ∧ word b (gaps 0 (turns l n)) = l.take p := by
  intro n h1
  obtain ⟨m, rfl⟩ : ∃ m, n = m + 1 := ⟨n - 1, by omega⟩
  clear h1
  induction m with
  | zero =>
    intro _
    rw [turns_one]
    refine ⟨0, rfl, by omega, ?_, by simp [gaps, word]⟩
    intro j h0 h1
    obtain rfl : j = 0 := by omega
    exact hb
  | succ m ih =>
    intro hn
    obtain ⟨p, hp, hpm, hc, hw⟩ := ih (by omega)
    have hm := hc m (by omega) (by omega)
    cases ht : turn l (m + 1) with
    | false =>
      rw [turns_no _ _ ht]
      refine ⟨p, hp, by omega, ?_, hw⟩
      intro j h0 h1
      by_cases hj : j < m + 1
      · exact hc j h0 hj
      · obtain rfl : j = m + 1 := by omega
        unfold turn at ht
        simp at ht
        rw [ht, hm]
    | true =>
      rw [turns_yes _ _ ht]
      refine ⟨m + 1, by simp, by omega, ?_, ?_⟩
      · intro j h0 h1
        obtain rfl : j = m + 1 := by omega
        unfold turn at ht
        simp at ht
        rw [hm] at ht
        have hmem : l[m + 1]? = some l[m + 1] := List.getElem?_eq_getElem (by omega)
        rw [hmem] at ht ⊢
        have hall := hok
        unfold okL at hall
        rw [List.all_eq_true] at hall
        have hd := hall l[m + 1] (List.getElem_mem _)
        simp only [Bool.or_eq_true, beq_iff_eq] at hd
        rw [List.length_append, List.length_singleton, flip_succ]
        generalize l[m + 1] = y at *
        cases hf : flip b (turns l (m + 1)).length <;> rw [hf] at ht <;> rcases hd with rfl | rfl <;> simp [letter] at ht ⊢
      · rw [gaps_snoc, word_snoc, hw, hp, gaps_length, show (((m + 1 : Nat) : Int) - (p : Int)).toNat = m + 1 - p from by omega]
        apply List.ext_getElem?
        intro i
        by_cases h1 : i < p
        · rw [List.getElem?_append_left (by rw [List.length_take]; omega), List.getElem?_take_of_lt h1, List.getElem?_take_of_lt (by omega)]
        · rw [List.getElem?_append_right (by rw [List.length_take]; omega), List.length_take, Nat.min_eq_left (by omega)]
          by_cases h2 : i < m + 1
          · rw [List.getElem?_replicate, if_pos (by omega), List.getElem?_take_of_lt h2, hc i (by omega) h2]
          · rw [List.getElem?_replicate, if_neg (by omega), List.getElem?_eq_none (by rw [List.length_take]; omega)]

theorem runs_word (l : List UInt8) (hok : okL l = true) (b : Bool) (hb : l[0]? = some (letter b)) (h1 : 1 ≤ l.length) :
    word b (gaps 0 (turns l l.length ++ [(l.length : Int)])) = l := by
  obtain ⟨p, hp, hpm, hc, hw⟩ := told l hok b hb l.length h1 (Nat.le_refl _)
  rw [gaps_snoc, word_snoc, hw, hp, gaps_length, show ((l.length : Int) - (p : Int)).toNat = l.length - p from by omega]
  apply List.ext_getElem?
  intro i
  by_cases h1 : i < p
  · rw [List.getElem?_append_left (by rw [List.length_take]; omega), List.getElem?_take_of_lt h1]
  · rw [List.getElem?_append_right (by rw [List.length_take]; omega), List.length_take, Nat.min_eq_left (by omega)]
    by_cases h2 : i < l.length
    · rw [List.getElem?_replicate, if_pos (by omega), hc i (by omega) h2]
    · rw [List.getElem?_replicate, if_neg (by omega), List.getElem?_eq_none (by omega)]
end Go.Proofs.Ytfhpbgmnekhfeaa.Corner

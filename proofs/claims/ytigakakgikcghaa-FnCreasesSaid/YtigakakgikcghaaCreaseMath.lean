/- Creases of a strip: plain facts on lists of letters and signs. -/
import Derived.Test.YtigakakgikcghaaCornerMath
namespace Go.Proofs.Ytigakakgikcghaa.Crease
open Go.Proofs.Ytigakakgikcghaa.Strip Go.Proofs.Ytigakakgikcghaa.Corner
set_option linter.unusedVariables false

/-- The crease behind the first i steps: 0 for none, 1 for a mountain, 2 for a valley. -/
def crV (l : List UInt8) (i : Int) : Int :=
  if (i = 0 ∧ l[0]? = some 102) ∨ (i = l.length ∧ l[l.length - 1]? = some 100) then 2
  else if cornerB 102 l i = true then 1 else if cornerB 100 l i = true then 2 else 0
/-- Its sign. -/
def sg (x : Int) : UInt8 := if x = 1 then 109 else if x = 2 then 118 else 46
/-- The signs of the first n places; those of all places. -/
def txtN (l : List UInt8) (n : Nat) : List UInt8 := (List.range n).map fun i => sg (crV l (i : Nat))
def txt (l : List UInt8) : List UInt8 := txtN l (l.length + 1)

theorem crV_in (l : List UInt8) (i : Int) : 0 ≤ crV l i ∧ crV l i ≤ 2 := by
  unfold crV
  split
  · omega
  · split
    · omega
    · split <;> omega
theorem crV_three (l : List UInt8) (i : Int) : crV l i = 0 ∨ crV l i = 1 ∨ crV l i = 2 := by
  have := crV_in l i
  omega
theorem corner_out (x : UInt8) (l : List UInt8) (i : Int) (h : ¬ (1 ≤ i ∧ i < (l.length : Int))) : cornerB x l i = false := by
  unfold cornerB
  rw [decide_eq_false h]; simp
theorem crV_out (l : List UInt8) (i : Int) (h : i < 0 ∨ (l.length : Int) < i) : crV l i = 0 := by
  unfold crV
  rw [corner_out 102 l i (by omega), corner_out 100 l i (by omega), if_neg (by rintro (⟨a, _⟩ | ⟨a, _⟩) <;> omega)]
  rfl
theorem crV_nil (i : Int) : crV [] i = 0 := by
  unfold crV
  rw [corner_out 102 [] i (by simp; omega), corner_out 100 [] i (by simp; omega), if_neg (by rintro (⟨_, a⟩ | ⟨_, a⟩) <;> simp at a)]
  rfl
theorem crV_end (l : List UInt8) (i : Int) (h : (i = 0 ∧ l[0]? = some 102) ∨ (i = l.length ∧ l[l.length - 1]? = some 100)) : crV l i = 2 := by
  unfold crV; rw [if_pos h]
theorem crV_mid (l : List UInt8) (i : Int) (h : ¬ ((i = 0 ∧ l[0]? = some 102) ∨ (i = l.length ∧ l[l.length - 1]? = some 100))) : crV l i = if cornerB 102 l i = true then 1 else if cornerB 100 l i = true then 2 else 0 := by
  unfold crV; rw [if_neg h]
theorem crV_mount (l : List UInt8) (i : Int) (h : cornerB 102 l i = true) : crV l i = 1 := by
  have hr : 1 ≤ i ∧ i < (l.length : Int) := by
    by_cases hr : 1 ≤ i ∧ i < (l.length : Int)
    · exact hr
    · rw [corner_out 102 l i hr] at h; cases h
  rw [crV_mid _ _ (by rintro (⟨a, _⟩ | ⟨a, _⟩) <;> omega), if_pos h]
theorem crV_valley (l : List UInt8) (i : Int) (h1 : cornerB 102 l i = false) (h : cornerB 100 l i = true) : crV l i = 2 := by
  unfold crV
  rw [h1, h]
  split <;> rfl
theorem crV_none (l : List UInt8) (i : Int) (h : ¬ ((i = 0 ∧ l[0]? = some 102) ∨ (i = l.length ∧ l[l.length - 1]? = some 100))) (h1 : cornerB 102 l i = false) (h2 : cornerB 100 l i = false) : crV l i = 0 := by
  rw [crV_mid _ _ h, h1, h2]; rfl
theorem crV_zero (l : List UInt8) (h : l ≠ []) : crV l 0 = if l[0]? = some 102 then 2 else 0 := by
  have h1 : 1 ≤ l.length := by cases l with | nil => exact absurd rfl h | cons a b => simp
  by_cases h2 : l[0]? = some 102
  · rw [if_pos h2, crV_end _ _ (.inl ⟨rfl, h2⟩)]
  · rw [if_neg h2, crV_none _ _ (by rintro (⟨_, a⟩ | ⟨a, _⟩); exact h2 a; omega) (corner_out _ _ _ (by omega)) (corner_out _ _ _ (by omega))]
theorem crV_inner (l : List UInt8) (n : Nat) (h1 : 1 ≤ n) (h2 : n < l.length) : crV l n = if cornerB 102 l n = true then 1 else if cornerB 100 l n = true then 2 else 0 :=
  crV_mid _ _ (by rintro (⟨a, _⟩ | ⟨a, _⟩) <;> omega)
theorem crV_last (l : List UInt8) (h : l ≠ []) : crV l l.length = if l[l.length - 1]? = some 100 then 2 else 0 := by
  have h1 : 1 ≤ l.length := by cases l with | nil => exact absurd rfl h | cons a b => simp
  by_cases h2 : l[l.length - 1]? = some 100
  · rw [if_pos h2, crV_end _ _ (.inr ⟨rfl, h2⟩)]
  · rw [if_neg h2, crV_none _ _ (by rintro (⟨a, _⟩ | ⟨_, a⟩); omega; exact h2 a) (corner_out _ _ _ (by omega)) (corner_out _ _ _ (by omega))]

theorem txtN_succ (l : List UInt8) (n : Nat) : txtN l (n + 1) = txtN l n ++ [sg (crV l (n : Nat))] := by
  unfold txtN; rw [List.range_succ]; simp
theorem txtN_zero (l : List UInt8) : txtN l 0 = [] := rfl
theorem txtN_length (l : List UInt8) (n : Nat) : (txtN l n).length = n := by simp [txtN]
theorem txt_length (l : List UInt8) : (txt l).length = l.length + 1 := txtN_length _ _
theorem txtN_at (l : List UInt8) (n j : Nat) (h : j < n) : (txtN l n)[j]? = some (sg (crV l (j : Nat))) := by
  unfold txtN; simp [h]
theorem txt_at (l : List UInt8) (j : Nat) (h : j ≤ l.length) : (txt l)[j]? = some (sg (crV l (j : Nat))) := txtN_at _ _ _ (by omega)
theorem sg_ne (x : Int) (h0 : 0 ≤ x) (h2 : x ≤ 2) : (sg x = 46 ↔ x = 0) ∧ (sg x = 109 ↔ x = 1) ∧ (sg x = 118 ↔ x = 2) := by
  have : x = 0 ∨ x = 1 ∨ x = 2 := by omega
  rcases this with rfl | rfl | rfl <;> decide
/-- The first sign is none or a valley. -/
theorem txt_first (l : List UInt8) : (txt l)[0]? = some 46 ∨ (txt l)[0]? = some 118 := by
  rw [txt_at l 0 (by omega)]
  by_cases h : l = []
  · subst h; left; rw [crV_nil]; rfl
  · rw [show ((0 : Nat) : Int) = 0 from rfl, crV_zero l h]
    split
    · right; rfl
    · left; rfl

theorem catL (a b : List UInt8) : (⟨a.toArray⟩ : ByteArray) ++ ⟨b.toArray⟩ = ⟨(a ++ b).toArray⟩ := by
  apply ByteArray.ext
  simp [ByteArray.data_append]
/-- One sign behind the others, as a string. -/
theorem txt_next (l : List UInt8) (k : Nat) (b : ByteArray) (h : b = ⟨#[sg (crV l (k : Nat))]⟩) : (⟨(txtN l k).toArray⟩ : ByteArray) ++ b = ⟨(txtN l (k + 1)).toArray⟩ := by
  rw [h, txtN_succ, ← catL]
theorem txt_size (l : List UInt8) (k : Nat) : (⟨(txtN l k).toArray⟩ : ByteArray).size = k := by
  show (txtN l k).toArray.size = k
  rw [List.size_toArray, txtN_length]
theorem sign_cut (c : Int) (h : c = 0 ∨ c = 1 ∨ c = 2) : (⟨#[46, 109, 118]⟩ : ByteArray).extract c.toNat (c.toNat + 1) = ⟨#[sg c]⟩ := by
  rcases h with rfl | rfl | rfl <;> rfl

/-- A sign other than none turns the way. -/
def flipB (b : Bool) (x : UInt8) : Bool := if x = 46 then b else !b
/-- The way behind the first j signs; behind the first sign and j more. -/
def preF (t : List UInt8) (j : Nat) : Bool := (t.take j).foldl flipB false
def bitF (b : Bool) (t : List UInt8) (j : Nat) : Bool := ((t.drop 1).take j).foldl flipB b
/-- The letters that are read. -/
def wI (t : List UInt8) (n : Nat) : List UInt8 := (List.range n).map fun j => letter (preF t (j + 1))
def wS (b : Bool) (t : List UInt8) (n : Nat) : List UInt8 := (List.range n).map fun j => letter (bitF b t j)

theorem preF_succ (t : List UInt8) (j : Nat) (h : j < t.length) : preF t (j + 1) = flipB (preF t j) t[j] := by
  unfold preF
  rw [List.take_succ_eq_append_getElem h, List.foldl_append]; rfl
theorem preF_zero (t : List UInt8) : preF t 0 = false := rfl
theorem bitF_zero (b : Bool) (t : List UInt8) : bitF b t 0 = b := rfl
theorem bitF_succ (b : Bool) (t : List UInt8) (j : Nat) (h : j + 1 < t.length) : bitF b t (j + 1) = flipB (bitF b t j) t[j + 1] := by
  unfold bitF
  rw [List.take_succ_eq_append_getElem (by simp; omega), List.foldl_append]
  simp
theorem bit_pre (t : List UInt8) (j : Nat) (x : UInt8) (h : t[0]? = some x) : bitF (flipB false x) t j = preF t (j + 1) := by
  cases t with
  | nil => simp at h
  | cons a t =>
    have : a = x := by simpa using h
    subst this
    rfl
theorem wI_succ (t : List UInt8) (n : Nat) : wI t (n + 1) = wI t n ++ [letter (preF t (n + 1))] := by
  unfold wI; rw [List.range_succ]; simp
theorem wI_zero (t : List UInt8) : wI t 0 = [] := rfl
theorem wI_length (t : List UInt8) (n : Nat) : (wI t n).length = n := by simp [wI]
theorem wS_succ (b : Bool) (t : List UInt8) (n : Nat) : wS b t (n + 1) = wS b t n ++ [letter (bitF b t n)] := by
  unfold wS; rw [List.range_succ]; simp
theorem wS_zero (b : Bool) (t : List UInt8) : wS b t 0 = [] := rfl
theorem wS_length (b : Bool) (t : List UInt8) (n : Nat) : (wS b t n).length = n := by simp [wS]
def firstV (t : List UInt8) : Bool := t[0]? == some 118
theorem wS_wI (t : List UInt8) (n : Nat) (h : t[0]? = some 46 ∨ t[0]? = some 118) : wS (firstV t) t n = wI t n := by
  unfold wS wI firstV
  apply List.map_congr_left
  intro j _
  rcases h with h | h
  · rw [← bit_pre t j 46 h, h]; rfl
  · rw [← bit_pre t j 118 h, h]; rfl

/-- The strip of the frame whose signs are t; none. -/
def goodL (d f : Int) (s : List UInt8) : Bool := decide ((if stripB s = true then (cnt 100 s : Int) else 0) = d ∧ (if stripB s = true then (cnt 102 s : Int) else 0) = f)
def readL (t : List UInt8) (d f : Int) : List UInt8 :=
  if frameB d f = true ∧ (t.length : Int) = d + f + 1 then (if goodL d f (wI t (t.length - 1)) = true ∧ txt (wI t (t.length - 1)) = t then wI t (t.length - 1) else []) else []
theorem read_no {t : List UInt8} {d f : Int} (h : ¬ (frameB d f = true ∧ (t.length : Int) = d + f + 1)) : readL t d f = [] := by unfold readL; rw [if_neg h]
theorem read_yes {t : List UInt8} {d f : Int} (h : frameB d f = true ∧ (t.length : Int) = d + f + 1) : readL t d f = if goodL d f (wI t (t.length - 1)) = true ∧ txt (wI t (t.length - 1)) = t then wI t (t.length - 1) else [] := by unfold readL; rw [if_pos h]
/-- The model reads the same. -/
theorem read_spec {t : List UInt8} {d f : Int} (h : frameB d f = true ∧ (t.length : Int) = d + f + 1) : readL t d f = if goodL d f (wS (firstV t) t (t.length - 1)) = true ∧ txt (wS (firstV t) t (t.length - 1)) = t then wS (firstV t) t (t.length - 1) else [] := by
  rw [read_yes h]
  by_cases h0 : t[0]? = some 46 ∨ t[0]? = some 118
  · rw [wS_wI t _ h0]
  · rw [if_neg, if_neg]
    · rintro ⟨_, e⟩
      have := txt_first (wS (firstV t) t (t.length - 1))
      rw [e] at this
      exact h0 this
    · rintro ⟨_, e⟩
      have := txt_first (wI t (t.length - 1))
      rw [e] at this
      exact h0 this

/-- A STRIP IS READ FROM ITS CREASES. -/
theorem letter_of {x : UInt8} (h : x = 100 ∨ x = 102) : letter (decide (x = 102)) = x := by rcases h with rfl | rfl <;> rfl
theorem ok_at {l : List UInt8} (h : okL l = true) (j : Nat) (hj : j < l.length) : l[j] = 100 ∨ l[j] = 102 := by
  unfold okL at h
  rw [List.all_eq_true] at h
  have := h l[j] (List.getElem_mem hj)
  simpa [Bool.or_eq_true, beq_iff_eq] using this
theorem pre_txt (l : List UInt8) (hs : stripB l = true) : ∀ j (hj : j < l.length), preF (txt l) (j + 1) = decide (l[j] = 102) := by
  have hz := strip_size hs
  have hok := stripB_ok hs
  have hne : l ≠ [] := by rintro rfl; simp at hz
  intro j
  induction j with
  | zero =>
    intro hj
    have hl : 0 < (txt l).length := by rw [txt_length]; omega
    rw [preF_succ _ _ hl, preF_zero]
    have ha := txt_at l 0 (by omega)
    rw [List.getElem?_eq_getElem hl] at ha
    have ha2 := Option.some.inj ha
    rw [ha2, show ((0 : Nat) : Int) = 0 from rfl, crV_zero l hne, List.getElem?_eq_getElem hj]
    by_cases h : l[0] = 102
    · rw [h]; decide
    · rw [if_neg (by simpa using h), decide_eq_false h]; decide
  | succ j ih =>
    intro hj
    have hl : j + 1 < (txt l).length := by rw [txt_length]; omega
    have ha := txt_at l (j + 1) (by omega)
    rw [List.getElem?_eq_getElem hl] at ha
    have ha2 := Option.some.inj ha
    rw [preF_succ _ _ hl, ih (by omega), ha2, crV_inner l (j + 1) (by omega) hj]
    have hmv := mountain_or_valley l hs (j + 1) hj
    have ht : turn l (j + 1) = decide (l[j + 1] ≠ l[j]) := by
      unfold turn
      rw [List.getElem?_eq_getElem hj, show j + 1 - 1 = j from rfl, List.getElem?_eq_getElem (show j < l.length by omega)]
      rw [Bool.eq_iff_iff]; simp
    rw [ht] at hmv
    have h1 := ok_at hok j (by omega)
    have h2 := ok_at hok (j + 1) hj
    generalize l[j + 1] = y at *
    generalize l[j] = x at *
    generalize cornerB 102 l ((j + 1 : Nat) : Int) = A at *
    generalize cornerB 100 l ((j + 1 : Nat) : Int) = B at *
    rcases h1 with rfl | rfl <;> rcases h2 with rfl | rfl <;> cases A <;> cases B <;> revert hmv <;> decide
theorem wI_txt (l : List UInt8) (hs : stripB l = true) : wI (txt l) l.length = l := by
  apply List.ext_getElem?
  intro j
  unfold wI
  by_cases hj : j < l.length
  · rw [List.getElem?_eq_getElem hj, List.getElem?_map, List.getElem?_range hj]
    show some (letter (preF (txt l) (j + 1))) = _
    rw [pre_txt l hs j hj, letter_of (ok_at (stripB_ok hs) j hj)]
  · rw [List.getElem?_eq_none (show l.length ≤ j by omega), List.getElem?_eq_none (by rw [List.length_map, List.length_range]; omega)]
theorem read_txt (l : List UInt8) (d f : Int) (hs : stripB l = true) (hd : (cnt 100 l : Int) = d) (hf : (cnt 102 l : Int) = f) : readL (txt l) d f = l := by
  have hlen := cnt_sum l (stripB_ok hs)
  have hfr := stripB_frame hs
  rw [hd, hf] at hfr
  rw [read_yes ⟨hfr, by rw [txt_length]; omega⟩, txt_length, Nat.add_sub_cancel, wI_txt l hs, if_pos]
  refine ⟨?_, rfl⟩
  unfold goodL
  rw [if_pos hs, if_pos hs]
  exact decide_eq_true ⟨hd, hf⟩

/-- HOW MANY. Mountains are the peaks, folds are the creases, valleys are one more than mountains. -/
def oneN (b : Bool) : Nat := if b = true then 1 else 0
theorem count_first (l : List UInt8) (hs : stripB l = true) : ∀ n, 1 ≤ n → n ≤ l.length →
    cnt 109 (txtN l n) = peaksN l n ∧ cnt 109 (txtN l n) + cnt 118 (txtN l n) = (turns l n).length + oneN (l[0]? == some 102) ∧ cnt 118 (txtN l n) + oneN (l[n - 1]? == some 100) = cnt 109 (txtN l n) + 1 := by
  have hz := strip_size hs
  have hok := stripB_ok hs
  have hne : l ≠ [] := by rintro rfl; simp at hz
  intro n h1
  obtain ⟨m, rfl⟩ : ∃ m, n = m + 1 := ⟨n - 1, by omega⟩
  clear h1
  induction m with
  | zero =>
    intro hn
    rw [txtN_succ, txtN_zero, List.nil_append, show ((0 : Nat) : Int) = 0 from rfl, crV_zero l hne, turns_one, peaks_one]
    have hg : l[0]? = some l[0] := List.getElem?_eq_getElem (by omega)
    rw [hg]
    have h1 := ok_at hok 0 (by omega)
    generalize l[0] = x at *
    rcases h1 with rfl | rfl <;> decide
  | succ m ih =>
    intro hn
    obtain ⟨i1, i2, i3⟩ := ih (by omega)
    rw [txtN_succ, crV_inner l (m + 1) (by omega) (by omega), cnt_snoc, cnt_snoc]
    rw [show m + 1 - 1 = m from rfl] at i3
    rw [show m + 1 + 1 - 1 = m + 1 from rfl]
    have g0 : l[m]? = some l[m] := List.getElem?_eq_getElem (by omega)
    have g1 : l[m + 1]? = some l[m + 1] := List.getElem?_eq_getElem (by omega)
    rw [g0] at i3
    rw [g1]
    have h1 := ok_at hok m (by omega)
    have h2 := ok_at hok (m + 1) (by omega)
    have hc : ∀ x, cornerB x l ((m + 1 : Nat) : Int) = (turn l (m + 1) && (l[m]? == some x)) := by
      intro x
      unfold cornerB
      rw [hs, decide_eq_true (by omega), show (((m + 1 : Nat) : Int)).toNat = m + 1 from by omega, show m + 1 - 1 = m from rfl]
      simp
    have ht : turn l (m + 1) = decide (l[m + 1] ≠ l[m]) := by
      unfold turn
      rw [g1, show m + 1 - 1 = m from rfl, g0]
      rw [Bool.eq_iff_iff]; simp
    have hp : peak l (m + 1) = (turn l (m + 1) && (l[m]? == some 102)) := rfl
    rw [hc, hc]
    rw [g0] at hp ⊢
    generalize cnt 109 (txtN l (m + 1)) = M at *
    generalize cnt 118 (txtN l (m + 1)) = V at *
    generalize oneN (l[0]? == some 102) = c at *
    rcases h1 with e1 | e1 <;> rcases h2 with e2 | e2 <;> rw [e1, e2] at ht <;> rw [e1] at i3 hp ⊢ <;> rw [e2]
    all_goals
      first
        | (have ht0 : turn l (m + 1) = false := ht.trans (by decide))
        | (have ht0 : turn l (m + 1) = true := ht.trans (by decide))
      first
        | (rw [turns_no _ _ ht0])
        | (rw [turns_yes _ _ ht0, List.length_append, List.length_singleton])
      rw [ht0] at hp ⊢
      first
        | (rw [peaks_no _ _ (hp.trans (by decide))])
        | (rw [peaks_yes _ _ (hp.trans (by decide))])
      simp [oneN, sg] at i3 ⊢
      omega
theorem count_all (l : List UInt8) (hs : stripB l = true) :
    cnt 109 (txt l) = peaksN l l.length ∧ (cnt 109 (txt l) : Int) + cnt 118 (txt l) = foldsV l ∧ cnt 118 (txt l) = cnt 109 (txt l) + 1 := by
  have hz := strip_size hs
  have hok := stripB_ok hs
  have hne : l ≠ [] := by rintro rfl; simp at hz
  obtain ⟨i1, i2, i3⟩ := count_first l hs l.length (by omega) (Nat.le_refl _)
  unfold txt
  rw [txtN_succ, crV_last l hne, cnt_snoc, cnt_snoc]
  unfold foldsV
  rw [if_pos hs]
  have g1 : l[l.length - 1]? = some l[l.length - 1] := List.getElem?_eq_getElem (by omega)
  rw [g1] at i3 ⊢
  have h2 := ok_at hok (l.length - 1) (by omega)
  generalize l[l.length - 1] = y at *
  have ho : ∀ b : Bool, one b = (oneN b : Int) := by intro b; cases b <;> rfl
  rw [ho, ho]
  generalize oneN (l[0]? == some 102) = c at *
  rcases h2 with rfl | rfl
  · simp [oneN, sg] at i3 ⊢
    omega
  · simp [oneN, sg] at i3 ⊢
    omega
end Go.Proofs.Ytigakakgikcghaa.Crease

/- Sliders and links as numbers: which sliders are valid, what a pull does, which links lead back, the rounds of PullAll and their end. Pure mathematics. -/
import Derived.WalkKit
namespace Go.Proofs.Ytmjknjgfcngacaa.Slide
set_option linter.unusedVariables false

/-- Three ints: a slider (Low, High, Now), or a link (From, To, Factor). -/
abbrev T3 := Int × Int × Int
def zero3 : T3 := (0, 0, 0)

/-- Is a slider valid? -/
def okS (s : T3) : Bool := decide (-100 ≤ s.1 ∧ s.1 ≤ s.2.2 ∧ s.2.2 ≤ s.2.1 ∧ s.2.1 ≤ 100)
theorem okS_iff {s : T3} : okS s = true ↔ -100 ≤ s.1 ∧ s.1 ≤ s.2.2 ∧ s.2.2 ≤ s.2.1 ∧ s.2.1 ≤ 100 := by unfold okS; rw [decide_eq_true_eq]
theorem okS_no {s : T3} (h : okS s = false) : ¬ (-100 ≤ s.1 ∧ s.1 ≤ s.2.2 ∧ s.2.2 ≤ s.2.1 ∧ s.2.1 ≤ 100) := fun h2 => by rw [okS_iff.2 h2] at h; cases h
/-- Where Now stands after a pull by q. -/
def nowV (s : T3) (q : Int) : Int := if okS s = true ∧ -1000 ≤ q ∧ q ≤ 1000 then (if s.2.2 + q < s.1 then s.1 else if s.2.1 < s.2.2 + q then s.2.1 else s.2.2 + q) else s.2.2
def pullS (s : T3) (q : Int) : T3 := (s.1, s.2.1, nowV s q)
theorem nowV_yes {s : T3} {q : Int} (h : okS s = true) (h1 : -1000 ≤ q) (h2 : q ≤ 1000) : nowV s q = if s.2.2 + q < s.1 then s.1 else if s.2.1 < s.2.2 + q then s.2.1 else s.2.2 + q := by unfold nowV; rw [if_pos ⟨h, h1, h2⟩]
theorem nowV_no {s : T3} {q : Int} (h : ¬ (okS s = true ∧ -1000 ≤ q ∧ q ≤ 1000)) : nowV s q = s.2.2 := by unfold nowV; rw [if_neg h]
theorem nowV_zero (s : T3) : nowV s 0 = s.2.2 := by
  unfold nowV
  split
  · rename_i h
    have := okS_iff.1 h.1
    split
    · omega
    · split <;> omega
  · rfl
theorem pull_zero (s : T3) : pullS s 0 = s := by unfold pullS; rw [nowV_zero]
theorem pull_ok {s : T3} (h : okS s = true) (q : Int) : okS (pullS s q) = true := by
  have h1 := okS_iff.1 h
  refine okS_iff.2 ?_
  unfold pullS nowV
  simp only
  split
  · split
    · omega
    · split <;> omega
  · exact h1

/-! ### links -/
def linkB (n : Int) (l : T3) : Bool := decide (0 ≤ l.1 ∧ l.1 < n ∧ 0 ≤ l.2.1 ∧ l.2.1 < n ∧ l.1 ≠ l.2.1 ∧ (l.2.2 = -1 ∨ l.2.2 = 1))
theorem linkB_iff {n : Int} {l : T3} : linkB n l = true ↔ 0 ≤ l.1 ∧ l.1 < n ∧ 0 ≤ l.2.1 ∧ l.2.1 < n ∧ l.1 ≠ l.2.1 ∧ (l.2.2 = -1 ∨ l.2.2 = 1) := by unfold linkB; rw [decide_eq_true_eq]
theorem linkB_no {n : Int} {l : T3} (h : linkB n l = false) : ¬ (0 ≤ l.1 ∧ l.1 < n ∧ 0 ≤ l.2.1 ∧ l.2.1 < n ∧ l.1 ≠ l.2.1 ∧ (l.2.2 = -1 ∨ l.2.2 = 1)) := fun h2 => by rw [linkB_iff.2 h2] at h; cases h
/-- Is there a link from i to j? -/
def edge (ls : List T3) (i j : Nat) : Bool := ls.any fun l => decide (l.1 = (i : Int) ∧ l.2.1 = (j : Int))
theorem edge_iff {ls : List T3} {i j : Nat} : edge ls i j = true ↔ ∃ l ∈ ls, l.1 = (i : Int) ∧ l.2.1 = (j : Int) := by
  unfold edge
  rw [List.any_eq_true]
  constructor
  · rintro ⟨l, h, h2⟩; exact ⟨l, h, by simpa using h2⟩
  · rintro ⟨l, h, h2⟩; exact ⟨l, h, by simpa using h2⟩
/-- Do links lead from i to j, by way of sliders below m alone? -/
def reach (e : Nat → Nat → Bool) : Nat → Nat → Nat → Bool
  | 0, i, j => e i j
  | m + 1, i, j => reach e m i j || (reach e m i m && reach e m m j)
theorem reach_zero (e : Nat → Nat → Bool) (i j : Nat) : reach e 0 i j = e i j := rfl
theorem reach_succ (e : Nat → Nat → Bool) (m i j : Nat) : reach e (m + 1) i j = (reach e m i j || (reach e m i m && reach e m m j)) := rfl
theorem reach_up {e : Nat → Nat → Bool} {m i j : Nat} (h : reach e m i j = true) : ∀ k, reach e (m + k) i j = true
  | 0 => h
  | k + 1 => by rw [← Nat.add_assoc, reach_succ, reach_up h k]; rfl
theorem reach_mono {e : Nat → Nat → Bool} {m m2 i j : Nat} (hm : m ≤ m2) (h : reach e m i j = true) : reach e m2 i j = true := by
  have := reach_up h (m2 - m)
  rwa [Nat.add_sub_cancel' hm] at this
theorem reach_edge {e : Nat → Nat → Bool} {i j : Nat} (h : e i j = true) (m : Nat) : reach e m i j = true := reach_mono (Nat.zero_le m) (m := 0) h
theorem reach_cases {e : Nat → Nat → Bool} {m i j : Nat} (h : reach e (m + 1) i j = true) : reach e m i j = true ∨ (reach e m i m = true ∧ reach e m m j = true) := by
  rw [reach_succ] at h
  simpa [Bool.or_eq_true, Bool.and_eq_true] using h
theorem reach_via {e : Nat → Nat → Bool} {m i j : Nat} (h1 : reach e m i m = true) (h2 : reach e m m j = true) : reach e (m + 1) i j = true := by
  rw [reach_succ, h1, h2]; simp
theorem reach_trans {e : Nat → Nat → Bool} : ∀ {m i k j : Nat}, k < m → reach e m i k = true → reach e m k j = true → reach e m i j = true := by
  intro m
  induction m with
  | zero => intro i k j h; omega
  | succ m ih =>
    intro i k j hk h1 h2
    by_cases e2 : k = m
    · subst e2
      have a1 : reach e k i k = true := by exact (reach_cases h1).elim id And.left
      have a2 : reach e k k j = true := by exact (reach_cases h2).elim id And.right
      exact reach_via a1 a2
    · have hk : k < m := by omega
      rcases reach_cases h1 with a | ⟨a1, a2⟩
      · rcases reach_cases h2 with b | ⟨b1, b2⟩
        · exact reach_mono (Nat.le_succ m) (ih hk a b)
        · exact reach_via (ih hk a b1) b2
      · rcases reach_cases h2 with b | ⟨b1, b2⟩
        · exact reach_via a1 (ih hk a2 b)
        · exact reach_via a1 b2
theorem reach_in {e : Nat → Nat → Bool} {n : Nat} (he : ∀ i j, e i j = true → i < n ∧ j < n) : ∀ {m i j : Nat}, reach e m i j = true → i < n ∧ j < n := by
  intro m
  induction m with
  | zero => intro i j h; exact he i j h
  | succ m ih =>
    intro i j h
    rcases reach_cases h with a | ⟨a, b⟩
    · exact ih a
    · exact ⟨(ih a).1, (ih b).2⟩
theorem reach_far {e : Nat → Nat → Bool} {n : Nat} (he : ∀ i j, e i j = true → i < n ∧ j < n) {m : Nat} (hm : n ≤ m) (i j : Nat) : reach e m i j = reach e n i j := by
  induction m with
  | zero => rw [show n = 0 by omega]
  | succ m ih =>
    by_cases hn : n = m + 1
    · rw [hn]
    · rw [reach_succ, ← ih (by omega)]
      have : reach e m i m = false := by
        cases h : reach e m i m with
        | false => rfl
        | true => have := (reach_in he h).2; omega
      rw [this]; simp
/-- Nothing that goes through m alone turns in the round of m. -/
theorem reach_col (e : Nat → Nat → Bool) (m i : Nat) : reach e (m + 1) i m = reach e m i m := by rw [reach_succ]; cases reach e m i m <;> simp
theorem reach_row (e : Nat → Nat → Bool) (m j : Nat) : reach e (m + 1) m j = reach e m m j := by rw [reach_succ]; cases reach e m m j <;> simp

def circleB (ls : List T3) : Bool := (List.range 8).any fun i => reach (edge ls) 8 i i
theorem circle_no {ls : List T3} (h : circleB ls = false) (i : Nat) (hi : i < 8) : reach (edge ls) 8 i i = false := by
  unfold circleB at h
  rw [List.any_eq_false] at h
  simpa using h i (List.mem_range.2 hi)
theorem circle_yes {ls : List T3} {i : Nat} (hi : i < 8) (h : reach (edge ls) 8 i i = true) : circleB ls = true := by
  unfold circleB
  rw [List.any_eq_true]
  exact ⟨i, List.mem_range.2 hi, h⟩
theorem circle_not {ls : List T3} (h : ∀ i, i < 8 → reach (edge ls) 8 i i = false) : circleB ls = false := by
  unfold circleB
  rw [List.any_eq_false]
  intro i hi
  simpa using h i (List.mem_range.1 hi)
def linksB (n : Int) (ls : List T3) : Bool := decide (1 ≤ n ∧ n ≤ 8 ∧ ls.length ≤ 12) && (ls.all (linkB n) && !circleB ls)
theorem linksB_iff {n : Int} {ls : List T3} : linksB n ls = true ↔ (1 ≤ n ∧ n ≤ 8 ∧ ls.length ≤ 12) ∧ (∀ l ∈ ls, linkB n l = true) ∧ circleB ls = false := by
  unfold linksB
  rw [Bool.and_eq_true, Bool.and_eq_true, decide_eq_true_eq, List.all_eq_true, Bool.not_eq_true']
theorem linksB_no {n : Int} {ls : List T3} (h : ¬ ((1 ≤ n ∧ n ≤ 8 ∧ ls.length ≤ 12) ∧ (∀ l ∈ ls, linkB n l = true) ∧ circleB ls = false)) : linksB n ls = false := by
  cases hc : linksB n ls with
  | false => rfl
  | true => exact absurd (linksB_iff.1 hc) h
theorem edge_in {n : Nat} {ls : List T3} (h : ∀ l ∈ ls, linkB (n : Int) l = true) : ∀ i j, edge ls i j = true → i < n ∧ j < n := by
  intro i j he
  obtain ⟨l, hl, h1, h2⟩ := edge_iff.1 he
  have := linkB_iff.1 (h l hl)
  omega

/-! ### how many lead to a slider -/
def cntB (p : Nat → Bool) : Nat → Nat
  | 0 => 0
  | n + 1 => cntB p n + if p n = true then 1 else 0
theorem cntB_le (p : Nat → Bool) : ∀ n, cntB p n ≤ n
  | 0 => Nat.le_refl _
  | n + 1 => by have := cntB_le p n; unfold cntB; split <;> omega
theorem cntB_mono {p q : Nat → Bool} : ∀ n, (∀ i, i < n → p i = true → q i = true) → cntB p n ≤ cntB q n
  | 0, _ => Nat.le_refl _
  | n + 1, h => by
    have ih := cntB_mono n fun i hi => h i (by omega)
    unfold cntB
    by_cases hp : p n = true
    · rw [if_pos hp, if_pos (h n (by omega) hp)]; omega
    · rw [if_neg hp]; split <;> omega
theorem cntB_lt {p q : Nat → Bool} : ∀ n, (∀ i, i < n → p i = true → q i = true) → ∀ k, k < n → p k = false → q k = true → cntB p n < cntB q n
  | 0, _, k, hk, _, _ => by omega
  | n + 1, h, k, hk, h1, h2 => by
    have hm := cntB_mono n fun i hi => h i (by omega)
    unfold cntB
    by_cases e : k = n
    · subst e
      rw [if_neg (by rw [h1]; simp), if_pos h2]; omega
    · have ih := cntB_lt n (fun i hi => h i (by omega)) k (by omega) h1 h2
      by_cases hp : p n = true
      · rw [if_pos hp, if_pos (h n (by omega) hp)]; omega
      · rw [if_neg hp]; split <;> omega
/-- How many of the n sliders lead to v. -/
def rank (ls : List T3) (n v : Nat) : Nat := cntB (fun u => reach (edge ls) 8 u v) n
theorem rank_le (ls : List T3) (n v : Nat) : rank ls n v ≤ n := cntB_le _ _
theorem rank_lt {n : Nat} {ls : List T3} (hn : n ≤ 8) (hl : ∀ l ∈ ls, linkB (n : Int) l = true) (hc : circleB ls = false) {l : T3} (hm : l ∈ ls) : rank ls n l.1.toNat < rank ls n l.2.1.toNat := by
  have hb := linkB_iff.1 (hl l hm)
  have he : edge ls l.1.toNat l.2.1.toNat = true := edge_iff.2 ⟨l, hm, by omega, by omega⟩
  have hr := reach_edge he 8
  exact cntB_lt n (fun i hi h => reach_trans (by omega) h hr) l.1.toNat (by omega) (circle_no hc _ (by omega)) hr

/-! ### the rounds -/
theorem snoc_ind {p : List T3 → Prop} (h0 : p []) (h1 : ∀ l x, p l → p (l ++ [x])) (l : List T3) : p l := by
  have key : ∀ l : List T3, p l.reverse := by
    intro l
    induction l with
    | nil => exact h0
    | cons x l ih => rw [List.reverse_cons]; exact h1 _ _ ih
  have := key l.reverse
  rwa [List.reverse_reverse] at this
abbrev Moves := Nat → Int
def noMove : Moves := fun _ => 0
/-- One link's pull, by the moves of the round before. -/
def stepR (mv : Moves) (st : List T3 × Moves) (l : T3) : List T3 × Moves :=
  (st.1.set l.2.1.toNat (pullS (st.1.getD l.2.1.toNat zero3) (l.2.2 * mv l.1.toNat)),
   fun i => if i = l.2.1.toNat then st.2 i + (nowV (st.1.getD l.2.1.toNat zero3) (l.2.2 * mv l.1.toNat) - (st.1.getD l.2.1.toNat zero3).2.2) else st.2 i)
/-- The first links of a round. -/
def part (mv : Moves) (S : List T3) (ls : List T3) : List T3 × Moves := ls.foldl (stepR mv) (S, noMove)
def roundR (ls : List T3) (st : List T3 × Moves) : List T3 × Moves := part st.2 st.1 ls
theorem part_nil (mv : Moves) (S : List T3) : part mv S [] = (S, noMove) := rfl
theorem part_snoc (mv : Moves) (S ls : List T3) (l : T3) : part mv S (ls ++ [l]) = stepR mv (part mv S ls) l := by unfold part; rw [List.foldl_append]; rfl
theorem part_take (mv : Moves) (S ls : List T3) (k : Nat) (h : k < ls.length) : part mv S (ls.take (k + 1)) = stepR mv (part mv S (ls.take k)) ls[k] := by rw [List.take_succ_eq_append_getElem h, part_snoc]

/-- The sliders R and their moves m come of the sliders S. -/
structure Came (S R : List T3) (m : Moves) : Prop where
  len : R.length = S.length
  ok : ∀ s ∈ R, okS s = true
  low : ∀ i, i < S.length → (R.getD i zero3).1 = (S.getD i zero3).1
  high : ∀ i, i < S.length → (R.getD i zero3).2.1 = (S.getD i zero3).2.1
  move : ∀ i, i < S.length → m i = (R.getD i zero3).2.2 - (S.getD i zero3).2.2
  out : ∀ i, S.length ≤ i → m i = 0
theorem getD_mem {l : List T3} {i : Nat} (h : i < l.length) : l.getD i zero3 ∈ l := by
  rw [List.getD_eq_getElem?_getD, List.getElem?_eq_getElem h]; exact List.getElem_mem h
theorem getD_at {l : List T3} {i : Nat} (h : i < l.length) : l.getD i zero3 = l[i] := by
  rw [List.getD_eq_getElem?_getD, List.getElem?_eq_getElem h]; rfl
theorem getD_set (l : List T3) (i j : Nat) (x : T3) (h : i < l.length) : (l.set i x).getD j zero3 = if j = i then x else l.getD j zero3 := by
  simp only [List.getD_eq_getElem?_getD, List.getElem?_set]
  by_cases e : j = i
  · subst e; simp [h]
  · rw [if_neg e, if_neg (fun x => e x.symm)]
theorem Came.start {S : List T3} (h : ∀ s ∈ S, okS s = true) : Came S S noMove :=
  ⟨rfl, h, fun _ _ => rfl, fun _ _ => rfl, fun i _ => by unfold noMove; omega, fun _ _ => rfl⟩
theorem Came.step {S R : List T3} {m : Moves} (h : Came S R m) (mv : Moves) (l : T3) (ht : l.2.1.toNat < S.length) : Came S (stepR mv (R, m) l).1 (stepR mv (R, m) l).2 := by
  have htR : l.2.1.toNat < R.length := by rw [h.len]; exact ht
  unfold stepR
  simp only
  refine ⟨by rw [List.length_set]; exact h.len, fun s hs => ?_, fun i hi => ?_, fun i hi => ?_, fun i hi => ?_, fun i hi => ?_⟩
  · rcases List.mem_or_eq_of_mem_set hs with h1 | rfl
    · exact h.ok s h1
    · exact pull_ok (h.ok _ (getD_mem htR)) _
  · rw [getD_set _ _ _ _ htR]
    split
    · rename_i e; subst e; exact h.low _ ht
    · exact h.low i hi
  · rw [getD_set _ _ _ _ htR]
    split
    · rename_i e; subst e; exact h.high _ ht
    · exact h.high i hi
  · rw [getD_set _ _ _ _ htR]
    by_cases e : i = l.2.1.toNat
    · subst e
      rw [if_pos rfl, if_pos rfl, h.move _ ht]
      show _ = nowV _ _ - _
      omega
    · rw [if_neg e, if_neg e]; exact h.move i hi
  · rw [if_neg (by omega)]; exact h.out i hi
theorem Came.part {S : List T3} (h : ∀ s ∈ S, okS s = true) (mv : Moves) : ∀ ls : List T3, (∀ l ∈ ls, l.2.1.toNat < S.length) → Came S (part mv S ls).1 (part mv S ls).2 := by
  refine snoc_ind ?_ ?_
  · intro _; exact .start h
  · intro ls l ih hl
    rw [part_snoc]
    exact (ih fun x hx => hl x (List.mem_append_left _ hx)).step mv l (hl l (by simp))
theorem Came.bound {S R : List T3} {m : Moves} (h : Came S R m) (hS : ∀ s ∈ S, okS s = true) (i : Nat) : -200 ≤ m i ∧ m i ≤ 200 := by
  by_cases hi : i < S.length
  · rw [h.move i hi]
    have h1 := okS_iff.1 (hS _ (getD_mem hi))
    have h2 := okS_iff.1 (h.ok _ (getD_mem (show i < R.length by rw [h.len]; exact hi)))
    omega
  · rw [h.out i (by omega)]; omega

/-- What moved was pulled by one that had moved. -/
theorem part_from (mv : Moves) (S : List T3) : ∀ (ls : List T3) (i : Nat), (part mv S ls).2 i ≠ 0 → ∃ l ∈ ls, l.2.1.toNat = i ∧ mv l.1.toNat ≠ 0 := by
  refine snoc_ind ?_ ?_
  · intro i h; exact absurd rfl h
  · intro ls l ih i h
    rw [part_snoc] at h
    have old : (part mv S ls).2 i ≠ 0 → ∃ l' ∈ ls ++ [l], l'.2.1.toNat = i ∧ mv l'.1.toNat ≠ 0 := fun h2 => by
      obtain ⟨l', hm, h3⟩ := ih i h2
      exact ⟨l', List.mem_append_left _ hm, h3⟩
    unfold stepR at h
    simp only at h
    by_cases e : i = l.2.1.toNat
    · subst e
      rw [if_pos rfl] at h
      by_cases hz : mv l.1.toNat = 0
      · rw [hz, Int.mul_zero, nowV_zero] at h
        exact old (by omega)
      · exact ⟨l, by simp, rfl, hz⟩
    · rw [if_neg e] at h
      exact old h
theorem step_still (mv : Moves) (R : List T3) (m : Moves) (l : T3) (hz : mv l.1.toNat = 0) : stepR mv (R, m) l = (R, m) := by
  unfold stepR
  simp only
  rw [hz, Int.mul_zero, pull_zero, nowV_zero]
  refine Prod.ext ?_ (funext fun i => ?_)
  · show R.set _ _ = R
    by_cases h : l.2.1.toNat < R.length
    · rw [getD_at h]; exact List.set_getElem_self h
    · exact List.set_eq_of_length_le (by omega)
  · show (if _ then m i + _ else m i) = m i
    rw [show ∀ x : Int, m i + (x - x) = m i from fun x => by omega]
    split <;> rfl
theorem part_still (mv : Moves) (S : List T3) : ∀ ls : List T3, (∀ l ∈ ls, mv l.1.toNat = 0) → part mv S ls = (S, noMove) := by
  refine snoc_ind ?_ ?_
  · intro _; rfl
  · intro ls l ih h
    rw [part_snoc, ih fun x hx => h x (List.mem_append_left _ hx)]
    exact step_still _ _ _ _ (h l (by simp))

def itr (ls : List T3) (st : List T3 × Moves) : Nat → List T3 × Moves
  | 0 => st
  | r + 1 => roundR ls (itr ls st r)
theorem itr_succ (ls : List T3) (st : List T3 × Moves) (r : Nat) : itr ls st (r + 1) = part (itr ls st r).2 (itr ls st r).1 ls := rfl

/-- A list of sliders, links, and the slider that is pulled: all as PullAll asks. -/
structure Fit (n : Nat) (L ls : List T3) (k : Nat) : Prop where
  len : L.length = n
  most : n ≤ 8
  few : ls.length ≤ 12
  ok : ∀ s ∈ L, okS s = true
  link : ∀ l ∈ ls, linkB (n : Int) l = true
  free : circleB ls = false
  k : k < n
section
variable {n k : Nat} {L ls : List T3}
/-- The first pull. -/
def first (L : List T3) (k : Nat) (q : Int) : List T3 × Moves :=
  (L.set k (pullS (L.getD k zero3) q), fun i => if i = k then nowV (L.getD k zero3) q - (L.getD k zero3).2.2 else 0)
def st (L ls : List T3) (k : Nat) (q : Int) (r : Nat) : List T3 × Moves := itr ls (first L k q) r
theorem st_zero (L ls : List T3) (k : Nat) (q : Int) : st L ls k q 0 = first L k q := rfl
theorem st_succ (L ls : List T3) (k : Nat) (q : Int) (r : Nat) : st L ls k q (r + 1) = part (st L ls k q r).2 (st L ls k q r).1 ls := rfl
theorem Fit.to (h : Fit n L ls k) : ∀ l ∈ ls, l.2.1.toNat < n := fun l hl => by have := linkB_iff.1 (h.link l hl); omega
theorem Fit.from (h : Fit n L ls k) : ∀ l ∈ ls, l.1.toNat < n := fun l hl => by have := linkB_iff.1 (h.link l hl); omega
/-- Each round's sliders come of those of the round before; their moves are small. -/
theorem Fit.first_came (h : Fit n L ls k) (q : Int) : Came L (first L k q).1 (first L k q).2 := by
  have hk : k < L.length := by rw [h.len]; exact h.k
  unfold first
  refine ⟨by simp, fun s hs => ?_, fun i hi => ?_, fun i hi => ?_, fun i hi => ?_, fun i hi => ?_⟩
  · rcases List.mem_or_eq_of_mem_set hs with h1 | rfl
    · exact h.ok s h1
    · exact pull_ok (h.ok _ (getD_mem hk)) _
  · simp only; rw [getD_set _ _ _ _ hk]
    split
    · rename_i e; subst e; rfl
    · rfl
  · simp only; rw [getD_set _ _ _ _ hk]
    split
    · rename_i e; subst e; rfl
    · rfl
  · simp only; rw [getD_set _ _ _ _ hk]
    by_cases e : i = k
    · subst e; rw [if_pos rfl, if_pos rfl]; rfl
    · rw [if_neg e, if_neg e]; omega
  · simp only; rw [if_neg (by omega)]
theorem Fit.st_ok (h : Fit n L ls k) (q : Int) : ∀ r, (st L ls k q r).1.length = n ∧ (∀ s ∈ (st L ls k q r).1, okS s = true) ∧ (∀ i, -200 ≤ (st L ls k q r).2 i ∧ (st L ls k q r).2 i ≤ 200) ∧ (∀ i, n ≤ i → (st L ls k q r).2 i = 0) ∧ (∀ i, i < n → ((st L ls k q r).1.getD i zero3).1 = (L.getD i zero3).1 ∧ ((st L ls k q r).1.getD i zero3).2.1 = (L.getD i zero3).2.1) := by
  intro r
  induction r with
  | zero =>
    have hc := h.first_came q
    have hb := hc.bound h.ok
    exact ⟨by rw [st_zero, hc.len, h.len], hc.ok, hb, fun i hi => hc.out i (by rw [h.len]; exact hi), fun i hi => ⟨hc.low i (by rw [h.len]; exact hi), hc.high i (by rw [h.len]; exact hi)⟩⟩
  | succ r ih =>
    obtain ⟨h1, h2, _, _, h5⟩ := ih
    rw [st_succ]
    have hc : Came (st L ls k q r).1 _ _ := Came.part h2 (st L ls k q r).2 ls (fun l hl => by rw [h1]; exact h.to l hl)
    refine ⟨by rw [hc.len, h1], hc.ok, hc.bound h2, fun i hi => hc.out i (by rw [h1]; exact hi), fun i hi => ?_⟩
    have := h5 i hi
    exact ⟨(hc.low i (by rw [h1]; exact hi)).trans this.1, (hc.high i (by rw [h1]; exact hi)).trans this.2⟩
theorem Fit.came (h : Fit n L ls k) (q : Int) (r m : Nat) : Came (st L ls k q r).1 (part (st L ls k q r).2 (st L ls k q r).1 (ls.take m)).1 (part (st L ls k q r).2 (st L ls k q r).1 (ls.take m)).2 := by
  obtain ⟨h1, h2, _⟩ := h.st_ok q r
  exact Came.part h2 _ _ (fun l hl => by rw [h1]; exact h.to l (List.mem_of_mem_take hl))
/-- Whoever moves in round r has r sliders at least that lead to it. -/
theorem Fit.late (h : Fit n L ls k) (q : Int) : ∀ r v, (st L ls k q r).2 v ≠ 0 → r ≤ rank ls n v := by
  intro r
  induction r with
  | zero => intro v _; exact Nat.zero_le _
  | succ r ih =>
    intro v hv
    rw [st_succ] at hv
    obtain ⟨l, hl, rfl, h2⟩ := part_from _ _ _ _ hv
    have h3 := ih _ h2
    have h4 := rank_lt h.most h.link h.free hl
    omega
theorem Fit.rest (h : Fit n L ls k) (q : Int) (v : Nat) : (st L ls k q (n + 1)).2 v = 0 := by
  by_cases hz : (st L ls k q (n + 1)).2 v = 0
  · exact hz
  · have := h.late q _ v hz
    have := rank_le ls n v
    omega
/-- Once nothing moves, nothing moves any more. -/
theorem Fit.stays (h : Fit n L ls k) (q : Int) {r : Nat} (hz : ∀ v, v < n → (st L ls k q r).2 v = 0) : ∀ m, (st L ls k q (r + m)).1 = (st L ls k q r).1 ∧ ∀ v, v < n → (st L ls k q (r + m)).2 v = 0
  | 0 => ⟨rfl, hz⟩
  | m + 1 => by
    obtain ⟨h1, h2⟩ := h.stays q hz m
    rw [← Nat.add_assoc, st_succ, part_still _ _ _ fun l hl => h2 _ (h.from l hl)]
    exact ⟨h1, fun _ _ => rfl⟩
theorem Fit.same (h : Fit n L ls k) (q : Int) {r : Nat} (hz : ∀ v, v < n → (st L ls k q r).2 v = 0) : (st L ls k q r).1 = (st L ls k q (n + 1)).1 := by
  rcases Nat.le_total r (n + 1) with hr | hr
  · have := (h.stays q hz (n + 1 - r)).1
    rw [Nat.add_sub_cancel' hr] at this
    exact this.symm
  · have := (h.stays q (r := n + 1) (fun v _ => h.rest q v) (r - (n + 1))).1
    rwa [Nat.add_sub_cancel' hr] at this
/-- A round in which something moves is an early one. -/
theorem Fit.early (h : Fit n L ls k) (q : Int) {r v : Nat} (hv : (st L ls k q r).2 v ≠ 0) : r ≤ n := by
  have := h.late q r v hv
  have := rank_le ls n v
  omega
end

/-! ### what PullAll and IsSpent return -/
def pullB (L ls : List T3) (k q : Int) : Bool := linksB (L.length : Int) ls && (L.all okS && decide (0 ≤ k ∧ k < (L.length : Int) ∧ -100 ≤ q ∧ q ≤ 100))
def pullL (L ls : List T3) (k q : Int) : List T3 := if pullB L ls k q = true then (st L ls k.toNat q (L.length + 1)).1 else L
theorem pullB_iff {L ls : List T3} {k q : Int} : pullB L ls k q = true ↔ linksB (L.length : Int) ls = true ∧ (∀ s ∈ L, okS s = true) ∧ 0 ≤ k ∧ k < (L.length : Int) ∧ -100 ≤ q ∧ q ≤ 100 := by
  unfold pullB
  rw [Bool.and_eq_true, Bool.and_eq_true, decide_eq_true_eq, List.all_eq_true]
theorem pullB_no {L ls : List T3} {k q : Int} (h : ¬ (linksB (L.length : Int) ls = true ∧ (∀ s ∈ L, okS s = true) ∧ 0 ≤ k ∧ k < (L.length : Int) ∧ -100 ≤ q ∧ q ≤ 100)) : pullB L ls k q = false := by
  cases hc : pullB L ls k q with
  | false => rfl
  | true => exact absurd (pullB_iff.1 hc) h
theorem pullL_no {L ls : List T3} {k q : Int} (h : pullB L ls k q = false) : pullL L ls k q = L := by unfold pullL; rw [h]; rfl
theorem pull_fit {L ls : List T3} {k q : Int} (h : pullB L ls k q = true) : Fit L.length L ls k.toNat ∧ (k.toNat : Int) = k ∧ -100 ≤ q ∧ q ≤ 100 ∧ pullL L ls k q = (st L ls k.toNat q (L.length + 1)).1 := by
  obtain ⟨h1, h2, h3, h4, h5, h6⟩ := pullB_iff.1 h
  obtain ⟨⟨a1, a2, a3⟩, a4, a5⟩ := linksB_iff.1 h1
  exact ⟨⟨rfl, by omega, a3, h2, a4, a5, by omega⟩, by omega, h5, h6, by unfold pullL; rw [if_pos h]⟩
theorem pullL_length (L ls : List T3) (k q : Int) : (pullL L ls k q).length = L.length := by
  cases h : pullB L ls k q with
  | false => rw [pullL_no h]
  | true =>
    obtain ⟨hf, _, _, _, he⟩ := pull_fit h
    rw [he]; exact (hf.st_ok q _).1
def spentB (L : List T3) : Bool := L.all fun s => okS s && (decide (s.2.2 = s.1) || decide (s.2.2 = s.2.1))
end Go.Proofs.Ytmjknjgfcngacaa.Slide

/- What the property of chapter 17 says of sliders: pure. -/
import Derived.Test.YtmjknjgfcngacaaSlideMath
namespace Go.Proofs.Ytmjknjgfcngacaa.Slide
set_option linter.unusedVariables false

section
variable {n k : Nat} {L ls : List T3}
/-- A slider that no link leads to stays in a round. -/
theorem part_kept (mv : Moves) (S : List T3) {i : Nat} : ∀ ls : List T3, (∀ l ∈ ls, l.2.1.toNat < S.length ∧ l.2.1.toNat ≠ i) → (part mv S ls).1.length = S.length ∧ (part mv S ls).1.getD i zero3 = S.getD i zero3 := by
  refine snoc_ind ?_ ?_
  · intro _; exact ⟨rfl, rfl⟩
  · intro ls l ih h
    obtain ⟨h1, h2⟩ := ih fun x hx => h x (List.mem_append_left _ hx)
    obtain ⟨a1, a2⟩ := h l (by simp)
    rw [part_snoc]
    unfold stepR
    simp only
    rw [List.length_set, getD_set _ _ _ _ (by rw [h1]; exact a1), if_neg (fun e => a2 e.symm)]
    exact ⟨h1, h2⟩
theorem Fit.kept (h : Fit n L ls k) (q : Int) {i : Nat} (hi : i ≠ k) (hl : ∀ l ∈ ls, l.2.1 ≠ (i : Int)) : ∀ r, (st L ls k q r).1.getD i zero3 = L.getD i zero3 := by
  intro r
  induction r with
  | zero =>
    rw [st_zero]
    unfold first
    simp only
    rw [getD_set _ _ _ _ (by rw [h.len]; exact h.k), if_neg hi]
  | succ r ih =>
    rw [st_succ, (part_kept _ _ ls fun l hm => ?_).2, ih]
    have h1 := h.to l hm
    have h2 := linkB_iff.1 (h.link l hm)
    have h3 := hl l hm
    rw [(h.st_ok q r).1]
    exact ⟨h1, by omega⟩
/-- A pull by nothing moves nothing. -/
theorem Fit.still (h : Fit n L ls k) : ∀ r, (st L ls k 0 r).1 = L ∧ ∀ v, (st L ls k 0 r).2 v = 0 := by
  intro r
  induction r with
  | zero =>
    rw [st_zero]
    unfold first
    simp only
    rw [pull_zero, getD_at (by rw [h.len]; exact h.k), List.set_getElem_self, nowV_zero]
    exact ⟨rfl, fun v => by split <;> omega⟩
  | succ r ih =>
    rw [st_succ, part_still _ _ ls fun l _ => ih.2 _]
    exact ⟨ih.1, fun _ => rfl⟩
end

/-- One slider of those that PullAll hands back. -/
theorem pull_at {L ls : List T3} {k q : Int} (h : pullB L ls k q = true) {i : Nat} (hi : i < L.length) (hP : i < (pullL L ls k q).length) :
    okS (pullL L ls k q)[i] = true ∧ (pullL L ls k q)[i].1 = L[i].1 ∧ (pullL L ls k q)[i].2.1 = L[i].2.1 ∧ ((i : Int) ≠ k → (∀ l ∈ ls, l.2.1 ≠ (i : Int)) → (pullL L ls k q)[i] = L[i]) ∧ (q = 0 → (pullL L ls k q)[i] = L[i]) := by
  obtain ⟨hf, hk, _, _, he⟩ := pull_fit h
  obtain ⟨a1, a2, _, _, a5⟩ := hf.st_ok q (L.length + 1)
  have e1 := getD_at hP
  have e2 := getD_at hi
  have hm := getD_mem hP
  rw [← e1, ← e2]
  rw [he] at hm ⊢
  refine ⟨a2 _ hm, (a5 i hi).1, (a5 i hi).2, fun h1 h2 => hf.kept q (by omega) h2 _, fun hq => ?_⟩
  subst hq
  rw [(hf.still _).1]
/-- One link from one slider to another is free. -/
theorem links_one : linksB 2 [(0, 1, -1)] = true := by
  have key : ∀ m i j, reach (edge [(0, 1, -1)]) m i j = true → i = 0 ∧ j = 1 := by
    intro m
    induction m with
    | zero =>
      intro i j h
      rw [reach_zero, edge_iff] at h
      obtain ⟨l, hl, h1, h2⟩ := h
      have : l = (0, 1, -1) := by simpa using hl
      subst this
      simp only at h1 h2
      omega
    | succ m ih =>
      intro i j h
      rcases reach_cases h with h1 | ⟨h1, h2⟩
      · exact ih i j h1
      · exact ⟨(ih _ _ h1).1, (ih _ _ h2).2⟩
  refine linksB_iff.2 ⟨⟨by decide, by decide, by decide⟩, fun l hl => ?_, circle_not fun i hi => ?_⟩
  · have : l = (0, 1, -1) := by simpa using hl
    subst this
    decide
  · cases h : reach (edge [(0, 1, -1)]) 8 i i with
    | false => rfl
    | true => have := key _ _ _ h; omega
/-- Pulled as far as can be, a slider is at its ends. -/
theorem pull_top {x y z : Int} (h : okS (x, y, z) = true) : nowV (x, y, z) 1000 = y := by
  have ho := okS_iff.1 h
  simp only at ho
  rw [nowV_yes h (by decide) (by decide)]
  simp only
  (repeat' split) <;> omega
theorem pull_low {x y z : Int} (h : okS (x, y, z) = true) : nowV (x, y, z) (-1000) = x := by
  have ho := okS_iff.1 h
  simp only at ho
  rw [nowV_yes h (by decide) (by decide)]
  simp only
  (repeat' split) <;> omega
theorem spent_two {x y z : Int} (h : okS (x, y, z) = true) : spentB [(x, y, y), (x, y, x)] = true := by
  have ho := okS_iff.1 h
  simp only at ho
  have h1 : okS (x, y, y) = true := okS_iff.2 (by simp only; omega)
  have h2 : okS (x, y, x) = true := okS_iff.2 (by simp only; omega)
  unfold spentB
  simp [h1, h2]
/-- What the property compares a pull with. -/
theorem pull_max {x y z q : Int} (h : okS (x, y, z) = true) (h0 : -1000 ≤ q) (h1 : q ≤ 1000) : nowV (x, y, z) q = max x (min y (z + q)) := by
  have ho := okS_iff.1 h
  simp only at ho
  rw [nowV_yes h h0 h1]
  simp only
  (repeat' split) <;> omega
/-- Whether a slider is pulled first, or some of the first links leads to it. -/
def linkedB (ls : List T3) (i k : Int) (m : Nat) : Bool := decide (i = k) || (ls.take m).any fun l => decide (l.2.1 = i)
theorem linked_start (ls : List T3) (i k : Int) : linkedB ls i k 0 = decide (i = k) := by unfold linkedB; simp
theorem linked_next {ls : List T3} {i k : Int} {m : Nat} (hm : m < ls.length) : linkedB ls i k (m + 1) = (linkedB ls i k m || decide (ls[m].2.1 = i)) := by
  unfold linkedB
  rw [List.take_succ_eq_append_getElem hm, List.any_append, Bool.or_assoc]
  simp
theorem linked_not {ls : List T3} {i k : Int} (h : linkedB ls i k ls.length = false) : i ≠ k ∧ ∀ l ∈ ls, l.2.1 ≠ i := by
  unfold linkedB at h
  rw [List.take_length, Bool.or_eq_false_iff, decide_eq_false_iff_not, List.any_eq_false] at h
  exact ⟨h.1, fun l hl e => h.2 l hl (decide_eq_true e)⟩
/-- Whether the first sliders are valid too. -/
theorem good_next {L : List T3} {b : Bool} {i : Nat} (hi : i < L.length) : (b && (L.take (i + 1)).all okS) = ((b && (L.take i).all okS) && okS L[i]) := by
  rw [List.take_succ_eq_append_getElem hi, List.all_append, Bool.and_assoc]
  simp
end Go.Proofs.Ytmjknjgfcngacaa.Slide

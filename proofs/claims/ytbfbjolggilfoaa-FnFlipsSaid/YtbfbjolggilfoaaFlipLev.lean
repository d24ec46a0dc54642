/- The levels of the ways: strips that are as far below the last one, each with its number of ways from the first one. Pure mathematics. -/
import Derived.Test.YtbfbjolggilfoaaFlipMath
import Derived.Test.YtbfbjolggilfoaaCornerSpec
namespace Go.Proofs.Ytbfbjolggilfoaa.Flip
open Go.Proofs.Ytbfbjolggilfoaa.Strip Go.Proofs.Ytbfbjolggilfoaa.Kerf Go.Proofs.Ytbfbjolggilfoaa.Order Go.Proofs.Ytbfbjolggilfoaa.Corner
set_option linter.unusedVariables false

/-! ### how many ways there can be -/
theorem next_letter {l t : List UInt8} {k : Nat} (h : nextB l t k = true) : l.getD k 0 = 102 := by
  obtain ⟨h1, _⟩ := next_facts h
  obtain ⟨_, k1, k2, a, b, e, ea, _, _⟩ := corner_parts (.inl ⟨rfl, rfl⟩) h1
  rw [e, ← ea]; simp [List.getD]
theorem nexts_ff (l t : List UInt8) : ∀ n, n ≤ l.length → ((List.range n).filter (nextB l t)).length ≤ ff l n
  | 0, _ => by simp
  | n + 1, h => by
    have ih := nexts_ff l t n (by omega)
    rw [List.range_succ, List.filter_append, List.length_append, ff_succ l n (by omega)]
    cases hx : nextB l t n with
    | false => simp [hx]; omega
    | true =>
      have e := next_letter hx
      rw [if_pos e]
      simp [hx]; omega
theorem nexts_eight (l t : List UInt8) : (nexts l t).length ≤ 8 := by
  cases h : aboveB t l with
  | false => rw [nexts_not h]; simp
  | true =>
    have h1 := nexts_ff l t l.length (Nat.le_refl _)
    rw [ff_all l _ (Nat.le_refl _)] at h1
    have h2 := stripB_frame (above_strip h).1
    unfold frameB at h2
    simp only [decide_eq_true_eq] at h2
    have h3 : (nexts l t).length ≤ cnt 102 l := h1
    omega
theorem wy_eight : ∀ (n : Nat) (l t : List UInt8), wy n l t ≤ 8 ^ n
  | 0, l, t => by unfold wy; split <;> simp
  | n + 1, l, t => by
    unfold wy
    have h1 := sum_le (fun k => wy n (raiseL l k) t) (8 ^ n) (nexts l t) fun k _ => wy_eight n _ _
    have h2 := Nat.mul_le_mul_right (8 ^ n) (nexts_eight l t)
    rw [Nat.pow_succ, Nat.mul_comm (8 ^ n) 8]
    omega
theorem wy_tiny {n : Nat} (h : n ≤ 12) (l t : List UInt8) : wy n l t ≤ 68719476736 := by
  have h1 := wy_eight n l t
  have h2 : 8 ^ n ≤ 8 ^ 12 := Nat.pow_le_pow_right (by decide) h
  have h3 : (8 : Nat) ^ 12 = 68719476736 := by decide
  omega

/-! ### the ways through the first valleys of a strip -/
def part (m : Nat) (x t : List UInt8) (k : Nat) : Nat := (((List.range k).filter (nextB x t)).map fun j => wy m (raiseL x j) t).sum
theorem part_zero (m : Nat) (x t : List UInt8) : part m x t 0 = 0 := rfl
theorem part_yes {m : Nat} {x t : List UInt8} {k : Nat} (h : nextB x t k = true) : part m x t (k + 1) = part m x t k + wy m (raiseL x k) t := by
  unfold part; rw [List.range_succ]; simp [h]
theorem part_no {m : Nat} {x t : List UInt8} {k : Nat} (h : nextB x t k = false) : part m x t (k + 1) = part m x t k := by
  unfold part; rw [List.range_succ]; simp [h]
theorem part_one (m : Nat) (x t : List UInt8) : part m x t 1 = 0 := by
  rw [part_no, part_zero]
  unfold nextB
  rw [corner_no _ _ _ (.inr (by omega))]; rfl
theorem part_all (m : Nat) (x t : List UInt8) : part m x t x.length = wy (m + 1) x t := rfl
theorem part_mono (m : Nat) (x t : List UInt8) (k : Nat) : ∀ d, part m x t k ≤ part m x t (k + d)
  | 0 => Nat.le_refl _
  | d + 1 => by
    have ih := part_mono m x t k d
    rw [← Nat.add_assoc]
    cases h : nextB x t (k + d) with
    | false => rw [part_no h]; exact ih
    | true => rw [part_yes h]; omega
theorem part_le {m : Nat} {x t : List UInt8} {k : Nat} (h : k ≤ x.length) : part m x t k ≤ wy (m + 1) x t := by
  rw [← part_all]
  have := part_mono m x t k (x.length - k)
  rwa [show k + (x.length - k) = x.length by omega] at this

/-! ### a level -/
/-- The sum of the numbers, each times the ways that lead on. -/
def tot (m : Nat) (t : List UInt8) : List ByteArray → List Int → Int
  | x :: ns, c :: ws => c * (wy m x.data.toList t : Int) + tot m t ns ws
  | _, _ => 0
theorem tot_cons (m : Nat) (t : List UInt8) (x : ByteArray) (ns : List ByteArray) (c : Int) (ws : List Int) : tot m t (x :: ns) (c :: ws) = c * (wy m x.data.toList t : Int) + tot m t ns ws := rfl
theorem tot_snoc (m : Nat) (t : List UInt8) (x : ByteArray) (c : Int) : ∀ (ns : List ByteArray) (ws : List Int), ns.length = ws.length → tot m t (ns ++ [x]) (ws ++ [c]) = tot m t ns ws + c * (wy m x.data.toList t : Int)
  | [], [], _ => by show c * _ + 0 = 0 + _; omega
  | y :: ns, d :: ws, h => by
    show d * _ + tot m t (ns ++ [x]) (ws ++ [c]) = d * _ + tot m t ns ws + _
    rw [tot_snoc m t x c ns ws (by simpa using h)]; omega
  | [], _ :: _, h => by cases h
  | _ :: _, [], h => by cases h
theorem tot_set (m : Nat) (t : List UInt8) (d : Int) : ∀ (ns : List ByteArray) (ws : List Int) (j : Nat) (h : ns.length = ws.length) (hj : j < ns.length), tot m t ns (ws.set j (ws[j]'(by omega) + d)) = tot m t ns ws + d * (wy m (ns[j]).data.toList t : Int)
  | y :: ns, c :: ws, 0, h, hj => by
    show (c + d) * _ + tot m t ns ws = c * _ + tot m t ns ws + d * _
    rw [Int.add_mul]
    show _ = c * _ + tot m t ns ws + d * (wy m y.data.toList t : Int)
    omega
  | y :: ns, c :: ws, j + 1, h, hj => by
    show c * _ + tot m t ns (ws.set j (ws[j]'(by simp at h hj; omega) + d)) = c * _ + tot m t ns ws + d * _
    rw [tot_set m t d ns ws j (by simpa using h) (by simpa using hj)]
    show _ = c * _ + tot m t ns ws + d * (wy m (ns[j]'(by simpa using hj)).data.toList t : Int)
    omega
  | [], _, j, h, hj => by cases hj
  | _ :: _, [], j, h, hj => by cases h

structure Lev (m : Nat) (t : List UInt8) (ns : List ByteArray) (ws : List Int) : Prop where
  len : ns.length = ws.length
  lev : ∀ x ∈ ns, aboveB t x.data.toList = true ∧ areaI x.data.toList t = (m : Int)
  pos : ∀ c ∈ ws, 1 ≤ c
  dup : ns.Nodup

theorem mul_ge {c : Int} {n : Nat} (hc : 1 ≤ c) (hn : 1 ≤ n) : c ≤ c * (n : Int) ∧ 1 ≤ c * (n : Int) := by
  have h1 : c * 1 ≤ c * (n : Int) := Int.mul_le_mul_of_nonneg_left (by omega) (by omega)
  omega
theorem tot_len (m : Nat) (t : List UInt8) : ∀ (ns : List ByteArray) (ws : List Int), Lev m t ns ws → (ns.length : Int) ≤ tot m t ns ws
  | [], [], _ => by show (0 : Int) ≤ 0; omega
  | x :: ns, c :: ws, h => by
    have ih := tot_len m t ns ws ⟨by simpa using h.len, fun y hy => h.lev y (List.mem_cons_of_mem _ hy), fun y hy => h.pos y (List.mem_cons_of_mem _ hy), (List.nodup_cons.1 h.dup).2⟩
    obtain ⟨h1, h2⟩ := h.lev x List.mem_cons_self
    have h3 := (mul_ge (h.pos c List.mem_cons_self) (wy_pos m h1 h2)).2
    rw [tot_cons, List.length_cons]
    omega
  | [], _ :: _, h => by cases h.len
  | _ :: _, [], h => by cases h.len
/-- The numbers before i, the number at i and all of them. -/
theorem tot_at (m : Nat) (t : List UInt8) : ∀ (ns : List ByteArray) (ws : List Int) (i : Nat) (h : Lev m t ns ws) (hi : i < ns.length),
    tot m t (ns.take (i + 1)) (ws.take (i + 1)) = tot m t (ns.take i) (ws.take i) + (ws[i]'(by have := h.len; omega)) * (wy m (ns[i]).data.toList t : Int) ∧
    tot m t (ns.take (i + 1)) (ws.take (i + 1)) ≤ tot m t ns ws ∧ 0 ≤ tot m t (ns.take i) (ws.take i) ∧ 1 ≤ ws[i]'(by have := h.len; omega)
  | x :: ns, c :: ws, 0, h, hi => by
    have hr : Lev m t ns ws := ⟨by simpa using h.len, fun y hy => h.lev y (List.mem_cons_of_mem _ hy), fun y hy => h.pos y (List.mem_cons_of_mem _ hy), (List.nodup_cons.1 h.dup).2⟩
    have h0 := tot_len m t ns ws hr
    refine ⟨?_, ?_, ?_, ?_⟩
    · show c * (wy m x.data.toList t : Int) + 0 = 0 + c * (wy m x.data.toList t : Int)
      omega
    · show c * (wy m x.data.toList t : Int) + 0 ≤ c * (wy m x.data.toList t : Int) + tot m t ns ws
      omega
    · exact Int.le_refl 0
    · exact h.pos c List.mem_cons_self
  | x :: ns, c :: ws, i + 1, h, hi => by
    have hr : Lev m t ns ws := ⟨by simpa using h.len, fun y hy => h.lev y (List.mem_cons_of_mem _ hy), fun y hy => h.pos y (List.mem_cons_of_mem _ hy), (List.nodup_cons.1 h.dup).2⟩
    obtain ⟨h1, h2, h3, h4⟩ := tot_at m t ns ws i hr (by simpa using hi)
    obtain ⟨g1, g2⟩ := h.lev x List.mem_cons_self
    have h5 := (mul_ge (h.pos c List.mem_cons_self) (wy_pos m g1 g2)).2
    refine ⟨?_, ?_, ?_, ?_⟩
    · show c * (wy m x.data.toList t : Int) + tot m t (ns.take (i + 1)) (ws.take (i + 1)) = c * (wy m x.data.toList t : Int) + tot m t (ns.take i) (ws.take i) + (ws[i]'(by have := hr.len; simp at hi; omega)) * (wy m (ns[i]'(by simpa using hi)).data.toList t : Int)
      omega
    · show c * (wy m x.data.toList t : Int) + tot m t (ns.take (i + 1)) (ws.take (i + 1)) ≤ c * (wy m x.data.toList t : Int) + tot m t ns ws
      omega
    · show 0 ≤ c * (wy m x.data.toList t : Int) + tot m t (ns.take i) (ws.take i)
      omega
    · exact h4
  | [], _, i, h, hi => by cases hi
  | _ :: _, [], i, h, hi => by cases h.len

theorem lev_le {m : Nat} {t : List UInt8} {ns : List ByteArray} {ws : List Int} (h : Lev m t ns ws) {j : Nat} (hj : j < ws.length) : 1 ≤ ws[j] ∧ ws[j] ≤ tot m t ns ws := by
  have hn : j < ns.length := by have := h.len; omega
  obtain ⟨h1, h2, h3, h4⟩ := tot_at m t ns ws j h hn
  obtain ⟨g1, g2⟩ := h.lev ns[j] (List.getElem_mem hn)
  have h5 := (mul_ge h4 (wy_pos m g1 g2)).1
  exact ⟨h4, by omega⟩
theorem lev_nil (m : Nat) (t : List UInt8) : Lev m t [] [] := ⟨rfl, fun _ h => (by cases h), fun _ h => (by cases h), List.nodup_nil⟩
/-- The number of a strip that was met before grows. -/
theorem lev_found {m : Nat} {t : List UInt8} {ns : List ByteArray} {ws : List Int} (h : Lev m t ns ws) {j : Nat} (hj : j < ns.length) {d : Int} (hd : 1 ≤ d) :
    Lev m t ns (ws.set j ((ws[j]'(by have := h.len; omega)) + d)) := by
  refine ⟨by rw [List.length_set]; exact h.len, h.lev, fun c hc => ?_, h.dup⟩
  rcases List.mem_or_eq_of_mem_set hc with h1 | h1
  · exact h.pos c h1
  · have := h.pos _ (List.getElem_mem (show j < ws.length by have := h.len; omega))
    omega
/-- A strip that is met for the first time. -/
theorem lev_new {m : Nat} {t : List UInt8} {ns : List ByteArray} {ws : List Int} (h : Lev m t ns ws) {x : ByteArray} (hx : x ∉ ns) (h1 : aboveB t x.data.toList = true) (h2 : areaI x.data.toList t = (m : Int)) {d : Int} (hd : 1 ≤ d) :
    Lev m t (ns ++ [x]) (ws ++ [d]) ∧ tot m t (ns ++ [x]) (ws ++ [d]) = tot m t ns ws + d * (wy m x.data.toList t : Int) := by
  refine ⟨⟨by simp [h.len], fun y hy => ?_, fun c hc => ?_, ?_⟩, tot_snoc m t x d ns ws h.len⟩
  · rcases List.mem_append.1 hy with hy | hy
    · exact h.lev y hy
    · rw [List.mem_singleton.1 hy]; exact ⟨h1, h2⟩
  · rcases List.mem_append.1 hc with hc | hc
    · exact h.pos c hc
    · rw [List.mem_singleton.1 hc]; exact hd
  · rw [List.nodup_append]
    refine ⟨h.dup, by simp, fun a ha b hb e => ?_⟩
    rw [List.mem_singleton.1 hb] at e
    rw [e] at ha
    exact hx ha
theorem set_last (ws : List Int) (d : Int) : (ws ++ [0]).set ws.length d = ws ++ [d] := by
  rw [List.set_append_right _ _ (Nat.le_refl _), Nat.sub_self]; rfl
/-- At the end: the last strip alone. -/
theorem lev_end {t : ByteArray} {ns : List ByteArray} {ws : List Int} (h : Lev 0 t.data.toList ns ws) (hp : 1 ≤ tot 0 t.data.toList ns ws) : ws[0]? = some (tot 0 t.data.toList ns ws) := by
  have hall : ∀ x ∈ ns, x = t := fun x hx => by
    obtain ⟨h1, h2⟩ := h.lev x hx
    exact of_list (above_zero h1 h2)
  cases ns with
  | nil =>
    have : tot 0 t.data.toList [] ws = 0 := by cases ws <;> rfl
    omega
  | cons x r =>
    cases r with
    | cons y r =>
      have e1 := hall x (by simp)
      have e2 := hall y (by simp)
      have hd := h.dup
      rw [e1, e2] at hd
      simp at hd
    | nil =>
      cases ws with
      | nil => cases h.len
      | cons c w =>
        have hl : w = [] := by have := h.len; simp at this; first | exact this | exact this.symm | exact List.eq_nil_of_length_eq_zero (by omega)
        subst hl
        obtain rfl : x = t := hall x (by simp)
        show some c = some (c * ((if x.data.toList = x.data.toList then 1 else 0 : Nat) : Int) + 0)
        rw [if_pos rfl]
        simp
theorem lev_start {s t : ByteArray} {n : Nat} (h1 : aboveB t.data.toList s.data.toList = true) (h2 : areaI s.data.toList t.data.toList = (n : Int)) : Lev n t.data.toList [s] [1] ∧ tot n t.data.toList [s] [1] = (wy n s.data.toList t.data.toList : Int) := by
  refine ⟨⟨rfl, fun x hx => by rw [List.mem_singleton.1 hx]; exact ⟨h1, h2⟩, fun c hc => by rw [List.mem_singleton.1 hc]; omega, by simp⟩, ?_⟩
  show 1 * (wy n s.data.toList t.data.toList : Int) + 0 = _
  omega
end Go.Proofs.Ytbfbjolggilfoaa.Flip

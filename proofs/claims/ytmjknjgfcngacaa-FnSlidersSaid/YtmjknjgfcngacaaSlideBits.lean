/- Links as bits: what the rounds of the model's LinksOk make of them. Pure mathematics. -/
import Derived.Test.YtmjknjgfcngacaaSlideMath
import Derived.Laws.BitsLemmas
namespace Go.Proofs.Ytmjknjgfcngacaa.Slide
set_option linter.unusedVariables false

def row (R : List Nat) (i : Nat) : Nat := R.getD i 0
theorem row_set (R : List Nat) (i j x : Nat) (h : i < R.length) : row (R.set i x) j = if j = i then x else row R j := by
  unfold row
  simp only [List.getD_eq_getElem?_getD, List.getElem?_set]
  by_cases e : j = i
  · subst e; simp [h]
  · rw [if_neg e, if_neg (fun x => e x.symm)]
theorem row_at {R : List Nat} {i : Nat} (h : i < R.length) : R[i]? = some (row R i) := by
  unfold row; rw [List.getD_eq_getElem?_getD, List.getElem?_eq_getElem h]; rfl
theorem row_out {R : List Nat} {i : Nat} (h : R.length ≤ i) : row R i = 0 := by
  unfold row; rw [List.getD_eq_getElem?_getD, List.getElem?_eq_none h]; rfl
/-- The rows as the ints in memory. -/
def natL (R : List Nat) : List Int := R.map fun (x : Nat) => (x : Int)
theorem natL_length (R : List Nat) : (natL R).length = R.length := by unfold natL; simp
theorem natL_at {R : List Nat} {i : Nat} (h : i < R.length) : (natL R)[i]? = some (row R i : Int) := by unfold natL; rw [List.getElem?_map, row_at h]; rfl
theorem natL_set (R : List Nat) (i x : Nat) : (natL R).set i (x : Int) = natL (R.set i x) := by unfold natL; rw [List.map_set]
theorem natL_zero (n : Nat) : List.replicate n (0 : Int) = natL (List.replicate n 0) := by unfold natL; rw [List.map_replicate]; rfl

/-! ### bits of ints -/
theorem wraps_i64 (n : Int) (h₀ : 0 ≤ n) (h₁ : n < 2 ^ 8) : IntKind.i64.wrap n = n := by rw [IntKind.wrap_i64]; omega
theorem or_nat {x y : Nat} (hx : x < 256) (hy : y < 256) : bits .or .i64 (x : Int) (y : Int) = ((x ||| y : Nat) : Int) := (bits_nat .i64 8 (by decide) wraps_i64 x y hx hy).2
theorem and_nat {x y : Nat} (hx : x < 256) (hy : y < 256) : bits .and .i64 (x : Int) (y : Int) = ((x &&& y : Nat) : Int) := (bits_nat .i64 8 (by decide) wraps_i64 x y hx hy).1
theorem or_small {x y : Nat} (hx : x < 256) (hy : y < 256) : x ||| y < 256 := Nat.or_lt_two_pow (n := 8) hx hy
theorem one_small {t : Nat} (ht : t < 8) : 2 ^ t < 256 := Nat.pow_lt_pow_right (by omega) ht (a := 2) (n := 8)
theorem and_one (x j : Nat) : ((((x / 2 ^ j) &&& 1 : Nat) : Int) == 1) = x.testBit j := by
  rw [Nat.and_one_is_mod, Nat.testBit_eq_decide_div_mod_eq]
  rw [Bool.eq_iff_iff]
  simp only [beq_iff_eq, decide_eq_true_eq]
  omega

/-- Each bit of the rows stands for a way. -/
structure Bits (N : Nat) (e : Nat → Nat → Bool) (R : List Nat) : Prop where
  len : R.length = N
  small : ∀ i, row R i < 256
  hi : ∀ i j, (row R i).testBit j = true → reach e N i j = true
def LoR (e : Nat → Nat → Bool) (s : Nat) (R : List Nat) (i : Nat) : Prop := ∀ j, reach e s i j = true → (row R i).testBit j = true
def Grown (R R2 : List Nat) : Prop := ∀ i j, (row R i).testBit j = true → (row R2 i).testBit j = true
theorem LoR.grown {e : Nat → Nat → Bool} {s i : Nat} {R R2 : List Nat} (h : LoR e s R i) (hg : Grown R R2) : LoR e s R2 i := fun j hj => hg i j (h j hj)
theorem Bits.or {N : Nat} {e : Nat → Nat → Bool} {R : List Nat} (h : Bits N e R) {i j : Nat} (hi : i < N) (hj : j < N) (hb : (row R i).testBit j = true) :
    Bits N e (R.set i (row R i ||| row R j)) ∧ Grown R (R.set i (row R i ||| row R j)) ∧ ∀ t, (row R j).testBit t = true → (row (R.set i (row R i ||| row R j)) i).testBit t = true := by
  have hiR : i < R.length := by rw [h.len]; exact hi
  refine ⟨⟨by rw [List.length_set]; exact h.len, fun u => ?_, fun u v hu => ?_⟩, fun u v hu => ?_, fun t ht => ?_⟩
  · rw [row_set _ _ _ _ hiR]
    split
    · exact or_small (h.small i) (h.small j)
    · exact h.small u
  · rw [row_set _ _ _ _ hiR] at hu
    by_cases e2 : u = i
    · subst e2
      rw [if_pos rfl, Nat.testBit_or, Bool.or_eq_true] at hu
      rcases hu with h1 | h1
      · exact h.hi u v h1
      · exact reach_trans hj (h.hi u j hb) (h.hi j v h1)
    · rw [if_neg e2] at hu; exact h.hi u v hu
  · rw [row_set _ _ _ _ hiR]
    split
    · rename_i e2; subst e2; rw [Nat.testBit_or, hu]; rfl
    · exact hu
  · rw [row_set _ _ _ _ hiR, if_pos rfl, Nat.testBit_or, ht]; simp
/-- Row i in the round of s, once the bits below j have been looked at. -/
structure RoundI (e : Nat → Nat → Bool) (s i j : Nat) (R : List Nat) : Prop where
  all : ∀ u, LoR e s R u
  done : ∀ u, u < i → LoR e (s + 1) R u
  now : s < j → LoR e (s + 1) R i
theorem RoundI.no {e : Nat → Nat → Bool} {s i j : Nat} {R : List Nat} (h : RoundI e s i j R) (hb : (row R i).testBit j = false) : RoundI e s i (j + 1) R := by
  refine ⟨h.all, h.done, fun hs => ?_⟩
  by_cases e2 : s = j
  · subst e2
    intro t ht
    rcases reach_cases ht with h1 | ⟨h1, _⟩
    · exact h.all i t h1
    · rw [h.all i s h1] at hb; cases hb
  · exact h.now (by omega)
theorem RoundI.yes {e : Nat → Nat → Bool} {s i j : Nat} {R R2 : List Nat} (h : RoundI e s i j R) (hg : Grown R R2) (hn : ∀ t, (row R j).testBit t = true → (row R2 i).testBit t = true) : RoundI e s i (j + 1) R2 := by
  refine ⟨fun u => (h.all u).grown hg, fun u hu => (h.done u hu).grown hg, fun hs => ?_⟩
  by_cases e2 : s = j
  · subst e2
    intro t ht
    rcases reach_cases ht with h1 | ⟨_, h2⟩
    · exact hg i t (h.all i t h1)
    · exact hn t (h.all s t h2)
  · exact (h.now (by omega)).grown hg
theorem RoundI.next {e : Nat → Nat → Bool} {s i N : Nat} {R : List Nat} (h : RoundI e s i N R) (hs : s < N) : RoundI e s (i + 1) 0 R :=
  ⟨h.all, fun u hu => by
    by_cases e2 : u = i
    · rw [e2]; exact h.now hs
    · exact h.done u (by omega), fun h0 => by omega⟩
theorem RoundI.over {e : Nat → Nat → Bool} {s N : Nat} {R : List Nat} (h : RoundI e s N 0 R) (he : ∀ i j, e i j = true → i < N ∧ j < N) : ∀ u, LoR e (s + 1) R u := fun u => by
  by_cases hu : u < N
  · exact h.done u hu
  · intro t ht; have := (reach_in he ht).1; omega
theorem RoundI.start {e : Nat → Nat → Bool} {s : Nat} {R : List Nat} (h : ∀ u, LoR e s R u) : RoundI e s 0 0 R := ⟨h, fun u hu => by omega, fun h0 => by omega⟩
/-- At the end the bits are the ways. -/
theorem bits_end {N : Nat} {e : Nat → Nat → Bool} {R : List Nat} (h : Bits N e R) (hl : ∀ u, LoR e N R u) (i j : Nat) : (row R i).testBit j = reach e N i j := by
  cases hr : reach e N i j with
  | true => exact hl i j hr
  | false =>
    cases hb : (row R i).testBit j with
    | false => rfl
    | true => rw [h.hi i j hb] at hr; cases hr
theorem reach_eight {N : Nat} {e : Nat → Nat → Bool} (he : ∀ i j, e i j = true → i < N ∧ j < N) (hN : N ≤ 8) (i : Nat) : reach e 8 i i = reach e N i i := reach_far he hN i i

/-! ### the links' own bits -/
/-- The first k links. -/
structure Own (N : Nat) (e : Nat → Nat → Bool) (R : List Nat) : Prop where
  len : R.length = N
  small : ∀ i, row R i < 256
  bit : ∀ i j, (row R i).testBit j = e i j
theorem Own.zero (N : Nat) : Own N (edge []) (List.replicate N 0) := by
  refine ⟨by simp, fun i => ?_, fun i j => ?_⟩ <;> unfold row <;> rw [List.getD_eq_getElem?_getD, List.getElem?_replicate] <;> split <;> simp [edge]
theorem Own.step {N : Nat} {e e2 : Nat → Nat → Bool} {R : List Nat} (h : Own N e R) {f t : Nat} (hf : f < N) (ht : t < 8) (h2 : ∀ i j, e2 i j = (e i j || decide (i = f ∧ j = t))) : Own N e2 (R.set f (row R f ||| 2 ^ t)) := by
  have hfR : f < R.length := by rw [h.len]; exact hf
  refine ⟨by rw [List.length_set]; exact h.len, fun i => ?_, fun i j => ?_⟩
  · rw [row_set _ _ _ _ hfR]
    split
    · exact or_small (h.small f) (one_small ht)
    · exact h.small i
  · rw [row_set _ _ _ _ hfR, h2]
    by_cases e3 : i = f
    · subst e3
      rw [if_pos rfl, Nat.testBit_or, h.bit, Nat.testBit_two_pow]
      congr 1
      rw [Bool.eq_iff_iff]
      simp only [decide_eq_true_eq, true_and]
      exact ⟨fun x => x.symm, fun x => x.symm⟩
    · rw [if_neg e3, h.bit, decide_eq_false (fun x => e3 x.1), Bool.or_false]
theorem Own.bits {N : Nat} {e : Nat → Nat → Bool} {R : List Nat} (h : Own N e R) : Bits N e R ∧ ∀ u, LoR e 0 R u :=
  ⟨⟨h.len, h.small, fun i j hb => reach_edge (by rw [← h.bit]; exact hb) N⟩, fun u j hj => by rw [h.bit]; exact hj⟩
end Go.Proofs.Ytmjknjgfcngacaa.Slide

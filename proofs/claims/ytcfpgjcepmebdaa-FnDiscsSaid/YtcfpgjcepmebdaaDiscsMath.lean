/- DISCS, purely: what FnDiscs asks of two discs. -/
import Derived.Test.YtcfpgjcepmebdaaDiscSeen
namespace Go.Proofs.Ytcfpgjcepmebdaa.Disc
set_option linter.unusedVariables false

theorem drawn_ok {N M : Nat} {l : List Int} (h2 : 2 ≤ N) (h11 : N ≤ 11) (hM : M < N) (hl : l.length = N) (hs : ∀ x ∈ l, 0 ≤ x ∧ x ≤ 5) : discB (N : Int) (M : Int) l = true :=
  discB_iff.2 ⟨by omega, fun x hx => by have := hs x hx; omega⟩
theorem turn_nat {N M q : Nat} {l : List Int} (h : discB (N : Int) (M : Int) l = true) (hq : q ≤ 1000) : turnV (N : Int) (M : Int) l (q : Int) = (((M + q) % N : Nat) : Int) := by
  unfold turnV
  rw [h, if_pos (by simp; omega), Int.natCast_emod, Int.natCast_add]
theorem turn_back {N M : Nat} {l : List Int} {b : Int} (h : discB (N : Int) (M : Int) l = true) (h0 : -1000 ≤ b) (h1 : b ≤ 1000) : turnV (N : Int) (turnV (N : Int) (M : Int) l b) l (-b) = (M : Int) := by
  have hd := (discB_iff.1 h).1
  have h2 := turn_ok h b
  have e : turnV (N : Int) (M : Int) l b = ((M : Int) + b) % (N : Int) := by
    unfold turnV
    rw [h, if_pos (by simp; omega)]
  rw [e] at h2 ⊢
  unfold turnV
  rw [h2, if_pos (by simp; omega), Int.emod_add_emod, show (M : Int) + b + -b = (M : Int) by omega]
  exact Int.emod_eq_of_lt (by omega) (by omega)
theorem inB_nat {N k : Nat} (h : k < N) : inB (N : Int) (k : Int) = true := by
  unfold inB
  exact decide_eq_true (by omega)
theorem shown_nat {N M k : Nat} {l : List Int} (h : discB (N : Int) (M : Int) l = true) (hk : k < N) : shownV (N : Int) (M : Int) l (k : Int) = pc l (M + k) := by
  unfold shownV
  rw [h, inB_nat hk]
  simp
theorem len_of {N M : Nat} {l : List Int} (h : discB (N : Int) (M : Int) l = true) : l.length = N := by
  have := (discB_iff.1 h).1; omega
theorem now_ok {N M q : Nat} {l : List Int} (h : discB (N : Int) (M : Int) l = true) (hq : q < N) : discB (N : Int) (q : Int) l = true := by
  have hd := discB_iff.1 h
  exact discB_iff.2 ⟨by omega, hd.2⟩
theorem shown_turned {N M q k : Nat} {l : List Int} (h : discB (N : Int) (M : Int) l = true) (hk : k < N) : shownV (N : Int) (((M + q) % N : Nat) : Int) l (k : Int) = pc l (M + q + k) := by
  have hN : 0 < N := by omega
  rw [shown_nat (now_ok h (Nat.mod_lt _ hN)) hk]
  have hl := len_of h
  subst hl
  exact pc_left l (M + q) k
theorem show_nat {N M k : Nat} {l : List Int} {q : Int} (h : discB (N : Int) (M : Int) l = true) (hk : k < N) : showV (N : Int) (M : Int) l (k : Int) q = hitV (fun t => decide (pc l (M + k + t) = q)) N := by
  unfold showV
  rw [h, inB_nat hk, len_of h]
  simp
theorem first_some {N M X : Nat} {l : List Int} (h : discB (N : Int) (M : Int) l = true) (hX : X < N) : ∃ t : Nat, t < N ∧ showV (N : Int) (M : Int) l (X : Int) (pc l 0) = (t : Int) ∧ pc l (M + t + X) = pc l 0 := by
  rw [show_nat h hX]
  have hl := len_of h
  have hN : 0 < N := by omega
  have hr := Nat.mod_lt (M + X) hN
  have hd := Nat.div_add_mod (M + X) N
  obtain ⟨j, hj, he⟩ : ∃ j, j < N ∧ pc l (M + X + j) = pc l 0 := by
    by_cases h0 : (M + X) % N = 0
    · refine ⟨0, hN, ?_⟩
      have e := pc_adds l 0 ((M + X) / N)
      rw [hl] at e
      rw [← e]
      congr 1; omega
    · refine ⟨N - (M + X) % N, by omega, ?_⟩
      have e := pc_adds l 0 ((M + X) / N + 1)
      rw [hl] at e
      rw [← e]
      congr 1
      rw [Nat.mul_succ]; omega
  obtain ⟨t, ht, e, hp⟩ := hit_some (P := fun t => decide (pc l (M + X + t) = pc l 0)) hj (by simpa using he)
  refine ⟨t, ht, e, ?_⟩
  have hp2 : pc l (M + X + t) = pc l 0 := by simpa using hp
  rw [← hp2]
  congr 1; omega
theorem first_zero {N M X : Nat} {l : List Int} (h : discB (N : Int) (M : Int) l = true) (hX : X < N) : showV (N : Int) (M : Int) l (X : Int) (pc l (M + X)) = 0 := by
  rw [show_nat h hX]
  exact hit_at (k := 0) (by omega) (by simp) (fun j hj => by omega)
theorem never_99 {N M X : Nat} {l : List Int} (h : discB (N : Int) (M : Int) l = true) (hX : X < N) (hs : ∀ x ∈ l, 0 ≤ x ∧ x ≤ 5) : showV (N : Int) (M : Int) l (X : Int) 99 = -1 := by
  rw [show_nat h hX]
  refine hit_no fun j hj => ?_
  have := hs _ (pc_mem (by have := len_of h; omega) (M + X + j))
  exact decide_eq_false (by omega)
/-- The first j pictures show the same again after q turns. -/
def eqB (l : List Int) (M q j : Nat) : Bool := decide (∀ i, i < j → pc l (M + q + i) = pc l (M + i))
theorem eqB_zero (l : List Int) (M q : Nat) : eqB l M q 0 = true := by
  unfold eqB
  exact decide_eq_true fun i hi => by omega
theorem eqB_yes {l : List Int} {M q j : Nat} (h : eqB l M q j = true) (he : pc l (M + q + j) = pc l (M + j)) : eqB l M q (j + 1) = true := by
  unfold eqB at *
  simp only [decide_eq_true_eq] at *
  intro i hi
  by_cases e : i = j
  · subst e; exact he
  · exact h i (by omega)
theorem eqB_no {l : List Int} {M q j : Nat} (he : ¬ pc l (M + q + j) = pc l (M + j)) : eqB l M q (j + 1) = false := by
  unfold eqB
  exact decide_eq_false fun h => he (h j (by omega))
theorem eqB_off {l : List Int} {M q j : Nat} (h : eqB l M q j = false) : eqB l M q (j + 1) = false := by
  unfold eqB at *
  exact decide_eq_false fun h2 => of_decide_eq_false h fun i hi => h2 i (by omega)
theorem eqB_end {l : List Int} {M q p : Nat} (hp : IsPer l p) (h1 : 1 ≤ q) (hq : q < p) : eqB l M q l.length = false := by
  cases hb : eqB l M q l.length with
  | false => rfl
  | true =>
    unfold eqB at hb
    simp only [decide_eq_true_eq] at hb
    have := hp.least q h1 (rep_shift hb)
    omega
theorem per_same {l : List Int} {M p k : Nat} (hp : IsPer l p) : pc l (M + p + k) = pc l (M + k) := by
  have := rep_all hp.rep (M + k)
  rw [this]
  congr 1; omega
theorem lcm_facts {N N2 : Nat} (h0 : 0 < N) (h1 : 0 < N2) : 1 ≤ Nat.lcm N N2 ∧ Nat.lcm N N2 % N = 0 ∧ Nat.lcm N N2 % N2 = 0 ∧ Nat.lcm N N2 ≤ N * N2 :=
  ⟨Nat.lcm_pos h0 h1, Nat.mod_eq_zero_of_dvd (Nat.dvd_lcm_left N N2), Nat.mod_eq_zero_of_dvd (Nat.dvd_lcm_right N N2), Nat.le_of_dvd (Nat.mul_pos h0 h1) (Nat.lcm_dvd (Nat.dvd_mul_right N N2) (Nat.dvd_mul_left N2 N))⟩
end Go.Proofs.Ytcfpgjcepmebdaa.Disc

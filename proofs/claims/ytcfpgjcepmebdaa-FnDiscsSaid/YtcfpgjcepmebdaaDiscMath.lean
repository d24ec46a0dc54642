/- DISCS, purely: which discs are valid, what a window shows, the period, the turn. -/
import Derived.Test.YtcfpgjcepmebdaaChecked
namespace Go.Proofs.Ytcfpgjcepmebdaa.Disc
set_option linter.unusedVariables false

/-- A valid disc: its numbers and its pictures. -/
def discB (n m : Int) (l : List Int) : Bool := decide (2 ≤ n ∧ n ≤ 24 ∧ 0 ≤ m ∧ m < n ∧ (l.length : Int) = n) && l.all (fun x => decide (0 ≤ x ∧ x ≤ 99))
theorem discB_iff {n m : Int} {l : List Int} : discB n m l = true ↔ (2 ≤ n ∧ n ≤ 24 ∧ 0 ≤ m ∧ m < n ∧ (l.length : Int) = n) ∧ ∀ x ∈ l, 0 ≤ x ∧ x ≤ 99 := by
  unfold discB
  simp only [Bool.and_eq_true, decide_eq_true_eq, List.all_eq_true]
theorem discB_no {n m : Int} {l : List Int} (h : ¬ (2 ≤ n ∧ n ≤ 24 ∧ 0 ≤ m ∧ m < n ∧ (l.length : Int) = n)) : discB n m l = false := by
  cases hb : discB n m l with
  | false => rfl
  | true => exact absurd (discB_iff.1 hb).1 h
theorem discB_bad {n m : Int} {l : List Int} {k : Nat} (hk : k < l.length) (h : ¬ (0 ≤ l[k] ∧ l[k] ≤ 99)) : discB n m l = false := by
  cases hb : discB n m l with
  | false => rfl
  | true => exact absurd ((discB_iff.1 hb).2 _ (List.getElem_mem hk)) h

/-- The picture at place k around the disc. -/
def pc (l : List Int) (k : Nat) : Int := l.getD (k % l.length) 0
theorem pc_get {l : List Int} {k : Nat} (h : k < l.length) : pc l k = l[k] := by
  unfold pc
  rw [Nat.mod_eq_of_lt h]
  simp [List.getD, h]
theorem pc_at {l : List Int} {k r : Nat} (hr : r < l.length) (h : k % l.length = r) : pc l k = l[r] := by
  unfold pc
  rw [h]
  simp [List.getD, hr]
theorem pc_mod (l : List Int) (k : Nat) : pc l (k % l.length) = pc l k := by
  unfold pc
  rw [Nat.mod_mod]
theorem pc_add (l : List Int) (k : Nat) : pc l (k + l.length) = pc l k := by
  unfold pc
  rw [Nat.add_mod_right]
theorem pc_adds (l : List Int) (k j : Nat) : pc l (k + l.length * j) = pc l k := by
  unfold pc
  rw [Nat.add_mul_mod_self_left]
theorem pc_left (l : List Int) (k j : Nat) : pc l (k % l.length + j) = pc l (k + j) := by
  unfold pc
  rw [Nat.mod_add_mod]
theorem pc_mem {l : List Int} (h : 0 < l.length) (k : Nat) : pc l k ∈ l := by
  have hr : k % l.length < l.length := Nat.mod_lt _ h
  rw [pc_at hr rfl]
  exact List.getElem_mem hr

/-- Each picture is the same as the one p sectors further. -/
def repB (l : List Int) (p : Nat) : Bool := decide (∀ k, k < l.length → pc l k = pc l (k + p))
theorem rep_all {l : List Int} {p : Nat} (h : repB l p = true) (k : Nat) : pc l k = pc l (k + p) := by
  unfold repB at h
  simp only [decide_eq_true_eq] at h
  by_cases h0 : 0 < l.length
  · have h1 := h (k % l.length) (Nat.mod_lt _ h0)
    rw [pc_mod, pc_left] at h1
    exact h1
  · have : l = [] := List.eq_nil_of_length_eq_zero (by omega)
    subst this
    simp [pc]
theorem rep_of {l : List Int} {p : Nat} (h : ∀ k, k < l.length → pc l k = pc l (k + p)) : repB l p = true := by
  unfold repB
  simpa using h
theorem rep_no {l : List Int} {p k : Nat} (hk : k < l.length) (h : pc l k ≠ pc l (k + p)) : repB l p = false := by
  cases hb : repB l p with
  | false => rfl
  | true => exact absurd (rep_all hb k) h
theorem rep_length (l : List Int) : repB l l.length = true := rep_of fun k _ => (pc_add l k).symm
theorem rep_mul {l : List Int} {p : Nat} (h : repB l p = true) (k : Nat) : ∀ j, pc l k = pc l (k + p * j)
  | 0 => by rw [Nat.mul_zero, Nat.add_zero]
  | j + 1 => by rw [rep_mul h k j, rep_all h (k + p * j), Nat.mul_succ, Nat.add_assoc]
/-- A shift of the beginning does not matter. -/
theorem rep_shift {l : List Int} {p m : Nat} (h : ∀ k, k < l.length → pc l (m + p + k) = pc l (m + k)) : repB l p = true := by
  apply rep_of
  intro k hk
  have h0 : 0 < l.length := by omega
  have h1 := h ((k + (l.length - m % l.length)) % l.length) (Nat.mod_lt _ h0)
  have e1 : pc l (m + (k + (l.length - m % l.length)) % l.length) = pc l k := by
    rw [Nat.add_comm m, pc_left]
    have hm := Nat.mod_lt m h0
    have hd := Nat.div_add_mod m l.length
    rw [show k + (l.length - m % l.length) + m = k + l.length * (m / l.length + 1) from by rw [Nat.mul_succ]; omega, pc_adds]
  have e2 : pc l (m + p + (k + (l.length - m % l.length)) % l.length) = pc l (k + p) := by
    rw [Nat.add_comm (m + p), pc_left]
    have hm := Nat.mod_lt m h0
    have hd := Nat.div_add_mod m l.length
    rw [show k + (l.length - m % l.length) + (m + p) = k + p + l.length * (m / l.length + 1) from by rw [Nat.mul_succ]; omega, pc_adds]
  rw [e1, e2] at h1
  exact h1.symm

/-- The period: the least number of sectors after which all pictures repeat. -/
structure IsPer (l : List Int) (p : Nat) : Prop where
  one : 1 ≤ p
  le : p ≤ l.length
  rep : repB l p = true
  least : ∀ j, 1 ≤ j → repB l j = true → p ≤ j
  dvd : l.length % p = 0
theorem least_some (P : Nat → Bool) : ∀ n, P n = true → ∃ k, k ≤ n ∧ P k = true ∧ ∀ j, P j = true → k ≤ j := by
  intro n
  induction n using Nat.strongRecOn with
  | ind n ih =>
    intro h
    by_cases hc : ∃ j, j < n ∧ P j = true
    · obtain ⟨j, hj, hp⟩ := hc
      obtain ⟨k, hk, h1, h2⟩ := ih j hj hp
      exact ⟨k, by omega, h1, h2⟩
    · refine ⟨n, Nat.le_refl _, h, fun j hp => ?_⟩
      by_cases hj : j < n
      · exact absurd ⟨j, hj, hp⟩ hc
      · omega
theorem per_some (l : List Int) (h : 0 < l.length) : ∃ p, IsPer l p := by
  obtain ⟨k, hk, h1, h2⟩ := least_some (fun q => decide (1 ≤ q) && repB l q) l.length (by simp [rep_length]; omega)
  simp only [Bool.and_eq_true, decide_eq_true_eq] at h1 h2
  have hl : ∀ j, 1 ≤ j → repB l j = true → k ≤ j := fun j a b => h2 j ⟨a, b⟩
  refine ⟨k, h1.1, hk, h1.2, hl, ?_⟩
  by_cases h0 : l.length % k = 0
  · exact h0
  · have hr : repB l (l.length % k) = true := rep_of fun q hq => by
      have e1 := rep_mul h1.2 (q + l.length % k) (l.length / k)
      have hd := Nat.mod_add_div l.length k
      rw [Nat.add_assoc, hd, pc_add] at e1
      exact e1.symm
    have := hl _ (by omega) hr
    have := Nat.mod_lt l.length (show 0 < k from h1.1)
    omega
/-- The least divisor with which the pictures repeat is the period. -/
theorem IsPer.same {l : List Int} {p q : Nat} (h : IsPer l p) (hq : 1 ≤ q) (hr : repB l q = true) (hle : q ≤ p) : q = p := by
  have := h.least q hq hr; omega

/-- The first place below n at which P holds. -/
def hitV (P : Nat → Bool) (n : Nat) : Int := match (List.range n).find? P with
  | some k => (k : Int)
  | none => -1
theorem hit_at {P : Nat → Bool} {n k : Nat} (hk : k < n) (hp : P k = true) (hn : ∀ j, j < k → P j = false) : hitV P n = (k : Int) := by
  unfold hitV
  have : (List.range n).find? P = some k := by
    rw [List.find?_range_eq_some]
    exact ⟨hp, List.mem_range.2 hk, fun j hj => by rw [hn j hj]; rfl⟩
  rw [this]
theorem hit_no {P : Nat → Bool} {n : Nat} (hn : ∀ j, j < n → P j = false) : hitV P n = -1 := by
  unfold hitV
  have : (List.range n).find? P = none := by
    rw [List.find?_range_eq_none]
    exact fun j hj => by rw [hn j hj]; rfl
  rw [this]
theorem hit_some {P : Nat → Bool} {n j : Nat} (hj : j < n) (hp : P j = true) : ∃ k, k < n ∧ hitV P n = (k : Int) ∧ P k = true := by
  obtain ⟨k, hk, h1, h2⟩ := least_some P j hp
  refine ⟨k, by omega, hit_at (by omega) h1 (fun i hi => ?_), h1⟩
  cases hb : P i with
  | false => rfl
  | true => have := h2 i hb; omega

def inB (n x : Int) : Bool := decide (0 ≤ x ∧ x < n)
/-- What a window shows. -/
def shownV (n m : Int) (l : List Int) (x : Int) : Int := if discB n m l && inB n x then pc l (m.toNat + x.toNat) else -1
/-- How many turns until it shows the picture q. -/
def showV (n m : Int) (l : List Int) (x q : Int) : Int := if discB n m l && inB n x then hitV (fun t => decide (pc l (m.toNat + x.toNat + t) = q)) l.length else -1
/-- Where the disc stands after a turn. -/
def turnV (n m : Int) (l : List Int) (b : Int) : Int := if discB n m l && decide (-1000 ≤ b ∧ b ≤ 1000) then (m + b) % n else m

theorem tmod_in (x n : Int) (hn : 0 < n) : -n < Int.tmod x n ∧ Int.tmod x n < n := by
  have h1 := Int.tmod_lt_of_pos x hn
  have h2 := Int.tmod_lt_of_pos (-x) hn
  rw [Int.neg_tmod] at h2
  omega
theorem tmod_emod (x n : Int) : (Int.tmod x n) % n = x % n := by
  have h := Int.tmod_add_mul_tdiv x n
  have h2 : x % n = (Int.tmod x n + n * Int.tdiv x n) % n := by rw [h]
  rw [h2, Int.add_mul_emod_self_left]
/-- The model's way of turning. -/
theorem turn_spec_at (m b n : Int) (hn : 0 < n) : Int.tmod (Int.tmod (m + b) n + n) n = (m + b) % n := by
  have h := tmod_in (m + b) n hn
  rw [Int.tmod_eq_emod_of_nonneg (by omega), Int.add_emod_right, tmod_emod]
/-- The program's way of turning. -/
theorem turn_impl_at (m b n : Int) (hn : 0 < n) (hm : 0 ≤ m) : Int.tmod (m + Int.tmod b n + n) n = (m + b) % n := by
  have h := tmod_in b n hn
  rw [Int.tmod_eq_emod_of_nonneg (by omega), Int.add_emod_right, Int.add_emod, tmod_emod, ← Int.add_emod]
theorem turnV_in {n m : Int} {l : List Int} (h : discB n m l = true) (b : Int) : 0 ≤ turnV n m l b ∧ turnV n m l b < n := by
  have hd := (discB_iff.1 h).1
  unfold turnV
  split
  · exact ⟨Int.emod_nonneg _ (by omega), Int.emod_lt_of_pos _ (by omega)⟩
  · omega
theorem turn_ok {n m : Int} {l : List Int} (h : discB n m l = true) (b : Int) : discB n (turnV n m l b) l = true := by
  have ht := turnV_in h b
  have hd := discB_iff.1 h
  exact discB_iff.2 ⟨⟨hd.1.1, hd.1.2.1, ht.1, ht.2, hd.1.2.2.2.2⟩, hd.2⟩
end Go.Proofs.Ytcfpgjcepmebdaa.Disc

/- The tiles of a valid card: letters, places and what belongs together. -/
import Derived.Test.YtmmlaelllpnchaaFaceMath
import Derived.Test.YtmmlaelllpnchaaCard
namespace Go.Proofs.Ytmmlaelllpnchaa.Face
open Go.Proofs.Ytmmlaelllpnchaa.Strip Go.Proofs.Ytmmlaelllpnchaa.Card Go.Proofs.Ytmmlaelllpnchaa.Faces
set_option linter.unusedVariables false

def stripL (l : List ByteArray) (k : Nat) : List UInt8 := (l.getD k ⟨#[]⟩).data.toList
/-- Is there a tile i in strip k? -/
def tileB (l : List ByteArray) (n : Nat) (k i : Int) : Bool := decide (0 ≤ k ∧ k < (l.length : Int) ∧ 0 ≤ i ∧ i < (n : Int))
/-- Steps forward and down ahead of a tile, and its letter. -/
def spF (l : List ByteArray) (n : Nat) (k i : Int) : Int := if tileB l n k i = true then (cnt 102 ((stripL l k.toNat).take i.toNat) : Int) else 0
def spD (l : List ByteArray) (n : Nat) (k i : Int) : Int := if tileB l n k i = true then (cnt 100 ((stripL l k.toNat).take i.toNat) : Int) else 0
def spS (l : List ByteArray) (n : Nat) (k i : Int) : ByteArray := if tileB l n k i = true then ⟨#[(stripL l k.toNat).getD i.toNat 0]⟩ else ⟨#[]⟩

def letter (l : List ByteArray) (n t : Nat) : UInt8 := (stripL l (t / n)).getD (t % n) 0
def fwd (l : List ByteArray) (n t : Nat) : Nat := cnt 102 ((stripL l (t / n)).take (t % n))
def px (n t : Nat) : Int := ((t / n : Nat) : Int)
def py (n t : Nat) : Int := ((t % n : Nat) : Int)

def net (l : List ByteArray) (n : Nat) (hn : 1 ≤ n) : Net where
  m := l.length * n
  n := n
  c t := decide (1 ≤ t % n) && (letter l n t == letter l n (t - 1))
  e t := decide (n ≤ t) && ((letter l n t == letter l n (t - n)) && decide (fwd l n t = fwd l n (t - n)))
  hc t h := by
    simp only [Bool.and_eq_true, decide_eq_true_eq] at h
    have := Nat.mod_le t n
    omega
  he t h := by
    simp only [Bool.and_eq_true, decide_eq_true_eq] at h
    exact h.1
  hn := hn

variable {l : List ByteArray} {n : Nat}

theorem tile_at (hn : 1 ≤ n) {t : Nat} (ht : t < l.length * n) : tileB l n (px n t) (py n t) = true := by
  have h1 : t / n < l.length := Nat.div_lt_of_lt_mul (by rw [Nat.mul_comm]; exact ht)
  have h2 : t % n < n := Nat.mod_lt _ hn
  exact decide_eq_true ⟨Int.natCast_nonneg _, Int.ofNat_lt.2 h1, Int.natCast_nonneg _, Int.ofNat_lt.2 h2⟩

theorem tile_mk (hn : 1 ≤ n) {k i : Int} (h : tileB l n k i = true) : ∃ t, t < l.length * n ∧ k = px n t ∧ i = py n t ∧ (t : Int) = k * n + i := by
  unfold tileB at h
  simp at h
  obtain ⟨h1, h2, h3, h4⟩ := h
  obtain ⟨a, rfl⟩ := Int.eq_ofNat_of_zero_le h1
  obtain ⟨b, rfl⟩ := Int.eq_ofNat_of_zero_le h3
  have ha : a < l.length := by omega
  have hb : b < n := by omega
  refine ⟨a * n + b, ?_, ?_, ?_, by push_cast; rfl⟩
  · calc a * n + b < a * n + n := by omega
      _ = (a + 1) * n := by rw [Nat.add_mul]; omega
      _ ≤ l.length * n := Nat.mul_le_mul_right n ha
  · unfold px
    rw [Nat.mul_comm a n, Nat.mul_add_div hn, Nat.div_eq_of_lt hb, Nat.add_zero]
  · unfold py
    rw [Nat.mul_comm a n, Nat.mul_add_mod, Nat.mod_eq_of_lt hb]

theorem px_inj (hn : 1 ≤ n) {t u : Nat} (h1 : px n t = px n u) (h2 : py n t = py n u) : t = u := by
  unfold px at h1
  unfold py at h2
  have e1 : t / n = u / n := by omega
  have e2 : t % n = u % n := by omega
  rw [← Nat.div_add_mod t n, ← Nat.div_add_mod u n, e1, e2]

theorem sp_at (hn : 1 ≤ n) {t : Nat} (ht : t < l.length * n) : spF l n (px n t) (py n t) = (fwd l n t : Int) ∧ spD l n (px n t) (py n t) = (cnt 100 ((stripL l (t / n)).take (t % n)) : Int) ∧ spS l n (px n t) (py n t) = ⟨#[letter l n t]⟩ := by
  have h := tile_at hn ht
  unfold spF spD spS fwd letter
  rw [if_pos h, if_pos h, if_pos h, show (px n t).toNat = t / n from Int.toNat_natCast _, show (py n t).toNat = t % n from Int.toNat_natCast _]
  exact ⟨rfl, rfl, rfl⟩

theorem sp_out {k i : Int} (h : tileB l n k i = false) : spF l n k i = 0 ∧ spD l n k i = 0 ∧ spS l n k i = ⟨#[]⟩ := by
  unfold spF spD spS
  simp [h]

theorem one_ne (x : UInt8) : (⟨#[x]⟩ : ByteArray) ≠ ⟨#[]⟩ := fun h => by
  have := congrArg ByteArray.size h
  simp [ByteArray.size] at this
theorem one_inj {x y : UInt8} : (⟨#[x]⟩ : ByteArray) = ⟨#[y]⟩ ↔ x = y := by simp

/-- Steps down and forward ahead of a tile: all its steps. -/
theorem both_sum {d f : Int} (hb : cardB d f l = true) (hn : (n : Int) = d + f) {t : Nat} (ht : t < l.length * n) :
    (stripL l (t / n)).length = n ∧ okL (stripL l (t / n)) = true ∧ cnt 100 ((stripL l (t / n)).take (t % n)) + fwd l n t = t % n := by
  have hp := (cardB_iff.1 hb)
  have hfr : 1 ≤ d ∧ d ≤ 8 ∧ 1 ≤ f ∧ f ≤ 8 := by
    have := hp.1
    unfold frameB at this
    simp at this
    omega
  have h1 : t / n < l.length := Nat.div_lt_of_lt_mul (by rw [Nat.mul_comm]; exact ht)
  have h2 : t % n < n := Nat.mod_lt _ (by omega)
  have hg := hp.2.2.2 l[t / n] (List.getElem_mem _)
  have hs : stripL l (t / n) = l[t / n].data.toList := by unfold stripL; simp [List.getD, h1]
  unfold goodB numV at hg
  simp only [decide_eq_true_eq] at hg
  have hok : stripB l[t / n].data.toList = true := by
    by_cases h : stripB l[t / n].data.toList = true
    · exact h
    · rw [if_neg h, if_neg h] at hg; omega
  rw [if_pos hok, if_pos hok] at hg
  have hsum := cnt_sum _ (stripB_ok hok)
  have hlen : (stripL l (t / n)).length = n := by rw [hs]; omega
  refine ⟨hlen, by rw [hs]; exact stripB_ok hok, ?_⟩
  have h3 := cnt_sum ((stripL l (t / n)).take (t % n)) (by
    have := stripB_ok hok
    rw [← hs] at this
    unfold okL at *
    rw [List.all_eq_true] at *
    exact fun b hb => this b (List.mem_of_mem_take hb))
  rw [List.length_take, hlen] at h3
  unfold fwd
  omega
end Go.Proofs.Ytmmlaelllpnchaa.Face

/- The mathematics of chapter 16: bridges that are glued to strips. -/
import Derived.Test.YthigiemgdejdhaaAreaMath
namespace Go.Proofs.Ythigiemgdejdhaa.Tab
open Go.Proofs.Ythigiemgdejdhaa.Strip Go.Proofs.Ythigiemgdejdhaa.Kerf Go.Proofs.Ythigiemgdejdhaa.Order Go.Proofs.Ythigiemgdejdhaa.Area
set_option linter.unusedVariables false

/-! ### the strip, the steps under the bridge, the way over it -/
def partL (l : List UInt8) (p q : Nat) : List UInt8 := (l.take q).drop p
def wayL (l : List UInt8) (p q : Nat) (b : List UInt8) : List UInt8 := l.take p ++ b ++ l.drop q
/-- A bridge can be glued to l at both places. -/
def spanB (l : List UInt8) (p q : Int) : Bool := stripB l && decide (0 ≤ p ∧ p < q ∧ q ≤ l.length)
/-- What BridgeOk returns: the way over the bridge is a strip above l. -/
def okB (l : List UInt8) (p q : Int) (b : List UInt8) : Bool := spanB l p q && aboveB (wayL l p.toNat q.toNat b) l
/-- .. and as the model asks for it. -/
def nowhereB (b c : List UInt8) : Bool := (List.range (b.length + 1)).all fun k => decide (ff c k ≤ ff b k)
def okM (l : List UInt8) (p q : Int) (b : List UInt8) : Bool :=
  spanB l p q && decide ((b.length : Int) = q - p) && (decide (cnt 100 b = cnt 100 (partL l p.toNat q.toNat)) && decide (cnt 102 b = cnt 102 (partL l p.toNat q.toNat)) && nowhereB b (partL l p.toNat q.toNat))
/-- What BridgedStrip returns. -/
def bridgeL (l : List UInt8) (p q : Int) (b : List UInt8) : List UInt8 := if okB l p q b = true then wayL l p.toNat q.toNat b else []
/-- What RoomBetween returns. -/
def roomB (l : List UInt8) (p q : Int) (b : List UInt8) : Int := areaI l (bridgeL l p q b)
/-- What IsLoose returns. -/
def looseB (l : List UInt8) (p q : Int) (b : List UInt8) : Bool :=
  okB l p q b && (List.range b.length).all fun k => decide (k = 0 ∨ ff b k ≠ ff (partL l p.toNat q.toNat) k)
/-- What BridgeCount returns. -/
def countV (l : List UInt8) (p q : Int) : Int := if spanB l p q = true then (aboveN (partL l p.toNat q.toNat) : Int) else 0

theorem span_iff {l : List UInt8} {p q : Int} : spanB l p q = true ↔ stripB l = true ∧ 0 ≤ p ∧ p < q ∧ q ≤ l.length := by
  unfold spanB; simp
theorem cnt_cat (x : UInt8) (a b : List UInt8) : cnt x (a ++ b) = cnt x a + cnt x b := by unfold cnt; exact List.count_append
theorem ff_cat (a b : List UInt8) (k : Nat) : ff (a ++ b) k = ff a k + ff b (k - a.length) := by
  unfold ff
  rw [List.take_append, cnt_cat]
theorem okL_cat (a b : List UInt8) : okL (a ++ b) = (okL a && okL b) := by unfold okL; exact List.all_append
theorem part_length {l : List UInt8} {p q : Nat} (hq : q ≤ l.length) : (partL l p q).length = q - p := by
  unfold partL
  rw [List.length_drop, List.length_take]
  omega
/-- The strip is cut into three parts. -/
theorem three (l : List UInt8) {p q : Nat} (hpq : p ≤ q) : wayL l p q (partL l p q) = l := by
  unfold wayL partL
  have h : l.take p = (l.take q).take p := by rw [List.take_take, Nat.min_eq_left hpq]
  rw [h, List.take_append_drop, List.take_append_drop]
theorem way_length {l : List UInt8} {p q : Nat} (hpq : p ≤ q) (hq : q ≤ l.length) (b : List UInt8) : (wayL l p q b).length = l.length - (q - p) + b.length := by
  unfold wayL
  rw [List.length_append, List.length_append, List.length_take, List.length_drop]
  omega
/-- .. and the way over a bridge of as many steps as are under it. -/
theorem way_cnt {l : List UInt8} {p q : Nat} (hpq : p ≤ q) (b : List UInt8) (x : UInt8) : cnt x (wayL l p q b) + cnt x (partL l p q) = cnt x l + cnt x b := by
  have h := congrArg (cnt x) (three l hpq)
  unfold wayL at *
  rw [cnt_cat, cnt_cat] at h ⊢
  omega
theorem way_ff {l : List UInt8} {p q : Nat} (hpq : p ≤ q) (hq : q ≤ l.length) {b : List UInt8} (hb : b.length = q - p) (k : Nat) :
    ff (wayL l p q b) k + ff (partL l p q) (k - p) = ff l k + ff b (k - p) := by
  have hl : (l.take p).length = p := by rw [List.length_take]; omega
  have h : ff l k = ff (l.take p) k + ff (partL l p q) (k - p) + ff (l.drop q) (k - q) := by
    have h : ff (wayL l p q (partL l p q)) k = ff l k := congrArg (fun m => ff m k) (three l hpq)
    unfold wayL at h
    rw [ff_cat, ff_cat, List.length_append, hl, part_length hq, show k - (p + (q - p)) = k - q from by omega] at h
    exact h.symm
  rw [h]
  unfold wayL
  rw [ff_cat, ff_cat, List.length_append, hl, hb, show k - (p + (q - p)) = k - q from by omega]
  omega
theorem part_ok {l : List UInt8} (h : okL l = true) (p q : Nat) : okL (partL l p q) = true := by
  unfold partL okL at *
  rw [List.all_eq_true] at *
  intro x hx
  exact h x (List.mem_of_mem_take (List.mem_of_mem_drop hx))
theorem part_cnt (l : List UInt8) (p q : Nat) (x : UInt8) : cnt x (partL l p q) ≤ cnt x l := by
  unfold partL cnt
  exact List.Sublist.count_le _ ((List.drop_sublist _ _).trans (List.take_sublist _ _))
/-- As many letters d and f as there are letters: there is no other one. -/
theorem ok_of : ∀ l : List UInt8, l.length ≤ cnt 100 l + cnt 102 l → okL l = true
  | [], _ => rfl
  | b :: l, h => by
    have hle : ∀ m : List UInt8, cnt 100 m + cnt 102 m ≤ m.length := by
      intro m
      induction m with
      | nil => exact Nat.le_refl _
      | cons c m ih =>
        unfold cnt at *
        rw [List.count_cons, List.count_cons, List.length_cons]
        by_cases h1 : c = 100
        · subst h1; simp; omega
        · by_cases h2 : c = 102
          · subst h2; simp; omega
          · simp [h1, h2]; omega
    have hm := hle l
    have ih := ok_of l
    unfold okL at ih ⊢
    rw [List.all_cons]
    unfold cnt at h hm ih
    rw [List.count_cons, List.count_cons, List.length_cons] at h
    by_cases h1 : b = 100
    · subst h1
      simp at h
      rw [ih (by omega)]; rfl
    · by_cases h2 : b = 102
      · subst h2
        simp at h
        rw [ih (by omega)]; rfl
      · exfalso
        simp [h1, h2] at h
        omega

/-- Both ways of asking are one. -/
theorem ok_both (l : List UInt8) (p q : Int) (b : List UInt8) : okM l p q b = okB l p q b := by
  unfold okM okB
  cases hs : spanB l p q with
  | false => rfl
  | true =>
    obtain ⟨h1, h2, h3, h4⟩ := span_iff.1 hs
    obtain ⟨P, rfl⟩ : ∃ P : Nat, p = (P : Int) := ⟨p.toNat, by omega⟩
    obtain ⟨Q, rfl⟩ : ∃ Q : Nat, q = (Q : Int) := ⟨q.toNat, by omega⟩
    have hpq : P ≤ Q := by omega
    have hql : Q ≤ l.length := by omega
    rw [Bool.true_and, Bool.true_and, Int.toNat_natCast, Int.toNat_natCast, Bool.eq_iff_iff, Bool.and_eq_true, Bool.and_eq_true, Bool.and_eq_true, above_iff]
    simp only [decide_eq_true_eq]
    have hpl := part_length (p := P) hql
    have hw := way_length hpq hql b
    have c1 := way_cnt (l := l) hpq b 100
    have c2 := way_cnt (l := l) hpq b 102
    have hsum := cnt_sum _ (part_ok (stripB_ok h1) P Q)
    constructor
    · rintro ⟨g1, ⟨g2, g3⟩, g4⟩
      have hb : b.length = Q - P := by omega
      have hob : okL b = true := ok_of b (by omega)
      have how : okL (wayL l P Q b) = true := by
        have h5 := congrArg okL (three l hpq)
        rw [stripB_ok h1] at h5
        unfold wayL at h5 ⊢
        rw [okL_cat, okL_cat, Bool.and_eq_true, Bool.and_eq_true] at h5
        rw [okL_cat, okL_cat, h5.1.1, hob, h5.2]; rfl
      have e1 : cnt 100 (wayL l P Q b) = cnt 100 l := by omega
      have e2 : cnt 102 (wayL l P Q b) = cnt 102 l := by omega
      refine ⟨same_of ?_ h1 e1 e2, fun k hk => ?_⟩
      · unfold stripB
        rw [how, e1, e2, stripB_frame h1]; rfl
      · have hf := way_ff hpq hql hb k
        unfold nowhereB at g4
        rw [List.all_eq_true] at g4
        have hle : ff (partL l P Q) (k - P) ≤ ff b (k - P) := by
          by_cases hk : k - P ≤ b.length
          · simpa using g4 (k - P) (List.mem_range.2 (by omega))
          · rw [ff_all _ _ (by omega), ff_all _ _ (by omega)]; omega
        omega
    · rintro ⟨g1, g2⟩
      obtain ⟨_, _, s3, s4, s5⟩ := same_facts g1
      have hb : b.length = Q - P := by omega
      refine ⟨by omega, ⟨by omega, by omega⟩, ?_⟩
      unfold nowhereB
      rw [List.all_eq_true]
      intro k hk
      have hk := List.mem_range.1 hk
      have hf := way_ff hpq hql hb (P + k)
      have hg := g2 (P + k) (by omega)
      rw [show P + k - P = k from by omega] at hf
      simp only [decide_eq_true_eq]
      omega

theorem ok_span {l : List UInt8} {p q : Int} {b : List UInt8} (h : okB l p q b = true) : spanB l p q = true ∧ aboveB (wayL l p.toNat q.toNat b) l = true := by
  unfold okB at h
  rwa [Bool.and_eq_true] at h
theorem ok_no {l : List UInt8} {p q : Int} {b : List UInt8} (h : spanB l p q = false) : okB l p q b = false := by unfold okB; rw [h]; rfl
/-- A bridge that fits, in numbers. -/
theorem ok_nat {l b : List UInt8} {p q : Int} (h : okB l p q b = true) : ∃ P Q : Nat, p = (P : Int) ∧ q = (Q : Int) ∧ P < Q ∧ Q ≤ l.length ∧ b.length = Q - P ∧ stripB l = true ∧ sameB (wayL l P Q b) l = true ∧ aboveB (wayL l P Q b) l = true ∧ (wayL l P Q b).length = l.length ∧
    okL b = true ∧ cnt 100 b = cnt 100 (partL l P Q) ∧ cnt 102 b = cnt 102 (partL l P Q) := by
  obtain ⟨hs, ha⟩ := ok_span h
  obtain ⟨h1, h2, h3, h4⟩ := span_iff.1 hs
  obtain ⟨P, rfl⟩ : ∃ P : Nat, p = (P : Int) := ⟨p.toNat, by omega⟩
  obtain ⟨Q, rfl⟩ : ∃ Q : Nat, q = (Q : Int) := ⟨q.toNat, by omega⟩
  rw [Int.toNat_natCast, Int.toNat_natCast] at ha
  have hw := way_length (l := l) (p := P) (q := Q) (by omega) (by omega) b
  obtain ⟨hsm, _⟩ := above_iff.1 ha
  obtain ⟨s1, s2, s3, s4, s5⟩ := same_facts hsm
  have c1 := way_cnt (l := l) (p := P) (q := Q) (by omega) b 100
  have c2 := way_cnt (l := l) (p := P) (q := Q) (by omega) b 102
  have hob : okL b = true := by
    have h5 := stripB_ok s1
    unfold wayL at h5
    rw [okL_cat, okL_cat, Bool.and_eq_true, Bool.and_eq_true] at h5
    exact h5.1.2
  exact ⟨P, Q, rfl, rfl, by omega, by omega, by omega, h1, hsm, ha, s5, hob, by omega, by omega⟩

/-- IsLoose of the program counts the letters f of both ways from the first step on. -/
theorem loose_way {l b : List UInt8} {P Q : Nat} (hpq : P < Q) (hql : Q ≤ l.length) (hb : b.length = Q - P) (j : Nat) :
    (ff (wayL l P Q b) (P + j) = ff l (P + j)) ↔ ff b j = ff (partL l P Q) j := by
  have hf := way_ff (Nat.le_of_lt hpq) hql hb (P + j)
  rw [show P + j - P = j from by omega] at hf
  omega

/-! ### bridges of one letter alone -/
theorem cnt_zero {l : List UInt8} (h : okL l = true) (x y : UInt8) (hxy : (x = 100 ∧ y = 102) ∨ (x = 102 ∧ y = 100)) (hz : cnt x l = 0) (n : Nat) : cnt x (l.take n) = 0 ∧ (n ≤ l.length → cnt y (l.take n) = n) := by
  have h1 : cnt x (l.take n) ≤ cnt x l := List.Sublist.count_le _ (List.take_sublist _ _)
  have h2 := cnt_sum _ (okL_take l n h)
  have h3 := List.length_take_le n l
  refine ⟨by omega, fun hn => ?_⟩
  rw [List.length_take, Nat.min_eq_left hn] at h2
  rcases hxy with ⟨rfl, rfl⟩ | ⟨rfl, rfl⟩ <;> omega
theorem one_letter {l : List UInt8} (h : okL l = true) (hc : cnt 100 l = 0 ∨ cnt 102 l = 0) : aboveN l = 1 := by
  rw [above_high h]
  intro n hn
  unfold highP
  rcases hc with hz | hz
  · have := (cnt_zero h 100 102 (.inl ⟨rfl, rfl⟩) hz n).2 hn
    unfold ff
    omega
  · rw [hz]; omega
/-- Either the steps are a strip, or they have one letter alone. -/
theorem above_max {l : List UInt8} {p q : Int} (h : spanB l p q = true) : max (aboveI (partL l p.toNat q.toNat)) 1 = (aboveN (partL l p.toNat q.toNat) : Int) := by
  obtain ⟨h1, _⟩ := span_iff.1 h
  have hok := part_ok (stripB_ok h1) p.toNat q.toNat
  have hp := above_pos hok
  unfold aboveI
  cases hs : stripB (partL l p.toNat q.toNat) with
  | true => rw [if_pos rfl]; omega
  | false =>
    rw [if_neg (by simp)]
    have hf := stripB_frame h1
    unfold stripB at hs
    rw [hok, Bool.true_and] at hs
    unfold frameB at hs hf
    simp only [decide_eq_true_eq, decide_eq_false_iff_not] at hs hf
    have c1 := part_cnt l p.toNat q.toNat 100
    have c2 := part_cnt l p.toNat q.toNat 102
    rw [one_letter hok (by omega)]
    rfl
theorem count_max (l : List UInt8) (p q : Int) : countV l p q = if spanB l p q = true then max (aboveI (partL l p.toNat q.toNat)) 1 else 0 := by
  unfold countV
  by_cases h : spanB l p q = true
  · rw [if_pos h, if_pos h, above_max h]
  · rw [if_neg h, if_neg h]

/-! ### what the law asks of a bridge that fits -/
theorem cat_cancel {a b c d : List UInt8} (h : a ++ b ++ c = a ++ d ++ c) : b = d := List.append_cancel_left (List.append_cancel_right h)
theorem way_same {l b : List UInt8} {P Q : Nat} (hpq : P ≤ Q) : wayL l P Q b = l ↔ b = partL l P Q := by
  constructor
  · intro h
    have h2 := h.trans (three l hpq).symm
    unfold wayL at h2
    exact cat_cancel h2
  · rintro rfl
    exact three l hpq
theorem room_more {l b : List UInt8} {p q : Int} (h : okB l p q b = true) : roomB l p q b = roomI (bridgeL l p q b) - roomI l ∧ 0 ≤ roomB l p q b ∧ (0 < roomB l p q b ∨ b = partL l p.toNat q.toNat) := by
  obtain ⟨P, Q, rfl, rfl, hpq, hql, hb, hs, hsm, ha, hw, _⟩ := ok_nat h
  have e : bridgeL l P Q b = wayL l P Q b := by unfold bridgeL; rw [if_pos h, Int.toNat_natCast, Int.toNat_natCast]
  have hsm' := same_swap hsm
  have hA : roomB l P Q b = areaS l (wayL l P Q b) := by unfold roomB areaI; rw [e, if_pos hsm']
  rw [hA, e, Int.toNat_natCast, Int.toNat_natCast]
  have h0 := areaS_nonneg l (wayL l P Q b)
  refine ⟨?_, h0, ?_⟩
  · have hup : mixL true (wayL l P Q b) l = wayL l P Q b := (upper_is hsm).2 ha
    have h1 := room_diff hsm
    rw [h1, areaS_comm hsm', area_diag hsm]
    obtain ⟨_, hall⟩ := above_iff.1 ha
    have h2 : sumN (wayL l P Q b).length (fun k => (ff (wayL l P Q b) k : Int)) - sumN (wayL l P Q b).length (fun k => (ff l k : Int)) = sumN (wayL l P Q b).length (fun k => ((ff (wayL l P Q b) k : Int) - (ff l k : Int))) := by
      have := sumN_add (wayL l P Q b).length (fun k => (ff l k : Int)) (fun k => ((ff (wayL l P Q b) k : Int) - (ff l k : Int)))
      rw [sumN_congr (g := fun k => (ff (wayL l P Q b) k : Int)) (fun k _ => by omega)] at this
      omega
    rw [h2]
    have h3 : sumN (wayL l P Q b).length (fun k => dst (ff (wayL l P Q b) (k + 1) : Int) (ff l (k + 1) : Int)) = sumN (wayL l P Q b).length (fun k => ((ff (wayL l P Q b) (k + 1) : Int) - (ff l (k + 1) : Int))) := by
      refine sumN_congr fun k hk => ?_
      have := hall (k + 1) (by omega)
      unfold dst
      rw [if_neg (by omega)]
    rw [h3]
    generalize hg : (fun k : Nat => ((ff (wayL l P Q b) k : Int) - (ff l k : Int))) = g
    have hgs : (fun k : Nat => ((ff (wayL l P Q b) (k + 1) : Int) - (ff l (k + 1) : Int))) = fun k => g (k + 1) := by rw [← hg]
    rw [hgs]
    have s1 := sumN_shift (wayL l P Q b).length g
    have s2 : sumN ((wayL l P Q b).length + 1) g = sumN (wayL l P Q b).length g + g (wayL l P Q b).length := rfl
    have g0 : g 0 = 0 := by rw [← hg]; simp only; rw [ff_zero, ff_zero]; rfl
    have g1 : g (wayL l P Q b).length = 0 := by
      rw [← hg]; simp only
      rw [ff_all _ _ (Nat.le_refl _), ff_all l _ (by omega), (same_facts hsm).2.2.2.1]; omega
    omega
  · by_cases hz : areaS l (wayL l P Q b) = 0
    · right
      exact (way_same (Nat.le_of_lt hpq)).1 ((areaS_zero hsm').1 hz).symm
    · left; omega
theorem count_more {l b : List UInt8} {p q : Int} (h : okB l p q b = true) : 1 ≤ countV l p q ∧ (1 < countV l p q ∨ b = partL l p.toNat q.toNat) := by
  have hsp := (ok_span h).1
  obtain ⟨P, Q, rfl, rfl, hpq, hql, hb, hs, hsm, ha, hw, hob, c1, c2⟩ := ok_nat h
  unfold countV
  rw [if_pos hsp, Int.toNat_natCast, Int.toNat_natCast]
  have hok := part_ok (stripB_ok hs) P Q
  have hp := above_pos hok
  refine ⟨by omega, ?_⟩
  by_cases h1 : aboveN (partL l P Q) = 1
  · right
    have hh := (above_high hok).1 h1
    have hpl := part_length (p := P) hql
    refine (way_same (Nat.le_of_lt hpq)).1 (eq_of_ff hsm fun k hk => ?_)
    obtain ⟨_, hall⟩ := above_iff.1 ha
    have hf := way_ff (Nat.le_of_lt hpq) hql hb k
    have hg := hall k hk
    have hle : ff b (k - P) ≤ ff (partL l P Q) (k - P) := by
      by_cases hkp : k - P ≤ (partL l P Q).length
      · have h2 := hh (k - P) hkp
        have h3 := ff_high b (k - P)
        rw [c2] at h3
        omega
      · rw [ff_all _ _ (by omega), ff_all _ _ (by omega)]; omega
    omega
  · left; omega
theorem part_good {l : List UInt8} {p q : Int} (h : spanB l p q = true) : okB l p q (partL l p.toNat q.toNat) = true ∧ bridgeL l p q (partL l p.toNat q.toNat) = l := by
  obtain ⟨h1, h2, h3, h4⟩ := span_iff.1 h
  have e := three l (p := p.toNat) (q := q.toNat) (by omega)
  have hk : okB l p q (partL l p.toNat q.toNat) = true := by
    unfold okB
    rw [h, e, Bool.true_and]
    exact above_iff.2 ⟨same_self h1, fun k _ => Nat.le_refl _⟩
  refine ⟨hk, ?_⟩
  unfold bridgeL
  rw [if_pos hk, e]
end Go.Proofs.Ythigiemgdejdhaa.Tab

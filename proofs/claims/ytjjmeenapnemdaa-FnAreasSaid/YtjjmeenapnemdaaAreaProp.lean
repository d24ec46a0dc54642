/- What laws.FnAreas asks: of a strip's table, its rooms and the strips above it. -/
import Derived.Test.YtjjmeenapnemdaaAreaWith
import Derived.Test.YtjjmeenapnemdaaAreaUp
import Derived.Test.YtjjmeenapnemdaaAreaVol
import Derived.Test.YtjjmeenapnemdaaDrawCard3
import Derived.Test.YtjjmeenapnemdaaBig
import Derived.Lib.QuietBelow
namespace Go.Proofs.Ytjjmeenapnemdaa.Area
open Go.ChangeShapes Go.WideShapes Go.ChangeAt Go.RowKit
open Go.Proofs.Ytjjmeenapnemdaa.Strip Go.Proofs.Ytjjmeenapnemdaa.Strs Go.Proofs.Ytjjmeenapnemdaa.Card Go.Proofs.Ytjjmeenapnemdaa.Kerf Go.Proofs.Ytjjmeenapnemdaa.Order
set_option linter.unusedVariables false

theorem sumL_low {l : List Int} {c : Int} (h : ∀ x ∈ l, 0 ≤ x ∧ x ≤ c) : 0 ≤ sumL l ∧ sumL l ≤ c * (l.length : Int) := by
  induction l with
  | nil => simp [sumL]
  | cons x l ih =>
    have h1 := ih fun y hy => h y (List.mem_cons_of_mem _ hy)
    have h2 := h x (List.mem_cons_self ..)
    rw [List.length_cons, Int.natCast_add, Int.mul_add]
    show 0 ≤ x + sumL l ∧ x + sumL l ≤ _
    simp only [Int.natCast_one, Int.mul_one]
    omega
theorem room_le {l : List UInt8} (h : stripB l = true) : 0 ≤ roomI l ∧ roomI l ≤ (cnt 100 l : Int) * (cnt 102 l : Int) := by
  unfold roomI
  rw [if_pos h]
  have hl := hts_length l (cnt 100 l : Int)
  have := sumL_low (l := hts (cnt 100 l) l) (c := (cnt 100 l : Int)) (fun x hx => by
    obtain ⟨i, hi, e⟩ := List.getElem_of_mem hx
    obtain ⟨p, h1, h2, _⟩ := low_iff (stripB_ok h) (i := i) (by omega) (cnt 100 l : Int)
    rw [List.getElem?_eq_getElem hi, e] at h1
    have := Option.some.inj h1
    omega)
  rw [hl] at this
  exact this
theorem tab_facts {d f : Nat} (h : tabOk d f = true) : (∀ r, r ≤ d * f → 1 ≤ rt d f r ∧ rt d f r = rt d f (d * f - r)) ∧ ((List.range (d * f + 1)).map fun r => rt d f r).sum = chs f d ∧ allN d f = chs f d := by
  unfold tabOk at h
  simp only [Bool.and_eq_true, List.all_eq_true, decide_eq_true_eq, List.mem_range] at h
  exact ⟨fun r hr => h.1.1 r (by omega), h.1.2, h.2⟩
theorem tabN_at (d f r : Nat) (h : r ≤ d * f) : (tabN d f)[r]? = some (rt d f r : Int) := by
  unfold tabN
  rw [List.getElem?_map, List.getElem?_range (by omega)]
  rfl
theorem tabN_sum (d f : Nat) : sumL (tabN d f) = (((List.range (d * f + 1)).map fun r => rt d f r).sum : Nat) := sumL_map (rt d f) _
theorem numI_is {D F : Nat} (h : frameB (D : Int) (F : Int) = true) : numI D F = (chs F D : Int) := by unfold numI; rw [if_pos h]; rfl
theorem tabL_is {D F : Nat} (h : frameB (D : Int) (F : Int) = true) : tabL D F = tabN D F := by unfold tabL; rw [if_pos h]; rfl

structure Areas (l : List UInt8) (D F N : Nat) (tl : List Int) (S A n : Int) (bf bh : Bool) : Prop where
  tab : tabL D F = tl
  len : tl.length = N + 1
  at1 : ∀ k, k ≤ N → ∃ x : Nat, tl[k]? = some (x : Int) ∧ tl[N - k]? = some (x : Int) ∧ withI D F k = (x : Int) ∧ 1 ≤ x ∧ x ≤ 65536
  mul : (D : Int) * (F : Int) = (N : Int)
  n64 : N ≤ 64
  sum : sumL tl = S
  num : numI D F = S
  s1 : 0 ≤ S ∧ S ≤ 12870
  room : roomI l = n
  n0 : 0 ≤ n
  n1 : n ≤ (N : Int)
  abv : aboveI l = A
  a0 : 1 ≤ A
  a1 : A ≤ S
  f1 : (A == S) = bf
  f2 : decide (l = flatL D F) = bf
  h1 : (A == 1) = bh
  h2 : decide (l = highL D F) = bh
theorem areas_of {l : List UInt8} (hs : stripB l = true) (hd : cnt 100 l ≤ 5) (hf : cnt 102 l ≤ 5) : ∃ N tl S A n bf bh, Areas l (cnt 100 l) (cnt 102 l) N tl S A n bf bh := by
  have hfr := stripB_frame hs
  have hq := frameB_iff.mp hfr
  obtain ⟨t1, t2, t3⟩ := tab_facts (tab_ok hd hf (by omega) (by omega))
  have hab : aboveI l = (aboveN l : Int) := by unfold aboveI; rw [hs]; rfl
  have hrm := room_le hs
  have hmul : (cnt 100 l : Int) * (cnt 102 l : Int) = ((cnt 100 l * cnt 102 l : Nat) : Int) := by simp
  have hnn := numI_is hfr
  have hall := above_all (stripB_ok hs)
  have hpos := above_pos (stripB_ok hs)
  have hsm := chs_small (a := cnt 102 l) (k := cnt 100 l) (by omega) (by omega)
  rw [t3] at hall
  have h64 : cnt 100 l * cnt 102 l ≤ 8 * 8 := Nat.mul_le_mul (by omega) (by omega)
  refine ⟨cnt 100 l * cnt 102 l, _, (chs (cnt 102 l) (cnt 100 l) : Int), _, _, _, _, {
    tab := tabL_is hfr, len := tabN_length _ _, at1 := ?_, mul := hmul, n64 := h64, sum := by rw [tabN_sum, t2], num := hnn, s1 := by omega, room := rfl, n0 := hrm.1, n1 := by rw [← hmul]; exact hrm.2
    abv := rfl, a0 := by rw [hab]; omega, a1 := by rw [hab]; omega, f1 := rfl, f2 := ?_, h1 := rfl, h2 := ?_ }⟩
  · intro k hk
    refine ⟨rt (cnt 100 l) (cnt 102 l) k, tabN_at _ _ k hk, by rw [tabN_at _ _ _ (by omega), ← (t1 k hk).2], ?_, (t1 k hk).1, rt_small _ (by omega) (by omega)⟩
    unfold withI
    rw [tabL_is hfr, tabN_length, if_pos (by omega)]
    show (tabN _ _).getD k 0 = _
    rw [List.getD_eq_getElem?_getD, tabN_at _ _ k hk]
    rfl
  · rw [hab]
    have h := is_flat hs
    rw [t3] at h
    rw [Bool.eq_iff_iff, decide_eq_true_eq, beq_iff_eq, Int.natCast_inj, h]
    unfold flatL
    rw [if_pos hfr]
    exact Iff.rfl
  · rw [hab]
    have h := is_high hs
    rw [Bool.eq_iff_iff, decide_eq_true_eq, beq_iff_eq, show (1 : Int) = ((1 : Nat) : Int) from rfl, Int.natCast_inj, h]
    unfold highL
    rw [if_pos hfr]
    exact Iff.rfl
theorem six : numI 2 2 = 6 := by decide +kernel
end Go.Proofs.Ytjjmeenapnemdaa.Area

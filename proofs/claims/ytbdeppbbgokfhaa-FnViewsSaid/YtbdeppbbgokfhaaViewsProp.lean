/- What the property of chapter 13 asks of each strip of a card, and of the steps between its strips; what laws.btoi and laws.sameInts return. -/
import Derived.Test.YtbdeppbbgokfhaaStepCount
namespace Go.Proofs.Ytbdeppbbgokfhaa.View
open Go.ChangeShapes Go.WideShapes Go.ChangeAt Go.RowKit
open Go.Proofs.Ytbdeppbbgokfhaa.Strip Go.Proofs.Ytbdeppbbgokfhaa.Strs Go.Proofs.Ytbdeppbbgokfhaa.Card Go.Proofs.Ytbdeppbbgokfhaa.Kerf Go.Proofs.Ytbdeppbbgokfhaa.Order Go.Proofs.Ytbdeppbbgokfhaa.Turn
set_option linter.unusedVariables false

theorem htsL_in {l : List UInt8} (h : stripB l = true) : ∀ x ∈ htsL l, -16 ≤ x ∧ x ≤ 16 := by
  rw [htsL_yes h]
  exact strip_in h
theorem dpsL_in {l : List UInt8} (h : stripB l = true) : ∀ x ∈ dpsL l, -16 ≤ x ∧ x ≤ 16 := by
  intro x hx
  rw [← depths_turn] at hx
  exact htsL_in (strip_turn h) x (List.mem_reverse.1 hx)
/-- What is asked of the heights and depths of one strip. -/
structure Seen (d : Int) (D F : Nat) (s : ByteArray) (h p : List Int) (S : Int) : Prop where
  dn : ∀ i (hi : i + 1 < h.length), h[i + 1] ≤ h[i]
  hl : h.length = F
  pl : p.length = D
  hs : sumL h = S
  ps : sumL p = S
  rm : roomI s.data.toList = S
  hi : ∀ x ∈ h, -16 ≤ x ∧ x ≤ 16
  pi : ∀ x ∈ p, -16 ≤ x ∧ x ≤ 16
  bk : (⟨(fromH d h).toArray⟩ : ByteArray) = s
theorem seen_of {d f : Int} {l : List ByteArray} (h : cardB d f l = true) (s : ByteArray) (hs : s ∈ l) :
    Seen d d.toNat f.toNat s (htsL s.data.toList) (dpsL s.data.toList) (roomI s.data.toList) := by
  have hst := card_strip h s hs
  refine ⟨fun i hi => htsL_down _ i hi, card_row h s hs, card_deep h s hs, sum_htsL hst, sum_dpsL hst, rfl, htsL_in hst, dpsL_in hst, ?_⟩
  have hb := from_hts hst
  rw [(card_cnt h s hs).1] at hb
  rw [hb]
/-- The steps that are counted when k strips have been seen. -/
def cntK (f : Int) (l : List ByteArray) (k : Nat) : Int := stT f l (k - 1)
theorem cntK_in (f : Int) (hf : f ≤ 8) (l : List ByteArray) (k : Nat) (hk : k ≤ 10) : 0 ≤ cntK f l k ∧ cntK f l k ≤ 80 := by
  have := stT_in f hf l (k - 1)
  unfold cntK
  omega
theorem cntK_zero (f : Int) (l : List ByteArray) : cntK f l 0 = 0 := rfl
theorem cntK_one (f : Int) (l : List ByteArray) : cntK f l (0 + 1) = 0 := rfl
theorem cntK_next (f : Int) (l : List ByteArray) (k : Nat) (h : k + 1 < l.length) : cntK f l (k + 1 + 1) = cntK f l (k + 1) + difN (htsL l[k].data.toList) (htsL l[k + 1].data.toList) f.toNat := by
  show stT f l (k + 1) = stT f l k + _
  rw [stT_succ, rowAt_in (by omega), rowAt_in h]
theorem cntK_all {d f : Int} {l : List ByteArray} (h : cardB d f l = true) : csV d f l = cntK f l l.length := by unfold csV cntK; rw [if_pos h]

/-- The steps that are counted behind the first u squares of strip k. -/
def tK (f : Int) (l : List ByteArray) (k u : Nat) : Int := match k with
  | 0 => 0
  | j + 1 => cntK f l (j + 1) + difN (rowAt l j) (rowAt l (j + 1)) u
theorem tK_zero (f : Int) (l : List ByteArray) (k : Nat) : tK f l k 0 = cntK f l k := by
  cases k with
  | zero => rfl
  | succ j => show cntK f l (j + 1) + 0 = _; rw [Int.add_zero]
theorem tK_all (f : Int) (l : List ByteArray) (k : Nat) : tK f l k f.toNat = cntK f l (k + 1) := by
  cases k with
  | zero => rfl
  | succ j => rfl
theorem tK_in (f : Int) (hf : f ≤ 8) (l : List ByteArray) (k u : Nat) (hk : k ≤ 10) (hu : u ≤ 8) : 0 ≤ tK f l k u ∧ tK f l k u ≤ 100 := by
  cases k with
  | zero => exact ⟨Int.le_refl _, by show (0 : Int) ≤ 100; decide⟩
  | succ j =>
    have h1 := cntK_in f hf l (j + 1) hk
    have h2 := difN_in (rowAt l j) (rowAt l (j + 1)) u
    show 0 ≤ cntK f l (j + 1) + _ ∧ cntK f l (j + 1) + _ ≤ 100
    omega
theorem tK_first (f : Int) (l : List ByteArray) (u : Nat) : tK f l 0 (u + 1) = tK f l 0 u := rfl
theorem tK_next (f : Int) (l : List ByteArray) (j u : Nat) (h : j + 1 < l.length) (ha : u < (htsL l[j].data.toList).length) (hb : u < (htsL l[j + 1].data.toList).length) :
    tK f l (j + 1) (u + 1) = tK f l (j + 1) u + (if (htsL l[j].data.toList)[u] = (htsL l[j + 1].data.toList)[u] then 0 else 1) := by
  show cntK f l (j + 1) + difN (rowAt l j) (rowAt l (j + 1)) (u + 1) = cntK f l (j + 1) + difN (rowAt l j) (rowAt l (j + 1)) u + _
  rw [rowAt_in (show j < l.length by omega), rowAt_in h, difN_next _ _ u ha hb, Int.add_assoc]

theorem one_no (w : World) : Calls Try.prog 18 #[.bool false] w fun e w' => e = .returned (.int .i64 0) ∧ w = w' := by
  go_enter Try.func18, Try.ntmps18
  go_wp2
  go_ret
  exact ⟨rfl, rfl⟩
theorem one_yes (w : World) : Calls Try.prog 18 #[.bool true] w fun e w' => e = .returned (.int .i64 1) ∧ w = w' := by
  go_enter Try.func18, Try.ntmps18
  go_wp2
  go_ret
  exact ⟨rfl, rfl⟩

theorem one_noN (w : World) (q n : Nat) : Calls Try.prog 18 #[.bool false] (w.drewN (q + n)) fun e w' => e = .returned (.int .i64 0) ∧ ∃ m, w' = w.drewN (q + m) :=
  (one_no _).mono fun _ _ h => ⟨h.1, n, h.2.symm⟩
theorem one_yesN (w : World) (q n : Nat) : Calls Try.prog 18 #[.bool true] (w.drewN (q + n)) fun e w' => e = .returned (.int .i64 1) ∧ ∃ m, w' = w.drewN (q + m) :=
  (one_yes _).mono fun _ _ h => ⟨h.1, n, h.2.symm⟩

theorem same_rows (n ca cb : Nat) (a b : Option Addr) (l : List Int) (hl : l.length = n) (hm : n ≤ maxLen) (w : World) (ha : Ints.IRow w a l) (hb : Ints.IRow w b l) :
    Calls Try.prog 19 #[.slice a n ca, .slice b n cb] w fun e w' => e = .returned (.bool true) ∧ ∃ q, w' = w.drewN q := by
  unfold maxLen at hm
  have HL := Lib.hid hl; clear hl
  have HA := Lib.hid ha; clear ha
  have HB := Lib.hid hb; clear hb
  go_enter Try.func19, Try.ntmps19
  go_wp2_with fail
  go_loopw [5] (fun i wr => ∃ k q : Nat, k ≤ n ∧ i = .int .i64 k ∧ wr = w.drewN q) (fun i _ => n - (intOf i).toNat)
  case atStart => exact ⟨0, 0, Nat.zero_le _, rfl, rfl⟩
  case round =>
    obtain ⟨k, q, hk, rfl, rfl⟩ := hrel
    by_cases hlt : k < n
    · obtain ⟨ga, rfl, hga, hca⟩ := HA.out k (by rw [HL.out]; exact hlt)
      obtain ⟨gb, rfl, hgb, hcb⟩ := HB.out k (by rw [HL.out]; exact hlt)
      generalize l[k]'_ = x at hca hcb
      have hx : (x != x) = false := by simp
      have hk0 : (0 : Int) ≤ (k : Int) := Int.natCast_nonneg _
      have hk1 : (k : Int) < (n : Int) := by omega
      go_wp2_with fail
      go_quiet (fail)
      go_wp2
      go_roundw
      case rel => exact ⟨k + 1, _, by omega, by go_num, rfl⟩
      case measure => simp [intOf]; omega
    · go_wp2
      go_ret
      exact ⟨rfl, q, rfl⟩
end Go.Proofs.Ytbdeppbbgokfhaa.View

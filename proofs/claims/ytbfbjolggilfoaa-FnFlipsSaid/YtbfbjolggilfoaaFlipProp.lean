/- What the law of chapter 10 asks, as facts on strips. Pure mathematics. -/
import Derived.Test.YtbfbjolggilfoaaFlipWayImpl
import Derived.Test.YtbfbjolggilfoaaFlipLev
import Derived.Test.YtbfbjolggilfoaaCornerMath
import Derived.Test.YtbfbjolggilfoaaFlipRoom
namespace Go.Proofs.Ytbfbjolggilfoaa.Flip
open Go.Proofs.Ytbfbjolggilfoaa.Strip Go.Proofs.Ytbfbjolggilfoaa.Kerf Go.Proofs.Ytbfbjolggilfoaa.Order Go.Proofs.Ytbfbjolggilfoaa.Corner
set_option linter.unusedVariables false

theorem lower_list {s : ByteArray} {k : Nat} (h : cornerB 102 s.data.toList (k : Int) = true) : (lowerS s (k : Int)).data.toList = lowerL s.data.toList k := by
  unfold lowerS; rw [if_pos h]; rfl
theorem raises_mem {l : List UInt8} {k : Nat} (h : cornerB 100 l (k : Int) = true) : (k : Int) ∈ raisesL l := by
  unfold raisesL valleysN
  obtain ⟨_, _, k2, _⟩ := corner_parts (.inl ⟨rfl, rfl⟩) h
  exact List.mem_map.2 ⟨k, List.mem_filter.2 ⟨List.mem_range.2 k2, h⟩, rfl⟩

/-- What a step of the way is. -/
structure Step (s t cur : ByteArray) (m : Nat) (done : List Int) (c : Int) (M : Nat) (y : ByteArray) : Prop where
  left : m = M + 1
  at1 : (wayL s.data.toList t.data.toList)[done.length]? = some c
  c0 : 0 ≤ c
  c16 : c ≤ 16
  up : raiseS cur c = y
  can : cornerB 100 cur.data.toList c = true
  back : cornerB 102 y.data.toList c = true
  down : lowerS y c = cur
  mem : decide (c ∈ raisesL cur.data.toList) = true
  room : roomI y.data.toList = roomI cur.data.toList + 1
  r0 : -256 ≤ roomI cur.data.toList
  r1 : roomI cur.data.toList ≤ 256
  next : At s t y M (done ++ [c])
  size : y.size = cur.size
theorem step_is {s t cur : ByteArray} {m : Nat} {done : List Int} (h : At s t cur m done) (hlt : done.length < (wayL s.data.toList t.data.toList).length) : ∃ c M y, Step s t cur m done c M y := by
  have hw := h.way
  cases hn : nextsI cur.data.toList t.data.toList with
  | nil =>
    have e := at_stop h hn
    rw [e] at hlt
    exact absurd hlt (Nat.lt_irrefl _)
  | cons c r =>
    obtain ⟨M, hM, c0, c16, hgo, hcr⟩ := at_go h hn
    obtain ⟨k, rfl⟩ := Int.eq_ofNat_of_zero_le c0
    obtain ⟨f1, f2, f3, f4⟩ := raise_facts hcr
    have hrl := raise_list hcr
    have hrm := room_in (above_strip h.above).1
    refine ⟨k, M, raiseS cur k, hM, ?_, c0, c16, rfl, hcr, by rw [hrl]; exact f3, ?_, decide_eq_true (raises_mem hcr), by rw [hrl]; exact raise_room hcr, hrm.1, hrm.2, hgo, raise_size _ _⟩
    · rw [hgo.way, List.append_assoc, List.getElem?_append_right (Nat.le_refl _), Nat.sub_self]; rfl
    · have h5 : cornerB 102 (raiseS cur (k : Int)).data.toList (k : Int) = true := by rw [hrl]; exact f3
      refine of_list ?_
      rw [lower_list h5, hrl, f4]
theorem stop_is {s t cur : ByteArray} {m : Nat} {done : List Int} (h : At s t cur m done) (hge : (wayL s.data.toList t.data.toList).length ≤ done.length) : cur = t := by
  refine Classical.byContradiction fun hne => ?_
  obtain ⟨M, rfl⟩ := at_more h hne
  have h1 := h.way
  have h2 := way_length (M + 1) h.above h.area
  have h3 := congrArg List.length h1
  rw [List.length_append, h2] at h3
  omega
theorem way_len {s t : ByteArray} (h : aboveB t.data.toList s.data.toList = true) : ((wayL s.data.toList t.data.toList).length : Int) = areaI s.data.toList t.data.toList := by
  have h0 := above_nonneg h
  unfold wayL
  rw [if_pos h, way_length _ h (by omega)]
  omega

/-- Corners are mountains and valleys. -/
theorem valley_count (l : List UInt8) (hs : stripB l = true) : ∀ n, n ≤ l.length → ((valleysN l n).length : Int) + (peaksN l n : Int) = ((turns l n).length : Int)
  | 0, _ => rfl
  | n + 1, h => by
    have ih := valley_count l hs n (by omega)
    have hv : cornerB 100 l (n : Int) = (turn l n && !(peak l n)) := by
      have hmv := mountain_or_valley l hs n (by omega)
      unfold peak
      cases ht : turn l n with
      | false =>
        rw [ht, Bool.or_eq_false_iff] at hmv
        rw [hmv.2]; rfl
      | true =>
        have hn1 : 1 ≤ n := by
          rcases Nat.eq_zero_or_pos n with e | e
          · subst e; simp [turn] at ht
          · exact e
        have hk : l[n - 1]? = some l[n - 1] := List.getElem?_eq_getElem (by omega)
        have ho := ok_at (stripB_ok hs) (n - 1) (by omega)
        rw [show l.getD (n - 1) 0 = l[n - 1] by simp [List.getD, show n - 1 < l.length by omega]] at ho
        unfold cornerB
        rw [Int.toNat_natCast, ht, hs, hk]
        have hd : decide ((1 : Int) ≤ (n : Int) ∧ (n : Int) < (l.length : Int)) = true := by simp; omega
        rw [hd]
        rcases ho with e | e <;> rw [e] <;> rfl
    cases ht : turn l n with
    | false =>
      have hp : peak l n = false := by unfold peak; rw [ht]; rfl
      rw [valleys_no (by rw [hv, ht]; rfl), peaks_no _ _ hp, turns_no _ _ ht]; exact ih
    | true =>
      cases hp : peak l n with
      | false =>
        rw [valleys_yes (by rw [hv, ht, hp]; rfl), peaks_no _ _ hp, turns_yes _ _ ht]
        simp; omega
      | true =>
        rw [valleys_no (by rw [hv, ht, hp]; rfl), peaks_yes _ _ hp, turns_yes _ _ ht]
        simp; omega
theorem folds_are2 {l : List UInt8} (hs : stripB l = true) : foldsV l = ((raisesL l).length : Int) + peaksV l + one (l[0]? == some 102) + one (l[l.length - 1]? == some 100) ∧ 0 ≤ peaksV l ∧ peaksV l ≤ 16 ∧ ((raisesL l).length : Int) ≤ 16 := by
  have h1 := valley_count l hs l.length (Nat.le_refl _)
  have h2 := peaks_le l l.length
  have h3 := (strip_size hs).2
  have h4 := (raises_in l).1
  unfold foldsV peaksV
  rw [if_pos hs, if_pos hs, ← h1]
  unfold raisesL
  unfold raisesL at h4
  omega

/-- Numbers of ways. -/
theorem ways_are {s t : ByteArray} {n : Nat} (h : aboveB t.data.toList s.data.toList = true) (hn : areaI s.data.toList t.data.toList = (n : Int)) :
    (12 < n → waysV s.data.toList t.data.toList = 0) ∧ (n ≤ 12 → 1 ≤ waysV s.data.toList t.data.toList) ∧ (n ≤ 1 → waysV s.data.toList t.data.toList = 1) := by
  have hv : n ≤ 12 → waysV s.data.toList t.data.toList = (wy n s.data.toList t.data.toList : Int) := fun h12 => by
    unfold waysV
    rw [if_pos ⟨h, by rw [hn]; omega⟩, hn, Int.toNat_natCast]
  refine ⟨fun h12 => ?_, fun h12 => ?_, fun h1 => ?_⟩
  · unfold waysV
    rw [if_neg (fun h2 => by have := h2.2; rw [hn] at this; omega)]
  · rw [hv h12]
    have := wy_pos n h hn
    omega
  · rw [hv (by omega)]
    rcases Nat.lt_or_eq_of_le h1 with h2 | rfl
    · have : n = 0 := by omega
      subst this
      have e := above_zero h hn
      show ((if s.data.toList = t.data.toList then 1 else 0 : Nat) : Int) = 1
      rw [if_pos e]; rfl
    · rw [wy_one h hn]; rfl
theorem two_ways : waysV [100, 100, 102, 102] [102, 102, 100, 100] = 2 := by decide +kernel
theorem df_can : cornerB 100 [100, 102] 1 = true := by decide +kernel
end Go.Proofs.Ytbfbjolggilfoaa.Flip

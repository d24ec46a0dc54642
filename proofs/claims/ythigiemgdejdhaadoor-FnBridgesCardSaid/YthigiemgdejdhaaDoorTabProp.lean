/- What the property of chapter 16 asks of a bridge that fits. -/
import Derived.Test.YthigiemgdejdhaaDoorBridge
import Derived.Test.YthigiemgdejdhaaDoorTabCount
import Derived.Test.YthigiemgdejdhaaDoorPlacMath
import Derived.Test.YthigiemgdejdhaaDoorRoom
namespace Go.Proofs.YthigiemgdejdhaaDoor.Tab
open Go.ChangeShapes Go.WideShapes Go.ChangeAt Go.RowKit
open Go.Proofs.YthigiemgdejdhaaDoor.Strip Go.Proofs.YthigiemgdejdhaaDoor.Kerf Go.Proofs.YthigiemgdejdhaaDoor.Order Go.Proofs.YthigiemgdejdhaaDoor.Area
set_option linter.unusedVariables false

/-- Both ways meet somewhere between the ends, as far as step k. -/
def touchB (l m : List UInt8) (P k : Nat) : Bool := (List.range k).any fun j => decide (P < j ∧ ff l j = ff m j)
theorem touch_start (l m : List UInt8) (P : Nat) : touchB l m P (P + 1) = false := by
  unfold touchB
  rw [List.any_eq_false]
  intro j hj
  have := List.mem_range.1 hj
  simp only [decide_eq_true_eq]
  omega
theorem touch_next (l m : List UInt8) {P k : Nat} (h : P < k) : touchB l m P (k + 1) = (touchB l m P k || decide (ff l k = ff m k)) := by
  unfold touchB
  rw [List.range_succ, List.any_append, List.any_cons, List.any_nil, Bool.or_false]
  congr 1
  rw [Bool.eq_iff_iff, decide_eq_true_eq, decide_eq_true_eq]
  exact ⟨fun h2 => h2.2, fun h2 => ⟨h, h2⟩⟩
theorem touch_loose {l b : List UInt8} {P Q : Nat} (h : okB l P Q b = true) (hpq : P < Q) (hql : Q ≤ l.length) (hb : b.length = Q - P) : looseB l P Q b = !touchB l (wayL l P Q b) P Q := by
  unfold looseB
  rw [h, Bool.true_and, Int.toNat_natCast, Int.toNat_natCast]
  have hw := fun j => loose_way (l := l) (b := b) hpq hql hb j
  unfold touchB
  rw [Bool.eq_iff_iff, List.all_eq_true, Bool.not_eq_true', List.any_eq_false]
  constructor
  · intro h2 j hj hd
    have hj := List.mem_range.1 hj
    simp only [decide_eq_true_eq] at hd
    have h3 := h2 (j - P) (List.mem_range.2 (by omega))
    simp only [decide_eq_true_eq] at h3
    have h4 := (hw (j - P)).1
    rw [show P + (j - P) = j from by omega] at h4
    rcases h3 with h3 | h3
    · omega
    · exact h3 (h4 hd.2.symm)
  · intro h2 j hj
    have hj := List.mem_range.1 hj
    simp only [decide_eq_true_eq]
    rcases Nat.eq_zero_or_pos j with e | e
    · exact .inl e
    · refine .inr fun h3 => ?_
      have h4 := h2 (P + j) (List.mem_range.2 (by omega))
      simp only [decide_eq_true_eq] at h4
      exact h4 ⟨by omega, ((hw j).2 h3).symm⟩

/-- A bridge that fits, as the law asks of it. -/
structure Fits (s : ByteArray) (P Q : Nat) (t : ByteArray) (z : ByteArray) (r n : Int) (loose : Bool) : Prop where
  order : P < Q
  inside : Q ≤ s.size
  strip : stripB s.data.toList = true
  small : s.size ≤ 16
  frame : (cnt 100 s.data.toList : Int) + (cnt 102 s.data.toList : Int) ≤ 16
  long : z.size = s.size
  wayStrip : stripB z.data.toList = true
  above : aboveB z.data.toList s.data.toList = true
  room : r = roomI z.data.toList - roomI s.data.toList
  rooms : -256 ≤ roomI z.data.toList ∧ roomI z.data.toList ≤ 256 ∧ -256 ≤ roomI s.data.toList ∧ roomI s.data.toList ≤ 256
  many : 1 ≤ n
  touch : loose = !touchB s.data.toList z.data.toList P Q
  again : bridgeS s P Q (s.extract P Q) = s
  stays : Place.insideB z.data.toList ((cnt 100 s.data.toList : Int) + (cnt 102 s.data.toList : Int)) = true
  more : 0 < r ∨ t = s.extract P Q
  mores : 1 < n ∨ t = s.extract P Q
theorem bytes_ext {s t : ByteArray} (h : s.data.toList = t.data.toList) : s = t := by
  apply ByteArray.ext
  exact Array.toList_inj.1 h
theorem fits {s : ByteArray} {p q : Int} {t : ByteArray} (h : okB s.data.toList p q t.data.toList = true) :
    ∃ P Q : Nat, p = (P : Int) ∧ q = (Q : Int) ∧ Fits s P Q t (bridgeS s P Q t) (roomB s.data.toList P Q t.data.toList) (countV s.data.toList P Q) (looseB s.data.toList P Q t.data.toList) := by
  obtain ⟨P, Q, rfl, rfl, hPQ, hql, hbl, hst, hsm, hab, hwl, _⟩ := ok_nat h
  refine ⟨P, Q, rfl, rfl, ?_⟩
  have hz : (bridgeS s P Q t).data.toList = wayL s.data.toList P Q t.data.toList := by rw [bridge_text]; unfold bridgeL; rw [h]; rfl
  have hb : bridgeL s.data.toList P Q t.data.toList = wayL s.data.toList P Q t.data.toList := by unfold bridgeL; rw [h]; rfl
  have hzl : (bridgeS s P Q t).size = (bridgeS s P Q t).data.toList.length := by simp
  have hsl : s.data.toList.length = s.size := by simp
  obtain ⟨r1, r2, r3⟩ := room_more h
  obtain ⟨n1, n2⟩ := count_more h
  obtain ⟨g1, g2⟩ := part_good (ok_span h).1
  obtain ⟨s1, s2, s3, s4, s5⟩ := same_facts hsm
  have hpt := part_text s P Q
  rw [Int.toNat_natCast, Int.toNat_natCast] at r3 n2 g1 g2
  have hsum := cnt_sum _ (stripB_ok hst)
  have hsz := size_small hst
  have hte : t.data.toList = partL s.data.toList P Q → t = s.extract P Q := fun e => bytes_ext (by rw [hpt]; exact e)
  refine ⟨hPQ, by omega, hst, hsz, by omega, by rw [hzl, hz, hwl, hsl], by rw [hz]; exact s1, by rw [hz]; exact hab, ?_, ?_, n1, ?_, ?_, ?_, r3.imp id hte, n2.imp id hte⟩
  · rw [r1, hz, hb]
  · have h1 := room_in s1
    have h2 := room_in hst
    rw [hz]
    exact ⟨h1.1, h1.2, h2.1, h2.2⟩
  · rw [hz]; exact touch_loose h hPQ hql hbl
  · refine bytes_ext ?_
    rw [bridge_text, hpt]; exact g2
  · rw [hz, ← s3, ← s4]
    exact Place.inside_all s1 (by omega)
end Go.Proofs.YthigiemgdejdhaaDoor.Tab

/- What the model of chapter 10 returns: CanRaise, RaiseAt, LowerAt. -/
import Derived.Test.YtekmladindlmoaaFlipMath
import Derived.Test.YtekmladindlmoaaCornerSpec
namespace Go.Proofs.Ytekmladindlmoaa.Flip
open Go.ChangeShapes Go.WideShapes Go.ChangeAt Go.RowKit
open Go.Proofs.Ytekmladindlmoaa.Strip Go.Proofs.Ytekmladindlmoaa.Ints Go.Proofs.Ytekmladindlmoaa.Corner Go.Proofs.Ytekmladindlmoaa.Kerf Go.Proofs.Ytekmladindlmoaa.Order
set_option linter.unusedVariables false

/-- What RaiseAt and LowerAt return, as a text. -/
def raiseS (s : ByteArray) (k : Int) : ByteArray := if cornerB 100 s.data.toList k = true then ⟨(raiseL s.data.toList k.toNat).toArray⟩ else s
def lowerS (s : ByteArray) (k : Int) : ByteArray := if cornerB 102 s.data.toList k = true then ⟨(lowerL s.data.toList k.toNat).toArray⟩ else s

theorem wrapi (n : Int) (h0 : -9223372036854775808 ≤ n) (h1 : n ≤ 9223372036854775807) : IntKind.i64.wrap n = n := by
  simp [IntKind.wrap, IntKind.signed, IntKind.bits]
  omega

theorem can_spec (s : ByteArray) (k : Int) (w : World) (hm : s.size ≤ 1048576) (hk0 : -9223372036854775808 ≤ k) (hk1 : k ≤ 9223372036854775807) :
    Calls Try.prog 19 #[.string s, .int .i64 k] w fun e w' => e = .returned (.bool (cornerB 100 s.data.toList k)) ∧ Below w.heap.size w w' := by
  go_enter Try.func19, Try.ntmps19
  go_wp2_with fail
  refine (valley_spec s k _ hm hk0 hk1).mono ?_
  rintro e w' ⟨rfl, hb⟩
  have HB := Lib.hid hb; clear hb
  go_wp2
  go_ret
  exact ⟨rfl, HB.out⟩

set_option maxRecDepth 100000 in
theorem part_list (s : ByteArray) (a b : Nat) : (s.extract a b).data.toList = (s.data.toList.take b).drop a := by
  rw [ByteArray.data_extract, Array.toList_extract, List.extract_eq_drop_take']
theorem one_list (l : List UInt8) (a b : Nat) (hb : b = a + 1) (h : a < l.length) : (l.take b).drop a = [l.getD a 0] := by
  subst hb
  rw [List.take_succ_eq_append_getElem h, List.drop_append_of_le_length (by rw [List.length_take]; omega), List.drop_take]
  simp [List.getD, h]
theorem cat_list (a b : ByteArray) : (a ++ b).data.toList = a.data.toList ++ b.data.toList := by
  rw [ByteArray.data_append, Array.toList_append]
theorem swap_is (s : ByteArray) (i k m : Nat) (hk : k = i + 1) (hj : m = k + 1) (hi : k < s.size) :
    s.extract 0 i ++ s.extract k m ++ s.extract i k ++ s.extract m s.size = ⟨(swapL (s.data.toList.getD k 0) (s.data.toList.getD i 0) s.data.toList k).toArray⟩ := by
  have hsl : s.data.toList.length = s.size := by simp
  refine of_list ?_
  rw [cat_list, cat_list, cat_list, part_list, part_list, part_list, part_list, one_list _ k m hj (by omega), one_list _ i k hk (by omega), ← hsl, List.take_length, List.drop_zero]
  unfold swapL
  rw [show k - 1 = i by omega, ← hj]
  simp
theorem put_is (s : ByteArray) (i k m : Nat) (x y : UInt8) (hk : k = i + 1) (hj : m = k + 1) (hi : k < s.size) :
    s.extract 0 i ++ ⟨#[x, y]⟩ ++ s.extract m s.size = ⟨(swapL x y s.data.toList k).toArray⟩ := by
  have hsl : s.data.toList.length = s.size := by simp
  refine of_list ?_
  rw [cat_list, cat_list, part_list, part_list, ← hsl, List.take_length, List.drop_zero]
  unfold swapL
  rw [show k - 1 = i by omega, ← hj]
  simp
/-- At a corner: the letters are known. -/
theorem swap_corner {x y : UInt8} (hxy : x = 100 ∧ y = 102 ∨ x = 102 ∧ y = 100) {l : List UInt8} {k : Nat} (h : cornerB x l (k : Int) = true) :
    swapL (l.getD k 0) (l.getD (k - 1) 0) l k = swapL y x l k := by
  obtain ⟨_, k1, k2, a, b, e, ea, _, _⟩ := corner_parts hxy h
  have e1 : l.getD k 0 = y := by rw [e, ← ea]; simp [List.getD]
  have e2 : l.getD (k - 1) 0 = x := by rw [e, ← ea]; simp [List.getD]
  rw [e1, e2]

theorem swap_spec (s : ByteArray) (i k m : Nat) (w : World) (hm : s.size ≤ 1048576) (hk : k = i + 1) (hj : m = k + 1) (hi : k < s.size) :
    Calls Try.prog 61 #[.string s, .int .i64 (k : Int)] w fun e w' => e = .returned (.string ⟨(swapL (s.data.toList.getD k 0) (s.data.toList.getD i 0) s.data.toList k).toArray⟩) ∧ Below w.heap.size w w' := by
  have a1 : (k : Int) - 1 = (i : Int) := by omega
  have a2 : (k : Int) + 1 = (m : Int) := by omega
  have b0 : (0 : Int) ≤ (i : Int) := by omega
  have b1 : (i : Int) ≤ (k : Int) := by omega
  have b2 : (k : Int) ≤ (m : Int) := by omega
  have b3 : (m : Int) ≤ (s.size : Int) := by omega
  have b4 : (k : Int) ≤ (s.size : Int) := by omega
  have b5 : (i : Int) ≤ (s.size : Int) := by omega
  have b6 : (0 : Int) ≤ (k : Int) := by omega
  have b7 : (0 : Int) ≤ (m : Int) := by omega
  have c1 : i ≤ k := by omega
  have c2 : k ≤ m := by omega
  have c3 : m ≤ s.size := by omega
  have c4 : k ≤ s.size := by omega
  have c5 : i ≤ s.size := by omega
  have HK := Lib.hid hk
  have HJ := Lib.hid hj
  clear hk hj
  go_enter Try.func61, Try.ntmps61
  go_wp2_with fail
  go_quiet (fail)
  go_wp2
  go_ret
  refine ⟨?_, drewN_below _ _⟩
  rw [← swap_is s i k m HK.out HJ.out hi]
  rfl

set_option maxRecDepth 100000 in
theorem raise_spec (s : ByteArray) (k : Int) (w : World) (hm : s.size ≤ 1048576) (hk0 : -9223372036854775808 ≤ k) (hk1 : k ≤ 9223372036854775807) :
    Calls Try.prog 86 #[.string s, .int .i64 k] w fun e w' => e = .returned (.tuple #[.string (raiseS s k), .bool (cornerB 100 s.data.toList k)]) ∧ Below w.heap.size w w' := by
  cases hc : cornerB 100 s.data.toList k with
  | false =>
    have hv : raiseS s k = s := by unfold raiseS; rw [hc]; rfl
    rw [hv]
    go_enter Try.func86, Try.ntmps86
    go_wp2_with fail
    refine (valley_spec s k _ hm hk0 hk1).mono ?_
    rintro e w' ⟨rfl, hb⟩
    have HB := Lib.hid hb; clear hb
    rw [hc]
    go_wp2
    go_ret2
    exact ⟨rfl, HB.out⟩
  | true =>
    obtain ⟨j, rfl⟩ : ∃ j : Nat, k = (j : Int) := ⟨k.toNat, by unfold cornerB at hc; simp only [Bool.and_eq_true, decide_eq_true_eq] at hc; omega⟩
    obtain ⟨hs, k1, k2, a, b, e, ea, eq1, eq2⟩ := corner_parts (.inl ⟨rfl, rfl⟩) hc
    have hv : raiseS s (j : Int) = ⟨(swapL (s.data.toList.getD j 0) (s.data.toList.getD (j - 1) 0) s.data.toList j).toArray⟩ := by unfold raiseS; rw [if_pos hc, swap_corner (.inl ⟨rfl, rfl⟩) hc]; rfl
    have HS := Lib.hid (fun w => by have h := swap_spec s (j - 1) j (j + 1) w hm (by omega) rfl (by simpa using k2); rw [← hv] at h; exact h)
    clear hv e eq1 eq2 ea
    go_enter Try.func86, Try.ntmps86
    go_wp2_with fail
    refine (valley_spec s _ _ hm hk0 hk1).mono ?_
    rintro e w' ⟨rfl, hb⟩
    have HB := Lib.hid hb; clear hb
    rw [hc]
    go_wp2_with fail
    refine (HS.out _).mono ?_
    rintro e w' ⟨rfl, hb2⟩
    have HB2 := Lib.hid (HB.out.trans (hb2.mono HB.out.size)); clear hb2
    go_wp2
    go_ret2
    exact ⟨rfl, HB2.out⟩

end Go.Proofs.Ytekmladindlmoaa.Flip

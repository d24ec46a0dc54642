/- What the program of chapter 2 returns: SameFrame, StripAt. -/
import Derived.Test.YthigiemgdejdhaaDoorStripImpl
namespace Go.Proofs.YthigiemgdejdhaaDoor.Strip
open Go.ChangeShapes Go.WideShapes Go.ChangeAt Go.RowKit
set_option linter.unusedVariables false

theorem same_num (a b : List UInt8) (ha : stripB a = true) (hb : stripB b = true) :
    sameB a b = (((cnt 100 a : Int) == (cnt 100 b : Int)) && ((cnt 102 a : Int) == (cnt 102 b : Int))) := by
  unfold sameB
  rw [ha, hb, Bool.eq_iff_iff]
  simp
  omega

theorem same_impl (s t : ByteArray) (w : World) (hm : s.size ≤ 1048576) (hm' : t.size ≤ 1048576) :
    Calls Tryd.prog 53 #[.string s, .string t] w fun e w' => e = .returned (.bool (sameB s.data.toList t.data.toList)) ∧ Below w.heap.size w w' := by
  cases hs : stripB s.data.toList with
  | false =>
    have hz : sameB s.data.toList t.data.toList = false := by unfold sameB; rw [hs]; rfl
    rw [hz]
    go_enter Tryd.func53, Tryd.ntmps53
    go_wp2_with fail
    refine (strip_impl s _ hm).mono ?_
    rintro e w1 ⟨rfl, hb⟩
    have HB := Lib.hid hb; clear hb
    rw [stripV_eq, hs]
    go_wp2_with fail
    refine (strip_impl t _ hm').mono ?_
    rintro e w2 ⟨rfl, hb⟩
    have HB2 := Lib.hid (HB.out.trans (hb.mono HB.out.size)); clear hb
    rw [stripV_eq]
    go_wp2
    go_ret
    exact ⟨rfl, HB2.out⟩
  | true =>
    cases ht : stripB t.data.toList with
    | false =>
      have hz : sameB s.data.toList t.data.toList = false := by unfold sameB; rw [hs, ht]; rfl
      rw [hz]
      go_enter Tryd.func53, Tryd.ntmps53
      go_wp2_with fail
      refine (strip_impl s _ hm).mono ?_
      rintro e w1 ⟨rfl, hb⟩
      have HB := Lib.hid hb; clear hb
      rw [stripV_eq, hs]
      go_wp2_with fail
      refine (strip_impl t _ hm').mono ?_
      rintro e w2 ⟨rfl, hb⟩
      have HB2 := Lib.hid (HB.out.trans (hb.mono HB.out.size)); clear hb
      rw [stripV_eq, ht]
      go_wp2
      go_ret
      exact ⟨rfl, HB2.out⟩
    | true =>
      have hz := same_num s.data.toList t.data.toList hs ht
      have n1 : stripV s.data.toList = .tuple #[.int .i64 (cnt 100 s.data.toList), .int .i64 (cnt 102 s.data.toList), .bool true] := by unfold stripV; rw [hs]; rfl
      have n2 : stripV t.data.toList = .tuple #[.int .i64 (cnt 100 t.data.toList), .int .i64 (cnt 102 t.data.toList), .bool true] := by unfold stripV; rw [ht]; rfl
      rw [hz]
      cases hq : ((cnt 100 s.data.toList : Int) == (cnt 100 t.data.toList : Int)) with
      | false =>
        go_enter Tryd.func53, Tryd.ntmps53
        go_wp2_with fail
        refine (strip_impl s _ hm).mono ?_
        rintro e w1 ⟨rfl, hb⟩
        have HB := Lib.hid hb; clear hb
        rw [n1]
        go_wp2_with fail
        refine (strip_impl t _ hm').mono ?_
        rintro e w2 ⟨rfl, hb⟩
        have HB2 := Lib.hid (HB.out.trans (hb.mono HB.out.size)); clear hb
        rw [n2]
        go_wp2
        go_ret
        exact ⟨rfl, HB2.out⟩
      | true =>
        go_enter Tryd.func53, Tryd.ntmps53
        go_wp2_with fail
        refine (strip_impl s _ hm).mono ?_
        rintro e w1 ⟨rfl, hb⟩
        have HB := Lib.hid hb; clear hb
        rw [n1]
        go_wp2_with fail
        refine (strip_impl t _ hm').mono ?_
        rintro e w2 ⟨rfl, hb⟩
        have HB2 := Lib.hid (HB.out.trans (hb.mono HB.out.size)); clear hb
        rw [n2]
        go_wp2
        go_ret
        exact ⟨rfl, HB2.out⟩

end Go.Proofs.YthigiemgdejdhaaDoor.Strip

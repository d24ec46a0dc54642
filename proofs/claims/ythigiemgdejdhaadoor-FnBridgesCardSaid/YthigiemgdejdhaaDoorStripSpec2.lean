/- What the model of chapter 2 returns: DownOf, ForwardOf, SameFrame, StripAt, l02Many, FlatStrip, HighStrip. -/
import Derived.Test.YthigiemgdejdhaaDoorStripSpec
import Derived.Deep.QuietTactic
import Derived.BigQuiet
import Derived.OwnWalk
namespace Go.Proofs.YthigiemgdejdhaaDoor.Strip
open Go.ChangeShapes Go.WideShapes Go.ChangeAt Go.RowKit
set_option linter.unusedVariables false

def numV (x : UInt8) (l : List UInt8) : Int := if stripB l = true then cnt x l else 0
def sameB (a b : List UInt8) : Bool := stripB a && stripB b && decide (cnt 100 a = cnt 100 b) && decide (cnt 102 a = cnt 102 b)
def flatL (d f : Int) : List UInt8 := if frameB d f = true then List.replicate d.toNat 100 ++ List.replicate f.toNat 102 else []
def highL (d f : Int) : List UInt8 := if frameB d f = true then List.replicate f.toNat 102 ++ List.replicate d.toNat 100 else []
/-- What StripAt returns. -/
def atV (l : List UInt8) (k : Int) : Value :=
  if stripB l = true ∧ 0 ≤ k ∧ k ≤ l.length then .tuple #[.int .i64 (cnt 102 (l.take k.toNat)), .int .i64 (cnt 100 (l.take k.toNat)), .bool true]
  else .tuple #[.int .i64 0, .int .i64 0, .bool false]

theorem qsame {P : Program} {f : FuncId} {args : Array Value} {w : World} {n : Nat} {v : Value}
    (h : Calls P f args (w.drewN n) fun e w' => e = .returned v ∧ w.drewN n = w') : Calls P f args (w.drewN n) fun e w'' => e = .returned v ∧ ∃ m, w'' = w.drewN m :=
  Calls.quiet_of_same (h.mono fun _ _ ⟨a, b⟩ => ⟨a, b.symm⟩)

theorem below_drewN (w : World) (n : Nat) : Below w.heap.size w (w.drewN n) := ⟨rfl, rfl, rfl, Nat.le_refl _, fun _ _ => rfl⟩

theorem take_str (s : ByteArray) (k : Nat) : (s.extract 0 k).data.toList = s.data.toList.take k := by
  simp [ByteArray.data_extract]

theorem count_int (s : ByteArray) (n : Int) (hn : 0 ≤ n ∧ n < 256) (w : World) (hm : s.size ≤ 1048576) :
    Calls Tryd.prog 36 #[.string s, .int .u8 n] w fun e w' => e = .returned (.int .i64 (cnt (UInt8.ofNat n.toNat) s.data.toList)) ∧ w = w' := by
  have e : (((UInt8.ofNat n.toNat).toNat : Nat) : Int) = n := by
    rw [UInt8.toNat_ofNat']; omega
  have h := count_spec s (UInt8.ofNat n.toNat) w hm
  rw [e] at h
  exact h

theorem down_spec (s : ByteArray) (w : World) (hm : s.size ≤ 1048576) :
    Calls Tryd.prog 20 #[.string s] w fun e w' => e = .returned (.int .i64 (numV 100 s.data.toList)) ∧ w = w' := by
  unfold numV
  cases hs : stripB s.data.toList with
  | false =>
    go_enter Tryd.func20, Tryd.ntmps20
    go_wp2_with fail
    refine (is_spec s _ hm).mono ?_
    rintro e w' ⟨rfl, rfl⟩
    rw [hs]
    go_wp2
    go_ret
    exact ⟨rfl, rfl⟩
  | true =>
    go_enter Tryd.func20, Tryd.ntmps20
    go_wp2_with fail
    refine (is_spec s _ hm).mono ?_
    rintro e w' ⟨rfl, rfl⟩
    rw [hs]
    go_wp2_with fail
    refine (count_spec s 100 _ hm).mono ?_
    rintro e w' ⟨rfl, rfl⟩
    go_wp2
    go_ret
    exact ⟨rfl, rfl⟩

theorem forward_spec (s : ByteArray) (w : World) (hm : s.size ≤ 1048576) :
    Calls Tryd.prog 21 #[.string s] w fun e w' => e = .returned (.int .i64 (numV 102 s.data.toList)) ∧ w = w' := by
  unfold numV
  cases hs : stripB s.data.toList with
  | false =>
    go_enter Tryd.func21, Tryd.ntmps21
    go_wp2_with fail
    refine (is_spec s _ hm).mono ?_
    rintro e w' ⟨rfl, rfl⟩
    rw [hs]
    go_wp2
    go_ret
    exact ⟨rfl, rfl⟩
  | true =>
    go_enter Tryd.func21, Tryd.ntmps21
    go_wp2_with fail
    refine (is_spec s _ hm).mono ?_
    rintro e w' ⟨rfl, rfl⟩
    rw [hs]
    go_wp2_with fail
    refine (count_spec s 102 _ hm).mono ?_
    rintro e w' ⟨rfl, rfl⟩
    go_wp2
    go_ret
    exact ⟨rfl, rfl⟩

theorem same_spec (s t : ByteArray) (w : World) (hm : s.size ≤ 1048576) (hm' : t.size ≤ 1048576) :
    Calls Tryd.prog 40 #[.string s, .string t] w fun e w' => e = .returned (.bool (sameB s.data.toList t.data.toList)) ∧ w = w' := by
  unfold sameB
  cases hs : stripB s.data.toList with
  | false =>
    go_enter Tryd.func40, Tryd.ntmps40
    go_wp2_with fail
    refine (is_spec s _ hm).mono ?_
    rintro e w' ⟨rfl, rfl⟩
    rw [hs]
    go_wp2
    go_ret
    exact ⟨rfl, rfl⟩
  | true =>
    cases ht : stripB t.data.toList with
    | false =>
      go_enter Tryd.func40, Tryd.ntmps40
      go_wp2_with fail
      refine (is_spec s _ hm).mono ?_
      rintro e w' ⟨rfl, rfl⟩
      rw [hs]
      go_wp2_with fail
      refine (is_spec t _ hm').mono ?_
      rintro e w' ⟨rfl, rfl⟩
      rw [ht]
      go_wp2
      go_ret
      exact ⟨rfl, rfl⟩
    | true =>
      have n1 : numV 100 s.data.toList = cnt 100 s.data.toList := by unfold numV; rw [hs]; rfl
      have n2 : numV 100 t.data.toList = cnt 100 t.data.toList := by unfold numV; rw [ht]; rfl
      have n3 : numV 102 s.data.toList = cnt 102 s.data.toList := by unfold numV; rw [hs]; rfl
      have n4 : numV 102 t.data.toList = cnt 102 t.data.toList := by unfold numV; rw [ht]; rfl
      have N1 := Lib.hid n1; clear n1
      have N2 := Lib.hid n2; clear n2
      have N3 := Lib.hid n3; clear n3
      have N4 := Lib.hid n4; clear n4
      by_cases hq : cnt 100 s.data.toList = cnt 100 t.data.toList
      · have hq' : ((cnt 100 s.data.toList : Int) == (cnt 100 t.data.toList : Int)) = true := by simp [hq]
        go_enter Tryd.func40, Tryd.ntmps40
        go_wp2_with fail
        refine (is_spec s _ hm).mono ?_
        rintro e w' ⟨rfl, rfl⟩
        rw [hs]
        go_wp2_with fail
        refine (is_spec t _ hm').mono ?_
        rintro e w' ⟨rfl, rfl⟩
        rw [ht]
        go_wp2_with fail
        refine (down_spec s _ hm).mono ?_
        rintro e w' ⟨rfl, rfl⟩
        rw [N1.out]
        go_wp2_with fail
        refine (down_spec t _ hm').mono ?_
        rintro e w' ⟨rfl, rfl⟩
        rw [N2.out]
        go_wp2_with fail
        refine (forward_spec s _ hm).mono ?_
        rintro e w' ⟨rfl, rfl⟩
        rw [N3.out]
        go_wp2_with fail
        refine (forward_spec t _ hm').mono ?_
        rintro e w' ⟨rfl, rfl⟩
        rw [N4.out]
        go_wp2
        go_ret
        refine ⟨?_, rfl⟩
        simp [hq]; rw [Bool.eq_iff_iff]; simp; omega
      · have hq' : ((cnt 100 s.data.toList : Int) == (cnt 100 t.data.toList : Int)) = false := by simp only [beq_eq_false_iff_ne, ne_eq, Int.natCast_inj]; exact hq
        go_enter Tryd.func40, Tryd.ntmps40
        go_wp2_with fail
        refine (is_spec s _ hm).mono ?_
        rintro e w' ⟨rfl, rfl⟩
        rw [hs]
        go_wp2_with fail
        refine (is_spec t _ hm').mono ?_
        rintro e w' ⟨rfl, rfl⟩
        rw [ht]
        go_wp2_with fail
        refine (down_spec s _ hm).mono ?_
        rintro e w' ⟨rfl, rfl⟩
        rw [N1.out]
        go_wp2_with fail
        refine (down_spec t _ hm').mono ?_
        rintro e w' ⟨rfl, rfl⟩
        rw [N2.out]
        go_wp2
        go_ret
        refine ⟨?_, rfl⟩
        simp [hq]

set_option maxRecDepth 100000 in
theorem at_spec (s : ByteArray) (k : Int) (w : World) (hm : s.size ≤ 1048576) :
    Calls Tryd.prog 16 #[.string s, .int .i64 k] w fun e w' => e = .returned (atV s.data.toList k) ∧ Below w.heap.size w w' := by
  have hlen : (s.data.toList.length : Int) = (s.size : Int) := by simp
  have HL := Lib.hid hlen; clear hlen
  cases hs : stripB s.data.toList with
  | false =>
    have hv : atV s.data.toList k = .tuple #[.int .i64 0, .int .i64 0, .bool false] := by unfold atV; rw [hs]; rfl
    rw [hv]
    go_enter Tryd.func16, Tryd.ntmps16
    go_wp2_with fail
    refine (is_spec s _ hm).mono ?_
    rintro e w' ⟨rfl, rfl⟩
    rw [hs]
    go_wp2
    go_ret3
    exact ⟨rfl, Below.refl _ _⟩
  | true =>
    by_cases hk : 0 ≤ k ∧ k ≤ (s.size : Int)
    · have hk' : decide (0 ≤ k ∧ k ≤ (s.size : Int)) = true := by simpa using hk
      obtain ⟨h0, h1⟩ := hk
      obtain ⟨n, rfl⟩ := Int.eq_ofNat_of_zero_le h0
      have hn : n ≤ s.size := by omega
      have hv : atV s.data.toList n = .tuple #[.int .i64 (cnt 102 (s.extract 0 n).data.toList), .int .i64 (cnt 100 (s.extract 0 n).data.toList), .bool true] := by
        unfold atV
        rw [if_pos ⟨hs, h0, by rw [HL.out]; exact h1⟩, take_str]
        rfl
      rw [hv]
      have hsz : (s.extract 0 n).size ≤ 1048576 := by simp; omega
      go_enter Tryd.func16, Tryd.ntmps16
      go_wp2_with fail
      refine (is_spec s _ hm).mono ?_
      rintro e w' ⟨rfl, rfl⟩
      rw [hs]
      go_wp2_with fail
      refine (in_at _ 0 _ _).mono ?_
      rintro e w' ⟨rfl, rfl⟩
      rw [hk']
      go_wp2_with fail
      go_quiet ((go_at_call 36; refine qsame (count_int (s.extract 0 n) _ (by omega) _ hsz)))
      go_wp2
      go_ret3
      exact ⟨rfl, below_drewN _ _⟩
    · have hk' : decide (0 ≤ k ∧ k ≤ (s.size : Int)) = false := by simpa using hk
      have hv : atV s.data.toList k = .tuple #[.int .i64 0, .int .i64 0, .bool false] := by
        unfold atV; rw [if_neg]; rw [HL.out]; exact fun h => hk h.2
      rw [hv]
      go_enter Tryd.func16, Tryd.ntmps16
      go_wp2_with fail
      refine (is_spec s _ hm).mono ?_
      rintro e w' ⟨rfl, rfl⟩
      rw [hs]
      go_wp2_with fail
      refine (in_at _ 0 _ _).mono ?_
      rintro e w' ⟨rfl, rfl⟩
      rw [hk']
      go_wp2
      go_ret3
      exact ⟨rfl, Below.refl _ _⟩
end Go.Proofs.YthigiemgdejdhaaDoor.Strip

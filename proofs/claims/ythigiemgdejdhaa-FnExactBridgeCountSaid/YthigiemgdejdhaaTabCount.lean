/- What BridgeCount of the program returns. -/
import Derived.Test.YthigiemgdejdhaaBridge
import Derived.Test.YthigiemgdejdhaaAreaUp
namespace Go.Proofs.Ythigiemgdejdhaa.Tab
open Go.ChangeShapes Go.WideShapes Go.ChangeAt Go.RowKit
open Go.Proofs.Ythigiemgdejdhaa.Strip Go.Proofs.Ythigiemgdejdhaa.Kerf Go.Proofs.Ythigiemgdejdhaa.Order Go.Proofs.Ythigiemgdejdhaa.Area
set_option linter.unusedVariables false

theorem part_text (s : ByteArray) (p q : Nat) : (s.extract p q).data.toList = partL s.data.toList p q := by
  unfold partL
  simp [ByteArray.data_extract, List.drop_take]
set_option maxRecDepth 100000 in
theorem bcount_impl (s : ByteArray) (p q : Int) (w : World) (hm : s.size ≤ 1048576) :
    Calls Try.prog 5 #[.string s, .int .i64 p, .int .i64 q] w fun e w' =>
      e = .returned (.int .i64 (countV s.data.toList p q)) ∧ Below w.heap.size w w' := by
  have HH := Lib.hid (fun w => has_impl s p q w hm)
  rw [count_max]
  cases hsp : spanB s.data.toList p q with
  | false =>
    rw [hsp] at HH
    clear hsp
    go_enter Try.func5, Try.ntmps5
    go_wp2_with fail
    refine (HH.out _).mono ?_
    rintro e w1 ⟨rfl, hb⟩
    have HB := Lib.hid hb; clear hb
    go_wp2
    go_ret
    exact ⟨rfl, HB.out⟩
  | true =>
    rw [hsp] at HH
    obtain ⟨h1, h2, h3, h4⟩ := span_iff.1 hsp
    obtain ⟨P, rfl⟩ : ∃ P : Nat, p = (P : Int) := ⟨p.toNat, by omega⟩
    obtain ⟨Q, rfl⟩ : ∃ Q : Nat, q = (Q : Int) := ⟨q.toNat, by omega⟩
    have hsz := size_small h1
    have hql : Q ≤ s.size := by simpa using h4
    have hPQ : P < Q := by omega
    have hes : (s.extract P Q).size ≤ 1048576 := by rw [ByteArray.size_extract]; omega
    have hup := fun w => up_impl (s.extract P Q) w hes
    rw [part_text] at hup
    rw [if_pos rfl, Int.toNat_natCast, Int.toNat_natCast]
    have HU := Lib.hid hup
    clear hup hsp h1 h2 h3 h4 hes
    generalize aboveI (partL s.data.toList P Q) = x at *
    have hP0 : (0 : Int) ≤ (P : Int) := Int.natCast_nonneg _
    have hP1 : (P : Int) ≤ (Q : Int) := by omega
    have hQ1 : (Q : Int) ≤ (s.size : Int) := by omega
    go_enter Try.func5, Try.ntmps5
    go_wp2_with fail
    refine (HH.out _).mono ?_
    rintro e w1 ⟨rfl, hb⟩
    have HB := Lib.hid hb; clear hb
    go_wp2_with fail
    refine (HU.out _).mono ?_
    rintro e w2 ⟨rfl, hb⟩
    have HB2 := Lib.hid (HB.out.trans (hb.mono HB.out.size)); clear hb
    go_wp2_with fail
    go_ret
    exact ⟨rfl, HB2.out⟩
end Go.Proofs.Ythigiemgdejdhaa.Tab

/- A BRIDGE in memory: the block with which a function of a bridge begins; what hasSpan and glueBridge return. -/
import Derived.Test.YthigiemgdejdhaaTabMath
import Derived.Test.YthigiemgdejdhaaLongStrip
import Derived.Test.YthigiemgdejdhaaErrs
import Derived.Test.YthigiemgdejdhaaAreaArr
namespace Go.Proofs.Ythigiemgdejdhaa.Tab
open Go.ChangeShapes Go.WideShapes Go.ChangeAt Go.RowKit
open Go.Proofs.Ythigiemgdejdhaa.Strip Go.Proofs.Ythigiemgdejdhaa.Kerf Go.Proofs.Ythigiemgdejdhaa.Order Go.Proofs.Ythigiemgdejdhaa.Area Go.Proofs.Ythigiemgdejdhaa.Errs
set_option linter.unusedVariables false

theorem below_new (w : World) (o : Obj) : Below w.heap.size w (w.alloc o) := (Below.refl _ _).alloc (Nat.le_refl _) _

/-- The way over a bridge as a text. -/
def wayS (s : ByteArray) (p q : Nat) (t : ByteArray) : ByteArray := s.extract 0 p ++ t ++ s.extract q s.size
theorem way_text (s : ByteArray) (p q : Nat) (t : ByteArray) (hq : q ≤ s.size) : (wayS s p q t).data.toList = wayL s.data.toList p q t.data.toList := by
  unfold wayS wayL
  simp [ByteArray.data_append, ByteArray.data_extract]
  exact List.take_of_length_le (by simp)
theorem way_size (s : ByteArray) (p q : Nat) (t : ByteArray) (hp : p ≤ q) (hq : q ≤ s.size) : (wayS s p q t).size = s.size - (q - p) + t.size := by
  unfold wayS
  rw [ByteArray.size_append, ByteArray.size_append, ByteArray.size_extract, ByteArray.size_extract]
  omega
def bridgeS (s : ByteArray) (p q : Int) (t : ByteArray) : ByteArray := if okB s.data.toList p q t.data.toList = true then wayS s p.toNat q.toNat t else ⟨#[]⟩
theorem bridge_text (s : ByteArray) (p q : Int) (t : ByteArray) : (bridgeS s p q t).data.toList = bridgeL s.data.toList p q t.data.toList := by
  unfold bridgeS bridgeL
  cases h : okB s.data.toList p q t.data.toList with
  | false => rfl
  | true =>
    have h2 := (span_iff.1 (ok_span h).1).2.2.2
    rw [if_pos rfl, if_pos rfl]
    exact way_text s _ _ t (by simp at h2; omega)
theorem bridge_size (s : ByteArray) (p q : Int) (t : ByteArray) : (bridgeS s p q t).size ≤ 16 := by
  have h := bridge_text s p q t
  have hl : (bridgeS s p q t).size = (bridgeL s.data.toList p q t.data.toList).length := by rw [← h]; simp
  rw [hl]
  unfold bridgeL
  cases hk : okB s.data.toList p q t.data.toList with
  | false => simp
  | true =>
    obtain ⟨P, Q, rfl, rfl, _, _, _, hs, hsm, _, hw, _⟩ := ok_nat hk
    rw [if_pos rfl, Int.toNat_natCast, Int.toNat_natCast, hw]
    exact strip_len hs

theorem has_impl (s : ByteArray) (p q : Int) (w : World) (hm : s.size ≤ 1048576) :
    Calls Try.prog 9 #[.string s, .int .i64 p, .int .i64 q] w fun e w' => e = .returned (.bool (spanB s.data.toList p q)) ∧ Below w.heap.size w w' := by
  have hsl : s.data.toList.length = s.size := by simp
  have hun : spanB s.data.toList p q = (stripB s.data.toList && decide (0 ≤ p ∧ p < q ∧ q ≤ s.size)) := by unfold spanB; rw [hsl]
  rw [hun]
  have hst := fun w => is_impl s w hm
  have HIS := Lib.hid hst
  clear hst hun hsl
  generalize stripB s.data.toList = x at *
  cases x with
  | false =>
    go_enter Try.func9, Try.ntmps9
    go_wp2_with fail
    refine (HIS.out _).mono ?_
    rintro e w1 ⟨rfl, hb⟩
    have HB := Lib.hid hb; clear hb
    go_wp2
    go_ret
    exact ⟨rfl, HB.out⟩
  | true =>
    rw [Bool.true_and]
    by_cases h0 : 0 ≤ p
    · by_cases h1 : p < q
      · by_cases h2 : q ≤ (s.size : Int)
        · rw [decide_eq_true (show 0 ≤ p ∧ p < q ∧ q ≤ (s.size : Int) from ⟨h0, h1, h2⟩)]
          go_enter Try.func9, Try.ntmps9
          go_wp2_with fail
          refine (HIS.out _).mono ?_
          rintro e w1 ⟨rfl, hb⟩
          have HB := Lib.hid hb; clear hb
          go_wp2
          go_ret
          exact ⟨rfl, HB.out⟩
        · rw [decide_eq_false (show ¬ (0 ≤ p ∧ p < q ∧ q ≤ (s.size : Int)) from fun h => h2 h.2.2)]
          go_enter Try.func9, Try.ntmps9
          go_wp2_with fail
          refine (HIS.out _).mono ?_
          rintro e w1 ⟨rfl, hb⟩
          have HB := Lib.hid hb; clear hb
          go_wp2
          go_ret
          exact ⟨congrArg (fun c => Ending.returned (.bool c)) (decide_eq_false (by omega)), HB.out⟩
      · rw [decide_eq_false (show ¬ (0 ≤ p ∧ p < q ∧ q ≤ (s.size : Int)) from fun h => h1 h.2.1)]
        go_enter Try.func9, Try.ntmps9
        go_wp2_with fail
        refine (HIS.out _).mono ?_
        rintro e w1 ⟨rfl, hb⟩
        have HB := Lib.hid hb; clear hb
        go_wp2
        go_ret
        exact ⟨rfl, HB.out⟩
    · rw [decide_eq_false (show ¬ (0 ≤ p ∧ p < q ∧ q ≤ (s.size : Int)) from fun h => h0 h.1)]
      go_enter Try.func9, Try.ntmps9
      go_wp2_with fail
      refine (HIS.out _).mono ?_
      rintro e w1 ⟨rfl, hb⟩
      have HB := Lib.hid hb; clear hb
      go_wp2
      go_ret
      exact ⟨rfl, HB.out⟩
end Go.Proofs.Ythigiemgdejdhaa.Tab

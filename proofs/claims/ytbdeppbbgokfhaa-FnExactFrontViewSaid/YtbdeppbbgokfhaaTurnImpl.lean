/- What the program of chapter 12 returns: otherLetter, TurnStrip, IsBalanced, CountBalanced. -/
import Derived.Test.YtbdeppbbgokfhaaTurnRev
import Derived.Test.YtbdeppbbgokfhaaTurnSpec
import Derived.Test.YtbdeppbbgokfhaaStripImpl2
namespace Go.Proofs.Ytbdeppbbgokfhaa.Turn
open Go.ChangeShapes Go.WideShapes Go.ChangeAt Go.RowKit
open Go.Proofs.Ytbdeppbbgokfhaa.Strip Go.Proofs.Ytbdeppbbgokfhaa.Kerf Go.Proofs.Ytbdeppbbgokfhaa.Order
set_option linter.unusedVariables false

theorem other_d (w : World) : Calls Try.prog 82 #[.string ⟨#[100]⟩] w fun e w' => e = .returned (.string ⟨#[102]⟩) ∧ w = w' := by
  go_enter Try.func82, Try.ntmps82
  go_wp2
  all_goals
    go_ret
    exact ⟨rfl, rfl⟩
theorem other_f (w : World) : Calls Try.prog 82 #[.string ⟨#[102]⟩] w fun e w' => e = .returned (.string ⟨#[100]⟩) ∧ w = w' := by
  go_enter Try.func82, Try.ntmps82
  go_wp2
  all_goals
    go_ret
    exact ⟨rfl, rfl⟩

/-- The first k letters from behind, each exchanged. -/
def turnK (l : List UInt8) (k : Nat) : List UInt8 := (l.reverse.take k).map turnB
theorem turnK_zero (l : List UInt8) : turnK l 0 = [] := rfl
theorem turnK_all (l : List UInt8) (k : Nat) (h : l.length ≤ k) : turnK l k = turnN l := by unfold turnK turnN; rw [List.take_of_length_le (by simpa using h)]
theorem turnK_succ (l : List UInt8) (k : Nat) (h : k < l.reverse.length) : turnK l (k + 1) = turnK l k ++ [turnB l.reverse[k]] := by
  unfold turnK
  rw [List.take_succ_eq_append_getElem h, List.map_append]
  rfl
theorem turnK_length (l : List UInt8) (k : Nat) : (turnK l k).length ≤ k := by unfold turnK; rw [List.length_map]; exact List.length_take_le _ _
theorem rev_letter {l : List UInt8} (h : okL l = true) (k : Nat) (hk : k < l.reverse.length) : l.reverse[k] = 100 ∨ l.reverse[k] = 102 := by
  unfold okL at h
  rw [List.all_eq_true] at h
  simpa only [Bool.or_eq_true, beq_iff_eq] using h l.reverse[k] (List.mem_reverse.1 (List.getElem_mem hk))
theorem bytes_below {B : Nat} {w0 w : World} (h : Below B w0 w) (hB : B ≤ w.heap.size) (e : TypeId) (s : ByteArray) : Below B w0 (Lib.bytesWorld w e s) :=
  ⟨h.os, h.tape, h.output, by rw [Lib.bytesWorld_size]; have := h.size; omega, fun k hk => by rw [Lib.bytesWorld_at_old w e s k (by omega)]; exact h.block k hk⟩

set_option maxRecDepth 100000 in
set_option maxHeartbeats 2000000 in
theorem turn_impl (s : ByteArray) (w : World) (hm : s.size ≤ 1048576) :
    Calls Try.prog 54 #[.string s] w fun e w' => e = .returned (.string (turnS s)) ∧ Below w.heap.size w w' := by
  have hsl : s.data.toList.length = s.size := by simp
  have HSL := Lib.hid hsl; clear hsl
  cases hs : stripB s.data.toList with
  | false =>
    rw [turnS_no hs]
    go_enter Try.func54, Try.ntmps54
    go_wp2_with fail
    refine (is_impl s _ hm).mono ?_
    rintro e w1 ⟨rfl, hb⟩
    have HB := Lib.hid hb; clear hb
    rw [hs]
    go_wp2
    go_ret
    exact ⟨rfl, HB.out⟩
  | true =>
    have hz := size_small hs
    have HOK := Lib.hid (stripB_ok hs)
    rw [turnS_yes hs]
    go_enter Try.func54, Try.ntmps54
    go_wp2_with fail
    refine (is_impl s _ hm).mono ?_
    rintro e w1 ⟨rfl, hb⟩
    have HB := Lib.hid hb; clear hb
    rw [hs]
    have hcv := Lib.run_convert_string_bytes (P := Try.prog) w1 9 22 5 s Try.underlying9 Try.underlying22 Try.underlying5
    have hbw := bytes_below HB.out HB.out.size 5 s
    have hcl : ∀ j (h : j < s.data.toList.length), (Lib.bytesWorld w1 5 s).cell? ⟨w1.heap.size, j, none⟩ = some (.int .u8 (s.data.toList[j].toNat : Int)) := fun j h => by
      rw [Lib.bytesWorld_cell w1 5 s j (by rw [← HSL.out]; exact h)]
      rw [List.getD_eq_getElem?_getD, List.getElem?_eq_getElem h]
      rfl
    have HBW := Lib.hid hbw
    generalize Lib.bytesWorld w1 5 s = w2 at *
    have hrv := revb_impl w1.heap.size (grownCap w1 s.size 0 5) s.data.toList w2 (by rw [HSL.out]; omega) hcl
    rw [HSL.out] at hrv
    have HRV := Lib.hid hrv
    clear hrv hcl hbw HB
    go_wp2_with fail
    refine HRV.out.mono ?_
    rintro e w3 ⟨g, cap, rfl, hcl, hb⟩
    have HB := Lib.hid (HBW.out.trans (hb.mono HBW.out.size))
    have HCL := Lib.hid hcl
    clear hb hcl HRV HBW hcv
    go_wp2_with fail
    go_loop [3, 5, 13] (fun x y i => ∃ k : Nat, k ≤ s.size ∧ i = .int .i64 (k : Int) ∧ x = .string ⟨(turnK s.data.toList k).toArray⟩) (fun _ _ i => s.size - (intOf i).toNat)
    case atStart => exact ⟨0, Nat.zero_le _, rfl, rfl⟩
    case round =>
      obtain ⟨k, hk, rfl, rfl⟩ := hrel
      have hlz : (turnK s.data.toList k).length ≤ 16 := Nat.le_trans (turnK_length _ _) (by omega)
      by_cases hlt : k < s.size
      · have hkr : k < s.data.toList.reverse.length := by rw [List.length_reverse, HSL.out]; exact hlt
        have hc := HCL.out k hkr
        have hx := rev_letter HOK.out k hkr
        have HN := Lib.hid (turnK_succ s.data.toList k hkr)
        generalize s.data.toList.reverse[k] = x at *
        generalize turnK s.data.toList k = l at *
        have HCF := Lib.hid (cat_lists2 l [102])
        have HCD := Lib.hid (cat_lists2 l [100])
        have hk0 : (0 : Int) ≤ (k : Int) := Int.natCast_nonneg _
        have hk1 : (k : Int) < (s.size : Int) := by omega
        rcases hx with rfl | rfl
        · have HS := Lib.hid (show turnK s.data.toList (k + 1) = l ++ [102] from HN.out)
          clear HN
          go_wp2_with fail
          refine (other_d _).mono ?_
          rintro e w' ⟨rfl, rfl⟩
          go_wp2
          exact ⟨⟨k + 1, by omega, by go_num, by rw [HS.out, ← HCF.out]⟩, by simp [intOf]; omega⟩
        · have HS := Lib.hid (show turnK s.data.toList (k + 1) = l ++ [100] from HN.out)
          clear HN
          go_wp2_with fail
          refine (other_f _).mono ?_
          rintro e w' ⟨rfl, rfl⟩
          go_wp2
          exact ⟨⟨k + 1, by omega, by go_num, by rw [HS.out, ← HCD.out]⟩, by simp [intOf]; omega⟩
      · obtain rfl : k = s.size := by omega
        rw [turnK_all _ _ (by rw [HSL.out]; exact Nat.le_refl _)] at hlz ⊢
        go_wp2
        go_ret
        exact ⟨rfl, HB.out⟩

end Go.Proofs.Ytbdeppbbgokfhaa.Turn

/- What the model and the program of chapter 2 return for FlatStrip and HighStrip. -/
import Derived.Test.YtfhpbgmnekhfeaaStripSpec2
import Derived.Test.YtfhpbgmnekhfeaaKit
import Derived.Deep.RegionWith
namespace Go.Proofs.Ytfhpbgmnekhfeaa.Strip
open Go.ChangeShapes Go.WideShapes Go.ChangeAt Go.RowKit
set_option linter.unusedVariables false

theorem cat_lists (a b : List UInt8) : (⟨a.toArray⟩ : ByteArray) ++ ⟨b.toArray⟩ = ⟨(a ++ b).toArray⟩ := by
  apply ByteArray.ext
  simp [ByteArray.data_append]

theorem many_spec (x : UInt8) (n : Int) (h0 : 0 ≤ n) (h8 : n ≤ 8) (w : World) :
    Calls Try.prog 53 #[.string ⟨#[x]⟩, .int .i64 n] w fun e w' => e = .returned (.string ⟨(List.replicate n.toNat x).toArray⟩) ∧ w = w' := by
  obtain ⟨m, rfl⟩ := Int.eq_ofNat_of_zero_le h0
  have hm : m ≤ 8 := by omega
  go_enter Try.func53, Try.ntmps53
  go_wp2_with fail
  go_loop [5, 6] (fun s i => ∃ k : Nat, k ≤ m ∧ i = .int .i64 k ∧ s = .string ⟨(List.replicate k x).toArray⟩) (fun _ i => m - (intOf i).toNat)
  case atStart => exact ⟨0, Nat.zero_le _, rfl, rfl⟩
  case round =>
    obtain ⟨k, hk, rfl, rfl⟩ := hrel
    by_cases hlt : k < m
    · have hn : (⟨(List.replicate k x).toArray⟩ : ByteArray) ++ ⟨#[x]⟩ = ⟨(List.replicate (k + 1) x).toArray⟩ := by
        have := cat_lists (List.replicate k x) [x]
        rw [List.replicate_succ', ← this]
      have hz : (⟨(List.replicate k x).toArray⟩ : ByteArray).size = k := by simp [ByteArray.size]
      have hz1 : (⟨#[x]⟩ : ByteArray).size = 1 := rfl
      go_wp2
      exact ⟨⟨k + 1, by omega, by go_num, by rw [← hn]; simp⟩, by simp [intOf]; omega⟩
    · have hkm : k = m := by omega
      subst hkm
      go_wp2
      go_ret
      exact ⟨rfl, rfl⟩

theorem frame_spec (d f : Int) (w : World) :
    Calls Try.prog 49 #[.int .i64 d, .int .i64 f] w fun e w' => e = .returned (.bool (frameB d f)) ∧ w = w' := by
  by_cases hq : 1 ≤ d ∧ d ≤ 8
  · have hq' : decide (1 ≤ d ∧ d ≤ 8) = true := by simpa using hq
    go_enter Try.func49, Try.ntmps49
    go_wp2_with fail
    refine (in_at _ 1 8 _).mono ?_
    rintro e w' ⟨rfl, rfl⟩
    rw [hq']
    go_wp2_with fail
    refine (in_at _ 1 8 _).mono ?_
    rintro e w' ⟨rfl, rfl⟩
    go_wp2
    go_ret
    refine ⟨?_, rfl⟩
    unfold frameB
    simp [hq.1, hq.2]
  · have hq' : decide (1 ≤ d ∧ d ≤ 8) = false := by simpa using hq
    go_enter Try.func49, Try.ntmps49
    go_wp2_with fail
    refine (in_at _ 1 8 _).mono ?_
    rintro e w' ⟨rfl, rfl⟩
    rw [hq']
    go_wp2
    go_ret
    refine ⟨?_, rfl⟩
    unfold frameB
    have : ¬ (1 ≤ d ∧ d ≤ 8 ∧ 1 ≤ f ∧ f ≤ 8) := fun h => hq ⟨h.1, h.2.1⟩
    simp [this]

theorem frameB_iff {d f : Int} : frameB d f = true ↔ (1 ≤ d ∧ d ≤ 8 ∧ 1 ≤ f ∧ f ≤ 8) := by unfold frameB; simp

theorem flat_spec (d f : Int) (w : World) :
    Calls Try.prog 44 #[.int .i64 d, .int .i64 f] w fun e w' => e = .returned (.string ⟨(flatL d f).toArray⟩) ∧ Below w.heap.size w w' := by
  unfold flatL
  cases hf : frameB d f with
  | false =>
    go_enter Try.func44, Try.ntmps44
    go_wp2_with fail
    refine (frame_spec _ _ _).mono ?_
    rintro e w' ⟨rfl, rfl⟩
    rw [hf]
    go_wp2
    go_ret
    exact ⟨rfl, Below.refl _ _⟩
  | true =>
    have hq := frameB_iff.mp hf
    obtain ⟨q1, q2, q3, q4⟩ := hq
    have hz : (⟨(List.replicate d.toNat (100 : UInt8)).toArray⟩ : ByteArray).size ≤ 8 := by simp [ByteArray.size]; omega
    have hz1 : (⟨(List.replicate f.toNat (102 : UInt8)).toArray⟩ : ByteArray).size ≤ 8 := by simp [ByteArray.size]; omega
    go_enter Try.func44, Try.ntmps44
    go_wp2_with fail
    refine (frame_spec _ _ _).mono ?_
    rintro e w' ⟨rfl, rfl⟩
    rw [hf]
    go_wp2_with fail
    refine (many_spec 100 d (by omega) (by omega) _).mono ?_
    rintro e w' ⟨rfl, rfl⟩
    go_wp2_with fail
    refine (many_spec 102 f (by omega) (by omega) _).mono ?_
    rintro e w' ⟨rfl, rfl⟩
    go_wp2
    go_ret
    refine ⟨?_, Below.refl _ _⟩
    rw [cat_lists]; rfl

end Go.Proofs.Ytfhpbgmnekhfeaa.Strip

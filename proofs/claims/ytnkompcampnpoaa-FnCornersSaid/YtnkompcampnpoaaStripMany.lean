/- What the model and the program of chapter 2 return for FlatStrip and HighStrip. -/
import Derived.Test.YtnkompcampnpoaaStripSpec2
import Derived.Test.YtnkompcampnpoaaKit
import Derived.Deep.RegionWith
namespace Go.Proofs.Ytnkompcampnpoaa.Strip
open Go.ChangeShapes Go.WideShapes Go.ChangeAt Go.RowKit
set_option linter.unusedVariables false

theorem cat_lists (a b : List UInt8) : (⟨a.toArray⟩ : ByteArray) ++ ⟨b.toArray⟩ = ⟨(a ++ b).toArray⟩ := by
  apply ByteArray.ext
  simp [ByteArray.data_append]

theorem many_spec (x : UInt8) (n : Int) (h0 : 0 ≤ n) (h8 : n ≤ 8) (w : World) :
    Calls Try.prog 44 #[.string ⟨#[x]⟩, .int .i64 n] w fun e w' => e = .returned (.string ⟨(List.replicate n.toNat x).toArray⟩) ∧ w = w' := by
  obtain ⟨m, rfl⟩ := Int.eq_ofNat_of_zero_le h0
  have hm : m ≤ 8 := by omega
  go_enter Try.func44, Try.ntmps44
  go_wp2_with fail
  go_loop [5, 6] (fun s i => ∃ k : Nat, k ≤ m ∧ i = .int .i64 k ∧ s = .string ⟨(List.replicate k x).toArray⟩) (fun _ i => m - (intOf i).toNat)
  case atStart => exact ⟨0, Nat.zero_le _, rfl, rfl⟩
  case round =>
    obtain ⟨k, hk, rfl, rfl⟩ := hrel
    by_cases hlt : k < m
    · have hn : (⟨(List.replicate k x).toArray⟩ : ByteArray) ++ ⟨#[x]⟩ = ⟨(List.replicate (k + 1) x).toArray⟩ := by
        have := cat_lists (List.replicate k x) [x]
        rw [List.replicate_succ', ← this]
      have hz : (⟨(List.replicate k x).toArray⟩ : ByteArray).size = k := by simp [ByteArray.size]
      have hz1 : (⟨#[x]⟩ : ByteArray).size = 1 := rfl
      go_wp2
      exact ⟨⟨k + 1, by omega, by go_num, by rw [← hn]; simp⟩, by simp [intOf]; omega⟩
    · have hkm : k = m := by omega
      subst hkm
      go_wp2
      go_ret
      exact ⟨rfl, rfl⟩

theorem frameB_iff {d f : Int} : frameB d f = true ↔ (1 ≤ d ∧ d ≤ 8 ∧ 1 ≤ f ∧ f ≤ 8) := by unfold frameB; simp

theorem repeat_one (x : UInt8) (n : Int) (h0 : 0 ≤ n) (h8 : n ≤ 8) (w : World) :
    Calls Try.prog 38 #[.string ⟨#[x]⟩, .int .i64 n] w fun e w' => e = .returned (.string ⟨(List.replicate n.toNat x).toArray⟩) ∧ Below w.heap.size w w' := by
  obtain ⟨m, rfl⟩ := Int.eq_ofNat_of_zero_le h0
  have hz1 : (⟨#[x]⟩ : ByteArray).size = 1 := rfl
  have h := Try.strings_Repeat ⟨#[x]⟩ m w (by omega) (by rw [hz1]; omega)
  have e : ∀ k : Nat, Lib.repeatL [x] k = List.replicate k x := by
    intro k
    induction k with
    | zero => rfl
    | succ k ih => simp [Lib.repeatL, List.replicate_succ, ih]
  rw [show (⟨#[x]⟩ : ByteArray).data.toList = [x] from rfl, e] at h
  exact h

end Go.Proofs.Ytnkompcampnpoaa.Strip

/- What the model and the program of chapter 2 return for FlatStrip and HighStrip. -/
import Derived.Test.YthigiemgdejdhaaDoorStripSpec2
import Derived.Test.YthigiemgdejdhaaDoorKit
import Derived.Deep.RegionWith
namespace Go.Proofs.YthigiemgdejdhaaDoor.Strip
open Go.ChangeShapes Go.WideShapes Go.ChangeAt Go.RowKit
set_option linter.unusedVariables false

theorem cat_lists (a b : List UInt8) : (⟨a.toArray⟩ : ByteArray) ++ ⟨b.toArray⟩ = ⟨(a ++ b).toArray⟩ := by
  apply ByteArray.ext
  simp [ByteArray.data_append]

theorem many_spec (x : UInt8) (n : Int) (h0 : 0 ≤ n) (h8 : n ≤ 8) (w : World) :
    Calls Tryd.prog 48 #[.string ⟨#[x]⟩, .int .i64 n] w fun e w' => e = .returned (.string ⟨(List.replicate n.toNat x).toArray⟩) ∧ w = w' := by
  obtain ⟨m, rfl⟩ := Int.eq_ofNat_of_zero_le h0
  have hm : m ≤ 8 := by omega
  go_enter Tryd.func48, Tryd.ntmps48
  go_wp2_with fail
  go_loop [5, 6] (fun s i => ∃ k : Nat, k ≤ m ∧ i = .int .i64 k ∧ s = .string ⟨(List.replicate k x).toArray⟩) (fun _ i => m - (intOf i).toNat)
  case atStart => exact ⟨0, Nat.zero_le _, rfl, rfl⟩
  case round =>
    obtain ⟨k, hk, rfl, rfl⟩ := hrel
    by_cases hlt : k < m
    · have hn : (⟨(List.replicate k x).toArray⟩ : ByteArray) ++ ⟨#[x]⟩ = ⟨(List.replicate (k + 1) x).toArray⟩ := by
        have := cat_lists (List.replicate k x) [x]
        rw [List.replicate_succ', ← this]
      have hz : (⟨(List.replicate k x).toArray⟩ : ByteArray).size = k := by simp [ByteArray.size]
      have hz1 : (⟨#[x]⟩ : ByteArray).size = 1 := rfl
      go_wp2
      exact ⟨⟨k + 1, by omega, by go_num, by rw [← hn]; simp⟩, by simp [intOf]; omega⟩
    · have hkm : k = m := by omega
      subst hkm
      go_wp2
      go_ret
      exact ⟨rfl, rfl⟩

theorem frameB_iff {d f : Int} : frameB d f = true ↔ (1 ≤ d ∧ d ≤ 8 ∧ 1 ≤ f ∧ f ≤ 8) := by unfold frameB; simp

end Go.Proofs.YthigiemgdejdhaaDoor.Strip

/- What the model of chapter 13 returns: HeightsOf, DepthsOf. -/
import Derived.Test.YtbdeppbbgokfhaaViewMath
import Derived.Test.YtbdeppbbgokfhaaKerfSpec2
namespace Go.Proofs.Ytbdeppbbgokfhaa.View
open Go.ChangeShapes Go.WideShapes Go.ChangeAt Go.RowKit
open Go.Proofs.Ytbdeppbbgokfhaa.Strip Go.Proofs.Ytbdeppbbgokfhaa.Ints Go.Proofs.Ytbdeppbbgokfhaa.Corner Go.Proofs.Ytbdeppbbgokfhaa.Kerf Go.Proofs.Ytbdeppbbgokfhaa.Order
set_option linter.unusedVariables false

/-- The depths of the first k steps; the steps forward among them. -/
def dP (l : List UInt8) (k : Nat) : List Int := dps 0 (l.take k)
def fP (l : List UInt8) (k : Nat) : Int := cnt 102 (l.take k)
theorem dP_length (l : List UInt8) (k : Nat) : (dP l k).length ≤ k := by
  unfold dP
  have h := dps_length (l.take k) 0
  rw [List.length_take] at h
  omega
theorem fP_in (l : List UInt8) (k : Nat) : 0 ≤ fP l k ∧ fP l k ≤ k := by
  unfold fP
  have h1 := cnt_le 102 (l.take k)
  rw [List.length_take] at h1
  omega
theorem dP_yes (s : ByteArray) (k : Nat) (h : k < s.size) (hx : s[k] = 102) : dP s.data.toList (k + 1) = dP s.data.toList k ∧ fP s.data.toList (k + 1) = fP s.data.toList k + 1 := by
  unfold dP fP
  rw [take_snoc s k h, dps_snoc, cnt_snoc, if_pos hx, if_pos hx, List.append_nil]
  exact ⟨rfl, by omega⟩
theorem dP_no (s : ByteArray) (k : Nat) (h : k < s.size) (hx : s[k] ≠ 102) : dP s.data.toList (k + 1) = dP s.data.toList k ++ [fP s.data.toList k] ∧ fP s.data.toList (k + 1) = fP s.data.toList k := by
  unfold dP fP
  rw [take_snoc s k h, dps_snoc, cnt_snoc, if_neg hx, if_neg hx, Int.zero_add]
  exact ⟨rfl, rfl⟩

set_option maxRecDepth 100000 in
set_option maxHeartbeats 2000000 in
theorem deep_spec (s : ByteArray) (w : World) (hm : s.size ≤ 1048576) :
    Calls Try.prog 71 #[.string s] w (PostRow w (dpsL s.data.toList)) := by
  obtain ⟨i0, hi, hz0, hz1, hz2⟩ := info_parts info_int
  have hsl : s.data.toList.length = s.size := by simp
  have HSL := Lib.hid hsl; clear hsl
  have HIS := Lib.hid (fun w => is_spec s w hm)
  have HMD := Lib.hid (World.ownsRow_made (e := 3) (size := 1) w #[] 0 (Nat.le_refl _) (by unfold maxLen; omega) rfl)
  cases hs : stripB s.data.toList with
  | false =>
    rw [dpsL_no hs]
    rw [hs] at HIS
    clear hs
    go_enter Try.func71, Try.ntmps71
    go_wp2_with fail
    go_loopw [3, 4, 5] (fun v x i wr => v = .slice (some ⟨w.heap.size, 0, none⟩) 0 0 ∧ x = .int .i64 0 ∧ i = .int .i64 0 ∧ wr = w.alloc (.cells #[] 3)) (fun _ _ i _ => 1)
    case atStart => exact ⟨rfl, rfl, rfl, rfl⟩
    case round =>
      obtain ⟨rfl, rfl, rfl, rfl⟩ := hrel
      by_cases hlt : 0 < s.size
      · have hk1 : (0 : Int) < (s.size : Int) := by omega
        go_wp2_with fail
        refine (HIS.out _).mono ?_
        rintro e w' ⟨rfl, rfl⟩
        go_wp2
        go_ret
        exact ⟨_, rfl, (Below.refl _ _).alloc (Nat.le_refl _) _, HMD.out⟩
      · have hk1 : ¬ (0 : Int) < (s.size : Int) := by omega
        go_wp2
        go_ret
        exact ⟨_, rfl, (Below.refl _ _).alloc (Nat.le_refl _) _, HMD.out⟩
  | true =>
    rw [dpsL_yes hs, show dps 0 s.data.toList = dP s.data.toList s.size by unfold dP; rw [List.take_of_length_le (by rw [HSL.out]; exact Nat.le_refl _)]]
    rw [hs] at HIS
    clear hs
    go_enter Try.func71, Try.ntmps71
    go_wp2_with fail
    go_loopw [3, 4, 5] (fun v x i wr => ∃ k : Nat, k ≤ s.size ∧ i = .int .i64 (k : Int) ∧ x = .int .i64 (fP s.data.toList k) ∧ Hid (Own wr w.heap.size v (dP s.data.toList k)) ∧ Hid (Below w.heap.size w wr)) (fun _ _ i _ => s.size - (intOf i).toNat)
    case atStart => exact ⟨0, by omega, rfl, rfl, HMD.out, (Below.refl _ _).alloc (Nat.le_refl _) _⟩
    case round =>
      obtain ⟨k, hk, rfl, rfl, HO, HB⟩ := hrel
      have hks := HB.out.size
      have HS := Lib.hid hks; clear hks
      have hle := dP_length s.data.toList k
      obtain ⟨hu1, hu2⟩ := fP_in s.data.toList k
      by_cases hlt : k < s.size
      · have hk0 : (0 : Int) ≤ (k : Int) := Int.natCast_nonneg _
        have hk1 : (k : Int) < (s.size : Int) := by omega
        by_cases hx : s[k] = 102
        · have hb : ((s[k].toNat : Int) == 102) = true := byte_eq _ 102 hx
          obtain ⟨n1, n2⟩ := dP_yes s k hlt hx
          have HN1 := Lib.hid n1
          have HN2 := Lib.hid n2
          clear n1 n2 hx
          generalize fP s.data.toList k = u at *
          go_wp2_with fail
          refine (HIS.out _).mono ?_
          rintro e w' ⟨rfl, rfl⟩
          go_wp2
          go_roundw
          case rel => exact ⟨k + 1, by omega, by go_num, by rw [HN2.out], by rw [HN1.out]; exact HO, HB⟩
          case measure => simp [intOf]; omega
        · have hb : ((s[k].toNat : Int) == 102) = false := byte_ne _ 102 hx
          obtain ⟨n1, n2⟩ := dP_no s k hlt hx
          have HN1 := Lib.hid n1
          have HN2 := Lib.hid n2
          clear n1 n2 hx
          generalize fP s.data.toList k = u at *
          go_wp2_with fail
          refine (HIS.out _).mono ?_
          rintro e w' ⟨rfl, rfl⟩
          go_wp2_with (at_builtin; refine wpList_append_own _ rfl _ _ 30 rfl w.heap.size 3 i0 _ 1 8 Try.underlying30 hi hz0 hz1 hz2 rfl (by decide) u3 (dP s.data.toList k).length (icells (dP s.data.toList k)) rfl (HO.out.alloc _) ⟨wr.heap.size, 0, none⟩ 1 1 [.int .i64 u] rfl rfl (World.news_of_block (cs := #[.int .i64 u]) (t := 3) (fr := (0, 0)) (heap_alloc_new _ _)) (by simp [Value.oneCell']) (by unfold maxLen; omega) (by omega) (by have := HS.out; simp; omega) ?_)
          intro v1 w1 hown1 hgrow _
          have HB3 := Lib.hid ((HB.out.alloc HS.out _).grown hgrow (by have := HS.out; simp; omega) (fun t e => (HO.out.lt t e).1))
          have HO3 : Hid (Own w1 w.heap.size v1 (dP s.data.toList (k + 1))) := by
            show World.ownsRow _ _ _ _ _ _ _
            rw [HN1.out, icells_snoc, List.length_append]; exact hown1
          clear hown1 hgrow
          go_wp2
          go_roundw
          case rel => exact ⟨k + 1, by omega, by go_num, by rw [HN2.out], HO3, HB3⟩
          case measure => simp [intOf]; omega
      · obtain rfl : k = s.size := by omega
        go_wp2
        go_ret
        exact ⟨_, rfl, HB.out, HO.out⟩
end Go.Proofs.Ytbdeppbbgokfhaa.View

/- What the program of chapter 7 returns: forwardHeights, AreaBetween. -/
import Derived.Test.YthigiemgdejdhaaKerfSpec2
import Derived.Test.YthigiemgdejdhaaStripImpl2
import Derived.WalkSmall
import Derived.Lib.OthersKept
namespace Go.Proofs.Ythigiemgdejdhaa.Kerf
open Go.ChangeShapes Go.WideShapes Go.ChangeAt Go.RowKit
open Go.Proofs.Ythigiemgdejdhaa.Strip Go.Proofs.Ythigiemgdejdhaa.Ints Go.Proofs.Ythigiemgdejdhaa.Corner
set_option linter.unusedVariables false

set_option maxRecDepth 100000 in
set_option maxHeartbeats 2000000 in
theorem heights_impl (s : ByteArray) (w : World) (hm : s.size ≤ 1048576) (hs : stripB s.data.toList = true) :
    Calls Try.prog 13 #[.string s] w (PostRow w (hts (cnt 100 s.data.toList) s.data.toList)) := by
  obtain ⟨i0, hi, hz0, hz1, hz2⟩ := info_parts info_int
  have hsl : s.data.toList.length = s.size := by simp
  have HSL := Lib.hid hsl; clear hsl
  have hcn := cnt_le 100 s.data.toList
  rw [HSL.out] at hcn
  rw [← hP_all _ s.size (by rw [HSL.out]; exact Nat.le_refl _)]
  have hnum : numV 100 s.data.toList = (cnt 100 s.data.toList : Int) := by unfold numV; rw [hs]; rfl
  have HD := Lib.hid (fun w => down_impl s w hm)
  rw [hnum] at HD
  have HOK := Lib.hid (stripB_ok hs)
  clear hnum hs
  go_enter Try.func13, Try.ntmps13
  go_wp2_with fail
  refine (HD.out _).mono ?_
  rintro e w1 ⟨rfl, hb⟩
  have HB0 := Lib.hid hb; clear hb
  go_wp2_with fail
  obtain ⟨B, hB⟩ : ∃ B, w1.heap.size = B := ⟨_, rfl⟩
  have hit0 := World.iter_heap w1 s 0
  have hbb0 : Below w.heap.size w (w1.iter s 0) := HB0.out.alloc HB0.out.size _
  have hBw : w.heap.size ≤ B := by rw [← hB]; exact HB0.out.size
  rw [hB] at hit0 ⊢
  have HIT0 := Lib.hid hit0
  have HBB0 := Lib.hid hbb0
  clear hit0 hbb0 hB
  go_loopw [3, 4] (fun v x wr => ∃ k : Nat, k ≤ s.size ∧ x = .int .i64 (uP s.data.toList k) ∧ Hid (wr.heap[B]? = some (.stringIter s k)) ∧ Hid (Own wr (B + 1) v (hP s.data.toList k)) ∧ Hid (Below w.heap.size w wr)) (fun _ _ wr => s.size - wr.iterPos B)
  case atStart => exact ⟨0, by omega, by rw [uP_zero], HIT0, Own.nil _ _, HBB0⟩
  case round =>
    obtain ⟨k, hk, rfl, HIT, HO, HB⟩ := hrel
    have hpos := iterPos_of HIT.out
    have HPOS := Lib.hid hpos; clear hpos
    have hle := hP_length s.data.toList k
    obtain ⟨hu1, hu2⟩ := uP_bound s.data.toList k (by rw [HSL.out]; exact hk)
    rw [HSL.out] at hu2
    by_cases hlt : k < s.size
    · have o1 := ok_at HOK.out k (by rw [HSL.out]; exact hlt)
      rw [list_at s k hlt] at o1
      have ha : (s[k]'hlt).toNat < 128 := by rcases o1 with h | h <;> rw [h] <;> decide
      have hnx : ∀ ty, (Instr.next (.pointer (some ⟨B, 0, none⟩)) true ty).run Try.prog wr = _ := fun ty => Lib.run_next_ascii_at wr B s k ty HIT.out hlt ha
      have HIT2 := Lib.hid (Lib.iterAt_heap wr B s k (k + 1) HIT.out)
      have HB2 := Lib.hid (Lib.below_iterAt HB.out (k := B) hBw s (k + 1))
      have HO2 : Hid (Own (wr.iterAt B s (k + 1)) (B + 1) u3 (hP s.data.toList k)) := ownsRow_iterAt HO.out (k := B) (by omega) s (k + 1)
      obtain ⟨W1, hW1⟩ : ∃ W1, W1 = wr.iterAt B s (k + 1) := ⟨_, rfl⟩
      rw [← hW1] at hnx HIT2 HB2 HO2
      have hBlt : B < W1.heap.size := (Array.getElem?_eq_some_iff.1 HIT2.out).1
      clear hW1 HIT HO HB
      rcases o1 with hx | hx
      · have hb : ((s[k].toNat : Int) == 100) = true := byte_eq _ 100 hx
        obtain ⟨n1, n2⟩ := hP_no s k hlt (by rw [hx]; decide)
        have HN1 := Lib.hid n1
        have HN2 := Lib.hid n2
        clear n1 n2 hx
        generalize uP s.data.toList k = u at *
        go_wp2
        go_roundw
        case rel =>
          refine ⟨k + 1, by omega, by rw [HN2.out], HIT2, ?_, HB2⟩
          rw [HN1.out]; exact HO2
        case measure => rw [iterPos_of HIT2.out, HPOS.out]; omega
      · have hb : ((s[k].toNat : Int) == 100) = false := byte_ne _ 100 (by rw [hx]; decide)
        obtain ⟨n1, n2⟩ := hP_yes s k hlt hx
        have HN1 := Lib.hid n1
        have HN2 := Lib.hid n2
        clear n1 n2 hx
        generalize uP s.data.toList k = u at *
        go_wp2_with (at_builtin; refine wpList_append_own _ rfl _ _ 27 rfl (B + 1) 3 i0 _ 1 8 Try.underlying27 hi hz0 hz1 hz2 rfl (by decide) u3 (hP s.data.toList k).length (icells (hP s.data.toList k)) rfl (HO2.out.alloc _) ⟨W1.heap.size, 0, none⟩ 1 1 [.int .i64 u] rfl rfl (World.news_of_block (cs := #[.int .i64 u]) (t := 3) (fr := (0, 0)) (heap_alloc_new _ _)) (by simp [Value.oneCell']) (by unfold maxLen; omega) (by omega) (by simp; omega) ?_)
        intro v1 w3 hown1 hgrow _
        have HIT3 : Hid (w3.heap[B]? = some (.stringIter s (k + 1))) := by
          show _ = _
          rw [hgrow.block B (by simp; omega) (fun h => by have := (HO2.out.lt _ h.symm).1; omega), Below.heap_alloc _ _ _ hBlt]; exact HIT2.out
        have HB3 := Lib.hid ((HB2.out.alloc HB2.out.size _).grown hgrow (by have := HB2.out.size; simp; omega) (fun t e => by have := (HO2.out.lt t e).1; omega))
        have HO3 : Hid (Own w3 (B + 1) v1 (hP s.data.toList (k + 1))) := by
          show World.ownsRow _ _ _ _ _ _ _
          rw [HN1.out, icells_snoc, List.length_append]; exact hown1
        clear hown1 hgrow
        go_wp2
        go_roundw
        case rel => exact ⟨k + 1, by omega, by rw [HN2.out], HIT3, HO3, HB3⟩
        case measure => rw [iterPos_of HIT3.out, HPOS.out]; omega
    · have hnx : ∀ ty, (Instr.next (.pointer (some ⟨B, 0, none⟩)) true ty).run Try.prog wr = _ := fun ty => Lib.run_next_end_at wr B s k ty HIT.out hlt
      obtain rfl : k = s.size := by omega
      go_wp2
      go_ret
      exact ⟨_, rfl, HB.out, HO.out.mono (by omega)⟩

end Go.Proofs.Ythigiemgdejdhaa.Kerf

/- What spec.l05Card and DrawCard return: the walks. -/
import Derived.Test.YtfhpbgmnekhfeaaDrawCard
namespace Go.Proofs.Ytfhpbgmnekhfeaa.Card
open Go.ChangeShapes Go.WideShapes Go.ChangeAt Go.RowKit
open Go.Proofs.Ytfhpbgmnekhfeaa.Strip Go.Proofs.Ytfhpbgmnekhfeaa.Strs Go.Proofs.Ytfhpbgmnekhfeaa.Draw
set_option linter.unusedVariables false

theorem grow_good {d f : Int} {l : List ByteArray} {j : Nat} {s : ByteArray} (h : l.length = j ∧ ∀ s ∈ l, goodB d f s = true) (hs : goodB d f s = true) : (l ++ [s]).length = j + 1 ∧ ∀ t ∈ l ++ [s], goodB d f t = true := by
  refine ⟨by simp [h.1], fun t ht => ?_⟩
  rcases List.mem_append.1 ht with h1 | h1
  · exact h.2 t h1
  · rw [List.mem_singleton.1 h1]; exact hs

set_option maxRecDepth 100000 in
set_option maxHeartbeats 2000000 in
theorem card_get (k : Nat) (ca : Option Addr) (cl cc : Nat) (w : World) (hk : k < w.heap.size) (hc : Cur w k ca cl cc) {Q : Ending → World → Prop}
    (h : ∀ (d f : Int) (a : Option Addr) (c : Nat) (l : List ByteArray) (w' : World), d ≤ 4 → f ≤ 4 → l.length ≤ 6 → cardB d f l = true → Cur w' k ca cl cc → w.grownBy w' (some k) → Own w' w.heap.size (.slice a l.length c) l →
      Q (.returned (.agg #[.int .i64 d, .int .i64 f, .slice a l.length c])) w') :
    Calls Try.prog 30 #[.pointer (some ⟨k, 0, none⟩)] w Q := by
  have H := Lib.hid h; clear h
  have HC := Lib.hid hc; clear hc
  go_enter Try.func30, Try.ntmps30
  go_wp2_with fail
  refine below_get k ca cl cc 4 (by omega) _ (HC.out.alloc _) ?_
  intro x w1 x0 x1 hc1 g1
  have HC1 := Lib.hid hc1; clear hc1
  have HG1 := Lib.hid g1; clear g1
  go_wp2_with fail
  refine below_get k ca cl cc 4 (by omega) _ HC1.out ?_
  intro y w2 y0 y1 hc2 g2
  have HS := Lib.hid (St.begin w hk (1 + x) (1 + y) hc2 (grownBy_trans HG1.out g2))
  clear hc2 g2 HG1
  obtain ⟨d, hd⟩ : ∃ d, 1 + x = d := ⟨_, rfl⟩
  obtain ⟨f, hf⟩ : ∃ f, 1 + y = f := ⟨_, rfl⟩
  rw [hd, hf] at HS
  have hd1 : 1 ≤ d := by omega
  have hd4 : d ≤ 4 := by omega
  have hf1 : 1 ≤ f := by omega
  have hf4 : f ≤ 4 := by omega
  go_wp2_with fail
  try rw [hd, hf]
  clear hd hf x0 x1 y0 y1
  obtain ⟨g1, hg1⟩ : ∃ g1, w2.heap.size = g1 := ⟨_, rfl⟩
  rw [hg1] at HS
  rw [hg1]
  clear hg1
  generalize w2.alloc (.cells #[.int .i64 d, .int .i64 f, .slice none 0 0] 26) = W at *
  refine below_get k ca cl cc 6 (by omega) _ HS.out.2.2.1 ?_
  intro z w3 z0 z1 hc3 g3
  have HS3 := Lib.hid (HS.out.draw hc3 g3)
  clear hc3 g3 HS
  go_wp2_with fail
  go_loopw [5] (fun i wr => ∃ (j : Nat) (a : Option Addr) (c : Nat) (l : List ByteArray), (j : Int) ≤ 1 + z ∧ i = .int .i64 (j : Int) ∧ Hid (St w k w.heap.size g1 d f a j c l ca cl cc wr) ∧ Hid (l.length = j ∧ ∀ s ∈ l, goodB d f s = true)) (fun i _ => (1 + z - intOf i).toNat)
  case atStart => exact ⟨0, none, 0, [], by omega, rfl, HS3, Lib.hid ⟨rfl, by simp⟩⟩
  case round =>
    obtain ⟨j, a, c, l, hj, rfl, HSJ, HL⟩ := hrel
    have hj0 : (0 : Int) ≤ (j : Int) := Int.natCast_nonneg _
    by_cases hlt : (j : Int) < 1 + z
    · have hd0 : decide ((j : Int) < 1 + z) = true := decide_eq_true hlt
      obtain ⟨k0, k1, k2⟩ := HSJ.out.2.2.2.2.1.cells
      go_wp2_with fail
      refine draw_int k ca cl cc d f (by omega) (by omega) (by omega) (by omega) _ HSJ.out.2.2.1 ?_
      intro s w4 hok hsd hsf hc4 g4
      have HGS := Lib.hid (good_of hok hsd hsf (frame_mk hd1 (by omega) hf1 (by omega)))
      have HS4 := Lib.hid (HSJ.out.draw hc4 g4)
      clear hc4 g4 hok hsd hsf HSJ k0 k1 k2
      go_wp2_with fail
      refine below_get k ca cl cc 4 (by omega) _ HS4.out.2.2.1 ?_
      intro v w5 v0 v1 hc5 g5
      have HS5 := Lib.hid (HS4.out.draw hc5 g5)
      clear hc5 g5 HS4
      obtain ⟨k0, k1, k2⟩ := HS5.out.2.2.2.2.1.cells
      by_cases hv0 : v = 0
      · subst hv0
        go_wp2_with fail
        refine (flat_spec d f _).mono ?_
        rintro e w5 ⟨rfl, hb5⟩
        have HS5 := Lib.hid (HS5.out.still hb5)
        have HGS := Lib.hid (flat_good (frame_mk hd1 (show d ≤ 8 by omega) hf1 (show f ≤ 8 by omega)))
        clear hb5 k0 k1 k2
        obtain ⟨k0, k1, k2⟩ := HS5.out.2.2.2.2.1.cells
        generalize (⟨(flatL d f).toArray⟩ : ByteArray) = s at *
        obtain ⟨gg, cap, w6, hr6, hv6, hs6⟩ := HS5.out.push s (by omega)
        have HS6 := Lib.hid hs6
        obtain ⟨m0, m1, m2⟩ := hv6.cells
        have fr := hv6.free 2
        clear hs6 hv6
        go_wp2_with (at_builtin; refine Lib.wpList_append_run _ rfl _ _ _ _ rfl _ _ rfl rfl _ _ (hr6 _) ?_)
        go_roundw
        case rel => exact ⟨j + 1, some ⟨gg, 0, none⟩, cap, l ++ [s], by omega, by go_num, HS6, Lib.hid (grow_good HL.out HGS.out)⟩
        case measure => simp [intOf]; omega
      · by_cases hv1 : v = 1
        · subst hv1
          by_cases hjp : 0 < j
          · have hjp' : (0 : Int) < (j : Int) := by omega
            obtain ⟨g, rfl, _, hcell⟩ := HS5.out.2.2.2.2.2.row2.2 (j - 1) (by rw [HL.out.1]; omega)
            have hix : ((j : Int) - 1) = ((j - 1 : Nat) : Int) := by omega
            have HGS := Lib.hid (HL.out.2 _ (List.getElem_mem (show j - 1 < l.length by rw [HL.out.1]; omega)))
            generalize l[j - 1]'_ = s at *
            obtain ⟨gg, cap, w6, hr6, hv6, hs6⟩ := HS5.out.push s (by omega)
            have HS6 := Lib.hid hs6
            obtain ⟨m0, m1, m2⟩ := hv6.cells
            have fr := hv6.free 2
            clear hs6 hv6
            go_wp2_with (at_builtin; refine Lib.wpList_append_run _ rfl _ _ _ _ rfl _ _ rfl rfl _ _ (hr6 _) ?_)
            go_roundw
            case rel => exact ⟨j + 1, some ⟨gg, 0, none⟩, cap, l ++ [s], by omega, by go_num, HS6, Lib.hid (grow_good HL.out HGS.out)⟩
            case measure => simp [intOf]; omega
          · obtain rfl : j = 0 := by omega
            generalize (⟨s.toArray⟩ : ByteArray) = s at *
            obtain ⟨gg, cap, w6, hr6, hv6, hs6⟩ := HS5.out.push s (by omega)
            have HS6 := Lib.hid hs6
            obtain ⟨m0, m1, m2⟩ := hv6.cells
            have fr := hv6.free 2
            clear hs6 hv6
            go_wp2_with (at_builtin; refine Lib.wpList_append_run _ rfl _ _ _ _ rfl _ _ rfl rfl _ _ (hr6 _) ?_)
            go_roundw
            case rel => exact ⟨0 + 1, some ⟨gg, 0, none⟩, cap, l ++ [s], by omega, by go_num, HS6, Lib.hid (grow_good HL.out HGS.out)⟩
            case measure => simp [intOf]; omega
        · have hv2 : (v == 1) = false := by simpa using hv1
          have hv3 : (v == 0) = false := by simpa using hv0
          generalize (⟨s.toArray⟩ : ByteArray) = s at *
          obtain ⟨gg, cap, w6, hr6, hv6, hs6⟩ := HS5.out.push s (by omega)
          have HS6 := Lib.hid hs6
          obtain ⟨m0, m1, m2⟩ := hv6.cells
          have fr := hv6.free 2
          clear hs6 hv6
          go_wp2_with (at_builtin; refine Lib.wpList_append_run _ rfl _ _ _ _ rfl _ _ rfl rfl _ _ (hr6 _) ?_)
          go_roundw
          case rel => exact ⟨j + 1, some ⟨gg, 0, none⟩, cap, l ++ [s], by omega, by go_num, HS6, Lib.hid (grow_good HL.out HGS.out)⟩
          case measure => simp [intOf]; omega
    · have hd0 : decide ((j : Int) < 1 + z) = false := decide_eq_false hlt
      obtain ⟨Z, hZ, hz0, hz1, hz2, hz3⟩ := HSJ.out.end
      unfold Card.set3 at hZ
      have HZZ := Lib.hid hZ
      have HZ0 := Lib.hid hz0
      have HZ1 := Lib.hid hz1
      have HZ2 := Lib.hid hz2
      have HZ3 := Lib.hid hz3
      clear hZ hz0 hz1 hz2 hz3
      obtain ⟨k0, k1, k2⟩ := HSJ.out.2.2.2.2.1.cells
      obtain ⟨p0, p1, p2⟩ := HSJ.out.2.2.2.1.cells
      have f0 := HSJ.out.2.2.2.1.free 0
      have f1 := HSJ.out.2.2.2.1.free 1
      have f2 := HSJ.out.2.2.2.1.free 2
      go_wp2_with fail
      rw [← HZZ.out]
      clear HZZ k0 k1 k2 p0 p1 p2 f0 f1 f2
      obtain ⟨z0, z1, z2⟩ := HZ0.out.cells
      have hbp : ∀ ll : Nat, ll = j → Q (.returned (.agg #[.int .i64 d, .int .i64 f, .slice a j c])) Z := by
        intro _ _
        have hl := HL.out.1
        subst hl
        exact H.out d f a c l Z hd4 hf4 (by omega) (cardB_iff.2 ⟨frame_mk hd1 (by omega) hf1 (by omega), by omega, by omega, HL.out.2⟩) HZ1.out HZ2.out HZ3.out
      refine bodyPost_ret (v := .agg #[.int .i64 d, .int .i64 f, .slice a j c]) (by simp [results, Try.results30, go_sem, z0, z1, z2]) rfl ?_
      exact hbp j rfl
end Go.Proofs.Ytfhpbgmnekhfeaa.Card

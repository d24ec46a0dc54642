/- What the program of chapter 3 returns: RunsOf. -/
import Derived.Test.YtnkompcampnpoaaCornerImpl
import Derived.Test.YtnkompcampnpoaaCornerSpec2
namespace Go.Proofs.Ytnkompcampnpoaa.Corner
open Go.ChangeShapes Go.WideShapes Go.ChangeAt Go.RowKit
open Go.Proofs.Ytnkompcampnpoaa.Strip Go.Proofs.Ytnkompcampnpoaa.Ints
set_option linter.unusedVariables false

set_option maxRecDepth 100000 in
theorem runs_impl (s : ByteArray) (w : World) (hm : s.size ≤ 1048576) :
    Calls Try.prog 14 #[.string s] w (PostRow w (runsL s.data.toList)) := by
  obtain ⟨i0, hi, hz0, hz1, hz2⟩ := info_parts info_int
  have hsl : s.data.toList.length = s.size := by simp
  have HSL := Lib.hid hsl; clear hsl
  cases hst : stripB s.data.toList with
  | false =>
    rw [runs_no hst]
    go_enter Try.func14, Try.ntmps14
    go_wp2_with fail
    refine (is_impl s _ hm).mono ?_
    rintro e w1 ⟨rfl, hb⟩
    have HB := Lib.hid hb; clear hb
    rw [hst]
    go_wp2
    go_ret
    exact ⟨_, rfl, HB.out, Own.nil _ _⟩
  | true =>
    have hsz := strip_size hst
    rw [HSL.out] at hsz
    rw [runs_yes hst]
    have hcs : cornersL s.data.toList = turns s.data.toList s.data.toList.length := corners_yes hst
    have hb1 : ∀ k, 0 ≤ ((turns s.data.toList s.data.toList.length).take k).getLastD 0 ∧ ((turns s.data.toList s.data.toList.length).take k).getLastD 0 ≤ (s.data.toList.length : Int) := last_bound s.data.toList
    have hb2 := get_bound s.data.toList
    have hlen := turns_lt s.data.toList s.data.toList.length (by rw [HSL.out]; omega)
    have hc := fun w => corners_impl s w hm
    rw [hcs] at hc
    have HC := Lib.hid hc; clear hc hcs
    generalize turns s.data.toList s.data.toList.length = cs at *
    rw [HSL.out] at hb1 hb2 hlen ⊢
    have HB1 := Lib.hid hb1; clear hb1
    have HB2 := Lib.hid hb2; clear hb2
    go_enter Try.func14, Try.ntmps14
    go_wp2_with fail
    refine (is_impl s _ hm).mono ?_
    rintro e w1 ⟨rfl, hb⟩
    have HB0 := Lib.hid hb; clear hb
    rw [hst]
    go_wp2_with fail
    refine (HC.out _).mono ?_
    rintro e w2 ⟨vc, rfl, hbw, ho⟩
    have HBW := Lib.hid (HB0.out.trans (hbw.mono HB0.out.size))
    have HOC := Lib.hid (ho.mono HB0.out.size)
    clear ho hbw
    obtain ⟨a, cap, rfl, _, _⟩ := HOC.out.row
    go_wp2_with fail
    go_loopw [3, 4, 13] (fun v la i wr => ∃ k : Nat, k ≤ cs.length ∧ i = .int .i64 (k : Int) ∧ la = .int .i64 ((cs.take k).getLastD 0) ∧ Hid (Own wr w.heap.size v (gaps 0 (cs.take k))) ∧ Hid (Own wr w.heap.size (.slice a cs.length cap) cs) ∧ Hid (Apart v (.slice a cs.length cap)) ∧ Hid (Below w.heap.size w wr)) (fun _ _ i _ => cs.length - (intOf i).toNat)
    case atStart => exact ⟨0, Nat.zero_le _, rfl, rfl, Own.nil _ _, HOC, (fun b _ e => by cases e), HBW⟩
    case round =>
      obtain ⟨k, hk, rfl, rfl, HO, HC2, HAP, HB⟩ := hrel
      have hks := HB.out.size
      have HS := Lib.hid hks; clear hks
      have HL := Lib.hid (gaps_length (cs.take k) 0)
      obtain ⟨l0, l1⟩ := HB1.out k
      by_cases hlt : k < cs.length
      · have hk0 : (0 : Int) ≤ (k : Int) := Int.natCast_nonneg _
        have hk1 : (k : Int) < (cs.length : Int) := by omega
        obtain ⟨b0, b1⟩ := HB2.out k hlt
        have hg := gaps_take cs k hlt
        have hl := last_take cs k hlt
        have HG := Lib.hid hg; clear hg
        have HLT := Lib.hid hl; clear hl
        obtain ⟨a', c', e, hrow, _⟩ := HC2.out.row
        cases e
        obtain ⟨g, rfl, hgs, hcell⟩ := hrow k hlt
        clear hrow
        have htk : (cs.take k).length = k := by rw [List.length_take]; omega
        rw [htk] at HL
        generalize (cs.take k).getLastD 0 = la at *
        generalize cs[k] = c at *
        go_wp2_with (at_builtin; refine wpList_append_lies _ rfl _ _ 25 rfl w.heap.size 3 i0 _ 1 8 Try.underlying25 hi hz0 hz1 hz2 rfl (by decide) u3 (gaps 0 (cs.take k)).length (icells (gaps 0 (cs.take k))) rfl (HO.out.alloc _) ⟨wr.heap.size, 0, none⟩ 1 1 [.int .i64 (c - la)] rfl rfl (World.news_of_block (cs := #[.int .i64 (c - la)]) (t := 3) (fr := (0, 0)) (heap_alloc_new _ _)) (by simp [Value.oneCell']) (by decide) (by unfold maxLen; rw [HL.out]; omega) (by rw [HL.out]; omega) (by have := HS.out; simp; omega) _ rfl ?_)
        intro g2 cap2 w2 hown2 hgrow2 hg2 hlt2
        have hal : Own (wr.alloc (.cells #[.int .i64 (c - la)] 3)) w.heap.size (.slice (some ⟨g, 0, none⟩) cs.length cap) cs := HC2.out.alloc _
        have HB3 := Lib.hid ((HB.out.alloc HS.out _).grown hgrow2 (by have := HS.out; simp; omega) (fun t e => (HO.out.lt t e).1))
        have HC3 := Lib.hid (hal.apart2 HAP.out hgrow2)
        have HA3 := Lib.hid (Apart.grown (n := (gaps 0 (cs.take k)).length + 1) (cap := cap2) (H := wr.heap.size + 1) hal (by simp) HAP.out hg2)
        have HO3 : Hid (Own w2 w.heap.size (.slice (some ⟨g2, 0, none⟩) ((gaps 0 (cs.take k)).length + 1) cap2) (gaps 0 (cs.take (k + 1)))) := by
          show World.ownsRow _ _ _ _ _ _ _
          rw [HG.out, icells_snoc, List.length_append]; exact hown2
        clear hown2 hgrow2 hal hcell hg2 hlt2
        go_wp2
        go_roundw
        case rel => exact ⟨k + 1, by omega, by go_num, by rw [HLT.out], HO3, HC3, HA3, HB3⟩
        case measure => simp [intOf]; omega
      · obtain rfl : k = cs.length := by omega
        have hsn := gaps_snoc cs 0 (s.size : Int)
        rw [List.take_length] at HO HL l0 l1 ⊢
        have HSN := Lib.hid hsn; clear hsn
        generalize cs.getLastD 0 = la at *
        go_wp2_with (at_builtin; refine wpList_append_lies _ rfl _ _ 25 rfl w.heap.size 3 i0 _ 1 8 Try.underlying25 hi hz0 hz1 hz2 rfl (by decide) u3 (gaps 0 cs).length (icells (gaps 0 cs)) rfl (HO.out.alloc _) ⟨wr.heap.size, 0, none⟩ 1 1 [.int .i64 ((s.size : Int) - la)] rfl rfl (World.news_of_block (cs := #[.int .i64 ((s.size : Int) - la)]) (t := 3) (fr := (0, 0)) (heap_alloc_new _ _)) (by simp [Value.oneCell']) (by decide) (by unfold maxLen; rw [HL.out]; omega) (by rw [HL.out]; omega) (by have := HS.out; simp; omega) _ rfl ?_)
        intro g2 cap2 w2 hown2 hgrow2 hg2 hlt2
        have HB3 := Lib.hid ((HB.out.alloc HS.out _).grown hgrow2 (by have := HS.out; simp; omega) (fun t e => (HO.out.lt t e).1))
        have HO3 : Hid (Own w2 w.heap.size (.slice (some ⟨g2, 0, none⟩) ((gaps 0 cs).length + 1) cap2) (gaps 0 (cs ++ [(s.size : Int)]))) := by
          show World.ownsRow _ _ _ _ _ _ _
          rw [HSN.out, icells_snoc, List.length_append]; exact hown2
        clear hown2 hgrow2 hg2 hlt2
        go_wp2
        go_ret
        exact ⟨_, rfl, HB3.out, HO3.out⟩
end Go.Proofs.Ytnkompcampnpoaa.Corner

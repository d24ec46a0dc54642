/- What the program of chapter 7 returns: forwardHeights, AreaBetween. -/
import Derived.Test.YthigiemgdejdhaaDoorKerfSpec2
import Derived.Test.YthigiemgdejdhaaDoorStripImpl2
import Derived.WalkSmall
import Derived.Lib.OthersKept
namespace Go.Proofs.YthigiemgdejdhaaDoor.Kerf
open Go.ChangeShapes Go.WideShapes Go.ChangeAt Go.RowKit
open Go.Proofs.YthigiemgdejdhaaDoor.Strip Go.Proofs.YthigiemgdejdhaaDoor.Ints Go.Proofs.YthigiemgdejdhaaDoor.Corner
set_option linter.unusedVariables false

set_option maxRecDepth 100000 in
set_option maxHeartbeats 2000000 in
theorem heights_impl (s : ByteArray) (w : World) (hm : s.size ≤ 1048576) (hs : stripB s.data.toList = true) :
    Calls Tryd.prog 54 #[.string s] w (PostRow w (hts (cnt 100 s.data.toList) s.data.toList)) := by
  obtain ⟨i0, hi, hz0, hz1, hz2⟩ := info_parts info_int
  have hsl : s.data.toList.length = s.size := by simp
  have HSL := Lib.hid hsl; clear hsl
  have hcn := cnt_le 100 s.data.toList
  rw [HSL.out] at hcn
  rw [← hP_all _ s.size (by rw [HSL.out]; exact Nat.le_refl _)]
  have hnum : numV 100 s.data.toList = (cnt 100 s.data.toList : Int) := by unfold numV; rw [hs]; rfl
  have HD := Lib.hid (fun w => down_impl s w hm)
  rw [hnum] at HD
  have HOK := Lib.hid (stripB_ok hs)
  clear hnum hs
  go_enter Tryd.func54, Tryd.ntmps54
  go_wp2_with fail
  refine (HD.out _).mono ?_
  rintro e w1 ⟨rfl, hb⟩
  have HB0 := Lib.hid hb; clear hb
  go_wp2_with fail
  obtain ⟨B, hB⟩ : ∃ B, w1.heap.size = B := ⟨_, rfl⟩
  have hit0 := World.iter_heap w1 s 0
  have hbb0 : Below w.heap.size w (w1.iter s 0) := HB0.out.alloc HB0.out.size _
  have hBw : w.heap.size ≤ B := by rw [← hB]; exact HB0.out.size
  rw [hB] at hit0 ⊢
  have HIT0 := Lib.hid hit0
  have HBB0 := Lib.hid hbb0
  clear hit0 hbb0 hB
  go_loopw [3, 4] (fun v x wr => ∃ k : Nat, k ≤ s.size ∧ x = .int .i64 (uP s.data.toList k) ∧ Hid (wr.heap[B]? = some (.stringIter s k)) ∧ Hid (Own wr (B + 1) v (hP s.data.toList k)) ∧ Hid (Below w.heap.size w wr)) (fun _ _ wr => s.size - wr.iterPos B)
  case atStart => exact ⟨0, by omega, by rw [uP_zero], HIT0, Own.nil _ _, HBB0⟩
  case round =>
    obtain ⟨k, hk, rfl, HIT, HO, HB⟩ := hrel
    have hpos := iterPos_of HIT.out
    have HPOS := Lib.hid hpos; clear hpos
    have hle := hP_length s.data.toList k
    obtain ⟨hu1, hu2⟩ := uP_bound s.data.toList k (by rw [HSL.out]; exact hk)
    rw [HSL.out] at hu2
    by_cases hlt : k < s.size
    · have o1 := ok_at HOK.out k (by rw [HSL.out]; exact hlt)
      rw [list_at s k hlt] at o1
      have ha : (s[k]'hlt).toNat < 128 := by rcases o1 with h | h <;> rw [h] <;> decide
      have hnx : ∀ ty, (Instr.next (.pointer (some ⟨B, 0, none⟩)) true ty).run Tryd.prog wr = _ := fun ty => Lib.run_next_ascii_at wr B s k ty HIT.out hlt ha
      have HIT2 := Lib.hid (Lib.iterAt_heap wr B s k (k + 1) HIT.out)
      have HB2 := Lib.hid (Lib.below_iterAt HB.out (k := B) hBw s (k + 1))
      have HO2 : Hid (Own (wr.iterAt B s (k + 1)) (B + 1) u3 (hP s.data.toList k)) := ownsRow_iterAt HO.out (k := B) (by omega) s (k + 1)
      obtain ⟨W1, hW1⟩ : ∃ W1, W1 = wr.iterAt B s (k + 1) := ⟨_, rfl⟩
      rw [← hW1] at hnx HIT2 HB2 HO2
      have hBlt : B < W1.heap.size := (Array.getElem?_eq_some_iff.1 HIT2.out).1
      clear hW1 HIT HO HB
      rcases o1 with hx | hx
      · have hb : ((s[k].toNat : Int) == 100) = true := byte_eq _ 100 hx
        obtain ⟨n1, n2⟩ := hP_no s k hlt (by rw [hx]; decide)
        have HN1 := Lib.hid n1
        have HN2 := Lib.hid n2
        clear n1 n2 hx
        generalize uP s.data.toList k = u at *
        go_wp2
        go_roundw
        case rel =>
          refine ⟨k + 1, by omega, by rw [HN2.out], HIT2, ?_, HB2⟩
          rw [HN1.out]; exact HO2
        case measure => rw [iterPos_of HIT2.out, HPOS.out]; omega
      · have hb : ((s[k].toNat : Int) == 100) = false := byte_ne _ 100 (by rw [hx]; decide)
        obtain ⟨n1, n2⟩ := hP_yes s k hlt hx
        have HN1 := Lib.hid n1
        have HN2 := Lib.hid n2
        clear n1 n2 hx
        generalize uP s.data.toList k = u at *
        go_wp2_with (at_builtin; refine wpList_append_own _ rfl _ _ 55 rfl (B + 1) 3 i0 _ 1 8 Tryd.underlying55 hi hz0 hz1 hz2 rfl (by decide) u3 (hP s.data.toList k).length (icells (hP s.data.toList k)) rfl (HO2.out.alloc _) ⟨W1.heap.size, 0, none⟩ 1 1 [.int .i64 u] rfl rfl (World.news_of_block (cs := #[.int .i64 u]) (t := 3) (fr := (0, 0)) (heap_alloc_new _ _)) (by simp [Value.oneCell']) (by unfold maxLen; omega) (by omega) (by simp; omega) ?_)
        intro v1 w3 hown1 hgrow _
        have HIT3 : Hid (w3.heap[B]? = some (.stringIter s (k + 1))) := by
          show _ = _
          rw [hgrow.block B (by simp; omega) (fun h => by have := (HO2.out.lt _ h.symm).1; omega), Below.heap_alloc _ _ _ hBlt]; exact HIT2.out
        have HB3 := Lib.hid ((HB2.out.alloc HB2.out.size _).grown hgrow (by have := HB2.out.size; simp; omega) (fun t e => by have := (HO2.out.lt t e).1; omega))
        have HO3 : Hid (Own w3 (B + 1) v1 (hP s.data.toList (k + 1))) := by
          show World.ownsRow _ _ _ _ _ _ _
          rw [HN1.out, icells_snoc, List.length_append]; exact hown1
        clear hown1 hgrow
        go_wp2
        go_roundw
        case rel => exact ⟨k + 1, by omega, by rw [HN2.out], HIT3, HO3, HB3⟩
        case measure => rw [iterPos_of HIT3.out, HPOS.out]; omega
    · have hnx : ∀ ty, (Instr.next (.pointer (some ⟨B, 0, none⟩)) true ty).run Tryd.prog wr = _ := fun ty => Lib.run_next_end_at wr B s k ty HIT.out hlt
      obtain rfl : k = s.size := by omega
      go_wp2
      go_ret
      exact ⟨_, rfl, HB.out, HO.out.mono (by omega)⟩

set_option maxRecDepth 100000 in
set_option maxHeartbeats 2000000 in
theorem area_impl (s t : ByteArray) (w : World) (hm : s.size ≤ 1048576) (hm' : t.size ≤ 1048576) :
    Calls Tryd.prog 32 #[.string s, .string t] w fun e w' => e = .returned (.int .i64 (areaI s.data.toList t.data.toList)) ∧ Below w.heap.size w w' := by
  have hsm := fun w => same_impl s t w hm hm'
  cases hst : sameB s.data.toList t.data.toList with
  | false =>
    rw [hst] at hsm
    have HSM := Lib.hid hsm; clear hsm
    have hv : areaI s.data.toList t.data.toList = -1 := by unfold areaI; rw [hst]; rfl
    rw [hv]
    go_enter Tryd.func32, Tryd.ntmps32
    go_wp2_with fail
    refine (HSM.out _).mono ?_
    rintro e w1 ⟨rfl, hb⟩
    have HB := Lib.hid hb; clear hb
    go_wp2
    go_ret
    exact ⟨rfl, HB.out⟩
  | true =>
    rw [hst] at hsm
    have HSM := Lib.hid hsm; clear hsm
    have hv : areaI s.data.toList t.data.toList = areaS s.data.toList t.data.toList := by unfold areaI; rw [hst]; rfl
    rw [hv, ← areaS_P]
    obtain ⟨hs1, hs2, _, hs4, _⟩ := same_facts hst
    have hla := hts_length s.data.toList (cnt 100 s.data.toList)
    have hlb := hts_length t.data.toList (cnt 100 t.data.toList)
    have hz := strip_size hs1
    have hcl := cnt_le 102 s.data.toList
    have hia := strip_in hs1
    have hib := strip_in hs2
    have HA := Lib.hid (fun w => heights_impl s w hm hs1)
    have HB := Lib.hid (fun w => heights_impl t w hm' hs2)
    rw [← hs4] at hlb
    clear hs1 hs2 hs4 hst hv
    generalize hts (cnt 100 s.data.toList) s.data.toList = la at *
    generalize hts (cnt 100 t.data.toList) t.data.toList = lb at *
    generalize cnt 102 s.data.toList = n at *
    have HLA := Lib.hid hla
    have HLB := Lib.hid hlb
    have HIA := Lib.hid hia
    have HIB := Lib.hid hib
    have hn : n ≤ 16 := by omega
    clear hla hlb hia hib hz hcl
    go_enter Tryd.func32, Tryd.ntmps32
    go_wp2_with fail
    refine (HSM.out _).mono ?_
    rintro e w0 ⟨rfl, hb0⟩
    have HB0 := Lib.hid hb0; clear hb0
    go_wp2_with fail
    refine (HB.out _).mono ?_
    rintro e w1 ⟨vb, rfl, hb1, hob⟩
    have HB1 := Lib.hid (HB0.out.trans (hb1.mono HB0.out.size))
    have HOB := Lib.hid hob
    clear hb1 hob
    obtain ⟨ab, cb, rfl, _, _⟩ := HOB.out.row
    go_wp2_with fail
    refine (HA.out _).mono ?_
    rintro e w2 ⟨va, rfl, hb2, hoa⟩
    have HB2 := Lib.hid (HB1.out.trans (hb2.mono HB1.out.size))
    have HOB2 := Lib.hid (HOB.out.below hb2)
    have HOA := Lib.hid hoa
    clear hb2 hoa
    obtain ⟨aa, ca, rfl, _, _⟩ := HOA.out.row
    obtain ⟨_, _, e, ra, _⟩ := HOA.out.row
    cases e
    obtain ⟨_, _, e, rb, _⟩ := HOB2.out.row
    cases e
    rw [HLA.out, HLB.out]
    have HRA := Lib.hid ra
    have HRB := Lib.hid rb
    clear ra rb HOA HOB2 HOB HA HB
    go_wp2_with fail
    go_loopw [5, 18] (fun x i wr => ∃ k q : Nat, k ≤ n ∧ i = .int .i64 k ∧ x = .int .i64 (areaP la lb k) ∧ wr = w2.drewN q) (fun _ i _ => n - (intOf i).toNat)
    case atStart => exact ⟨0, 0, Nat.zero_le _, rfl, rfl, rfl⟩
    case round =>
      obtain ⟨k, q, hk, rfl, rfl, rfl⟩ := hrel
      have hp0 := areaP_nonneg la lb k
      have hp1 := areaP_le la lb HIA.out HIB.out k
      by_cases hlt : k < n
      · have ja : k < la.length := by rw [HLA.out]; exact hlt
        have jb : k < lb.length := by rw [HLB.out]; exact hlt
        obtain ⟨ga, rfl, _, hca⟩ := HRA.out k ja
        obtain ⟨gb, rfl, _, hcb⟩ := HRB.out k jb
        have HST := Lib.hid (areaP_succ la lb k ja jb)
        obtain ⟨x0, x1⟩ := HIA.out la[k] (List.getElem_mem ja)
        obtain ⟨y0, y1⟩ := HIB.out lb[k] (List.getElem_mem jb)
        generalize la[k] = x at *
        generalize lb[k] = y at *
        generalize areaP la lb k = p at *
        have hk0 : (0 : Int) ≤ (k : Int) := Int.natCast_nonneg _
        have hk1 : (k : Int) < (n : Int) := by omega
        clear ja jb
        go_wp2_with fail
        go_quiet (fail)
        go_wp2
        refine ⟨⟨k + 1, _, by omega, by go_num, ?_, rfl⟩, by simp [intOf]; omega⟩
        rw [HST.out, ← max_dst]
      · obtain rfl : k = n := by omega
        go_wp2
        go_ret
        exact ⟨rfl, HB2.out.trans ((drewN_below w2 q).mono HB2.out.size)⟩
end Go.Proofs.YthigiemgdejdhaaDoor.Kerf

/- What the program of chapter 14 returns: tableOf by LayersOf, LayerTable (printed by wip/gen_thick.py). -/
import Derived.Test.YtbdeppbbgokfhaaThickSee
import Derived.Test.YtbdeppbbgokfhaaThickImpl
import Derived.Test.YtbdeppbbgokfhaaCardImpl2
namespace Go.Proofs.Ytbdeppbbgokfhaa.Thick
open Go.ChangeShapes Go.WideShapes Go.ChangeAt Go.RowKit
open Go.Proofs.Ytbdeppbbgokfhaa.Strip Go.Proofs.Ytbdeppbbgokfhaa.Ints Go.Proofs.Ytbdeppbbgokfhaa.Corner Go.Proofs.Ytbdeppbbgokfhaa.Strs Go.Proofs.Ytbdeppbbgokfhaa.Card Go.Proofs.Ytbdeppbbgokfhaa.Kerf Go.Proofs.Ytbdeppbbgokfhaa.Order
open Go.Proofs.Ytbdeppbbgokfhaa.View (rowsV rowsV_length rowsV_at rowsV_next rowsV_take info_rows card_strip PostRows own_some)
set_option linter.unusedVariables false

set_option maxRecDepth 100000 in
set_option maxHeartbeats 4000000 in
theorem tabOf_impl (d f : Int) (a : Option Addr) (m c : Nat) (l : List ByteArray) (w : World) (hl : l.length = m) (hm : m ≤ 1048576) (hz : ∀ s ∈ l, s.size ≤ 1048576) (hr : Row w a l) :
    Calls Try.prog 50 #[.agg #[.int .i64 d, .int .i64 f, .slice a m c], .func (.func 24) #[] #[]] w (PostRows w (tabV d f l)) := by
  obtain ⟨i0, hi, hz0, hz1, hz2⟩ := info_parts info_rows
  have HR := Lib.hid hr
  have HOK := Lib.hid (fun (w' : World) (h : Row w' a l) => ok_impl d f a m c l w' hl hm hz h)
  have HL := Lib.hid hl
  have HZ := Lib.hid hz
  have hbe := (Below.refl w.heap.size w).alloc (Nat.le_refl _) (.cells #[.int .i64 d, .int .i64 f, .slice a m c] 26)
  have hva := Var.new w d f (.slice a m c)
  obtain ⟨W1, hW1⟩ : ∃ W1, w.alloc (.cells #[.int .i64 d, .int .i64 f, .slice a m c] 26) = W1 := ⟨_, rfl⟩
  have hsz : W1.heap.size = w.heap.size + 1 := by rw [← hW1]; simp
  rw [hW1] at hva hbe
  have HW1 := Lib.hid hW1
  have HVW := Lib.hid (fun (w' : World) (h : Below (w.heap.size + 1) W1 w') => hva.below (by rw [hsz]; exact h))
  have HBT := Lib.hid (fun (w' : World) (h : Below (w.heap.size + 1) W1 w') => hbe.trans (h.mono (Nat.le_succ _)))
  have HSZ := Lib.hid (fun (w' : World) (h : Below (w.heap.size + 1) W1 w') => (by have := h.size; omega : w.heap.size + 1 ≤ w'.heap.size))
  have HBb := Lib.hid (Below.refl (w.heap.size + 1) W1)
  clear hW1 hbe hva hsz
  obtain ⟨k0, k1, k2⟩ := (HVW.out _ HBb.out).cells
  unfold tabV
  cases hb : cardB d f l with
  | false =>
    rw [hb] at HOK
    clear hr hb hz hl
    simp only [if_false, Bool.false_eq_true]
    go_enter Try.func50, Try.ntmps50
    go_wp2_with fail
    rw [HW1.out]
    go_wp2_with fail
    refine (HOK.out _ (HR.out.since (Nat.le_refl _) (HBT.out _ HBb.out))).mono ?_
    rintro e w3 ⟨rfl, hb3⟩
    have HB3 := Lib.hid (HBb.out.trans (hb3.mono (HSZ.out _ HBb.out)))
    clear hb3
    go_wp2
    go_ret
    exact ⟨_, [], rfl, HBT.out _ HB3.out, Own2.nil _ _⟩
  | true =>
    rw [hb] at HOK
    have hlen : m ≤ 10 := by have := (cardB_iff.1 hb).2.2.1; omega
    have HCD := Lib.hid hb
    clear hr hb hz hl
    simp only [if_true]
    go_enter Try.func50, Try.ntmps50
    go_wp2_with fail
    rw [HW1.out]
    go_wp2_with fail
    refine (HOK.out _ (HR.out.since (Nat.le_refl _) (HBT.out _ HBb.out))).mono ?_
    rintro e w2 ⟨rfl, hb2⟩
    have HB2 := Lib.hid (HBb.out.trans (hb2.mono (HSZ.out _ HBb.out)))
    clear hb2 k0 k1 k2
    obtain ⟨k0, k1, k2⟩ := (HVW.out _ HB2.out).cells
    go_wp2_with fail
    clear k0 k1 k2
    go_loopw [5, 14] (fun v i wr => ∃ (k : Nat) (vs : List Value), k ≤ m ∧ i = .int .i64 (k : Int) ∧ Hid (Own2 wr (w.heap.size + 1) v vs ((rowsV layL l).take k)) ∧ Hid (Below (w.heap.size + 1) W1 wr)) (fun _ i _ => m - (intOf i).toNat)
    case atStart => exact ⟨0, [], Nat.zero_le _, rfl, Own2.nil _ _, HB2⟩
    case round =>
      clear HB2
      obtain ⟨k, vs, hk, rfl, HO, HB⟩ := hrel
      have HS := Lib.hid (HSZ.out _ HB.out)
      have HLK := Lib.hid (rowsV_take layL l k (by rw [HL.out]; exact hk))
      have hk0 : (0 : Int) ≤ (k : Int) := Int.natCast_nonneg _
      by_cases hlt : k < m
      · have hk1 : (k : Int) < (m : Int) := by omega
        have hkl : k < l.length := by rw [HL.out]; exact hlt
        obtain ⟨ga, rfl, _, hca⟩ := Row.at HR.out (HBT.out _ HB.out) k hkl
        have hst := card_strip HCD.out l[k] (List.getElem_mem hkl)
        have HSEE := Lib.hid (fun w' : World => lay_impl l[k] w' (HZ.out _ (List.getElem_mem hkl)))
        have HNX := Lib.hid (rowsV_next layL l k hkl)
        have hpos : 1 ≤ (layL l[k].data.toList).length := layL_pos hst
        clear hst
        generalize l[k] = s at *
        generalize hrr : layL s.data.toList = r at *
        clear hrr
        obtain ⟨av, cv, rfl, _, _⟩ := HO.out.row
        rw [HLK.out]
        rw [HLK.out] at HO
        go_wp2_with fail
        refine (HSEE.out _).mono ?_
        rintro e w5 ⟨v5, rfl, hb5, ho5⟩
        obtain ⟨g5, c5, rfl⟩ := own_some ho5 hpos
        have hk5 := ho5.lt g5 rfl
        have HK1 := Lib.hid hk5.1
        have HK2 := Lib.hid hk5.2
        have HB5 := Lib.hid hb5
        have HO5 := Lib.hid ho5
        have HA5 := Lib.hid (alloc_below w5 (.cells #[.slice (some ⟨g5, 0, none⟩) r.length c5] 30))
        have HW5 := Lib.hid (heap_alloc_new w5 (.cells #[.slice (some ⟨g5, 0, none⟩) r.length c5] 30))
        have HOUT := Lib.hid (HO.out.below hb5).outer
        rw [HLK.out] at HOUT
        clear hb5 ho5 hk5
        go_wp2_with (at_builtin; refine wpList_append_lies _ rfl _ _ 28 rfl (w.heap.size + 1) 30 i0 _ 1 24 Try.underlying28 hi hz0 hz1 hz2 rfl (by decide) _ k vs rfl (HOUT.out.alloc _) ⟨w5.heap.size, 0, none⟩ 1 1 [.slice (some ⟨g5, 0, none⟩) r.length c5] rfl rfl (World.news_of_block HW5.out) (by simp [Value.oneCell']) (by decide) (by unfold maxLen; omega) (by omega) (by have h1 := HS.out; have h2 := HB5.out.size; simp; omega) _ rfl ?_)
        intro g6 cap6 w6 hown6 hgrow6 hg6 hlt6
        have HO6 := Lib.hid (HO.out.push (k := g5) (l := r) rfl HK1.out (by have h2 := HK2.out; simp; omega) (HB5.out.trans (HA5.out.mono HB5.out.size)) ((HO5.out.mono HS.out).below HA5.out) (by rw [HLK.out]; exact hown6) hgrow6 (hg6.imp id fun h => by simpa using h))
        rw [HLK.out, ← HNX.out] at HO6
        have HB6 := Lib.hid ((HB.out.trans ((HB5.out.trans (HA5.out.mono HB5.out.size)).mono HS.out)).grown hgrow6 (by have h1 := HS.out; have h2 := HB5.out.size; simp; omega) (fun t e => (World.ownsRow.lt HO.out.outer t e).1))
        clear hown6 hgrow6 hg6 hlt6
        go_wp2
        go_roundw
        case rel => exact ⟨k + 1, _, by omega, by go_num, HO6, HB6⟩
        case measure => simp [intOf]; omega
      · obtain rfl : k = m := by omega
        have hall : (rowsV layL l).take k = rowsV layL l := List.take_of_length_le (by rw [rowsV_length, HL.out]; exact Nat.le_refl _)
        rw [hall] at HO
        clear hall
        go_wp2
        go_ret
        exact ⟨_, _, rfl, HBT.out _ HB.out, HO.out.mono (Nat.le_succ _)⟩

set_option maxRecDepth 100000 in
theorem tab_impl (d f : Int) (a : Option Addr) (m c : Nat) (l : List ByteArray) (w : World) (hl : l.length = m) (hm : m ≤ 1048576) (hz : ∀ s ∈ l, s.size ≤ 1048576) (hr : Row w a l) :
    Calls Try.prog 23 #[.agg #[.int .i64 d, .int .i64 f, .slice a m c]] w (PostRows w (tabV d f l)) := by
  have HOF := Lib.hid (fun (w' : World) (h : Row w' a l) => tabOf_impl d f a m c l w' hl hm hz h)
  generalize tabV d f l = L at *
  have HR := Lib.hid hr
  have HBa := Lib.hid (alloc_below w (.cells #[.int .i64 d, .int .i64 f, .slice a m c] 26))
  have HVa := Lib.hid (Var.new w d f (.slice a m c))
  obtain ⟨W1, hW1⟩ : ∃ W1, w.alloc (.cells #[.int .i64 d, .int .i64 f, .slice a m c] 26) = W1 := ⟨_, rfl⟩
  rw [hW1] at HBa HVa
  have HW1 := Lib.hid hW1
  clear hr hz hl hW1
  obtain ⟨k0, k1, k2⟩ := HVa.out.cells
  go_enter Try.func23, Try.ntmps23
  go_wp2_with fail
  try rw [HW1.out]
  go_wp2_with fail
  refine (HOF.out _ (HR.out.since (Nat.le_refl _) HBa.out)).mono ?_
  rintro e w2 ⟨v, vs, rfl, hb, ho⟩
  have HB := Lib.hid (HBa.out.trans (hb.mono HBa.out.size))
  have HO := Lib.hid (ho.mono HBa.out.size)
  clear hb ho
  go_wp2
  go_ret
  exact ⟨_, _, rfl, HB.out, HO.out⟩
end Go.Proofs.Ytbdeppbbgokfhaa.Thick

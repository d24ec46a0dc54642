/- What the program of chapter 10 returns: WayUp. -/
import Derived.Test.YtekmladindlmoaaFlipRowImpl
namespace Go.Proofs.Ytekmladindlmoaa.Flip
open Go.ChangeShapes Go.WideShapes Go.ChangeAt Go.RowKit
open Go.Proofs.Ytekmladindlmoaa.Strip Go.Proofs.Ytekmladindlmoaa.Ints Go.Proofs.Ytekmladindlmoaa.Corner Go.Proofs.Ytekmladindlmoaa.Kerf Go.Proofs.Ytekmladindlmoaa.Order
set_option linter.unusedVariables false

theorem nextsI_not {l t : List UInt8} (h : aboveB t l = false) : nextsI l t = [] := by unfold nextsI; rw [nexts_not h]; rfl
theorem nextsI_len (l t : List UInt8) : (nextsI l t).length ≤ 16 := by unfold nextsI; rw [List.length_map]; exact nexts_len l t
/-- No valley is left: the way is at its end. -/
theorem at_stop {s t cur : ByteArray} {n : Nat} {done : List Int} (h : At s t cur n done) (hn : nextsI cur.data.toList t.data.toList = []) : wayL s.data.toList t.data.toList = done := by
  have e : cur.data.toList = t.data.toList := by
    refine Classical.byContradiction fun hc => nexts_some h.above hc ?_
    unfold nextsI at hn
    exact List.map_eq_nil_iff.1 hn
  obtain rfl : cur = t := of_list e
  exact at_end h
/-- The first of them leads on. -/
theorem at_go {s t cur : ByteArray} {n : Nat} {done : List Int} {c : Int} {r : List Int} (h : At s t cur n done) (hn : nextsI cur.data.toList t.data.toList = c :: r) :
    ∃ m, n = m + 1 ∧ 0 ≤ c ∧ c ≤ 16 ∧ At s t (raiseS cur c) m (done ++ [c]) ∧ cornerB 100 cur.data.toList c = true := by
  unfold nextsI at hn
  cases e : nexts cur.data.toList t.data.toList with
  | nil => rw [e] at hn; cases hn
  | cons k q =>
    rw [e, List.map_cons, List.cons.injEq] at hn
    obtain ⟨rfl, _⟩ := hn
    have hk := nexts_mem.1 (show k ∈ nexts cur.data.toList t.data.toList by rw [e]; simp)
    obtain ⟨h1, h2, h3, h4, h5, h6, h7⟩ := next_facts hk
    have h8 : k < cur.size := by simpa using h5
    have h9 := h.len
    obtain ⟨m, rfl⟩ := at_more h (by
      intro e2; subst e2
      rw [nexts_end] at e; cases e)
    exact ⟨m, rfl, by omega, by omega, at_step h e, h1⟩

set_option maxRecDepth 100000 in
set_option maxHeartbeats 1000000 in
theorem way_impl (s t : ByteArray) (w : World) (hm : s.size ≤ 1048576) (hm' : t.size ≤ 1048576) :
    Calls Try.prog 44 #[.string s, .string t] w (PostRow w (wayL s.data.toList t.data.toList)) := by
  obtain ⟨i0, hi, hz0, hz1, hz2⟩ := info_parts info_int
  cases hab : aboveB t.data.toList s.data.toList with
  | false =>
    have hv : wayL s.data.toList t.data.toList = [] := by unfold wayL; rw [hab]; rfl
    rw [hv]
    have hbl := fun w => below_impl s t w hm hm'
    rw [nextsI_not hab] at hbl
    have HBL := Lib.hid hbl
    clear hbl
    go_enter Try.func44, Try.ntmps44
    go_wp2_with fail
    refine (HBL.out _).mono ?_
    rintro e w1 ⟨vr, rfl, hb, ho⟩
    have HB := Lib.hid hb
    obtain ⟨a, cap, rfl, _, _⟩ := ho.row
    clear hb ho
    go_wp2_with fail
    refine wp_loop_rounds 1 ?_
    rw [rounds_succ]
    go_wp2
    go_ret
    exact ⟨_, rfl, HB.out, Own.nil _ _⟩
  | true =>
    obtain ⟨n, hat⟩ := at_start hab
    have HAT := Lib.hid hat
    clear hat
    go_enter Try.func44, Try.ntmps44
    go_wp2_with fail
    refine (below_impl s t _ hm hm').mono ?_
    rintro e w1 ⟨vr, rfl, hb, ho⟩
    have HB := Lib.hid hb
    have HR := Lib.hid ho
    clear hb ho
    go_wp2_with fail
    go_loopw [0, 5, 6] (fun x v r wr => ∃ (cur : ByteArray) (n : Nat) (done : List Int), x = .string cur ∧ Hid (At s t cur n done) ∧ Hid (Own wr w.heap.size v done) ∧ Hid (Own wr w.heap.size r (nextsI cur.data.toList t.data.toList)) ∧ Hid (Below w.heap.size w wr)) (fun x _ _ _ => (areaI (strL x) t.data.toList).toNat)
    case atStart => exact ⟨s, n, [], rfl, HAT, Own.nil _ _, HR, HB⟩
    case round =>
      clear HAT HR HB
      obtain ⟨cur, n, done, rfl, HAT, HO, HR, HB⟩ := hrel
      have HS := Lib.hid HB.out.size
      obtain ⟨a, cap, rfl, hrow, _⟩ := HR.out.row
      have hnl := nextsI_len cur.data.toList t.data.toList
      cases hn : nextsI cur.data.toList t.data.toList with
      | nil =>
        have hfin := at_stop HAT.out hn
        rw [← hfin] at HO
        have h0 : (nextsI cur.data.toList t.data.toList).length = 0 := by rw [hn]; rfl
        try rw [h0] at *
        clear hfin hn hrow h0 hnl
        go_wp2
        go_ret
        exact ⟨_, rfl, HB.out, HO.out⟩
      | cons c r =>
        obtain ⟨m, rfl, c0, c16, hgo, hcr⟩ := at_go HAT.out hn
        have HGO := Lib.hid hgo
        rw [hn] at hrow
        obtain ⟨g, rfl, hg, hcell⟩ := hrow 0 (by simp)
        have hcell : wr.cell? ⟨g, 0, none⟩ = some (.int .i64 c) := hcell
        have hcl := HAT.out.len
        have hal := HAT.out.all
        obtain ⟨q, hq⟩ : ∃ q, (c :: r).length = q := ⟨_, rfl⟩
        have hq0 : (0 : Int) < (q : Int) := by rw [← hq]; simp
        have hq1 : 0 < q := by omega
        rw [hq]
        clear hrow hn hgo hnl hq
        have hrs := raise_size cur c
        have HRI := Lib.hid (fun w => raise_impl cur c w (by omega) (by omega) (by omega))
        have HA2 := Lib.hid HGO.out.area
        obtain ⟨x, hx⟩ : ∃ x, raiseS cur c = x := ⟨_, rfl⟩
        rw [hx] at HRI HGO HA2 hrs
        clear hx
        go_wp2_with fail
        refine (HRI.out _).mono ?_
        rintro e w3 ⟨rfl, hb3⟩
        have hc3 : w3.cell? ⟨g, 0, none⟩ = some (.int .i64 c) := by rw [hb3.cell (p := ⟨g, 0, none⟩) hg]; exact hcell
        have HO3 := Lib.hid (HO.out.below hb3)
        have HB3 := Lib.hid (HB.out.trans (hb3.mono HS.out))
        have HS3 := Lib.hid HB3.out.size
        clear hb3 hcell hg
        go_wp2_with (at_builtin; refine wpList_append_own _ rfl _ _ 65 rfl w.heap.size 3 i0 _ 1 8 Try.underlying65 hi hz0 hz1 hz2 rfl (by decide) u5 done.length (icells done) rfl (HO3.out.alloc _) ⟨w3.heap.size, 0, none⟩ 1 1 [.int .i64 c] rfl rfl (World.news_of_block (cs := #[.int .i64 c]) (t := 3) (fr := (0, 0)) (heap_alloc_new _ _)) (by simp [Value.oneCell']) (by unfold maxLen; omega) (by omega) (by have := HS3.out; simp; omega) ?_)
        intro v1 w4 hown1 hgrow _
        have HB4 := Lib.hid ((HB3.out.alloc HS3.out _).grown hgrow (by have := HS3.out; simp; omega) (fun t e => (HO3.out.lt t e).1))
        have HO4 : Hid (Own w4 w.heap.size v1 (done ++ [c])) := by
          show World.ownsRow _ _ _ _ _ _ _
          rw [icells_snoc, List.length_append]; exact hown1
        have HS4 := Lib.hid HB4.out.size
        clear hown1 hgrow
        go_wp2_with fail
        refine (below_impl x t _ (by omega) hm').mono ?_
        rintro e w5 ⟨vr, rfl, hb5, ho5⟩
        have HO5 := Lib.hid (HO4.out.below hb5)
        have HB5 := Lib.hid (HB4.out.trans (hb5.mono HS4.out))
        have HR5 := Lib.hid (ho5.mono HS4.out)
        clear hb5 ho5
        go_wp2
        go_roundw
        case rel => exact ⟨x, m, _, rfl, HGO, HO5, HR5, HB5⟩
        case measure =>
          show (areaI x.data.toList t.data.toList).toNat < (areaI cur.data.toList t.data.toList).toNat
          rw [HA2.out, HAT.out.area]; omega
end Go.Proofs.Ytekmladindlmoaa.Flip

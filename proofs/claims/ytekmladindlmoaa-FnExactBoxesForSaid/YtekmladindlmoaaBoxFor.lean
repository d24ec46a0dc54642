/- What BoxesFor returns: boxes of single strips that lead from the plain card to a card; of the program. -/
import Derived.Test.YtekmladindlmoaaBoxRow
import Derived.Test.YtekmladindlmoaaFlipWayImpl
import Derived.Test.YtekmladindlmoaaCardImpl2
import Derived.Test.YtekmladindlmoaaStripMany
namespace Go.Proofs.Ytekmladindlmoaa.Box
open Go.ChangeShapes Go.WideShapes Go.ChangeAt Go.RowKit Go.Sort
open Go.Proofs.Ytekmladindlmoaa.Strip Go.Proofs.Ytekmladindlmoaa.Strs Go.Proofs.Ytekmladindlmoaa.Card Go.Proofs.Ytekmladindlmoaa.Corner Go.Proofs.Ytekmladindlmoaa.Kerf Go.Proofs.Ytekmladindlmoaa.Order Go.Proofs.Ytekmladindlmoaa.Flip
set_option linter.unusedVariables false

theorem way_256 (s t : List UInt8) : (wayL s t).length ≤ 256 := by
  unfold wayL
  split
  · rename_i h
    have h0 := above_nonneg h
    have h1 := area_bound h
    rw [way_length _ h (by omega)]
    omega
  · simp
/-- The boxes of strip k along a way. -/
def along (k : Nat) (l : List Int) : List B3 := l.map fun a => ((k : Int), (k : Int), a)
theorem along_snoc (k : Nat) (l : List Int) (i : Nat) (h : i < l.length) : along k (l.take (i + 1)) = along k (l.take i) ++ [((k : Int), (k : Int), l[i])] := by
  unfold along; rw [List.take_succ_eq_append_getElem h, List.map_append]; rfl
theorem along_length (k : Nat) (l : List Int) : (along k l).length = l.length := by simp [along]
/-- The boxes of the first k strips. -/
def boxesN (d f : Int) (l : List ByteArray) : Nat → List B3
  | 0 => []
  | k + 1 => boxesN d f l k ++ along k (wayL (flatL d f) (l.getD k ByteArray.empty).data.toList)
theorem boxesN_len (d f : Int) (l : List ByteArray) : ∀ k, (boxesN d f l k).length ≤ k * 256
  | 0 => by simp [boxesN]
  | k + 1 => by
    have h1 := boxesN_len d f l k
    have h2 := way_256 (flatL d f) (l.getD k ByteArray.empty).data.toList
    unfold boxesN
    rw [List.length_append, along_length]
    omega
def boxesL (d f : Int) (l : List ByteArray) : List B3 := if cardB d f l = true then boxesN d f l l.length else []
theorem boxesL_len (d f : Int) (l : List ByteArray) : (boxesL d f l).length ≤ 2560 := by
  unfold boxesL
  split
  · rename_i h
    have h1 := boxesN_len d f l l.length
    have h2 := (cardB_iff.1 h).2.2.1
    omega
  · simp

/-- A row of boxes of memory of its own, and a bool. -/
def GaveBs (w : World) (bs : List B3) (ok : Bool) (e : Ending) (w' : World) : Prop :=
  ∃ v, e = .returned (.tuple #[v, .bool ok]) ∧ Below w.heap.size w w' ∧ OwnB w' w.heap.size v bs

theorem flat_small (d f : Int) : (⟨(flatL d f).toArray⟩ : ByteArray).size ≤ 16 := by
  rw [sized_of]
  unfold flatL
  split
  · rename_i h
    have := frameB_iff.1 h
    simp
    omega
  · simp

/-- A row's block is of its elements' type. -/
theorem row_type {w : World} {base size n : Nat} {e : TypeId} {v : Value} {xs : List Value} (h : w.ownsRow base e size v n xs) {b : Nat} (hb : v.ownBlock = some b) : ∃ cur m, w.heap[b]? = some (.cells cur e m) := by
  obtain ⟨_, h1 | ⟨g, cap, cur, rfl, _, hh, _⟩⟩ := h
  · obtain ⟨rfl, _⟩ := h1
    cases hb
  · have e2 : g = b := by simpa [Value.ownBlock] using hb
    subst e2
    exact ⟨_, _, hh⟩
theorem rows_ne {w : World} {base size n base2 size2 n2 : Nat} {e e2 : TypeId} {v v2 : Value} {xs xs2 : List Value} (h : w.ownsRow base e size v n xs) (h2 : w.ownsRow base2 e2 size2 v2 n2 xs2) (hne : e ≠ e2) : ∀ b, v.ownBlock = some b → v2.ownBlock ≠ some b := by
  intro b hb hb2
  obtain ⟨c1, m1, h3⟩ := row_type h hb
  obtain ⟨c2, m2, h4⟩ := row_type h2 hb2
  rw [h3] at h4
  simp at h4
  exact hne h4.2.1
/-- Rows of other types are kept where one is written. -/
theorem row_kept {w w' : World} {base size n base2 size2 n2 : Nat} {e e2 : TypeId} {v v2 : Value} {xs xs2 : List Value} (h : w.ownsRow base e size v n xs) (h2 : w.ownsRow base2 e2 size2 v2 n2 xs2) (hne : e ≠ e2) (hg : w.grownBy w' v2.ownBlock) : w'.ownsRow base e size v n xs :=
  World.ownsRow.kept h hg (by
    cases hb : v.ownBlock with
    | none => exact .inl rfl
    | some b => right; exact (rows_ne h h2 hne b hb).symm)
theorem irow2 {w : World} {base n c : Nat} {a : Option Addr} {l : List Int} (h : Ints.Own w base (.slice a n c) l) : n = l.length ∧ Ints.IRow w a l := by
  obtain ⟨a', c', e, hr, _⟩ := h.row
  cases e
  exact ⟨rfl, hr⟩
theorem var_kept {w w' : World} {base b : Nat} {d f : Int} {v v2 : Value} {bs : List B3} (h : Var w b d f v) (h2 : OwnB w base v2 bs) (hg : w.grownBy w' v2.ownBlock) : Var w' b d f v :=
  h.grown hg (fun e => by
    obtain ⟨c1, m1, h3⟩ := row_type h2 e.symm
    unfold Var at h
    rw [h] at h3
    simp at h3)

set_option maxRecDepth 100000 in
set_option maxHeartbeats 2000000 in
theorem for_impl (d f : Int) (base n c : Nat) (a : Option Addr) (l : List ByteArray) (w : World) (hn : n ≤ 1048576) (h : Own w base (.slice a n c) l) (hz : ∀ s ∈ l, s.size ≤ 1048576) :
    Calls Try.prog 12 #[.agg #[.int .i64 d, .int .i64 f, .slice a n c]] w (GaveBs w (boxesL d f l) (cardB d f l)) := by
  obtain ⟨i0, hi, hz0, hz1, hz2⟩ := info_parts info_box
  have hv0 := Var.new w d f (.slice a n c)
  have hb0 := alloc_below w (.cells #[.int .i64 d, .int .i64 f, .slice a n c] 26)
  have HN := Lib.hid h.row2.1
  have HZ := Lib.hid hz
  have HRW := Lib.hid (h.below hb0)
  have HOK := Lib.hid (ok_impl d f a n c l _ h.row2.1.symm hn hz (h.below hb0).row2.2)
  have HV1 := Lib.hid hv0
  have HB := Lib.hid hb0
  obtain ⟨k0, k1, k2⟩ := hv0.cells
  clear hv0 hb0 hz h
  cases hcard : cardB d f l with
  | false =>
    have HE := Lib.hid (show boxesL d f l = [] by unfold boxesL; rw [hcard]; rfl)
    rw [hcard] at HOK
    clear hcard
    go_enter Try.func12, Try.ntmps12
    go_wp2_with fail
    refine HOK.out.mono ?_
    rintro e w1 ⟨rfl, hb1⟩
    have HB := Lib.hid (HB.out.trans (hb1.mono HB.out.size))
    clear hb1 k0 k1 k2
    go_wp2
    go_ret2
    rw [HE.out]
    exact ⟨_, rfl, HB.out, OwnB.nil _ _⟩
  | true =>
    have HE := Lib.hid (show boxesL d f l = boxesN d f l l.length by unfold boxesL; rw [hcard]; rfl)
    obtain ⟨g, hg⟩ : ∃ g, a = some ⟨g, 0, none⟩ := by
      rcases HRW.out.shape with ⟨_, _, e⟩ | h
      · have := (cardB_iff.1 hcard).2.1; rw [e] at this; simp at this
      · exact h
    subst hg
    have hn10 : n ≤ 10 := by have := (cardB_iff.1 hcard).2.2.1; have := HN.out; omega
    rw [hcard] at HOK
    clear hcard
    have HFL := Lib.hid (fun w' => flat_impl d f w')
    go_enter Try.func12, Try.ntmps12
    go_wp2_with fail
    refine HOK.out.mono ?_
    rintro e w1 ⟨rfl, hb1⟩
    have HV1 := Lib.hid (HV1.out.below hb1)
    have HRW := Lib.hid (HRW.out.below hb1)
    have HB := Lib.hid (HB.out.trans (hb1.mono HB.out.size))
    clear hb1 k0 k1 k2 HOK
    obtain ⟨k0, k1, k2⟩ := HV1.out.cells
    go_wp2_with fail
    clear k0 k1 k2
    go_loopw [4, 15] (fun v i wr => ∃ k : Nat, k ≤ n ∧ i = .int .i64 (k : Int) ∧ Hid (Var wr w.heap.size d f (.slice (some ⟨g, 0, none⟩) n c)) ∧ Hid (Own wr base (.slice (some ⟨g, 0, none⟩) n c) l) ∧ Hid (OwnB wr w.heap.size v (boxesN d f l k)) ∧ Hid (Below w.heap.size w wr)) (fun _ i _ => n - (intOf i).toNat)
    case atStart => exact ⟨0, Nat.zero_le _, rfl, HV1, HRW, OwnB.nil _ _, HB⟩
    case round =>
      clear HV1 HRW HB
      obtain ⟨k, hk, rfl, HV1, HRW, HO, HB⟩ := hrel
      have hk0 : (0 : Int) ≤ (k : Int) := Int.natCast_nonneg _
      obtain ⟨av, cv, rfl, _, _⟩ := HO.out.row
      by_cases hlt : k < n
      · have hk1 : (k : Int) < (n : Int) := by omega
        have hkl : k < l.length := by have := HN.out; omega
        have hcell := HRW.out.cell hkl
        have hsz := HZ.out _ (List.getElem_mem hkl)
        have HST := Lib.hid (show boxesN d f l (k + 1) = boxesN d f l k ++ along k (wayL (flatL d f) l[k].data.toList) by
          show boxesN d f l k ++ along k (wayL (flatL d f) (l.getD k ByteArray.empty).data.toList) = _
          rw [show l.getD k ByteArray.empty = l[k] by simp [List.getD, hkl]])
        generalize l[k] = s at *
        obtain ⟨k0, k1, k2⟩ := HV1.out.cells
        go_wp2_with fail
        refine (HFL.out _).mono ?_
        rintro e w2 ⟨rfl, hb2⟩
        have hfs : (⟨(flatL d f).toArray⟩ : ByteArray).size ≤ 1048576 := Nat.le_trans (flat_small d f) (by omega)
        have hway := fun w' => way_impl ⟨(flatL d f).toArray⟩ s w' hfs hsz
        have HWAY := Lib.hid hway
        have HV1 := Lib.hid (HV1.out.below hb2)
        have HRW := Lib.hid (HRW.out.below hb2)
        have HO := Lib.hid (HO.out.below hb2)
        have HB := Lib.hid (HB.out.trans (hb2.mono HB.out.size))
        clear hb2 hway k0 k1 k2 hcell hfs
        go_wp2_with fail
        refine (HWAY.out _).mono ?_
        rintro e w3 ⟨vr, rfl, hb3, ho3⟩
        have hl256 := way_256 (flatL d f) s.data.toList
        have hbl := boxesN_len d f l k
        have HV1 := Lib.hid (HV1.out.below hb3)
        have HRW := Lib.hid (HRW.out.below hb3)
        have HO := Lib.hid (HO.out.below hb3)
        have HI := Lib.hid (ho3.mono (base2 := w.heap.size) HB.out.size)
        have HB := Lib.hid (HB.out.trans (hb3.mono HB.out.size))
        have HST2 := HST.out
        generalize wayL (flatL d f) s.data.toList = L at *
        clear hb3 ho3 HWAY HST
        have HST := Lib.hid HST2
        clear HST2
        generalize boxesN d f l k = Bk at *
        obtain ⟨ar, cr, rfl, hir, _⟩ := HI.out.row
        go_wp2_with fail
        go_loopw [4, 28] (fun v i wr => ∃ q : Nat, q ≤ L.length ∧ i = .int .i64 (q : Int) ∧ Hid (Var wr w.heap.size d f (.slice (some ⟨g, 0, none⟩) n c)) ∧ Hid (Own wr base (.slice (some ⟨g, 0, none⟩) n c) l) ∧ Hid (Ints.Own wr w.heap.size (.slice ar L.length cr) L) ∧ Hid (OwnB wr w.heap.size v (Bk ++ along k (L.take q))) ∧ Hid (Below w.heap.size w wr)) (fun _ i _ => L.length - (intOf i).toNat)
        case atStart => exact ⟨0, Nat.zero_le _, rfl, HV1, HRW, HI, by rw [List.take_zero]; simpa [along] using HO, HB⟩
        case round =>
          clear HV1 HRW HI HO HB hir
          obtain ⟨q, hq, rfl, HV1, HRW, HI, HO, HB⟩ := hrel
          have hq0 : (0 : Int) ≤ (q : Int) := Int.natCast_nonneg _
          by_cases hlq : q < L.length
          · have hq1 : (q : Int) < (L.length : Int) := by omega
            obtain ⟨gi, rfl, hgi, hci⟩ := (irow2 HI.out).2 q hlq
            have HAL := Lib.hid (along_snoc k L q hlq)
            have hle : (Bk ++ along k (L.take q)).length ≤ 2560 := by rw [List.length_append, along_length, List.length_take]; omega
            have HAP := Lib.hid (show Bk ++ along k (L.take (q + 1)) = (Bk ++ along k (L.take q)) ++ [((k : Int), (k : Int), L[q])] by rw [HAL.out, List.append_assoc])
            clear HAL
            generalize L[q] = at_ at *
            generalize Bk ++ along k (L.take q) = cur at *
            have HS := Lib.hid HB.out.size
            go_wp2_with (at_builtin; refine wpList_append_own _ rfl _ _ 28 rfl w.heap.size 39 i0 _ 3 24 Try.underlying28 hi hz0 hz1 hz2 rfl (by decide) u4 cur.length (bcells cur) rfl (World.ownsRow.alloc HO.out _) ⟨wr.heap.size, 0, none⟩ 1 1 (bcell ((k : Int), (k : Int), at_)) rfl rfl (World.news_of_block (cs := #[.int .i64 (k : Int), .int .i64 (k : Int), .int .i64 at_]) (t := 39) (fr := (0, 0)) (heap_alloc_new _ _)) (by simp [bcell, Value.oneCell']) (by unfold maxLen; omega) (by omega) (by have := HS.out; simp; omega) ?_)
            intro v1 w4 hown1 hgrow _
            have hba := alloc_below wr (.cells #[.int .i64 (k : Int), .int .i64 (k : Int), .int .i64 at_] 39)
            have hoa := HO.out.below hba
            have HV1 := Lib.hid (var_kept (HV1.out.below hba) hoa hgrow)
            have HRW := Lib.hid (show Own w4 base (.slice (some ⟨g, 0, none⟩) n c) l from row_kept (HRW.out.below hba) hoa (by decide) hgrow)
            have HI := Lib.hid (show Ints.Own w4 w.heap.size (.slice (some ⟨gi, 0, none⟩) L.length cr) L from row_kept (HI.out.below hba) hoa (by decide) hgrow)
            have HB := Lib.hid ((HB.out.trans (hba.mono HS.out)).grown hgrow (by have := HS.out; simp; omega) (fun t e => (hoa.lt t e).1))
            have HO := Lib.hid (show OwnB w4 w.heap.size v1 (cur ++ [((k : Int), (k : Int), at_)]) by
              show World.ownsRow _ _ _ _ _ _ _
              rw [bcells_append, bcells_one, List.length_append]; exact hown1)
            rw [← HAP.out] at HO
            clear hown1 hgrow hba hoa hci
            go_wp2
            go_roundw
            case rel => exact ⟨q + 1, by omega, by go_num, HV1, HRW, HI, HO, HB⟩
            case measure => simp [intOf]; omega
          · obtain rfl : q = L.length := by omega
            rw [List.take_length, ← HST.out] at HO
            go_wp2
            go_roundw
            case rel => exact ⟨k + 1, by omega, by go_num, HV1, HRW, HO, HB⟩
            case measure => simp [intOf]; omega
      · have HKN := Lib.hid (show k = n by omega)
        have HO := Lib.hid (show OwnB wr w.heap.size (.slice av (boxesN d f l k).length cv) (boxesL d f l) by rw [HE.out, ← HN.out, ← HKN.out]; exact HO.out)
        go_wp2
        go_ret2
        exact ⟨_, rfl, HB.out, HO.out⟩
end Go.Proofs.Ytekmladindlmoaa.Box

/- What the model of chapter 10 returns: WayUp. -/
import Derived.Test.YtekmladindlmoaaFlipRow
import Derived.Test.YtekmladindlmoaaOrderSpec
namespace Go.Proofs.Ytekmladindlmoaa.Flip
open Go.ChangeShapes Go.WideShapes Go.ChangeAt Go.RowKit
open Go.Proofs.Ytekmladindlmoaa.Strip Go.Proofs.Ytekmladindlmoaa.Ints Go.Proofs.Ytekmladindlmoaa.Corner Go.Proofs.Ytekmladindlmoaa.Kerf Go.Proofs.Ytekmladindlmoaa.Order
set_option linter.unusedVariables false

/-- The letters of a text. -/
def strL : Value → List UInt8
  | .string s => s.data.toList
  | _ => []

/-- Where a way stands: at 'cur', with n squares left. -/
structure At (s t cur : ByteArray) (n : Nat) (done : List Int) : Prop where
  above : aboveB t.data.toList cur.data.toList = true
  area : areaI cur.data.toList t.data.toList = (n : Int)
  len : cur.size ≤ 16
  way : wayL s.data.toList t.data.toList = done ++ way n cur.data.toList t.data.toList
  all : done.length + n ≤ 256

theorem at_start {s t : ByteArray} (h : aboveB t.data.toList s.data.toList = true) : ∃ n, At s t s n [] := by
  have h0 := above_nonneg h
  have h1 := area_bound h
  obtain ⟨n, hn⟩ := Int.eq_ofNat_of_zero_le h0
  refine ⟨n, h, hn, ?_, ?_, ?_⟩
  · have := (strip_size (above_strip h).1).2
    simpa using this
  · unfold wayL
    rw [if_pos h, hn]; rfl
  · rw [hn] at h1
    simp; omega
theorem way_short (s t : List UInt8) : (wayL s t).length ≤ 1000000 := by
  unfold wayL
  split
  · rename_i h
    have h0 := above_nonneg h
    have h1 := area_bound h
    rw [way_length _ h (by omega)]
    omega
  · simp
theorem at_end {s t : ByteArray} {n : Nat} {done : List Int} (h : At s t t n done) : wayL s.data.toList t.data.toList = done := by
  have h1 := h.area
  rw [area_above h.above] at h1
  have : n = 0 := by omega
  subst this
  rw [h.way]
  show done ++ [] = done
  simp
theorem at_more {s t cur : ByteArray} {n : Nat} {done : List Int} (h : At s t cur n done) (hne : cur ≠ t) : ∃ m, n = m + 1 := by
  rcases Nat.eq_zero_or_pos n with e | e
  · subst e
    exact absurd (of_list (above_zero h.above h.area)) hne
  · exact ⟨n - 1, by omega⟩
theorem raise_list {s : ByteArray} {k : Nat} (h : cornerB 100 s.data.toList (k : Int) = true) : (raiseS s (k : Int)).data.toList = raiseL s.data.toList k := by
  unfold raiseS; rw [if_pos h]; rfl
theorem raise_size (s : ByteArray) (k : Int) : (raiseS s k).size = s.size := by
  cases h : cornerB 100 s.data.toList k with
  | false => unfold raiseS; rw [h]; rfl
  | true =>
    obtain ⟨j, rfl⟩ : ∃ j : Nat, k = (j : Int) := ⟨k.toNat, by unfold cornerB at h; simp only [Bool.and_eq_true, decide_eq_true_eq] at h; omega⟩
    have h1 := raise_list h
    have h2 := (same_facts (raise_facts h).1).2.2.2.2
    have h3 : (raiseS s (j : Int)).data.toList.length = s.data.toList.length := by rw [h1, h2]
    simpa using h3
theorem at_step {s t cur : ByteArray} {m : Nat} {done : List Int} {k : Nat} {r : List Nat} (h : At s t cur (m + 1) done) (hn : nexts cur.data.toList t.data.toList = k :: r) : At s t (raiseS cur (k : Int)) m (done ++ [(k : Int)]) := by
  obtain ⟨h1, h2, h3, h4, _⟩ := next_facts (nexts_mem.1 (show k ∈ nexts cur.data.toList t.data.toList by rw [hn]; simp))
  have e := raise_list h1
  refine ⟨by rw [e]; exact h2, by rw [e, h4, h.area]; omega, by rw [raise_size]; exact h.len, ?_, by have := h.all; simp; omega⟩
  rw [h.way, way_cons hn, e]; simp
/-- All valleys that are tried before. -/
def None (cur t : ByteArray) (k : Nat) : Prop := ∀ j, j < k → nextB cur.data.toList t.data.toList j = false
theorem none_one (cur t : ByteArray) : None cur t 1 := by
  intro j hj
  have : j = 0 := by omega
  subst this
  unfold nextB
  rw [corner_no _ _ _ (.inr (by omega))]; rfl
theorem none_succ {cur t : ByteArray} {k : Nat} (h : None cur t k) (hk : nextB cur.data.toList t.data.toList k = false) : None cur t (k + 1) := by
  intro j hj
  rcases Nat.lt_or_eq_of_le (Nat.le_of_lt_succ hj) with e | e
  · exact h j e
  · rw [e]; exact hk
theorem none_all {s t cur : ByteArray} {m : Nat} {done : List Int} (h : At s t cur (m + 1) done) (hn : None cur t cur.size) : False := by
  have hne : cur.data.toList ≠ t.data.toList := by
    intro e
    have h1 := h.area
    rw [e, area_above (above_self (above_strip h.above).2)] at h1
    omega
  obtain ⟨k, hk⟩ := List.exists_mem_of_ne_nil _ (nexts_some h.above hne)
  have h1 := nexts_mem.1 hk
  have h2 := (next_facts h1).2.2.2.2.1
  have h3 := hn k (by simpa using h2)
  rw [h1] at h3; cases h3
theorem next_is {cur t : ByteArray} {k : Nat} (h : cornerB 100 cur.data.toList (k : Int) = true) : nextB cur.data.toList t.data.toList k = aboveB t.data.toList (raiseS cur (k : Int)).data.toList := by
  unfold nextB; rw [h, raise_list h]; rfl

set_option maxRecDepth 100000 in
set_option maxHeartbeats 1000000 in
theorem way_spec (s t : ByteArray) (w : World) (hm : s.size ≤ 1048576) (hm' : t.size ≤ 1048576) :
    Calls Try.prog 65 #[.string s, .string t] w (PostRow w (wayL s.data.toList t.data.toList)) := by
  obtain ⟨i0, hi, hz0, hz1, hz2⟩ := info_parts info_int
  cases hab : aboveB t.data.toList s.data.toList with
  | false =>
    have hv : wayL s.data.toList t.data.toList = [] := by unfold wayL; rw [hab]; rfl
    rw [hv]
    go_enter Try.func65, Try.ntmps65
    go_wp2_with fail
    refine (above_spec t s _ hm' hm).mono ?_
    rintro e w' ⟨rfl, rfl⟩
    rw [hab]
    go_wp2
    go_ret
    exact ⟨_, rfl, (Below.refl _ _).alloc (Nat.le_refl _) _, World.ownsRow_made w #[] 0 (Nat.le_refl _) (by unfold maxLen; omega) rfl⟩
  | true =>
    obtain ⟨n, hat⟩ := at_start hab
    have HAT := Lib.hid hat
    clear hat
    go_enter Try.func65, Try.ntmps65
    go_wp2_with fail
    refine (above_spec t s _ hm' hm).mono ?_
    rintro e w' ⟨rfl, rfl⟩
    rw [hab]
    go_wp2_with fail
    go_loopw [0, 5] (fun x v wr => ∃ (cur : ByteArray) (n : Nat) (done : List Int), x = .string cur ∧ Hid (At s t cur n done) ∧ Hid (Own wr w.heap.size v done) ∧ Hid (Below w.heap.size w wr)) (fun x _ _ => (areaI (strL x) t.data.toList).toNat)
    case atStart => exact ⟨s, n, [], rfl, HAT, World.ownsRow_made w #[] 0 (Nat.le_refl _) (by unfold maxLen; omega) rfl, (Below.refl _ _).alloc (Nat.le_refl _) _⟩
    case round =>
      rename World => wq
      clear HAT
      obtain ⟨cur, n, done, rfl, HAT, HO, HB⟩ := hrel
      by_cases he : cur = t
      · subst he
        have hfin := at_end HAT.out
        rw [← hfin] at HO
        clear hfin
        have hb : (cur.toList == cur.toList) = true := by rw [list_beq]; simp
        go_wp2
        go_ret
        exact ⟨_, rfl, HB.out, HO.out⟩
      · have hb : (cur.toList == t.toList) = false := by rw [list_beq]; simpa using he
        obtain ⟨m, rfl⟩ := at_more HAT.out he
        have hcl := HAT.out.len
        have hal := HAT.out.all
        have HS := Lib.hid HB.out.size
        go_wp2_with fail
        go_loopw [0, 5, 6] (fun x v i wr => ∃ k : Nat, 1 ≤ k ∧ x = .string cur ∧ i = .int .i64 (k : Int) ∧ Hid (None cur t k) ∧ Hid (Own wr w.heap.size v done) ∧ Hid (Below w.heap.size w wr)) (fun _ _ i _ => cur.size - (intOf i).toNat)
        case atStart => exact ⟨1, Nat.le_refl _, rfl, rfl, none_one _ _, HO, HB⟩
        case round =>
          clear HO HB HS
          obtain ⟨k, h1, rfl, rfl, HN, HO, HB⟩ := hrel
          have HS := Lib.hid HB.out.size
          have hk0 : (0 : Int) ≤ (k : Int) := Int.natCast_nonneg _
          by_cases hlt : k < cur.size
          · have hk1 : (k : Int) < (cur.size : Int) := by omega
            cases hc : cornerB 100 cur.data.toList (k : Int) with
            | false =>
              have HT := Lib.hid (none_succ HN.out (show nextB cur.data.toList t.data.toList k = false by unfold nextB; rw [hc]; rfl))
              go_wp2_with fail
              refine (raise_spec cur _ _ (by omega) (by omega) (by omega)).mono ?_
              rintro e w' ⟨rfl, hb2⟩
              have HO2 := Lib.hid (HO.out.below hb2)
              have HB2 := Lib.hid (HB.out.trans (hb2.mono HS.out))
              clear hb2
              rw [hc]
              go_wp2
              go_roundw
              case rel => exact ⟨k + 1, by omega, rfl, by go_num, HT, HO2, HB2⟩
              case measure => simp [intOf]; omega
            | true =>
              have hrs := raise_size cur (k : Int)
              have hnx := next_is (t := t) hc
              cases ha : aboveB t.data.toList (raiseS cur (k : Int)).data.toList with
              | false =>
                rw [ha] at hnx
                have HT := Lib.hid (none_succ HN.out hnx)
                clear hnx
                have hrp := raise_spec
                have hrs2 := fun w => raise_spec cur (k : Int) w (by omega) (by omega) (by omega)
                rw [hc] at hrs2
                generalize raiseS cur (k : Int) = x at *
                have HRP := Lib.hid hrs2; clear hrs2 hrp
                go_wp2_with fail
                refine (HRP.out _).mono ?_
                rintro e w2 ⟨rfl, hb2⟩
                have HO2 := Lib.hid (HO.out.below hb2)
                have HB2 := Lib.hid (HB.out.trans (hb2.mono HS.out))
                clear hb2
                go_wp2_with fail
                refine (above_spec t _ _ hm' (by omega)).mono ?_
                rintro e w' ⟨rfl, rfl⟩
                rw [ha]
                go_wp2
                go_roundw
                case rel => exact ⟨k + 1, by omega, rfl, by go_num, HT, HO2, HB2⟩
                case measure => simp [intOf]; omega
              | true =>
                rw [ha] at hnx
                obtain ⟨r, hr⟩ := nexts_head hnx HN.out
                have HT := Lib.hid (at_step HAT.out hr)
                have HA2 := Lib.hid HT.out.area
                clear hnx hr
                go_wp2_with fail
                refine (raise_spec cur _ _ (by omega) (by omega) (by omega)).mono ?_
                rintro e w2 ⟨rfl, hb2⟩
                have HO2 := Lib.hid (HO.out.below hb2)
                have HB2 := Lib.hid (HB.out.trans (hb2.mono HS.out))
                have HS2 := Lib.hid HB2.out.size
                clear hb2
                rw [hc]
                have HX := Lib.hid hrs
                clear hrs
                obtain ⟨x, hx⟩ : ∃ x, raiseS cur (k : Int) = x := ⟨_, rfl⟩
                rw [hx] at ha HT HX HA2 ⊢
                clear hx
                go_wp2_with fail
                refine (above_spec t _ _ hm' (by have := HX.out; omega)).mono ?_
                rintro e w' ⟨rfl, rfl⟩
                rw [ha]
                go_wp2_with (at_builtin; refine wpList_append_own _ rfl _ _ 65 rfl w.heap.size 3 i0 _ 1 8 Try.underlying65 hi hz0 hz1 hz2 rfl (by decide) u5 done.length (icells done) rfl (HO2.out.alloc _) ⟨w2.heap.size, 0, none⟩ 1 1 [.int .i64 (k : Int)] rfl rfl (World.news_of_block (cs := #[.int .i64 (k : Int)]) (t := 3) (fr := (0, 0)) (heap_alloc_new _ _)) (by simp [Value.oneCell']) (by unfold maxLen; omega) (by omega) (by have := HS2.out; simp; omega) ?_)
                intro v1 w1 hown1 hgrow _
                have HB3 := Lib.hid ((HB2.out.alloc HS2.out _).grown hgrow (by have := HS2.out; simp; omega) (fun t e => (HO2.out.lt t e).1))
                have HO3 : Hid (Own w1 w.heap.size v1 (done ++ [(k : Int)])) := by
                  show World.ownsRow _ _ _ _ _ _ _
                  rw [icells_snoc, List.length_append]; exact hown1
                clear hown1 hgrow
                go_wp2
                go_roundw
                case rel => exact ⟨x, m, _, rfl, HT, HO3, HB3⟩
                case measure =>
                  show (areaI x.data.toList t.data.toList).toNat < (areaI cur.data.toList t.data.toList).toNat
                  rw [HA2.out, HAT.out.area]; omega
          · exfalso
            refine none_all HAT.out (show None cur t cur.size from fun j hj => HN.out j (by omega))
end Go.Proofs.Ytekmladindlmoaa.Flip

/- ROWS OF BOXES: what laws.szBoxS, toBoxS, eqBoxS, markBoxS and heldBoxS return and leave alone; how a row that came in is opened. -/
import Derived.Test.YtekmladindlmoaaBoxRow
namespace Go.Proofs.Ytekmladindlmoaa.Box
open Go.ChangeShapes Go.WideShapes Go.ChangeAt Go.RowKit Go.Sort Go.Joins
open Go.Proofs.Ytekmladindlmoaa.Strip Go.Proofs.Ytekmladindlmoaa.Strs Go.Proofs.Ytekmladindlmoaa.Card
set_option linter.unusedVariables false

/-- A slice of boxes that came in. -/
def ABRow (w : World) (a : Option Addr) (l : List B3) : Prop :=
  ∀ j (h : j < l.length), ∃ x, a = some x ∧ x.block < w.heap.size ∧ w.cell? (x.add (j * 3)) = some (.int .i64 l[j].1) ∧ w.cell? ⟨(x.add (j * 3)).block, (x.add (j * 3)).off + 1, none⟩ = some (.int .i64 l[j].2.1) ∧ w.cell? ⟨(x.add (j * 3)).block, (x.add (j * 3)).off + 2, none⟩ = some (.int .i64 l[j].2.2)
theorem add_step (x : Addr) (m q : Nat) (hq : 0 < q) : x.add (m + q) = ⟨(x.add m).block, (x.add m).off + q, none⟩ := by
  unfold Addr.add
  rw [if_neg (by omega)]
  split
  · rename_i h; subst h; simp
  · simp [Nat.add_assoc]
theorem ABRow.below {w w' : World} {a : Option Addr} {l : List B3} (h : ABRow w a l) (hb : Below w.heap.size w w') : ABRow w' a l := by
  intro j hj
  obtain ⟨x, e, hx, h0, h1, h2⟩ := h j hj
  have k : ∀ p : Addr, p.block = x.block → ∀ u, w.cell? p = some u → w'.cell? p = some u := fun p hp u hc => by rw [hb.cell (p := p) (by rw [hp]; exact hx)]; exact hc
  exact ⟨x, e, Nat.lt_of_lt_of_le hx hb.size, k (x.add (j * 3)) (add_block _ _) _ h0, k ⟨(x.add (j * 3)).block, (x.add (j * 3)).off + 1, none⟩ (add_block x (j * 3)) _ h1, k ⟨(x.add (j * 3)).block, (x.add (j * 3)).off + 2, none⟩ (add_block x (j * 3)) _ h2⟩
def B3.ok (b : B3) : Prop := (Lit.int .i64 b.1).wf = true ∧ (Lit.int .i64 b.2.1).wf = true ∧ (Lit.int .i64 b.2.2).wf = true
def IsBRow (w : World) (a : Option Addr) (len : Nat) (l : List B3) : Prop := l.length = len ∧ len ≤ maxLen ∧ (∀ b ∈ l, B3.ok b) ∧ ABRow w a l

theorem sz_boxes (r : Int) (h0 : 0 ≤ r) (h1 : r ≤ 1048576) (a : Option Addr) (n c : Nat) (hn : n ≤ maxLen) (w : World) :
    Calls Try.prog 32 #[.slice a n c, .int .i64 r] w fun e w' => e = .returned (.int .i64 (if r - (n : Int) < 0 then -1 else r - (n : Int))) ∧ Below w.heap.size w w' := by
  unfold maxLen at hn
  have h2 : IntKind.i64.wrap (r - (n : Int)) = r - (n : Int) := by simp [IntKind.wrap, IntKind.signed, IntKind.bits]; omega
  by_cases hlt : r - (n : Int) < 0
  · rw [if_pos hlt]
    have hd : decide (r - (n : Int) < 0) = true := decide_eq_true hlt
    go_enter Try.func32, Try.ntmps32
    go_wp2
    go_ret
    exact ⟨rfl, Below.refl _ _⟩
  · rw [if_neg hlt]
    have hd : decide (r - (n : Int) < 0) = false := decide_eq_false hlt
    go_enter Try.func32, Try.ntmps32
    go_wp2
    go_ret
    exact ⟨rfl, Below.refl _ _⟩

def zeroB : B3 := (0, 0, 0)
/-- The first k of l, then zero boxes. -/
def filledB (l : List B3) (k : Nat) : List B3 := l.take k ++ List.replicate (l.length - k) zeroB
theorem filledB_length (l : List B3) (k : Nat) (h : k ≤ l.length) : (filledB l k).length = l.length := by simp [filledB]; omega
theorem filledB_zero (l : List B3) : filledB l 0 = List.replicate l.length zeroB := by simp [filledB]
theorem filledB_all (l : List B3) : filledB l l.length = l := by simp [filledB]
theorem filledB_set (l : List B3) (k : Nat) (h : k < l.length) : (filledB l k).set k l[k] = filledB l (k + 1) := by
  unfold filledB
  have hl : (l.take k).length = k := by rw [List.length_take]; omega
  rw [List.set_append_right _ _ (by omega), hl, Nat.sub_self, show l.length - k = (l.length - (k + 1)) + 1 from by omega, List.replicate_succ, List.set_cons_zero, List.take_succ_eq_append_getElem h, List.append_assoc]
  rfl
theorem bcells_zero : ∀ n : Nat, bcells (List.replicate n zeroB) = List.replicate (n * 3) (.int .i64 0)
  | 0 => rfl
  | n + 1 => by
    have ih := bcells_zero n
    rw [List.replicate_succ]
    show bcell zeroB ++ bcells (List.replicate n zeroB) = _
    rw [ih, show (n + 1) * 3 = n * 3 + 1 + 1 + 1 by omega, List.replicate_succ, List.replicate_succ, List.replicate_succ]
    rfl
theorem zero3 (i : Nat) : (#[Value.int .i64 0, Value.int .i64 0, Value.int .i64 0] : Array Value)[i % 3]! = .int .i64 0 := by
  have h : i % 3 = 0 ∨ i % 3 = 1 ∨ i % 3 = 2 := by omega
  rcases h with h | h | h <;> rw [h] <;> rfl
theorem made_boxes (n : Nat) : (madeCells (Value.cells (.agg #[.int .i64 0, .int .i64 0, .int .i64 0])) (n * 3)).toList = bcells (List.replicate n zeroB) := by
  rw [bcells_zero]
  refine List.ext_getElem (by simp [madeCells]) fun i h1 h2 => ?_
  rw [List.getElem_replicate]
  simp only [madeCells, Value.cells, Array.toList_map, List.getElem_map, Array.toList_range, List.getElem_range]
  exact zero3 i

set_option maxRecDepth 100000 in
theorem to_boxes (a : Option Addr) (c : Nat) (l : List B3) (w : World) (hn : l.length ≤ 1048576) (hr : ABRow w a l) :
    Calls Try.prog 34 #[.slice a l.length c] w fun e w' => ∃ v, e = .returned v ∧ Below w.heap.size w w' ∧ OwnB w' w.heap.size v l := by
  obtain ⟨i0, hi, hz0, hz1, hz2⟩ := info_parts info_box
  obtain ⟨w1, hmk, hown1, hg1⟩ := run_make_full (P := Try.prog) w w.heap.size 28 39 i0 _ 3 Try.underlying28 hi hz0 hz1 .i64 .i64 l.length (by rw [hz2]; omega) (by unfold maxLen; omega) (Nat.le_refl _)
  rw [made_boxes] at hown1
  have hb1 : Below w.heap.size w w1 := (Below.refl _ _).grown hg1 (Nat.le_refl _) (fun t e => by cases e)
  have ho1 : OwnB w1 w.heap.size (.slice (some ⟨w.heap.size, 0, none⟩) l.length l.length) (filledB l 0) := by
    rw [filledB_zero]
    unfold OwnB
    rw [List.length_replicate]; exact hown1
  have HB1 := Lib.hid hb1; clear hb1
  have HO1 := Lib.hid ho1; clear ho1 hown1 hg1
  have HR := Lib.hid hr; clear hr
  obtain ⟨n, hnl⟩ : ∃ n, l.length = n := ⟨_, rfl⟩
  rw [hnl] at hmk HO1 hn ⊢
  have HNL := Lib.hid hnl; clear hnl
  go_enter Try.func34, Try.ntmps34
  go_wp2_with fail
  go_loopw [4] (fun i wr => ∃ k : Nat, k ≤ n ∧ i = .int .i64 (k : Int) ∧ Hid (OwnB wr w.heap.size (.slice (some ⟨w.heap.size, 0, none⟩) n n) (filledB l k)) ∧ Hid (Below w.heap.size w wr)) (fun i _ => n - (intOf i).toNat)
  case atStart => exact ⟨0, Nat.zero_le _, rfl, HO1, HB1⟩
  case round =>
    obtain ⟨k, hk, rfl, HO, HB⟩ := hrel
    by_cases hlt : k < n
    · have hk0 : (0 : Int) ≤ (k : Int) := Int.natCast_nonneg _
      have hk1 : (k : Int) < (n : Int) := by omega
      obtain ⟨x, rfl, hxs, hc0, hc1, hc2⟩ := (HR.out.below HB.out) k (by rw [HNL.out]; exact hlt)
      have hkl : k < (filledB l k).length := by rw [filledB_length _ _ (by rw [HNL.out]; omega), HNL.out]; exact hlt
      have hset := filledB_set l k (by rw [HNL.out]; exact hlt)
      generalize l[k]'_ = y at *
      obtain ⟨y0, y1, y2⟩ := y
      have HSET := Lib.hid hset
      clear hset
      go_wp2_with fail
      refine (to_box y0 y1 y2 _).mono ?_
      rintro e w2 ⟨rfl, hb2⟩
      have HO := Lib.hid (HO.out.below hb2)
      have HB := Lib.hid (HB.out.trans (hb2.mono HB.out.size))
      clear hb2 hc0 hc1 hc2
      obtain ⟨v0, v1, v2⟩ := HO.out.cell hkl
      have hf0 := HO.out.free (k * 3)
      have hf1 := HO.out.free (k * 3 + 1)
      have hf2 := HO.out.free (k * 3 + 2)
      have ho2 := HO.out.set y0 y1 y2 hkl
      rw [HSET.out] at ho2
      have HO2 := Lib.hid ho2
      have hb2 : Below w.heap.size w (setB w2 w.heap.size k y0 y1 y2) := HB.out.grown (grown_setB w2 w.heap.size k y0 y1 y2) HB.out.size (fun t e => by cases e; exact Nat.le_refl _)
      have HB2 := Lib.hid hb2
      clear ho2 hb2
      unfold setB at HO2 HB2
      generalize (filledB l k)[k]'_ = old at *
      go_wp2_with fail
      exact ⟨⟨k + 1, by omega, by go_num, HO2, HB2⟩, by simp [intOf]; omega⟩
    · obtain rfl : k = n := by omega
      have hfa := filledB_all l
      rw [HNL.out] at hfa
      rw [hfa] at HO
      go_wp2
      go_ret
      exact ⟨_, rfl, HB.out, HO.out⟩

set_option maxRecDepth 100000 in
theorem eq_boxes (n ca cb : Nat) (a b : Option Addr) (l : List B3) (hl : l.length = n) (hm : n ≤ maxLen) (w : World) (ha : BRow w a l) (hb : BRow w b l) :
    Calls Try.prog 35 #[.slice a n ca, .slice b n cb] w fun e w' => e = .returned (.bool true) ∧ Below w.heap.size w w' := by
  unfold maxLen at hm
  have HL := Lib.hid hl; clear hl
  have HA := Lib.hid ha; clear ha
  have HBB := Lib.hid hb; clear hb
  go_enter Try.func35, Try.ntmps35
  go_wp2_with fail
  go_loopw [5] (fun i wr => ∃ k : Nat, k ≤ n ∧ i = .int .i64 k ∧ Hid (Below w.heap.size w wr)) (fun i _ => n - (intOf i).toNat)
  case atStart => exact ⟨0, Nat.zero_le _, rfl, Below.refl _ _⟩
  case round =>
    obtain ⟨k, hk, rfl, HB⟩ := hrel
    by_cases hlt : k < n
    · obtain ⟨ga, rfl, hga, ca0, ca1, ca2⟩ := (HA.out.below HB.out) k (by rw [HL.out]; exact hlt)
      obtain ⟨gb, rfl, hgb, cb0, cb1, cb2⟩ := (HBB.out.below HB.out) k (by rw [HL.out]; exact hlt)
      have ca0 := cell_regrown ca0
      have ca1 := cell_regrown ca1
      have ca2 := cell_regrown ca2
      have cb0 := cell_regrown cb0
      have cb1 := cell_regrown cb1
      have cb2 := cell_regrown cb2
      generalize l[k]'_ = y at *
      obtain ⟨y0, y1, y2⟩ := y
      have HX := Lib.hid (fun (dd : Nat) (os : Array Obj) => Calls.regrown_of (eq_box y0 y1 y2 (grow (redrawn wr dd) os)))
      have hk0 : (0 : Int) ≤ (k : Int) := Int.natCast_nonneg _
      have hk1 : (k : Int) < (n : Int) := by omega
      go_wp2_with fail
      refine wp_region_quiet_below (by kernel_rfl) (by kernel_rfl) ?_
      repeat (go_big_quiet_step ((go_at_call 40; exact HX.out _ _)))
      refine wpQuiet_nil ?_
      intro _ hw'
      obtain ⟨⟨dq, osq⟩, hw''⟩ := hw'
      subst hw''
      have hbr := below_regrown wr dq osq
      have HB := Lib.hid (HB.out.trans (hbr.mono HB.out.size))
      clear hbr ca0 ca1 ca2 cb0 cb1 cb2 hga hgb
      go_wp2
      go_roundw
      case rel => exact ⟨k + 1, by omega, by go_num, HB⟩
      case measure => simp [intOf]; omega
    · go_wp2
      go_ret
      exact ⟨rfl, HB.out⟩

/-- The marks from k on, three a box, n boxes. -/
def marksB (k : Int) (n : Nat) : List B3 := (List.range n).map fun (i : Nat) => (k + 3 * (i : Int), k + 3 * (i : Int) + 1, k + 3 * (i : Int) + 1 + 1)
theorem marksB_length (k : Int) (n : Nat) : (marksB k n).length = n := by simp [marksB]
theorem marksB_get (k : Int) (n j : Nat) (h : j < (marksB k n).length) : (marksB k n)[j] = (k + 3 * (j : Int), k + 3 * (j : Int) + 1, k + 3 * (j : Int) + 1 + 1) := by simp [marksB]
def partB (k : Int) (j : Nat) (l : List B3) : List B3 := marksB k j ++ l.drop j
theorem partB_length (k : Int) (j : Nat) (l : List B3) (h : j ≤ l.length) : (partB k j l).length = l.length := by simp [partB, marksB_length]; omega
theorem partB_zero (k : Int) (l : List B3) : partB k 0 l = l := by simp [partB, marksB]
theorem partB_all (k : Int) (l : List B3) : partB k l.length l = marksB k l.length := by simp [partB]
theorem partB_set (k : Int) (j : Nat) (l : List B3) (h : j < l.length) : (partB k j l).set j (k + 3 * (j : Int), k + 3 * (j : Int) + 1, k + 3 * (j : Int) + 1 + 1) = partB k (j + 1) l := by
  unfold partB
  rw [List.set_append_right _ _ (by rw [marksB_length]; exact Nat.le_refl _), marksB_length, Nat.sub_self, List.drop_eq_getElem_cons h, List.set_cons_zero]
  have e : marksB k (j + 1) = marksB k j ++ [(k + 3 * (j : Int), k + 3 * (j : Int) + 1, k + 3 * (j : Int) + 1 + 1)] := by unfold marksB; rw [List.range_succ]; simp
  rw [e]; simp

theorem ret_int {k : IntKind} {a b : Int} (h : a = b) : Ending.returned (.int k a) = .returned (.int k b) := by rw [h]

set_option maxRecDepth 100000 in
theorem mark_boxes (k : Int) (hk1 : 1 ≤ k) (hk : k ≤ 2000000) (base : Nat) (a : Option Addr) (cap : Nat) (l : List B3) (hn : l.length ≤ 1048576) (w : World) (h : OwnB w base (.slice a l.length cap) l) :
    Calls Try.prog 36 #[.slice a l.length cap, .int .i64 k] w fun e w' => e = .returned (.int .i64 (k + 3 * (l.length : Int))) ∧ OwnB w' base (.slice a l.length cap) (marksB k l.length) ∧ w.grownBy w' (Value.slice a l.length cap).ownBlock := by
  rcases h.shape with ⟨rfl, rfl, rfl⟩ | ⟨g, rfl⟩
  · have H := Lib.hid h; clear h
    go_enter Try.func36, Try.ntmps36
    go_wp2_with fail
    refine wp_loop_rounds 1 ?_
    rw [rounds_succ]
    go_wp2
    go_ret
    exact ⟨ret_int (by simp), H.out, World.grownBy.refl _ _⟩
  · obtain ⟨n, hnl⟩ : ∃ n, l.length = n := ⟨_, rfl⟩
    rw [hnl] at h hn ⊢
    have HNL := Lib.hid hnl; clear hnl
    have H := Lib.hid h; clear h
    go_enter Try.func36, Try.ntmps36
    go_wp2_with fail
    go_loopw [1, 5] (fun kv i wr => ∃ (j : Nat) (m : Int), j ≤ n ∧ i = .int .i64 j ∧ kv = .int .i64 m ∧ Hid (m = k + 3 * (j : Int)) ∧ Hid (OwnB wr base (.slice (some ⟨g, 0, none⟩) n cap) (partB k j l)) ∧ Hid (w.grownBy wr (some g))) (fun _ i _ => n - (intOf i).toNat)
    case atStart => exact ⟨0, k, Nat.zero_le _, rfl, rfl, Lib.hid (show k = k + 3 * ((0 : Nat) : Int) by omega), (by rw [partB_zero]; exact H.out), World.grownBy.refl _ _⟩
    case round =>
      obtain ⟨j, m, hj, rfl, rfl, HM, hmk, hgr⟩ := hrel
      by_cases hlt : j < n
      · have hj0 : (0 : Int) ≤ (j : Int) := Int.natCast_nonneg _
        have hj1 : (j : Int) < (n : Int) := by omega
        have hm0 : 1 ≤ m := by have := HM.out; omega
        have hm1 : m ≤ 8000000 := by have := HM.out; omega
        have hjl : j < (partB k j l).length := by rw [partB_length _ _ _ (by rw [HNL.out]; omega), HNL.out]; exact hlt
        obtain ⟨v0, v1, v2⟩ := hmk.out.cell hjl
        have f0 := hmk.out.free (j * 3)
        have f1 := hmk.out.free (j * 3 + 1)
        have f2 := hmk.out.free (j * 3 + 2)
        generalize (partB k j l)[j] = old at *
        have hs := hmk.out.set m (m + 1) (m + 1 + 1) hjl
        have e := partB_set k j l (by rw [HNL.out]; exact hlt)
        rw [← HM.out] at e
        rw [e] at hs
        unfold setB at hs
        have HM2 := Lib.hid hs; clear hs hjl e
        have hg2 := grown_trans hgr.out (grown_setB wr g j m (m + 1) (m + 1 + 1))
        unfold setB at hg2
        have HG2 := Lib.hid hg2; clear hg2
        go_wp2_with fail
        refine ⟨⟨j + 1, _, by omega, by go_num, rfl, ?_, HM2, HG2⟩, by simp [intOf]; omega⟩
        have := HM.out
        show _ = _
        rw [this]
        omega
      · obtain rfl : j = n := by omega
        go_wp2
        go_ret
        have e := HM.out
        refine ⟨ret_int (by omega), ?_, hgr.out⟩
        have h2 := hmk.out
        rw [← HNL.out, partB_all] at h2
        rw [HNL.out] at h2
        exact h2

set_option maxRecDepth 100000 in
theorem held_boxes (k : Int) (hk1 : 1 ≤ k) (hk : k ≤ 2000000) (a : Option Addr) (n cap : Nat) (hn : n ≤ 1048576) (w : World) (hr : BRow w a (marksB k n)) :
    Calls Try.prog 38 #[.slice a n cap, .int .i64 k] w fun e w' => e = .returned (.int .i64 (k + 3 * (n : Int))) ∧ Below w.heap.size w w' := by
  have HR := Lib.hid hr; clear hr
  go_enter Try.func38, Try.ntmps38
  go_wp2_with fail
  go_loopw [1, 5] (fun kv i wr => ∃ (j : Nat) (m : Int), j ≤ n ∧ i = .int .i64 j ∧ kv = .int .i64 m ∧ Hid (m = k + 3 * (j : Int)) ∧ Hid (Below w.heap.size w wr)) (fun _ i _ => n - (intOf i).toNat)
  case atStart => exact ⟨0, k, Nat.zero_le _, rfl, rfl, Lib.hid (show k = k + 3 * ((0 : Nat) : Int) by omega), Below.refl _ _⟩
  case round =>
    obtain ⟨j, m, hj, rfl, rfl, HM, HB⟩ := hrel
    by_cases hlt : j < n
    · have hj0 : (0 : Int) ≤ (j : Int) := Int.natCast_nonneg _
      have hj1 : (j : Int) < (n : Int) := by omega
      have hm0 : 1 ≤ m := by have := HM.out; omega
      have hm1 : m ≤ 8000000 := by have := HM.out; omega
      obtain ⟨g, rfl, hgs, c0, c1, c2⟩ := (HR.out.below HB.out) j (by rw [marksB_length]; exact hlt)
      rw [marksB_get, ← HM.out] at c0 c1 c2
      have hx0 : (m != m) = false := by simp
      have hx1 : ((m + 1) != (m + 1)) = false := by simp
      have hx2 : ((m + 1 + 1) != (m + 1 + 1)) = false := by simp
      go_wp2_with fail
      refine ⟨⟨j + 1, _, by omega, by go_num, rfl, ?_, HB⟩, by simp [intOf]; omega⟩
      have := HM.out
      show _ = _
      rw [this]
      omega
    · obtain rfl : j = n := by omega
      have e := HM.out
      go_wp2
      go_ret
      exact ⟨ret_int (by omega), HB.out⟩


theorem cells3 {H : Type} {enc : TypeId × Value → H} {P : Program} {w : World} {base : Nat} {spare : Nat → Bool} {held : Bool} {t : TypeId} {f0 f1 f2 : Field} {fuel : Nat} {c0 c1 c2 : Value} {y : DataW H × List MemPlace} (hs : P.underlying t = some (.struct #[f0, f1, f2])) (hone : Go.Deep.oneCellFields P #[f0, f1, f2] = true)
    (h : DataW.trod enc P w base spare held fuel t [c0, c1, c2] = some y) :
    ∃ (y0 y1 y2 : DataW H × List MemPlace) (n : Nat), DataW.trod enc P w base spare held n f0.type [c0] = some y0 ∧ DataW.trod enc P w base spare held n f1.type [c1] = some y1 ∧ DataW.trod enc P w base spare held n f2.type [c2] = some y2 := by
  obtain ⟨y0, y1, y2, n, hx, _, h0, h1, h2⟩ := Go.Deep.trod_struct3 hs h
  obtain ⟨o0, k0⟩ := Go.Deep.hone_of hone 0 f0 rfl
  obtain ⟨o1, k1⟩ := Go.Deep.hone_of hone 1 f1 rfl
  obtain ⟨o2, k2⟩ := Go.Deep.hone_of hone 2 f2 rfl
  exact ⟨y0, y1, y2, n, by simpa [o0, k0] using h0, by simpa [o1, k1] using h1, by simpa [o2, k2] using h2⟩
theorem list_of {p : Nat → B3 → Prop} : ∀ n : Nat, (∀ i, i < n → ∃ b, p i b) → ∃ l : List B3, l.length = n ∧ ∀ i (h : i < l.length), p i l[i]
  | 0, _ => ⟨[], rfl, fun i h => by simp at h⟩
  | n + 1, h => by
    obtain ⟨l, hl, hp⟩ := list_of n fun i hi => h i (by omega)
    obtain ⟨b, hb⟩ := h n (by omega)
    refine ⟨l ++ [b], by simp [hl], fun i hi => ?_⟩
    by_cases e : i < l.length
    · rw [List.getElem_append_left e]; exact hp i e
    · have : i = n := by simp at hi; omega
      subst this
      rw [List.getElem_append_right (by omega)]
      simpa [hl] using hb

set_option maxRecDepth 100000 in
theorem open_boxes {H : Type} {enc : TypeId × Value → H} {W : World} {a : Option Addr} {len cap : Nat} {d : DataW H} {p : List MemPlace}
    (h : DataW.Trod enc Try.prog W 0 (fun _ => true) true 52 (.slice a len cap) d p) : ∃ l, IsBRow W a len l := by
  obtain ⟨fuel, hf⟩ := h
  rcases Go.Deep.open_slice Try.underlying52 hf with ⟨hcs, _⟩ | ⟨x, len', cap', m, n, D, Pl, hcs, _, hl, hm, hmm, _, hx⟩
  · simp [Value.cells] at hcs
    obtain ⟨rfl, rfl, rfl⟩ := hcs
    exact ⟨[], rfl, Nat.zero_le _, fun b hb => by simp at hb, fun j hj => by simp at hj⟩
  · simp [Value.cells] at hcs
    obtain ⟨rfl, rfl, rfl⟩ := hcs
    have hmm : m = cap := by simpa using hmm
    subst hmm
    obtain ⟨l, hll, hp⟩ := list_of (p := fun i b => x.block < W.heap.size ∧ B3.ok b ∧ W.cell? (x.add (i * 3)) = some (.int .i64 b.1) ∧ W.cell? ⟨(x.add (i * 3)).block, (x.add (i * 3)).off + 1, none⟩ = some (.int .i64 b.2.1) ∧ W.cell? ⟨(x.add (i * 3)).block, (x.add (i * 3)).off + 2, none⟩ = some (.int .i64 b.2.2)) len fun i hi => by
      obtain ⟨cs, h1, h2⟩ := hx i (by omega)
      rw [lawBox_cells] at h1
      obtain ⟨_, hlen, hcell⟩ := World.cells?_some h1
      match cs, hlen with
      | [c0, c1, c2], _ =>
        obtain ⟨y0, y1, y2, n', g0, g1, g2⟩ := cells3 Try.underlying46 (by kernel_rfl) h2
        obtain ⟨x0, e0, _, w0⟩ := DataW.trod_int Try.underlying3 g0
        obtain ⟨x1, e1, _, w1⟩ := DataW.trod_int Try.underlying3 g1
        obtain ⟨x2, e2, _, w2⟩ := DataW.trod_int Try.underlying3 g2
        simp at e0 e1 e2
        subst e0 e1 e2
        have k0 := hcell 0 (by omega)
        have k1 := hcell 1 (by omega)
        have k2 := hcell 2 (by omega)
        have k0 : W.cell? (x.add (i * 3)) = some (.int .i64 x0) := by simpa [Addr.add] using k0
        rw [Go.Deep.add_add, add_step _ _ _ (by omega)] at k1 k2
        exact ⟨(x0, x1, x2), by have := World.block_lt_of_cell? _ _ k0; rwa [add_block] at this, ⟨by first | exact w0 | exact w0.2 | exact w0.1, by first | exact w1 | exact w1.2 | exact w1.1, by first | exact w2 | exact w2.2 | exact w2.1⟩, k0, k1, k2⟩
    exact ⟨l, hll, by omega, fun b hb => by
      obtain ⟨j, hj, rfl⟩ := List.mem_iff_getElem.1 hb
      exact (hp j hj).2.1, fun j hj => ⟨x, rfl, (hp j hj).1, (hp j hj).2.2⟩⟩
end Go.Proofs.Ytekmladindlmoaa.Box

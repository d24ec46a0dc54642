/- What laws.toIntS returns: the ints of a slice that came in, in memory of its own. -/
import Derived.Test.YtfhpbgmnekhfeaaIntRow
import Derived.Laws.MakeOwn
import Derived.Laws.OwnMore
namespace Go.Proofs.Ytfhpbgmnekhfeaa.Ints
open Go.ChangeShapes Go.WideShapes Go.ChangeAt Go.RowKit
set_option linter.unusedVariables false

theorem info_int8 : (Try.prog.info? 3).map (fun i => (i.zero, i.size, i.bytes)) = some (some (.int .i64 0), 1, 8) := by kernel_rfl

/-- A slice that came in: the first ints behind a. -/
def ARow (w : World) (a : Option Addr) (l : List Int) : Prop :=
  ∀ j (h : j < l.length), ∃ x, a = some x ∧ x.block < w.heap.size ∧ w.cell? (x.add j) = some (.int .i64 l[j])

theorem add_block (x : Addr) (j : Nat) : (x.add j).block = x.block := by unfold Addr.add; split <;> rfl

theorem ARow.below {w w' : World} {a : Option Addr} {l : List Int} (h : ARow w a l) (hb : Below w.heap.size w w') : ARow w' a l := by
  intro j hj
  obtain ⟨x, e, hx, hc⟩ := h j hj
  refine ⟨x, e, Nat.lt_of_lt_of_le hx hb.size, ?_⟩
  rw [hb.cell (p := x.add j) (by rw [add_block]; exact hx)]; exact hc

/-- The first k of l, then zeros. -/
def filled (l : List Int) (k : Nat) : List Int := l.take k ++ List.replicate (l.length - k) 0
theorem filled_length (l : List Int) (k : Nat) (h : k ≤ l.length) : (filled l k).length = l.length := by simp [filled]; omega
theorem filled_zero (l : List Int) : filled l 0 = List.replicate l.length 0 := by simp [filled]
theorem filled_all (l : List Int) : filled l l.length = l := by simp [filled]
theorem filled_set (l : List Int) (k : Nat) (h : k < l.length) : (filled l k).set k l[k] = filled l (k + 1) := by
  unfold filled
  have hl : (l.take k).length = k := by rw [List.length_take]; omega
  rw [List.set_append_right _ _ (by omega), hl, Nat.sub_self, show l.length - k = (l.length - (k + 1)) + 1 from by omega, List.replicate_succ, List.set_cons_zero, List.take_succ_eq_append_getElem h, List.append_assoc]
  rfl

theorem made_ints (n : Nat) : (madeCells (Value.cells (.int .i64 0)) (n * 1)).toList = icells (List.replicate n 0) := by
  rw [Nat.mul_one]
  have h := toList_madeCells_one (.int .i64 0) n
  unfold icells
  rw [List.map_replicate]
  exact h

set_option maxRecDepth 100000 in
theorem to_new (a : Option Addr) (c : Nat) (l : List Int) (w : World) (hn : l.length ≤ 1048576) (hr : ARow w a l) :
    Calls Try.prog 26 #[.slice a l.length c] w fun e w' => ∃ g, e = .returned (.slice (some ⟨g, 0, none⟩) l.length l.length) ∧ Below w.heap.size w w' ∧ Own w' w.heap.size (.slice (some ⟨g, 0, none⟩) l.length l.length) l := by
  obtain ⟨i0, hi, hz0, hz1, hz2⟩ := info_parts info_int8
  obtain ⟨w1, hmk, hown1, hg1⟩ := run_make_full (P := Try.prog) w w.heap.size 33 3 i0 _ 1 Try.underlying33 hi hz0 hz1 .i64 .i64 l.length (by rw [hz2]; omega) (by unfold maxLen; omega) (Nat.le_refl _)
  rw [made_ints] at hown1
  have hb1 : Below w.heap.size w w1 := (Below.refl _ _).grown hg1 (Nat.le_refl _) (fun t e => by cases e)
  have ho1 : Own w1 w.heap.size (.slice (some ⟨w.heap.size, 0, none⟩) l.length l.length) (filled l 0) := by
    rw [filled_zero]
    unfold Own
    rw [List.length_replicate]; exact hown1
  have HB1 := Lib.hid hb1; clear hb1
  have HO1 := Lib.hid ho1; clear ho1 hown1 hg1
  have HR := Lib.hid hr; clear hr
  obtain ⟨n, hnl⟩ : ∃ n, l.length = n := ⟨_, rfl⟩
  rw [hnl] at hmk HO1 hn ⊢
  have HNL := Lib.hid hnl; clear hnl
  go_enter Try.func26, Try.ntmps26
  go_wp2_with fail
  go_loopw [4] (fun i wr => ∃ k : Nat, k ≤ n ∧ i = .int .i64 (k : Int) ∧ Hid (Own wr w.heap.size (.slice (some ⟨w.heap.size, 0, none⟩) n n) (filled l k)) ∧ Hid (Below w.heap.size w wr)) (fun i _ => n - (intOf i).toNat)
  case atStart => exact ⟨0, Nat.zero_le _, rfl, HO1, HB1⟩
  case round =>
    obtain ⟨k, hk, rfl, HO, HB⟩ := hrel
    by_cases hlt : k < n
    · have hk0 : (0 : Int) ≤ (k : Int) := Int.natCast_nonneg _
      have hk1 : (k : Int) < (n : Int) := by omega
      obtain ⟨x, rfl, hxs, hcell⟩ := (HR.out.below HB.out) k (by rw [HNL.out]; exact hlt)
      have hkl : k < (filled l k).length := by rw [filled_length _ _ (by rw [HNL.out]; omega), HNL.out]; exact hlt
      have hv := HO.out.cell hkl
      have hf := HO.out.free k
      generalize (filled l k)[k] = v0 at hv
      have hs := HO.out.set (l[k]'(by rw [HNL.out]; exact hlt)) hkl
      rw [filled_set _ _ (by rw [HNL.out]; exact hlt)] at hs
      generalize l[k]'_ = y at *
      have HO2 := Lib.hid hs; clear hs hkl
      have HB2 := Lib.hid (HB.out.setCell (p := ⟨w.heap.size, k, none⟩) (Nat.le_refl _) (.int .i64 y))
      go_wp2_with fail
      exact ⟨⟨k + 1, by omega, by go_num, HO2, HB2⟩, by simp [intOf]; omega⟩
    · obtain rfl : k = n := by omega
      have hfa := filled_all l
      rw [HNL.out] at hfa
      rw [hfa] at HO
      go_wp2
      go_ret
      exact ⟨_, rfl, HB.out, HO.out⟩
theorem to_at (a : Option Addr) (c : Nat) (l : List Int) (w : World) (hn : l.length ≤ 1048576) (hr : ARow w a l) :
    Calls Try.prog 26 #[.slice a l.length c] w fun e w' => ∃ v, e = .returned v ∧ Below w.heap.size w w' ∧ Own w' w.heap.size v l :=
  (to_new a c l w hn hr).mono fun e w' ⟨g, he, hb, ho⟩ => ⟨_, he, hb, ho⟩
end Go.Proofs.Ytfhpbgmnekhfeaa.Ints

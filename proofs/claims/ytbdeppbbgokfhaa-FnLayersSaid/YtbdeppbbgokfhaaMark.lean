/- What laws.markText, markStringS and heldStringS return and leave alone. -/
import Derived.Test.YtbdeppbbgokfhaaStrRow
namespace Go.Proofs.Ytbdeppbbgokfhaa.Strs
open Go.ChangeShapes Go.WideShapes Go.ChangeAt Go.RowKit Go.Proofs.Ytbdeppbbgokfhaa.Bytes
set_option linter.unusedVariables false

theorem ret_int {k : IntKind} {a b : Int} (h : a = b) : Ending.returned (.int k a) = .returned (.int k b) := by rw [h]

/-- The text of mark k. -/
def mk (k : Nat) : ByteArray := ⟨(109 :: Lib.decDigits k).toArray⟩

theorem dig_cell (u : Nat) : (48 : Int) + (u : Int) % 10 = ((digU (u % 10)).toNat : Int) := by
  unfold digU
  rw [if_pos (by omega)]
  simp; omega

set_option maxRecDepth 100000 in
theorem mark_at (k : Int) (h0 : 1 ≤ k) (h1 : k ≤ 1000000000000) (w : World) :
    Calls Try.prog 94 #[.int .i64 k] w fun e w' => e = .returned (.string (mk k.toNat)) ∧ Below w.heap.size w w' := by
  obtain ⟨n, rfl⟩ := Int.eq_ofNat_of_zero_le (show 0 ≤ k by omega)
  have hn0 : 0 < n := by omega
  have ST := Lib.hid (FmtRel.start (n : Int) (by omega))
  go_enter Try.func94, Try.ntmps94
  go_wp2_with fail
  go_loopw [0, 3] (fun v s wr => ∃ (u : Nat) (l : List UInt8), u ≤ n ∧ v = .int .i64 (u : Int) ∧ s = .string ⟨l.toArray⟩ ∧ Hid (FmtRel (n : Int) (u : Int) l) ∧ Below w.heap.size w wr) (fun v _ _ => (intOf v).natAbs)
  case atStart => exact ⟨n, [], Nat.le_refl _, rfl, rfl, ST, Below.refl _ _⟩
  case round =>
    obtain ⟨u, l, hun, rfl, rfl, hrel, hbw⟩ := hrel
    have HB := Lib.hid hbw; clear hbw
    have hl20 := hrel.out.short (by omega) (by omega)
    by_cases hu : u = 0
    · subst hu
      have hl := FmtRel.stop (by simpa using hrel.out)
      have hi : mk n = ⟨(109 :: l).toArray⟩ := by unfold mk; rw [hl]; rfl
      have HI := Lib.hid hi; clear hi hl hrel
      go_wp2
      go_ret
      exact ⟨by rw [show ((n : Int)).toNat = n from by omega, HI.out, ← cat_one]; rfl, HB.out⟩
    · have hu1 : 0 < u := by omega
      have hstep := FmtRel.round hrel.out u (by rw [if_neg (by omega)]) hu
      rw [if_neg (by omega)] at hstep
      have HSTEP := Lib.hid hstep; clear hstep hrel hu
      have hone := run_one (digU (u % 10)) wr
      rw [← dig_cell u] at hone
      generalize digU (u % 10) = x at hone HSTEP
      go_wp2_with fail
      go_roundw
      case rel => exact ⟨u / 10, x :: l, by omega, by go_num, by rw [cat_one], HSTEP, (HB.out.alloc HB.out.size _)⟩
      case measure => simp [intOf]; omega

/-- The marks from k on, n of them. -/
def marks (k n : Nat) : List ByteArray := (List.range n).map fun i => mk (k + i)

theorem marks_length (k n : Nat) : (marks k n).length = n := by simp [marks]
theorem marks_get (k n j : Nat) (h : j < (marks k n).length) : (marks k n)[j] = mk (k + j) := by simp [marks]

theorem heap_set_at (w : World) (k j : Nat) (cs : Array Value) (T : TypeId) (m : Nat × Nat) (v : Value) (h : w.heap[k]? = some (.cells cs T m)) :
    (w.setCell ⟨k, j, none⟩ v).heap[k]? = some (.cells (cs.setIfInBounds j v) T m) := by
  simp [World.setCell, Array.getElem?_modify, h]

/-- Block g holds n marked strings first, and then what it held. -/
def Marked (w : World) (g cap n k : Nat) (cur : Array Value) : Prop :=
  ∃ cur', w.heap[g]? = some (.cells cur' 9 (0, 0)) ∧ cur'.size = cap ∧ cur'.toList.take n = scells (marks k n)

theorem Marked.step {w : World} {g cap n k : Nat} {cur : Array Value} (h : Marked w g cap n k cur) (hn : n < cap) : Marked (w.setCell ⟨g, n, none⟩ (.string (mk (k + n)))) g cap (n + 1) k cur := by
  obtain ⟨c, hc, hs, ht⟩ := h
  refine ⟨c.setIfInBounds n (.string (mk (k + n))), heap_set_at _ _ _ _ _ _ _ hc, by simp [hs], ?_⟩
  have e : scells (marks k (n + 1)) = scells (marks k n) ++ [.string (mk (k + n))] := by
    unfold scells marks
    rw [List.range_succ]; simp
  rw [e, ← ht, Array.toList_setIfInBounds]
  apply List.ext_getElem?
  intro i
  by_cases h1 : i < n
  · rw [List.getElem?_append_left (by simp; omega), List.getElem?_take_of_lt (by omega), List.getElem?_take_of_lt h1, List.getElem?_set_ne (by omega)]
  · by_cases h2 : i = n
    · subst h2
      rw [List.getElem?_take_of_lt (by omega), List.getElem?_append_right (by simp; omega)]
      have hl : (c.toList.take i).length = i := by simp; omega
      rw [hl, List.getElem?_set_self (by simp; omega)]
      simp
    · rw [List.getElem?_eq_none (by simp; omega), List.getElem?_eq_none (by simp; omega)]

theorem Marked.cell {w : World} {g cap n k j : Nat} {cur : Array Value} (h : Marked w g cap n k cur) (hj : j < cap) : ∃ v, w.cell? ⟨g, j, none⟩ = some v := by
  obtain ⟨c, hc, hs, _⟩ := h
  exact ⟨c[j]'(by omega), by simp [World.cell?, hc, show j < c.size by omega]⟩
theorem Marked.free {w : World} {g cap n k j : Nat} {cur : Array Value} (h : Marked w g cap n k cur) : w.frozen? ⟨g, j, none⟩ = false := by
  obtain ⟨c, hc, hs, _⟩ := h
  simp [World.frozen?, hc]
theorem Marked.below {w w' : World} {g cap n k : Nat} {cur : Array Value} (h : Marked w g cap n k cur) (hb : Below w.heap.size w w') : Marked w' g cap n k cur := by
  obtain ⟨c, hc, hs, ht⟩ := h
  exact ⟨c, by rw [hb.block g (Array.getElem?_eq_some_iff.1 hc).1]; exact hc, hs, ht⟩

theorem grown_below {w w' : World} (h : Below w.heap.size w w') (row : Option Nat) : w.grownBy w' row := ⟨h.os, h.tape, h.output, h.size, fun k hk _ => h.block k hk⟩
theorem grown_set (w : World) (k j : Nat) (v : Value) : w.grownBy (w.setCell ⟨k, j, none⟩ v) (some k) :=
  ⟨rfl, rfl, rfl, by simp [World.setCell], fun b hb hne => Below.heap_setCell _ _ _ _ (fun e => hne (by rw [e]))⟩
theorem grown_trans {a b c : World} {row : Option Nat} (h : a.grownBy b row) (g : b.grownBy c row) : a.grownBy c row :=
  ⟨g.os.trans h.os, g.tape.trans h.tape, g.output.trans h.output, Nat.le_trans h.size g.size,
    fun k hk hne => (g.block k (Nat.lt_of_lt_of_le hk h.size) hne).trans (h.block k hk hne)⟩

theorem mark_nil (k : Int) (w : World) (a : Option Addr) (c : Nat) :
    Calls Try.prog 70 #[.slice a 0 c, .int .i64 k] w fun e w' => e = .returned (.int .i64 k) ∧ w = w' := by
  go_enter Try.func70, Try.ntmps70
  go_wp2_with fail
  refine wp_loop_rounds 1 ?_
  rw [rounds_succ]
  go_wp2
  go_ret
  exact ⟨rfl, rfl⟩

theorem mark_row (g n cap k : Nat) (hk1 : 1 ≤ k) (hk : k ≤ 2000000) (hn : n ≤ 2000000) (hnc : n ≤ cap) (cur : Array Value) (w : World) (hg : w.heap[g]? = some (.cells cur 9 (0, 0))) (hcs : cur.size = cap) :
    Calls Try.prog 70 #[.slice (some ⟨g, 0, none⟩) n cap, .int .i64 (k : Int)] w fun e w' => e = .returned (.int .i64 ((k + n : Nat) : Int)) ∧ Marked w' g cap n k cur ∧ w.grownBy w' (some g) := by
  have hm0 : Marked w g cap 0 k cur := ⟨cur, hg, hcs, rfl⟩
  have HM0 := Lib.hid hm0; clear hm0 hcs hg
  go_enter Try.func70, Try.ntmps70
  go_wp2_with fail
  go_loopw [1, 5] (fun kv i wr => ∃ j : Nat, j ≤ n ∧ i = .int .i64 j ∧ kv = .int .i64 ((k : Int) + (j : Int)) ∧ Hid (Marked wr g cap j k cur) ∧ Hid (w.grownBy wr (some g))) (fun _ i _ => n - (intOf i).toNat)
  case atStart => exact ⟨0, Nat.zero_le _, rfl, by simp, HM0, World.grownBy.refl _ _⟩
  case round =>
    obtain ⟨j, hj, rfl, rfl, hmk, hgr⟩ := hrel
    by_cases hlt : j < n
    · have hj0 : (0 : Int) ≤ (j : Int) := Int.natCast_nonneg _
      have hj1 : (j : Int) < (n : Int) := by omega
      go_wp2_with fail
      refine (mark_at ((k : Int) + (j : Int)) (by omega) (by omega) _).mono ?_
      rintro e w1 ⟨rfl, hb1⟩
      rw [show ((k : Int) + (j : Int)).toNat = k + j from by omega]
      have HM1 := Lib.hid (hmk.out.below hb1)
      have HG1 := Lib.hid (grown_trans hgr.out (grown_below hb1 _)); clear hb1
      obtain ⟨v, hv⟩ := HM1.out.cell (j := j) (by omega)
      have hf := HM1.out.free (j := j)
      have HM2 := Lib.hid (HM1.out.step (by omega))
      have HG2 := Lib.hid (grown_trans HG1.out (grown_set w1 g j (.string (mk (k + j)))))
      generalize mk (k + j) = tx at *
      go_wp2_with fail
      refine ⟨⟨j + 1, by omega, by go_num, ?_, HM2, HG2⟩, by simp [intOf]; omega⟩
      congr 1
    · obtain rfl : j = n := by omega
      go_wp2
      go_ret
      exact ⟨ret_int (by omega), hmk.out, hgr.out⟩

end Go.Proofs.Ytbdeppbbgokfhaa.Strs

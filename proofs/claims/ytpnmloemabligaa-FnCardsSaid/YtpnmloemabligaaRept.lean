/- What slices.Repeat returns at a row of one string. -/
import Derived.Test.YtpnmloemabligaaRepl
import Derived.Test.YtpnmloemabligaaKit
import Derived.Test.YtpnmloemabligaaReplCut
namespace Go.Proofs.Ytpnmloemabligaa.Strs
open Go.ChangeShapes Go.WideShapes Go.ChangeAt Go.RowKit
set_option linter.unusedVariables false

/-- m strings s, then empty ones: n in all. -/
def rep (n m : Nat) (s : ByteArray) : List ByteArray := List.replicate m s ++ List.replicate (n - m) ⟨#[]⟩
theorem rep_length (n m : Nat) (s : ByteArray) (h : m ≤ n) : (rep n m s).length = n := by unfold rep; simp; omega
theorem rep_all (n : Nat) (s : ByteArray) : rep n n s = List.replicate n s := by unfold rep; simp
theorem rep_zero (n : Nat) (s : ByteArray) : rep n 0 s = List.replicate n ⟨#[]⟩ := by unfold rep; simp
theorem rep_get (n m : Nat) (s : ByteArray) (j : Nat) (h : m ≤ n) (hj : j < n) : (rep n m s)[j]? = some (if j < m then s else ⟨#[]⟩) := by
  unfold rep
  by_cases h1 : j < m
  · rw [if_pos h1, List.getElem?_append_left (by simpa using h1)]; simp [h1]
  · rw [if_neg h1, List.getElem?_append_right (by simp; omega), List.length_replicate, List.getElem?_replicate_of_lt (by omega)]

/-- r more of them are written. -/
theorem rep_more {w : World} {base B n m r : Nat} {s : ByteArray} (h : Own w base (.slice (some ⟨B, 0, none⟩) n n) (rep n m s)) (hm : m + r ≤ n) :
    Own (w.setCells B m (List.replicate r (.string s))) base (.slice (some ⟨B, 0, none⟩) n n) (rep n (m + r) s) := by
  obtain ⟨cs, hh, hgb, hnc, hcm, hcs, hln, hcell⟩ := h.block
  obtain ⟨c1, hh1, hs1, hc1⟩ := heap_setCells B (List.replicate r (Value.string s)) m w cs _ _ hh (by simp; omega)
  refine Own.of_block hh1 hgb (by omega) (rep_length n (m + r) s hm) (Nat.le_refl _) hcm (fun j hj => ?_)
  have hjn : j < n := by rwa [rep_length n (m + r) s hm] at hj
  have e1 := rep_get n (m + r) s j hm hjn
  rw [List.getElem?_eq_getElem hj] at e1
  rw [Option.some.inj e1, hc1]
  simp only [List.length_replicate]
  have hj2 : j < (rep n m s).length := by rw [rep_length n m s (by omega)]; exact hjn
  have e2 := rep_get n m s j (by omega) hjn
  rw [List.getElem?_eq_getElem hj2] at e2
  by_cases a1 : m ≤ j ∧ j < m + r
  · rw [if_pos a1, if_pos a1.2, List.getElem?_replicate_of_lt (by omega)]
  · rw [if_neg a1, hcell j hj2, Option.some.inj e2]
    by_cases a2 : j < m
    · rw [if_pos a2, if_pos (by omega)]
    · rw [if_neg a2, if_neg (by omega)]

/-- The post, behind a name. -/
def Repeated (w : World) (l : List ByteArray) (e : Ending) (w' : World) : Prop :=
  ∃ a c, e = .returned (.slice a l.length c) ∧ Below w.heap.size w w' ∧ Own w' w.heap.size (.slice a l.length c) l

set_option maxRecDepth 100000 in
set_option maxHeartbeats 1000000 in
theorem repeat_any (vb n : Nat) (s : ByteArray) (w : World) (hn : n ≤ 10) (hv : w.heap[vb]? = some (.cells #[.string s] 9 (0, 0))) :
    Calls Try.prog 44 #[.slice (some ⟨vb, 0, none⟩) 1 1, .int .i64 (n : Int)] w (Repeated w (List.replicate n s)) := by
  obtain ⟨i0, hi, hz0, hz1, hz2⟩ := info_parts info_str16
  obtain ⟨w1, hmk, hown1, hg1⟩ := run_make_full (P := Try.prog) w w.heap.size 24 9 i0 _ 1 Try.underlying24 hi hz0 hz1 .i64 .i64 n (by rw [hz2]; omega) (by unfold maxLen; omega) (Nat.le_refl _)
  rw [made_strs] at hown1
  have hb1 : Below w.heap.size w w1 := (Below.refl _ _).grown hg1 (Nat.le_refl _) (fun t e => by cases e)
  have ho1 : Own w1 w.heap.size (.slice (some ⟨w.heap.size, 0, none⟩) n n) (rep n 0 s) := by
    rw [rep_zero]
    unfold Own
    rw [List.length_replicate]; exact hown1
  have hmul := Try.bits_Mul 1 n (by omega) (by omega)
  have e1 : (1 * n / 18446744073709551616 : Nat) = 0 := by omega
  have e2 : (1 * n % 18446744073709551616 : Nat) = n := by omega
  rw [e1, e2] at hmul
  have HMUL := Lib.hid hmul
  have HB1 := Lib.hid hb1
  have HO1 := Lib.hid ho1
  have HV1 := Lib.hid (show w1.heap[vb]? = some (.cells #[.string s] 9 (0, 0)) from (hb1.block vb (Array.getElem?_eq_some_iff.1 hv).1).trans hv)
  have HNE := Lib.hid (show vb < w.heap.size from (Array.getElem?_eq_some_iff.1 hv).1)
  clear hmul hb1 ho1 hown1 hg1 hv e1 e2 hi hz0 hz1 hz2
  have hn0 : (0 : Int) ≤ (n : Int) := Int.natCast_nonneg _
  have hn1 : (n : Int) ≤ 10 := by omega
  go_enter Try.func44, Try.ntmps44
  go_wp2_with fail
  refine (HMUL.out _).mono ?_
  rintro e w2 ⟨rfl, rfl⟩
  have d1 : decide ((9223372036854775807 : Int) < (n : Int)) = false := by simp; omega
  by_cases hz : n = 0
  · have hcp0 : ∀ ty, (Builtin.copy_ #[24, 24] ty #[.slice (some ⟨w2.heap.size, 0, none⟩) n n, .slice (some ⟨vb, 0, none⟩) 1 1]).run Try.prog w1 = .ok (goInt 0) w1 := fun ty =>
      run_copy_none w1 _ _ ty 9 _ _ n n 1 1 Try.underlying24 info_sz (by simp only [Nat.min_def]; split <;> omega)
    have hle : (n : Int) ≤ 0 := by omega
    have HF := Lib.hid (show Repeated w2 (List.replicate n s) (.returned (.slice (some ⟨w2.heap.size, 0, none⟩) n n)) w1 by
      refine ⟨some ⟨w2.heap.size, 0, none⟩, n, by rw [List.length_replicate], HB1.out, ?_⟩
      have h := HO1.out
      rw [List.length_replicate]
      have e : rep n 0 s = List.replicate n s := by subst hz; rfl
      rwa [e] at h)
    clear hz
    go_wp2_with (at_builtin; refine wpList_copy_runI _ rfl _ _ 24 24 rfl _ _ rfl rfl (hcp0 _) ?_)
    refine wp_loop_rounds 1 ?_
    rw [rounds_succ]
    go_wp2
    go_ret
    exact HF.out
  · have hpos : (0 : Int) < (n : Int) := by omega
    have hcp1 : ∀ ty, (Builtin.copy_ #[24, 24] ty #[.slice (some ⟨w2.heap.size, 0, none⟩) n n, .slice (some ⟨vb, 0, none⟩) 1 1]).run Try.prog w1 = .ok (goInt [Value.string s].length) (w1.setCells w2.heap.size 0 [.string s]) := fun ty => by
      obtain ⟨cs, hh, hgb, hnc, hcm, hcs, hln, hcell⟩ := HO1.out.block
      exact run_copy_cells w1 _ _ ty 9 w2.heap.size 0 n n ⟨vb, 0, none⟩ 1 1 [.string s] Try.underlying24 info_sz (by simp only [List.length_singleton, Nat.min_def]; split <;> omega)
        (fun j u hj => by rw [add_lit]; exact (block_cell HV1.out).trans (by rw [← hj]; simp)) (fun j hj => block_some hh (by simp at hj; omega)) (fun j hj => block_free hh) (by simp [Value.oneCell'])
    have HO2 := Lib.hid (show Own (w1.setCells w2.heap.size 0 [.string s]) w2.heap.size (.slice (some ⟨w2.heap.size, 0, none⟩) n n) (rep n 1 s) from rep_more (m := 0) (r := 1) HO1.out (by omega))
    have HB2 := Lib.hid (HB1.out.grown (grown_setCells w2.heap.size [Value.string s] 0 w1) HB1.out.size (fun j e => by cases e; omega))
    go_wp2_with (at_builtin; refine wpList_copy_runI _ rfl _ _ 24 24 rfl _ _ rfl rfl (hcp1 _) ?_)
    clear hcp1
    go_loopw [8] (fun i wr => ∃ m : Nat, 1 ≤ m ∧ m ≤ n ∧ i = .int .i64 (m : Int) ∧ Hid (Own wr w2.heap.size (.slice (some ⟨w2.heap.size, 0, none⟩) n n) (rep n m s)) ∧ Hid (Below w2.heap.size w2 wr)) (fun i _ => n - (intOf i).toNat)
    case atStart => exact ⟨1, by omega, by omega, rfl, HO2, HB2⟩
    case round =>
      obtain ⟨m, hm1, hm2, rfl, HO, HB⟩ := hrel
      by_cases hlt : m < n
      · obtain ⟨r, hr⟩ : ∃ r, r = if n - m < m then n - m else m := ⟨_, rfl⟩
        have hr1 : m + r ≤ n := by rw [hr]; split <;> omega
        have hr2 : 0 < r := by rw [hr]; split <;> omega
        have HR := Lib.hid (show r = Nat.min m (n - m) by rw [hr]; show _ = min m (n - m); rw [Nat.min_def]; split <;> split <;> omega)
        clear hr
        have hm0 : (0 : Int) ≤ (m : Int) := Int.natCast_nonneg _
        have hm3 : (m : Int) < (n : Int) := by omega
        have hm4 : ¬ (n = m) := by omega
        have s1 : IntKind.i64.wrap ((m : Int) + (r : Int)) = ((m + r : Nat) : Int) := by rw [IntKind.wrap_i64]; omega
        have HCP := Lib.hid (show ∀ ty, (Builtin.copy_ #[24, 24] ty #[.slice (some ⟨w2.heap.size, m, none⟩) (n - m) (n - m), .slice (some ⟨w2.heap.size, 0, none⟩) m n]).run Try.prog wr.drew = .ok (.int .i64 (r : Int)) (wr.drew.setCells w2.heap.size m (List.replicate r (.string s))) from fun ty => by
          obtain ⟨cs, hh, hgb, hnc, hcm, hcs, hln, hcell⟩ := HO.out.block
          have h1 := run_copy_cells wr.drew 24 24 ty 9 w2.heap.size m (n - m) (n - m) ⟨w2.heap.size, 0, none⟩ m n (List.replicate r (.string s)) Try.underlying24 info_sz (by rw [List.length_replicate]; exact HR.out)
            (fun j u hj => by
              have hjr : j < r := by
                have := (List.getElem?_eq_some_iff.1 hj).1
                rwa [List.length_replicate] at this
              rw [List.getElem?_replicate_of_lt hjr] at hj
              rw [add_lit]
              refine (block_cell (w := wr) hh).trans ?_
              have hj2 : j < (rep n m s).length := by rw [rep_length n m s (by omega)]; omega
              have hrm : r ≤ m := by rw [HR.out]; exact Nat.min_le_left _ _
              have e2 := rep_get n m s j (by omega) (by omega)
              rw [List.getElem?_eq_getElem hj2] at e2
              rw [hcell j hj2, Option.some.inj e2, if_pos (by omega)]
              exact hj)
            (fun j hj => block_some (w := wr) hh (by rw [List.length_replicate] at hj; omega)) (fun j hj => block_free (w := wr) hh) (fun v hv => by rw [List.eq_of_mem_replicate hv]; rfl)
          rw [List.length_replicate] at h1
          exact h1)
        have HO3 := Lib.hid (show Own (wr.drew.setCells w2.heap.size m (List.replicate r (.string s))) w2.heap.size (.slice (some ⟨w2.heap.size, 0, none⟩) n n) (rep n (m + r) s) from rep_more (w := wr.drew) HO.out hr1)
        have HB3 := Lib.hid (HB.out.drew.grown (grown_setCells w2.heap.size (List.replicate r (Value.string s)) m wr.drew) HB.out.drew.size (fun j e => by cases e; omega))
        go_wp2_with fail
        go_region_held3 (fun _ => True) (exact trivial) ((refine step_copy_runI rfl (.tmp 41) (.tmp 44) 24 24 rfl (.slice (some ⟨w2.heap.size, m, none⟩) (n - m) (n - m)) (.slice (some ⟨w2.heap.size, 0, none⟩) m n) (by rfl) (by rfl) (HCP.out _) ?_))
        generalize (wr.drew.setCells w2.heap.size m (List.replicate r (.string s))) = Z at *
        go_wp2
        go_roundw
        case rel => exact ⟨m + r, by omega, hr1, by go_num, HO3, HB3⟩
        case measure => simp [intOf]; omega
      · obtain rfl : m = n := by omega
        have HF := Lib.hid (show Repeated w2 (List.replicate m s) (.returned (.slice (some ⟨w2.heap.size, 0, none⟩) m m)) wr by
          refine ⟨some ⟨w2.heap.size, 0, none⟩, m, by rw [List.length_replicate], HB.out, ?_⟩
          have h := HO.out
          rw [List.length_replicate]
          rwa [rep_all] at h)
        go_wp2
        go_ret
        exact HF.out
end Go.Proofs.Ytpnmloemabligaa.Strs

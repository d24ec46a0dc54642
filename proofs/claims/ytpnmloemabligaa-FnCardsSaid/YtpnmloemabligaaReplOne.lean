/- What slices.Replace returns where one string is put in the place of one. -/
import Derived.Test.YtpnmloemabligaaRepl
import Derived.Test.YtpnmloemabligaaKit
import Derived.Shelf.RegionOpenPlain
namespace Go.Proofs.Ytpnmloemabligaa.Strs
open Go.ChangeShapes Go.WideShapes Go.ChangeAt Go.RowKit
set_option linter.unusedVariables false

/-- The post, behind a name: the row is written in place, or a new one is made. -/
def Replaced (w : World) (base : Nat) (v : Value) (l : List ByteArray) (e : Ending) (w' : World) : Prop :=
  ∃ a c, e = .returned (.slice a l.length c) ∧ Own w' base (.slice a l.length c) l ∧ w.grownBy w' v.ownBlock

theorem info_sz : (Try.prog.info? 9).map (·.size) = some 1 := by kernel_rfl
theorem add_lit (g j : Nat) : (⟨g, 0, none⟩ : Addr).add j = ⟨g, j, none⟩ := by unfold Addr.add; split <;> simp_all

theorem run_clear_zero (a : Option Addr) (c : Nat) (ty : TypeId) (w : World) : (Builtin.clear_ #[24] ty #[.slice a 0 c]).run Try.prog w = .ok (.tuple #[]) w := by
  cases a <;> simp [Builtin.clear_, run_underlying Try.underlying24]

set_option maxRecDepth 100000 in
set_option maxHeartbeats 2000000 in
theorem replace_last (g n cap base k vb : Nat) (s : ByteArray) (l : List ByteArray) (w : World) (hkn : k + 1 = n) (h : Own w base (.slice (some ⟨g, 0, none⟩) n cap) l) (hv : w.heap[vb]? = some (.cells #[.string s] 9 (0, 0))) (hne : vb ≠ g) :
    Calls Try.prog 62 #[.slice (some ⟨g, 0, none⟩) n cap, .int .i64 (k : Int), .int .i64 ((k : Int) + 1), .slice (some ⟨vb, 0, none⟩) 1 1] w (Replaced w base (.slice (some ⟨g, 0, none⟩) n cap) (l.set k s)) := by
  obtain ⟨cs, hh, hgb, hnc, hcm, hcs, hln, hcell⟩ := h.block
  unfold maxLen at hcm
  have hsrc : Src Try.prog 1 24 (.slice (some ⟨vb, 0, none⟩) 1 1) 1 [.string s] w := Src.ofSlice w Try.underlying24 ⟨vb, 0, none⟩ 1 1 [.string s] (by simp) (fun j u hj => by
    rw [add_lit, block_cell hv, ← hj]; simp) (by simp [Value.oneCell'])
  have hsp : ∀ j, j < [Value.string s].length → (w.cell? ⟨g, 0 + k + j, none⟩).isSome = true := fun j hj => block_some hh (by simp at hj; omega)
  have hfz : ∀ j, j < [Value.string s].length → w.frozen? ⟨g, 0 + k + j, none⟩ = false := fun j hj => block_free hh
  have HX := Lib.hid (show Own (w.setCells g k [.string s]) base (.slice (some ⟨g, 0, none⟩) n cap) (l.set k s) ∧ w.grownBy (w.setCells g k [.string s]) (some g) by
    refine ⟨?_, grown_setCells g _ _ _⟩
    exact h.set s (j := k) (by omega))
  have HSRC := Lib.hid hsrc
  have HSP := Lib.hid hsp
  have HFZ := Lib.hid hfz
  have HLN := Lib.hid hln
  have hk0 : (0 : Int) ≤ (k : Int) := Int.natCast_nonneg _
  have hk1 : (k : Int) < (n : Int) := by omega
  have hk2 : (k : Int) + 1 ≤ (n : Int) := by omega
  have hk3 : (n : Int) ≤ (cap : Int) := by omega
  have hk4 : (cap : Int) ≤ 9223372036854775807 := by omega
  have e1 : ((k : Int) == (k : Int) + 1) = false := by simp; omega
  have e2 : ((k : Int) + 1 == (n : Int)) = true := by simp; omega
  have e3 : decide ((k : Int) + 1 < (n : Int)) = false := by simp; omega
  clear hsrc hsp hfz hln hh hgb hcs hcell h hv
  go_enter Try.func62, Try.ntmps62
  go_wp2_with (at_builtin; refine wpList_append_room1 _ rfl _ _ 24 24 rfl 9 _ _ Try.underlying24 info_str16 g 0 k cap rfl _ rfl 1 [.string s] HSRC.out (by omega) HSP.out HFZ.out ?_)
  go_ret
  unfold Replaced
  refine ⟨some ⟨g, 0, none⟩, cap, ?_, ?_, HX.out.2⟩
  · rw [List.length_set, HLN.out, ← hkn]; rfl
  · rw [List.length_set, HLN.out]; exact HX.out.1

set_option maxRecDepth 100000 in
set_option maxHeartbeats 4000000 in
theorem replace_mid (g n cap base k vb : Nat) (s : ByteArray) (l : List ByteArray) (w : World) (hkn : k + 1 < n) (h : Own w base (.slice (some ⟨g, 0, none⟩) n cap) l) (hv : w.heap[vb]? = some (.cells #[.string s] 9 (0, 0))) (hne : vb ≠ g) :
    Calls Try.prog 62 #[.slice (some ⟨g, 0, none⟩) n cap, .int .i64 (k : Int), .int .i64 ((k : Int) + 1), .slice (some ⟨vb, 0, none⟩) 1 1] w (Replaced w base (.slice (some ⟨g, 0, none⟩) n cap) (l.set k s)) := by
  obtain ⟨cs, hh, hgb, hnc, hcm, hcs, hln, hcell⟩ := h.block
  have hcm' := hcm
  unfold maxLen at hcm
  have hdl : (scells (l.drop (k + 1))).length = n - (k + 1) := by rw [scells_length, List.length_drop, hln]
  -- the first copy
  have hcp1 : ∀ (q : Nat) ty dc, (Builtin.copy_ #[24, 24] ty #[.slice (some ⟨g, k, none⟩) (n - k) dc, .slice (some ⟨vb, 0, none⟩) 1 1]).run Try.prog (w.drewN q) = .ok (goInt [Value.string s].length) ((w.drewN q).setCells g k [.string s]) := fun q ty dc =>
    run_copy_cells (w.drewN q) _ _ ty 9 g k (n - k) dc ⟨vb, 0, none⟩ 1 1 [.string s] Try.underlying24 info_sz (by simp only [List.length_singleton, Nat.min_def]; split <;> omega)
      (fun j u hj => by rw [add_lit]; exact (block_cell (w := w) hv).trans (by rw [← hj]; simp))
      (fun j hj => block_some (w := w) hh (by simp at hj; omega)) (fun j hj => block_free (w := w) hh) (by simp [Value.oneCell'])
  -- what stands behind it
  have hW1 : ∀ q : Nat, ∃ c1 : Array Value, ((w.drewN q).setCells g k [.string s]).heap[g]? = some (.cells c1 9 (0, 0)) ∧ c1.size = cs.size ∧ ∀ j, c1[j]? = if k ≤ j ∧ j < k + 1 then [Value.string s][j - k]? else cs[j]? := fun q =>
    heap_setCells g [.string s] k (w.drewN q) cs _ _ hh (by simp; omega)
  have hcp2 : ∀ (q : Nat) ty dc sc, (Builtin.copy_ #[24, 24] ty #[.slice (some ⟨g, k + 1, none⟩) (n - (k + 1)) dc, .slice (some ⟨g, k + 1, none⟩) (n - (k + 1)) sc]).run Try.prog ((w.drewN q).setCells g k [.string s]).drew = .ok (goInt (scells (l.drop (k + 1))).length) (((w.drewN q).setCells g k [.string s]).drew.setCells g (k + 1) (scells (l.drop (k + 1)))) := fun q ty dc sc => by
    obtain ⟨c1, hh1, hs1, hc1⟩ := hW1 q
    refine run_copy_cells ((w.drewN q).setCells g k [.string s]).drew _ _ ty 9 g (k + 1) (n - (k + 1)) dc ⟨g, k + 1, none⟩ (n - (k + 1)) sc (scells (l.drop (k + 1))) Try.underlying24 info_sz (by rw [hdl]; simp only [Nat.min_def]; split <;> omega)
      (fun j u hj => ?_) (fun j hj => block_some (w := (w.drewN q).setCells g k [.string s]) hh1 (by omega)) (fun j hj => block_free (w := (w.drewN q).setCells g k [.string s]) hh1) (scells_one _)
    have hjl : j < (l.drop (k + 1)).length := by
      have := (List.getElem?_eq_some_iff.1 hj).1
      rwa [scells_length] at this
    rw [scells_get _ j hjl] at hj
    have hjl2 := hjl
    rw [List.length_drop] at hjl2
    rw [Addr.add_lit]
    refine (block_cell (w := (w.drewN q).setCells g k [.string s]) hh1).trans ?_
    rw [hc1, if_neg (by omega), hcell (k + 1 + j) (by omega), ← hj]
    simp
  have HX := Lib.hid (show ∀ q : Nat, Own (((w.drewN q).setCells g k [.string s]).drew.setCells g (k + 1) (scells (l.drop (k + 1)))) base (.slice (some ⟨g, 0, none⟩) n cap) (l.set k s) ∧ w.grownBy (((w.drewN q).setCells g k [.string s]).drew.setCells g (k + 1) (scells (l.drop (k + 1)))) (some g) from fun q => by
    obtain ⟨c1, hh1, hs1, hc1⟩ := hW1 q
    refine ⟨?_, grown_trans (grown_below (drewN_below w q) _) (grown_trans (grown_setCells g _ _ _) (grown_trans (grown_below (drewN_below _ 1) _) (grown_setCells g _ _ _)))⟩
    obtain ⟨c2, hh2, hs2, hc2⟩ := heap_setCells g (scells (l.drop (k + 1))) (k + 1) ((w.drewN q).setCells g k [.string s]).drew c1 _ _ hh1 (by rw [hdl]; omega)
    refine Own.of_block hh2 hgb (by omega) (by rw [List.length_set]; exact hln) hnc hcm' (fun j hj => ?_)
    rw [List.length_set] at hj
    rw [hc2]
    by_cases c : k + 1 ≤ j
    · rw [if_pos (by rw [hdl]; omega), scells_get _ _ (by rw [List.length_drop]; omega), List.getElem_drop, List.getElem_set_ne (by omega)]
      congr 3
      omega
    · rw [if_neg (by omega), hc1]
      by_cases c2 : k ≤ j
      · obtain rfl : j = k := by omega
        rw [if_pos (by omega)]
        simp
      · rw [if_neg (by omega), hcell j (by omega), List.getElem_set_ne (by omega)])
  have HLN := Lib.hid hln
  have hk0 : (0 : Int) ≤ (k : Int) := Int.natCast_nonneg _
  have hk1 : (k : Int) < (n : Int) := by omega
  have hk2 : (k : Int) + 1 ≤ (n : Int) := by omega
  have hk3 : (n : Int) ≤ (cap : Int) := by omega
  have hk4 : (cap : Int) ≤ 9223372036854775807 := by omega
  have e1 : ((k : Int) == (k : Int) + 1) = false := by simp; omega
  have e2 : ((k : Int) + 1 == (n : Int)) = false := by simp; omega
  have c1 : ¬ (cap = k) := by omega
  have c2 : ¬ (cap = k + 1) := by omega
  have s1 : IntKind.i64.wrap ((k : Int) + 1) = (k : Int) + 1 := by rw [IntKind.wrap_i64]; omega
  have s2 : IntKind.i64.wrap ((k : Int) + 1 + ((n - (k + 1) : Nat) : Int)) = (n : Int) := by rw [IntKind.wrap_i64]; omega
  have s3 : ((k : Int) + 1).toNat = k + 1 := by omega
  have s4 : (0 : Int) ≤ (k : Int) + 1 := by omega
  clear hW1 hh hgb hcs hcell h hv hdl hcm' hln
  go_enter Try.func62, Try.ntmps62
  go_wp2_with fail
  go_quiet (fail)
  go_wp2_with (at_builtin; refine wpList_copy_runI _ rfl _ _ 24 24 rfl _ _ rfl rfl (hcp1 nq _ _) ?_)
  go_region_law (refine step_copy_runI rfl _ _ 24 24 rfl (.slice (some ⟨g, k + 1, none⟩) (n - (k + 1)) (cap - (k + 1))) (.slice (some ⟨g, k + 1, none⟩) (n - (k + 1)) (cap - (k + 1))) (by simp [Act.eval, Act.put]) (by simp [Act.eval, Act.put]) (hcp2 nq _ _ _) ?_)
  have HXQ := Lib.hid (HX.out nq)
  generalize (((w.drewN nq).setCells g k [.string s]).drew.setCells g (k + 1) (scells (l.drop (k + 1)))) = Z at *
  have hclr := fun a c => run_clear_zero a c 0 Z
  by_cases hcn : cap = n
  all_goals
    go_wp2
    go_ret
    unfold Replaced
    refine ⟨some ⟨g, 0, none⟩, cap, ?_, ?_, ?_⟩
    · rw [List.length_set, HLN.out]; rfl
    · rw [List.length_set, HLN.out]; exact HXQ.out.1
    · exact HXQ.out.2
end Go.Proofs.Ytpnmloemabligaa.Strs

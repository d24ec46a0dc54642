/- What slices.Replace returns where one string is cut out. -/
import Derived.Test.YtpnmloemabligaaReplOne
namespace Go.Proofs.Ytpnmloemabligaa.Strs
open Go.ChangeShapes Go.WideShapes Go.ChangeAt Go.RowKit
set_option linter.unusedVariables false

theorem zero_str : ∀ w, (zeroValue 9).run Try.prog w = .ok (.string ⟨#[]⟩) w := by intro w; kernel_rfl

/-- One cell is cleared. -/
theorem run_clear_one (w : World) (g o c : Nat) (ty : TypeId) (hc : (w.cell? ⟨g, o, none⟩).isSome = true) (hf : w.frozen? ⟨g, o, none⟩ = false) :
    (Builtin.clear_ #[24] ty #[.slice (some ⟨g, o, none⟩) 1 c]).run Try.prog w = .ok (.tuple #[]) (w.setCells g o [.string ⟨#[]⟩]) :=
  Lib.run_clear_slice w _ _ ty _ Try.underlying24 zero_str rfl rfl g o 1 c (by omega) (fun j hj => by have e : j = 0 := (by omega); subst e; exact hc) (fun j hj => by have e : j = 0 := (by omega); subst e; exact hf)

set_option maxRecDepth 100000 in
set_option maxHeartbeats 2000000 in
theorem replace_cut_last (g n cap base k : Nat) (l : List ByteArray) (w : World) (hkn : k + 1 = n) (h : Own w base (.slice (some ⟨g, 0, none⟩) n cap) l) :
    Calls Try.prog 62 #[.slice (some ⟨g, 0, none⟩) n cap, .int .i64 (k : Int), .int .i64 ((k : Int) + 1), .slice none 0 0] w (Replaced w base (.slice (some ⟨g, 0, none⟩) n cap) (l.take k ++ l.drop (k + 1))) := by
  obtain ⟨cs, hh, hgb, hnc, hcm, hcs, hln, hcell⟩ := h.block
  have hcm' := hcm
  unfold maxLen at hcm
  have hclr := fun c => run_clear_one w g k c 0 (block_some hh (by omega)) (block_free hh)
  have hlen : (l.take k ++ l.drop (k + 1)).length = k := by rw [List.length_append, List.length_take, List.length_drop]; omega
  have HX := Lib.hid (show Own (w.setCells g k [.string ⟨#[]⟩]) base (.slice (some ⟨g, 0, none⟩) k cap) (l.take k ++ l.drop (k + 1)) ∧ w.grownBy (w.setCells g k [.string ⟨#[]⟩]) (some g) by
    refine ⟨?_, grown_setCells g _ _ _⟩
    obtain ⟨c1, hh1, hs1, hc1⟩ := heap_setCells g [.string ⟨#[]⟩] k w cs _ _ hh (by simp; omega)
    refine Own.of_block hh1 hgb (by omega) hlen (by omega) hcm' (fun j hj => ?_)
    rw [hlen] at hj
    rw [hc1, if_neg (by omega), hcell j (by omega), List.getElem_append_left (by rw [List.length_take]; omega), List.getElem_take])
  have HLN := Lib.hid hlen
  have hk0 : (0 : Int) ≤ (k : Int) := Int.natCast_nonneg _
  have hk1 : (k : Int) < (n : Int) := by omega
  have hk2 : (k : Int) + 1 ≤ (n : Int) := by omega
  have hk3 : (n : Int) ≤ (cap : Int) := by omega
  have hk4 : (cap : Int) ≤ 9223372036854775807 := by omega
  have e1 : ((k : Int) == (k : Int) + 1) = false := by simp; omega
  have e2 : ((k : Int) + 1 == (n : Int)) = true := by simp; omega
  have e3 : k < n := by omega
  have c1 : ¬ (cap = k) := by omega
  have n1 : n - k = 1 := by omega
  clear hh hgb hcs hcell h hln hlen hcm'
  go_enter Try.func62, Try.ntmps62
  go_wp2
  go_ret
  unfold Replaced
  refine ⟨some ⟨g, 0, none⟩, cap, ?_, ?_, HX.out.2⟩
  · rw [HLN.out]; rfl
  · rw [HLN.out]; exact HX.out.1

set_option maxRecDepth 100000 in
set_option maxHeartbeats 4000000 in
theorem replace_cut_mid (g n cap base k : Nat) (l : List ByteArray) (w : World) (hkn : k + 1 < n) (h : Own w base (.slice (some ⟨g, 0, none⟩) n cap) l) :
    Calls Try.prog 62 #[.slice (some ⟨g, 0, none⟩) n cap, .int .i64 (k : Int), .int .i64 ((k : Int) + 1), .slice none 0 0] w (Replaced w base (.slice (some ⟨g, 0, none⟩) n cap) (l.take k ++ l.drop (k + 1))) := by
  obtain ⟨cs, hh, hgb, hnc, hcm, hcs, hln, hcell⟩ := h.block
  have hcm' := hcm
  unfold maxLen at hcm
  have hdl : (scells (l.drop (k + 1))).length = n - (k + 1) := by rw [scells_length, List.length_drop, hln]
  have hlen : (l.take k ++ l.drop (k + 1)).length = n - 1 := by rw [List.length_append, List.length_take, List.length_drop]; omega
  have hcp0 : ∀ (q : Nat) ty dl dc, (Builtin.copy_ #[24, 24] ty #[.slice (some ⟨g, k, none⟩) dl dc, .slice none 0 0]).run Try.prog (w.drewN q) = .ok (goInt 0) (w.drewN q) := fun q ty dl dc =>
    run_copy_none (w.drewN q) _ _ ty 9 (some ⟨g, k, none⟩) none dl dc 0 0 Try.underlying24 info_sz (by simp only [Nat.min_def]; split <;> omega)
  have hcp2 : ∀ (q : Nat) ty dc sc, (Builtin.copy_ #[24, 24] ty #[.slice (some ⟨g, k, none⟩) (n - 1 - k) dc, .slice (some ⟨g, k + 1, none⟩) (n - (k + 1)) sc]).run Try.prog (w.drewN q).drew = .ok (goInt (scells (l.drop (k + 1))).length) ((w.drewN q).drew.setCells g k (scells (l.drop (k + 1)))) := fun q ty dc sc => by
    refine run_copy_cells (w.drewN q).drew _ _ ty 9 g k (n - 1 - k) dc ⟨g, k + 1, none⟩ (n - (k + 1)) sc (scells (l.drop (k + 1))) Try.underlying24 info_sz (by rw [hdl]; simp only [Nat.min_def]; split <;> omega)
      (fun j u hj => ?_) (fun j hj => block_some (w := w) hh (by omega)) (fun j hj => block_free (w := w) hh) (scells_one _)
    have hjl : j < (l.drop (k + 1)).length := by
      have := (List.getElem?_eq_some_iff.1 hj).1
      rwa [scells_length] at this
    rw [scells_get _ j hjl] at hj
    have hjl2 := hjl
    rw [List.length_drop] at hjl2
    rw [Addr.add_lit]
    refine (block_cell (w := w) hh).trans ?_
    rw [hcell (k + 1 + j) (by omega), ← hj]
    simp
  have hW1 : ∀ q : Nat, ∃ c1 : Array Value, ((w.drewN q).drew.setCells g k (scells (l.drop (k + 1)))).heap[g]? = some (.cells c1 9 (0, 0)) ∧ c1.size = cs.size ∧ ∀ j, c1[j]? = if k ≤ j ∧ j < k + (scells (l.drop (k + 1))).length then (scells (l.drop (k + 1)))[j - k]? else cs[j]? := fun q =>
    heap_setCells g _ k (w.drewN q).drew cs _ _ hh (by omega)
  have HCL := Lib.hid (show ∀ q c : Nat, (Builtin.clear_ #[24] 0 #[.slice (some ⟨g, n - 1, none⟩) 1 c]).run Try.prog ((w.drewN q).drew.setCells g k (scells (l.drop (k + 1)))) = .ok (.tuple #[]) (((w.drewN q).drew.setCells g k (scells (l.drop (k + 1)))).setCells g (n - 1) [.string ⟨#[]⟩]) from fun q c => by
    obtain ⟨c1, hh1, hs1, _⟩ := hW1 q
    exact run_clear_one _ g (n - 1) c 0 (block_some hh1 (by omega)) (block_free hh1))
  have HX := Lib.hid (show ∀ q : Nat, Own (((w.drewN q).drew.setCells g k (scells (l.drop (k + 1)))).setCells g (n - 1) [.string ⟨#[]⟩]) base (.slice (some ⟨g, 0, none⟩) (n - 1) cap) (l.take k ++ l.drop (k + 1)) ∧ w.grownBy (((w.drewN q).drew.setCells g k (scells (l.drop (k + 1)))).setCells g (n - 1) [.string ⟨#[]⟩]) (some g) from fun q => by
    obtain ⟨c1, hh1, hs1, hc1⟩ := hW1 q
    refine ⟨?_, grown_trans (grown_below (drewN_below w q) _) (grown_trans (grown_below (drewN_below _ 1) _) (grown_trans (grown_setCells g _ _ _) (grown_setCells g _ _ _)))⟩
    obtain ⟨c2, hh2, hs2, hc2⟩ := heap_setCells g [.string ⟨#[]⟩] (n - 1) _ c1 _ _ hh1 (by simp; omega)
    refine Own.of_block hh2 hgb (by omega) hlen (by omega) hcm' (fun j hj => ?_)
    rw [hlen] at hj
    rw [hc2, if_neg (by omega), hc1]
    by_cases c : k ≤ j
    · rw [if_pos (by rw [hdl]; omega), scells_get _ _ (by rw [List.length_drop]; omega), List.getElem_append_right (by rw [List.length_take]; omega)]
      have e : (l.take k).length = k := by rw [List.length_take]; omega
      simp only [e]
    · rw [if_neg (by omega), hcell j (by omega), List.getElem_append_left (by rw [List.length_take]; omega), List.getElem_take])
  have HLN := Lib.hid hlen
  have hk0 : (0 : Int) ≤ (k : Int) := Int.natCast_nonneg _
  have hk1 : (k : Int) < (n : Int) := by omega
  have hk2 : (k : Int) + 1 ≤ (n : Int) := by omega
  have hk3 : (n : Int) ≤ (cap : Int) := by omega
  have hk4 : (cap : Int) ≤ 9223372036854775807 := by omega
  have e1 : ((k : Int) == (k : Int) + 1) = false := by simp; omega
  have e2 : ((k : Int) + 1 == (n : Int)) = false := by simp; omega
  have c1 : ¬ (cap = k) := by omega
  have c2 : ¬ (cap = k + 1) := by omega
  have c3 : ¬ (cap = n - 1) := by omega
  have n1 : n - (n - 1) = 1 := by omega
  have s0 : IntKind.i64.wrap ((k : Int) + 0) = (k : Int) := by rw [IntKind.wrap_i64]; omega
  have s1 : IntKind.i64.wrap (k : Int) = (k : Int) := by rw [IntKind.wrap_i64]; omega
  have s2 : IntKind.i64.wrap ((k : Int) + ((n - (k + 1) : Nat) : Int)) = ((n - 1 : Nat) : Int) := by rw [IntKind.wrap_i64]; omega
  have s3 : ((k : Int) + 1).toNat = k + 1 := by omega
  have s4 : (0 : Int) ≤ (k : Int) + 1 := by omega
  have s5 : ((n - 1 : Nat) : Int) ≤ (cap : Int) := by omega
  have s6 : (0 : Int) ≤ ((n - 1 : Nat) : Int) := by omega
  have s7 : (k : Int) ≤ ((n - 1 : Nat) : Int) := by omega
  have s8 : ((n - 1 : Nat) : Int) ≤ (n : Int) := by omega
  clear hW1 hh hgb hcs hcell h hdl hcm' hln hlen
  go_enter Try.func62, Try.ntmps62
  go_wp2_with fail
  go_quiet (fail)
  go_wp2_with (at_builtin; refine wpList_copy_runI _ rfl _ _ 24 24 rfl _ _ rfl rfl (hcp0 nq _ _ _) ?_)
  have HCP2 := Lib.hid hcp2
  clear hcp0 hcp2
  go_region_law (refine step_copy_runI rfl _ _ 24 24 rfl (.slice (some ⟨g, k, none⟩) (n - 1 - k) (cap - k)) (.slice (some ⟨g, k + 1, none⟩) (n - (k + 1)) (cap - (k + 1))) (by simp [Act.eval, Act.put]) (by simp [Act.eval, Act.put]) (HCP2.out nq _ _ _) ?_)
  have hclr := HCL.out nq
  have HXQ := Lib.hid (HX.out nq)
  have e : (w.drewN nq).drew = w.drewN (nq + 1) := rfl
  rw [e] at hclr HXQ
  try rw [e]
  clear e
  generalize ((w.drewN (nq + 1)).setCells g k (scells (l.drop (k + 1)))) = Z at *
  go_wp2
  go_ret
  unfold Replaced
  refine ⟨some ⟨g, 0, none⟩, cap, ?_, ?_, ?_⟩
  · rw [HLN.out]; rfl
  · rw [HLN.out]; exact HXQ.out.1
  · exact HXQ.out.2
end Go.Proofs.Ytpnmloemabligaa.Strs

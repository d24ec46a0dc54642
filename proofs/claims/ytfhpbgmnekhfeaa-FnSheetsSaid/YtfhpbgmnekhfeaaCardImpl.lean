/- What the program's CardOk and its helpers return. -/
import Derived.Test.YtfhpbgmnekhfeaaCardOk
namespace Go.Proofs.Ytfhpbgmnekhfeaa.Card
open Go.ChangeShapes Go.WideShapes Go.ChangeAt Go.RowKit
open Go.Proofs.Ytfhpbgmnekhfeaa.Strip Go.Proofs.Ytfhpbgmnekhfeaa.Strs
set_option linter.unusedVariables false

theorem next2 {w0 w' w'' : World} {p q : Addr} {u v : Value} (h : w'.cell? p = some u ∧ w'.cell? q = some v ∧ Below w0.heap.size w0 w') (hb : Below w'.heap.size w' w'') : w''.cell? p = some u ∧ w''.cell? q = some v ∧ Below w0.heap.size w0 w'' :=
  ⟨(hb.cell (p := p) (World.block_lt_of_cell? _ _ h.1)).trans h.1, (hb.cell (p := q) (World.block_lt_of_cell? _ _ h.2.1)).trans h.2.1, h.2.2.trans (hb.mono h.2.2.size)⟩
theorem drew2 {w0 w' : World} {p q : Addr} {u v : Value} (h : w'.cell? p = some u ∧ w'.cell? q = some v ∧ Below w0.heap.size w0 w') : w'.drew.cell? p = some u ∧ w'.drew.cell? q = some v ∧ Below w0.heap.size w0 w'.drew :=
  ⟨h.1, h.2.1, h.2.2.drew⟩

theorem below2 {w0 w' : World} {p q : Addr} {u v : Value} (h : w'.cell? p = some u ∧ w'.cell? q = some v ∧ Below w0.heap.size w0 w') : Below w0.heap.size w0 w' := h.2.2
theorem cell_of {w : World} {b j : Nat} {cs : Array Value} {T : TypeId} {m : Nat × Nat} (h : w.heap[b]? = some (.cells cs T m)) : w.cell? ⟨b, j, none⟩ = cs[j]? := by simp [World.cell?, h]
theorem new2 (w : World) (u v : Value) (T : TypeId) : (w.alloc (.cells #[u, v] T)).cell? ⟨w.heap.size, 0, none⟩ = some u ∧ (w.alloc (.cells #[u, v] T)).cell? ⟨w.heap.size, 1, none⟩ = some v ∧ Below w.heap.size w (w.alloc (.cells #[u, v] T)) := by
  exact ⟨(cell_of (heap_alloc_new w (.cells #[u, v] T))).trans rfl, (cell_of (heap_alloc_new w (.cells #[u, v] T))).trans rfl, alloc_below _ _⟩

set_option maxRecDepth 100000 in
set_option maxHeartbeats 1000000 in
theorem holds_impl (d f : Int) (s : ByteArray) (w : World) (hs : s.size ≤ 1048576) :
    Calls Try.prog 47 #[.agg #[.int .i64 d, .int .i64 f], .string s] w fun e w' => e = .returned (.bool (goodB d f s)) ∧ Below w.heap.size w w' := by
  have HX := Lib.hid (fun w' : World => down_impl s w' hs)
  have HY := Lib.hid (fun w' : World => forward_impl s w' hs)
  by_cases hx : numV 100 s.data.toList = d
  · by_cases hy : numV 102 s.data.toList = f
    · have hres : goodB d f s = true := by unfold goodB; simp [hx, hy]
      rw [hx] at HX
      rw [hy] at HY
      have hdd : (d == d) = true := by simp
      have hff : (f == f) = true := by simp
      rw [hres]
      clear hx hy hres
      go_enter Try.func47, Try.ntmps47
      go_wp2_with fail
      have S0 : (w.alloc (.cells #[.int .i64 d, .int .i64 f] 66)).cell? ⟨w.heap.size, 0, none⟩ = some (.int .i64 d) ∧ (w.alloc (.cells #[.int .i64 d, .int .i64 f] 66)).cell? ⟨w.heap.size, 1, none⟩ = some (.int .i64 f) ∧ Below w.heap.size w (w.alloc (.cells #[.int .i64 d, .int .i64 f] 66)) := new2 w _ _ _
      generalize (w.alloc (.cells #[.int .i64 d, .int .i64 f] 66)) = W at *
      go_region_held3 (fun w' => w'.cell? ⟨w.heap.size, 0, none⟩ = some (.int .i64 d) ∧ w'.cell? ⟨w.heap.size, 1, none⟩ = some (.int .i64 f) ∧ Below w.heap.size w w') (first | exact drew2 S0 | exact S0 | assumption | exact next2 (by assumption) hb | exact drew2 (next2 (by assumption) hb) | exact drew2 (by assumption))
        ((first | (go_at_call 54; refine (HX.out _).mono ?_; rintro e w' ⟨rfl, hb⟩) | (go_at_call 55; refine (HY.out _).mono ?_; rintro e w' ⟨rfl, hb⟩)))
      all_goals
        go_wp2
        go_ret
        exact ⟨rfl, below2 (w' := w') (by assumption)⟩
    · have hres : goodB d f s = false := by unfold goodB; simp [hx, hy]
      rw [hx] at HX
      have hdd : (d == d) = true := by simp
      have hff : (numV 102 s.data.toList == f) = false := by simpa using hy
      rw [hres]
      generalize numV 102 s.data.toList = y at *
      clear hx hy hres
      go_enter Try.func47, Try.ntmps47
      go_wp2_with fail
      have S0 : (w.alloc (.cells #[.int .i64 d, .int .i64 f] 66)).cell? ⟨w.heap.size, 0, none⟩ = some (.int .i64 d) ∧ (w.alloc (.cells #[.int .i64 d, .int .i64 f] 66)).cell? ⟨w.heap.size, 1, none⟩ = some (.int .i64 f) ∧ Below w.heap.size w (w.alloc (.cells #[.int .i64 d, .int .i64 f] 66)) := new2 w _ _ _
      generalize (w.alloc (.cells #[.int .i64 d, .int .i64 f] 66)) = W at *
      go_region_held3 (fun w' => w'.cell? ⟨w.heap.size, 0, none⟩ = some (.int .i64 d) ∧ w'.cell? ⟨w.heap.size, 1, none⟩ = some (.int .i64 f) ∧ Below w.heap.size w w') (first | exact drew2 S0 | exact S0 | assumption | exact next2 (by assumption) hb | exact drew2 (next2 (by assumption) hb) | exact drew2 (by assumption))
        ((first | (go_at_call 54; refine (HX.out _).mono ?_; rintro e w' ⟨rfl, hb⟩) | (go_at_call 55; refine (HY.out _).mono ?_; rintro e w' ⟨rfl, hb⟩)))
      all_goals
        go_wp2
        go_ret
        exact ⟨rfl, below2 (w' := w') (by assumption)⟩
  · have hres : goodB d f s = false := by unfold goodB; simp [hx]
    have hdd : (numV 100 s.data.toList == d) = false := by simpa using hx
    rw [hres]
    generalize numV 100 s.data.toList = x at *
    clear hx hres
    go_enter Try.func47, Try.ntmps47
    go_wp2_with fail
    have S0 : (w.alloc (.cells #[.int .i64 d, .int .i64 f] 66)).cell? ⟨w.heap.size, 0, none⟩ = some (.int .i64 d) ∧ (w.alloc (.cells #[.int .i64 d, .int .i64 f] 66)).cell? ⟨w.heap.size, 1, none⟩ = some (.int .i64 f) ∧ Below w.heap.size w (w.alloc (.cells #[.int .i64 d, .int .i64 f] 66)) := new2 w _ _ _
    generalize (w.alloc (.cells #[.int .i64 d, .int .i64 f] 66)) = W at *
    first | (go_region_with ((go_at_call 54; refine (HX.out _).mono ?_; rintro e w' ⟨rfl, hb⟩; have hk := next2 (w0 := w) (p := ⟨w.heap.size, 0, none⟩) (q := ⟨w.heap.size, 1, none⟩) (drew2 S0) hb; have HK := Lib.hid hk; obtain ⟨k0, k1, k2⟩ := hk; clear hb k2))) | fail
    all_goals
      go_wp2
      go_ret
      first | exact ⟨rfl, HK.out.2.2⟩ | exact ⟨rfl, HK.out.2.2.drew⟩
end Go.Proofs.Ytfhpbgmnekhfeaa.Card

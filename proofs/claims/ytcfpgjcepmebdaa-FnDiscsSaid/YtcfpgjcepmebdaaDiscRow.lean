/- A disc in memory: the variable of a disc; what stands there. -/
import Derived.Test.YtcfpgjcepmebdaaIntRow
import Derived.Test.YtcfpgjcepmebdaaDiscMath
namespace Go.Proofs.Ytcfpgjcepmebdaa.Disc
open Go.ChangeShapes Go.WideShapes Go.ChangeAt Go.RowKit
open Go.Proofs.Ytcfpgjcepmebdaa.Ints
set_option linter.unusedVariables false

theorem alloc_below (w : World) (o : Obj) : Below w.heap.size w (w.alloc o) := (Below.refl _ _).alloc (Nat.le_refl _) o
/-- Block b is a variable that holds a disc. -/
def DVar (w : World) (b : Nat) (n m : Int) (v : Value) : Prop := w.heap[b]? = some (.cells #[.int .i64 n, .int .i64 m, v] 26 (0, 0))
section
variable {w w' : World} {b : Nat} {n m : Int} {v : Value}
theorem DVar.new (w : World) (n m : Int) (v : Value) : DVar (w.alloc (.cells #[.int .i64 n, .int .i64 m, v] 26)) w.heap.size n m v := heap_alloc_new w _
theorem DVar.lt (h : DVar w b n m v) : b < w.heap.size := (Array.getElem?_eq_some_iff.1 h).1
theorem DVar.below (h : DVar w b n m v) (hb : Below w.heap.size w w') : DVar w' b n m v := (hb.block b h.lt).trans h
theorem DVar.grown {row : Option Nat} (h : DVar w b n m v) (hg : w.grownBy w' row) (hne : some b ≠ row) : DVar w' b n m v := (hg.block b h.lt hne).trans h
theorem DVar.cells (h : DVar w b n m v) : w.cell? ⟨b, 0, none⟩ = some (.int .i64 n) ∧ w.cell? ⟨b, 1, none⟩ = some (.int .i64 m) ∧ w.cell? ⟨b, 2, none⟩ = some v := by
  unfold DVar at h
  simp [World.cell?, h]
theorem DVar.free (h : DVar w b n m v) (j : Nat) : w.frozen? ⟨b, j, none⟩ = false := by
  unfold DVar at h
  simp [World.frozen?, h]
theorem DVar.set0 (h : DVar w b n m v) (x : Int) : DVar (w.setCell ⟨b, 0, none⟩ (.int .i64 x)) b x m v := by
  unfold DVar at *
  rw [heap_set_at _ _ _ _ _ _ _ h]; rfl
theorem DVar.set1 (h : DVar w b n m v) (x : Int) : DVar (w.setCell ⟨b, 1, none⟩ (.int .i64 x)) b n x v := by
  unfold DVar at *
  rw [heap_set_at _ _ _ _ _ _ _ h]; rfl
theorem DVar.set2 (h : DVar w b n m v) (x : Value) : DVar (w.setCell ⟨b, 2, none⟩ x) b n m x := by
  unfold DVar at *
  rw [heap_set_at _ _ _ _ _ _ _ h]; rfl
theorem DVar.other {c j : Nat} {u : Value} (h : DVar w b n m v) (hne : b ≠ c) : DVar (w.setCell ⟨c, j, none⟩ u) b n m v :=
  h.grown (grown_set w c j u) (by simpa using hne)
end
/-- The block of a disc that is handed over. -/
theorem beginD (w : World) (n m : Int) (v : Value) : ∃ W, w.alloc (.cells #[.int .i64 n, .int .i64 m, v] 26) = W ∧ DVar W w.heap.size n m v ∧ Below w.heap.size w W :=
  ⟨_, rfl, DVar.new w n m v, alloc_below w _⟩
/-- A disc in memory: its variable, its row of pictures. -/
structure At (w : World) (b : Nat) (n m : Int) (a : Option Addr) (N c : Nat) (l : List Int) : Prop where
  var : DVar w b n m (.slice a N c)
  row : IRow w a l
theorem At.below {w w' : World} {b : Nat} {n m : Int} {a : Option Addr} {N c : Nat} {l : List Int} (h : At w b n m a N c l) (hb : Below w.heap.size w w') : At w' b n m a N c l :=
  ⟨h.var.below hb, h.row.below hb⟩
theorem At.drew {w : World} {b : Nat} {n m : Int} {a : Option Addr} {N c : Nat} {l : List Int} (h : At w b n m a N c l) : At w.drew b n m a N c l := h.below (Below.refl _ _).drew
theorem beginA (w : World) (n m : Int) (a : Option Addr) (N c : Nat) (l : List Int) (hr : IRow w a l) :
    ∃ W, w.alloc (.cells #[.int .i64 n, .int .i64 m, .slice a N c] 26) = W ∧ At W w.heap.size n m a N c l ∧ Below w.heap.size w W ∧ w.heap.size < W.heap.size :=
  ⟨_, rfl, ⟨DVar.new w n m _, hr.below (alloc_below w _)⟩, alloc_below w _, by simp⟩
theorem in_at (x a b : Int) (w : World) :
    Calls Try.prog 37 #[.int .i64 x, .int .i64 a, .int .i64 b] w fun e w' => e = .returned (.bool (decide (a ≤ x ∧ x ≤ b))) ∧ w = w' := by
  go_enter Try.func37, Try.ntmps37
  go_wp2
  all_goals
    go_ret
    refine ⟨?_, rfl⟩
    simp
    try omega
/-- The places around a disc. -/
theorem place_at (l : List Int) (h0 : 0 < l.length) (s : Nat) : ∃ r, r < l.length ∧ Int.tmod (s : Int) (l.length : Int) = (r : Int) ∧ ∀ (h : r < l.length), l[r] = pc l s := by
  refine ⟨s % l.length, Nat.mod_lt _ h0, ?_, fun h => (pc_at h rfl).symm⟩
  rw [Int.tmod_eq_emod_of_nonneg (by omega)]
  omega
end Go.Proofs.Ytcfpgjcepmebdaa.Disc

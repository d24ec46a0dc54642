/- What spec.l01PickInt, l01Number and DrawClamp return and leave alone. -/
import Derived.Test.YtcagffcmnpakjaaDoorDraw
namespace Go.Proofs.YtcagffcmnpakjaaDoor.Draw
open Go.ChangeShapes Go.WideShapes Go.ChangeAt Go.RowKit
set_option linter.unusedVariables false

theorem Cur.lt {w : World} {k : Nat} {ca : Option Addr} {cl cc : Nat} (h : Cur w k ca cl cc) : k < w.heap.size := by
  obtain ⟨_, _, i, h, _, _, hb⟩ := h
  exact (Array.getElem?_eq_some_iff.1 hb).1

theorem Cur.kept {w w' : World} {k : Nat} {ca : Option Addr} {cl cc : Nat} (h : Cur w k ca cl cc) {row : Option Nat} (g : w.grownBy w' row) (hne : some k ≠ row)
    (hrow : ∀ b, b < k → some b ≠ row) : Cur w' k ca cl cc := by
  have hk := h.lt
  obtain ⟨hm, hr, i, x, h0, h1, hb⟩ := h
  refine ⟨hm, fun j hj => ?_, i, x, h0, h1, by rw [g.block k hk hne]; exact hb⟩
  obtain ⟨b, off, e, hbk, hlt, y, y0, y1, hy⟩ := hr j hj
  exact ⟨b, off, e, hbk, Nat.lt_of_lt_of_le hlt g.size, y, y0, y1, g.cell hy (hrow b hbk)⟩

theorem Cur.alloc {w : World} {k : Nat} {ca : Option Addr} {cl cc : Nat} (h : Cur w k ca cl cc) (o : Obj) : Cur (w.alloc o) k ca cl cc :=
  h.kept (World.grownBy_alloc w o none) (by simp) (by simp)

theorem below_of_grown {B : Nat} {a w w' : World} {k : Nat} (h : Below B a w) (g : w.grownBy w' (some k)) (hB : B ≤ k) (hk : k < w.heap.size) : Below B a w' :=
  h.grown g (by omega) (fun j e => by cases e; exact hB)

/-- The number fits an int. -/
def I64 (n : Int) : Prop := (Lit.int .i64 n).wf = true

theorem I64.of_bounds {n : Int} (h0 : -9223372036854775808 ≤ n) (h1 : n ≤ 9223372036854775807) : I64 n := by
  unfold I64; simp [Lit.wf, IntKind.min, IntKind.max, IntKind.signed, IntKind.bits]; omega

theorem I64.small {n : Int} (h0 : -1000000000000 ≤ n) (h1 : n ≤ 1000000000000) : I64 n := I64.of_bounds (by omega) (by omega)

theorem pickInt_get (k : Nat) (ca : Option Addr) (cl cc : Nat) (lb n : Nat) (xs : List Int) (T : TypeId) (m : Nat × Nat) (P : Int → Prop) (hP : ∀ x ∈ xs, P x) (hn : xs.length = n) (hpos : 0 < n) (hmax : n ≤ 1000) (w : World) (hc : Cur w k ca cl cc)
    (hb : w.heap[lb]? = some (.cells (xs.map (Value.int .i64)).toArray T m)) (hlk : lb ≠ k) {Q : Ending → World → Prop}
    (h : ∀ (x : Int) (w' : World), P x → Cur w' k ca cl cc → w.grownBy w' (some k) → Q (.returned (.int .i64 x)) w') :
    Calls Tryd.prog 42 #[.pointer (some ⟨k, 0, none⟩), .slice (some ⟨lb, 0, none⟩) n n] w Q := by
  have H := Lib.hid h; clear h
  have HB := Lib.hid hb; clear hb
  have HN := Lib.hid hn; clear hn
  have HP := Lib.hid hP; clear hP
  go_enter Tryd.func42, Tryd.ntmps42
  go_wp2_with fail
  refine below_get k ca cl cc n (by omega) _ hc ?_
  intro x w1 x0 x1 hc1 g1
  obtain ⟨i, rfl⟩ := Int.eq_ofNat_of_zero_le x0
  have hi : i < n := by omega
  have hi' : i < xs.length := by rw [HN.out]; exact hi
  have hcell : w1.cell? ⟨lb, i, none⟩ = some (.int .i64 xs[i]) := by
    refine g1.cell ?_ (by simpa using hlk)
    simp [World.cell?, HB.out, hi']
  have HG := Lib.hid g1; clear g1
  have HC := Lib.hid hc1; clear hc1
  have hp : P xs[i] := HP.out _ (List.getElem_mem _)
  generalize xs[i] = y at hcell hp
  have HPY := Lib.hid hp; clear hp
  go_wp2
  exact H.out _ _ HPY.out HC.out HG.out

theorem pick_fits : ∀ x ∈ [-1, 0, 127, 128, 16383, 16384, 1000000000, 1000000001, 9223372036854775807, (-9223372036854775808 : Int)], I64 x := by
  intro x hx
  simp only [List.mem_cons, List.not_mem_nil, or_false] at hx
  rcases hx with rfl | rfl | rfl | rfl | rfl | rfl | rfl | rfl | rfl | rfl <;> exact I64.of_bounds (by omega) (by omega)

theorem number_get (k : Nat) (ca : Option Addr) (cl cc : Nat) (w : World) (hc : Cur w k ca cl cc) {Q : Ending → World → Prop}
    (h : ∀ (x : Int) (w' : World), I64 x → Cur w' k ca cl cc → w.grownBy w' (some k) → Q (.returned (.int .i64 x)) w') :
    Calls Tryd.prog 32 #[.pointer (some ⟨k, 0, none⟩)] w Q := by
  have H := Lib.hid h; clear h
  go_enter Tryd.func32, Tryd.ntmps32
  go_wp2_with fail
  refine below_get k ca cl cc 4 (by omega) _ hc ?_
  intro x w1 x0 x1 hc1 g1
  have HG := Lib.hid g1; clear g1
  by_cases e0 : x = 0
  · subst e0
    go_wp2_with fail
    refine pickInt_get k ca cl cc _ 10 [-1, 0, 127, 128, 16383, 16384, 1000000000, 1000000001, 9223372036854775807, -9223372036854775808] _ _ I64 pick_fits rfl (by omega) (by omega) _ (hc1.alloc _) (heap_new _ _) (by have := hc1.lt; omega) ?_
    intro y w2 hy hc2 g2
    have HG2 := Lib.hid (grownBy_trans (grownBy_trans HG.out (World.grownBy_alloc _ _ _)) g2); clear g2
    have HC2 := Lib.hid hc2; clear hc2
    have HY := Lib.hid hy; clear hy
    go_wp2
    exact H.out _ _ HY.out HC2.out HG2.out
  · have b0 : (x == 0) = false := by simpa using e0
    by_cases e1 : x = 1
    · subst e1
      go_wp2_with fail
      refine below_get k ca cl cc 1000000000 (by omega) _ hc1 ?_
      intro y w2 y0 y1 hc2 g2
      have HG2 := Lib.hid (grownBy_trans HG.out g2); clear g2
      have HC2 := Lib.hid hc2; clear hc2
      go_wp2
      exact H.out _ _ (I64.small (by omega) (by omega)) HC2.out HG2.out
    · have b1 : (x == 1) = false := by simpa using e1
      go_wp2_with fail
      refine below_get k ca cl cc 400 (by omega) _ hc1 ?_
      intro y w2 y0 y1 hc2 g2
      have HG2 := Lib.hid (grownBy_trans HG.out g2); clear g2
      have HC2 := Lib.hid hc2; clear hc2
      go_wp2
      exact H.out _ _ (I64.small (by omega) (by omega)) HC2.out HG2.out
end Go.Proofs.YtcagffcmnpakjaaDoor.Draw

/- What laws.eqCard, markCard and heldCard return and leave alone. -/
import Derived.Test.YtfhpbgmnekhfeaaCard
namespace Go.Proofs.Ytfhpbgmnekhfeaa.Card
open Go.ChangeShapes Go.WideShapes Go.ChangeAt Go.RowKit
open Go.Proofs.Ytfhpbgmnekhfeaa.Strip Go.Proofs.Ytfhpbgmnekhfeaa.Strs
set_option linter.unusedVariables false

/-- Block b is a variable that holds a card. -/
def Var (w : World) (b : Nat) (d f : Int) (v : Value) : Prop := w.heap[b]? = some (.cells #[.int .i64 d, .int .i64 f, v] 26 (0, 0))
theorem Var.new (w : World) (d f : Int) (v : Value) : Var (w.alloc (.cells #[.int .i64 d, .int .i64 f, v] 26)) w.heap.size d f v := heap_alloc_new w _
theorem Var.lt {w : World} {b : Nat} {d f : Int} {v : Value} (h : Var w b d f v) : b < w.heap.size := (Array.getElem?_eq_some_iff.1 h).1
theorem Var.below {w w' : World} {b : Nat} {d f : Int} {v : Value} (h : Var w b d f v) (hb : Below w.heap.size w w') : Var w' b d f v := (hb.block b h.lt).trans h
theorem Var.grown {w w' : World} {row : Option Nat} {b : Nat} {d f : Int} {v : Value} (h : Var w b d f v) (hg : w.grownBy w' row) (hne : some b ≠ row) : Var w' b d f v := (hg.block b h.lt hne).trans h
theorem Var.cells {w : World} {b : Nat} {d f : Int} {v : Value} (h : Var w b d f v) : w.cell? ⟨b, 0, none⟩ = some (.int .i64 d) ∧ w.cell? ⟨b, 1, none⟩ = some (.int .i64 f) ∧ w.cell? ⟨b, 2, none⟩ = some v := by
  unfold Var at h
  simp [World.cell?, h]
theorem Var.free {w : World} {b : Nat} {d f : Int} {v : Value} (h : Var w b d f v) (j : Nat) : w.frozen? ⟨b, j, none⟩ = false := by
  unfold Var at h
  simp [World.frozen?, h]

/-- The three cells of a card's variable are written. -/
def set3 (w : World) (b : Nat) (d f : Int) (v : Value) : World := ((w.setCell ⟨b, 0, none⟩ (.int .i64 d)).setCell ⟨b, 1, none⟩ (.int .i64 f)).setCell ⟨b, 2, none⟩ v
theorem Var.set3 {w : World} {b : Nat} {d0 f0 : Int} {v0 : Value} (h : Var w b d0 f0 v0) (d f : Int) (v : Value) : Var (set3 w b d f v) b d f v := by
  have h1 := heap_set_at _ _ 0 _ _ _ (.int .i64 d) h
  have h2 := heap_set_at _ _ 1 _ _ _ (.int .i64 f) h1
  have h3 := heap_set_at _ _ 2 _ _ _ v h2
  exact h3.trans (by simp)
theorem Var.set1 {w : World} {b : Nat} {d f : Int} {v0 : Value} (h : Var w b d f v0) (v : Value) : Var (w.setCell ⟨b, 2, none⟩ v) b d f v := by
  have h3 := heap_set_at _ _ 2 _ _ _ v h
  exact h3.trans (by simp)
theorem Var.other {w : World} {b c j : Nat} {d f : Int} {v u : Value} (h : Var w b d f v) (hne : b ≠ c) : Var (w.setCell ⟨c, j, none⟩ u) b d f v :=
  h.grown (grown_set w c j u) (by simpa using hne)
theorem Own.other {w : World} {base b j : Nat} {v u : Value} {l : List ByteArray} (h : Own w base v l) (hb : b < base) : Own (w.setCell ⟨b, j, none⟩ u) base v l :=
  World.ownsRow.kept h (grown_set w b j u) (by
    cases hc : v.ownBlock with
    | none => exact .inl rfl
    | some k => right; intro e; have := (h.lt k hc).1; cases e; omega)
theorem Own.other3 {w : World} {base b : Nat} {d f : Int} {v u : Value} {l : List ByteArray} (h : Own w base v l) (hb : b < base) : Own (Card.set3 w b d f u) base v l := Own.other (Own.other (Own.other h hb) hb) hb
theorem Var.other3 {w : World} {b c : Nat} {d f d2 f2 : Int} {v u : Value} (h : Var w b d f v) (hne : b ≠ c) : Var (Card.set3 w c d2 f2 u) b d f v := Var.other (Var.other (Var.other h hne) hne) hne
theorem below_set3 {B b : Nat} {w0 w : World} {d f : Int} {u : Value} (h : Below B w0 w) (hb : B ≤ b) : Below B w0 (Card.set3 w b d f u) := ((h.setCell (p := ⟨b, 0, none⟩) hb _).setCell (p := ⟨b, 1, none⟩) hb _).setCell (p := ⟨b, 2, none⟩) hb _

/-- The result's variable is written last. -/
theorem gave_end {w1 w : World} {B0 B base : Nat} {d0 f0 d f : Int} {v0 v : Value} {l : List ByteArray} (hb : Below B0 w w1) (hv : Var w1 B d0 f0 v0) (hB : B0 ≤ B) (ho : Own w1 base v l) (hBb : B < base) (hbase : B0 ≤ base) :
    Var (Card.set3 w1 B d f v) B d f v ∧ Below B0 w (Card.set3 w1 B d f v) ∧ Own (Card.set3 w1 B d f v) B0 v l :=
  ⟨hv.set3 d f v, below_set3 hb hB, (Own.other3 ho hBb).mono hbase⟩

theorem eq_card (d f : Int) (n ca cb : Nat) (a b : Option Addr) (l : List ByteArray) (hl : l.length = n) (hm : n ≤ 1048576) (w : World) (ha : Row w a l) (hb : Row w b l) :
    Calls Try.prog 21 #[.agg #[.int .i64 d, .int .i64 f, .slice a n ca], .agg #[.int .i64 d, .int .i64 f, .slice b n cb]] w fun e w' => e = .returned (.bool true) ∧ Below w.heap.size w w' := by
  have hd : (d != d) = false := by simp
  have hf : (f != f) = false := by simp
  have HL := Lib.hid hl; clear hl
  have HA := Lib.hid ha; clear ha
  have HB := Lib.hid hb; clear hb
  go_enter Try.func21, Try.ntmps21
  go_wp2_with fail
  refine (eq_yes n ca cb a b l HL.out (by unfold maxLen; omega) _ ?_ ?_).mono ?_
  · exact (HA.out.below (alloc_below _ _)).below (alloc_below _ _)
  · exact (HB.out.below (alloc_below _ _)).below (alloc_below _ _)
  rintro e w1 ⟨rfl, q, rfl⟩
  go_wp2
  go_ret
  refine ⟨rfl, ?_⟩
  exact (((Below.refl _ _).alloc (Nat.le_refl _) _).alloc (by simp) _).trans ((drewN_below _ q).mono (by simp; omega))

end Go.Proofs.Ytfhpbgmnekhfeaa.Card

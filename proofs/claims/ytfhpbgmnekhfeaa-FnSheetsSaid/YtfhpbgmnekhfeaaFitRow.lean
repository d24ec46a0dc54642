/- Two rows of ints side by side, each in a block of its own: one more int onto either of them, a cell written. -/
import Derived.Test.YtfhpbgmnekhfeaaFitMath
import Derived.Test.YtfhpbgmnekhfeaaIntTo
import Derived.Test.YtfhpbgmnekhfeaaCornerSpec
import Derived.Lib.AppendZeros
import Derived.Deep.AppendLies
import Derived.Deep.RegionLaw
namespace Go.Proofs.Ytfhpbgmnekhfeaa.Sheet
open Go.ChangeShapes Go.WideShapes Go.ChangeAt Go.RowKit
open Go.Proofs.Ytfhpbgmnekhfeaa.Ints
set_option linter.unusedVariables false

theorem below_alloc (w : World) (o : Obj) : Below w.heap.size w (w.alloc o) := (Below.refl _ _).alloc (Nat.le_refl _) o
theorem push_at {w : World} {base : Nat} {v : Value} {l : List Int} (x : Int) (ho : Own w base v l) (hl : l.length ≤ 1000) (hb : base ≤ w.heap.size) :
    ∃ (g2 cap : Nat) (w' : World), (∀ ty, (Builtin.append_ #[33, 33] ty #[v, .slice (some ⟨w.heap.size, 0, none⟩) 1 1]).run Try.prog (w.alloc (.cells #[.int .i64 x] 3)) = .ok (.slice (some ⟨g2, 0, none⟩) (l.length + 1) cap) w') ∧
      Own w' base (.slice (some ⟨g2, 0, none⟩) (l.length + 1) cap) (l ++ [x]) ∧ (w.alloc (.cells #[.int .i64 x] 3)).grownBy w' v.ownBlock ∧ (v.ownBlock = some g2 ∨ g2 = (w.alloc (.cells #[.int .i64 x] 3)).heap.size) := by
  obtain ⟨i0, hi, hz0, hz1, hz2⟩ := info_parts info_int8
  have ho2 := ho.below (below_alloc w (.cells #[.int .i64 x] 3))
  have h1 := fun ty => run_append_lies (P := Try.prog) (w.alloc (.cells #[.int .i64 x] 3)) 33 ty base 3 i0 _ 1 8 Try.underlying33 hi hz0 hz1 hz2 rfl (by decide) _ l.length (icells l) ho2 ⟨w.heap.size, 0, none⟩ 1 1 [.int .i64 x] rfl (World.news_of_block (cs := #[.int .i64 x]) (t := 3) (fr := (0, 0)) (heap_alloc_new _ _)) (by simp [Value.oneCell']) (by omega) (by unfold maxLen; omega) (by omega) (by simp; omega) _ rfl
  obtain ⟨g2, cap, w', hr, hown, hg, hat, _⟩ := h1 0
  refine ⟨g2, cap, w', fun ty => ?_, ?_, hg, hat⟩
  · rw [← hr]; rfl
  · show World.ownsRow _ _ _ _ _ _ _
    rw [icells_snoc, List.length_append]; exact hown

/-- Two rows, whose blocks differ. -/
structure Two (w : World) (base : Nat) (v c : Value) (l m : List Int) : Prop where
  a : Own w base v l
  b : Own w base c m
  ap : Apart v c
section
variable {w w' : World} {base : Nat} {v c : Value} {l m : List Int}
theorem Two.swap (h : Two w base v c l m) : Two w base c v m l := ⟨h.b, h.a, fun b e e2 => h.ap b e2 e⟩
theorem Two.below (h : Two w base v c l m) (hb : Below w.heap.size w w') : Two w' base v c l m := ⟨h.a.below hb, h.b.below hb, h.ap⟩
theorem Two.push (h : Two w base v c l m) (x : Int) (hl : l.length ≤ 1000) (hb : base ≤ w.heap.size) :
    ∃ (g2 cap : Nat) (w' : World), (∀ ty, (Builtin.append_ #[33, 33] ty #[v, .slice (some ⟨w.heap.size, 0, none⟩) 1 1]).run Try.prog (w.alloc (.cells #[.int .i64 x] 3)) = .ok (.slice (some ⟨g2, 0, none⟩) (l.length + 1) cap) w') ∧
      Two w' base (.slice (some ⟨g2, 0, none⟩) (l.length + 1) cap) c (l ++ [x]) m ∧ Below base w w' := by
  obtain ⟨g2, cap, w', hr, ho, hg, hat⟩ := push_at x h.a hl hb
  have ha := below_alloc w (.cells #[.int .i64 x] 3)
  have hc := h.b.below ha
  exact ⟨g2, cap, w', hr, ⟨ho, hc.apart2 h.ap hg, Apart.grown hc (Nat.le_refl _) h.ap hat⟩, ((Below.refl base w).alloc hb _).grown hg (by simp; omega) (fun t e => (h.a.lt t e).1)⟩
theorem Two.set {g n cap j : Nat} (h : Two w base (.slice (some ⟨g, 0, none⟩) n cap) c l m) (hj : j < l.length) (x : Int) :
    Two (w.setCell ⟨g, j, none⟩ (.int .i64 x)) base (.slice (some ⟨g, 0, none⟩) n cap) c (l.set j x) m ∧ Below base w (w.setCell ⟨g, j, none⟩ (.int .i64 x)) :=
  ⟨⟨h.a.set x hj, h.b.apart2 h.ap (grown_set w g j _), h.ap⟩, (Below.refl base w).setCell (p := ⟨g, j, none⟩) (h.a.lt g rfl).1 _⟩
end
theorem own_form {w : World} {base : Nat} {v : Value} {l : List Int} (h : Own w base v l) (h0 : 0 < l.length) : ∃ g c, v = .slice (some ⟨g, 0, none⟩) l.length c := by
  obtain ⟨_, ⟨e, h1⟩ | ⟨g, c, cur, e, _⟩⟩ := h
  · have : l = [] := List.eq_nil_of_length_eq_zero h1
    subst this; simp at h0
  · exact ⟨g, c, e⟩
theorem made_none (w : World) (B : Nat) (h : B ≤ w.heap.size) : Own (w.alloc (.cells #[] 3)) B (.slice (some ⟨w.heap.size, 0, none⟩) 0 0) [] := World.ownsRow_made w #[] 0 h (by unfold maxLen; omega) rfl
end Go.Proofs.Ytfhpbgmnekhfeaa.Sheet

/- Rows of tiles in memory: rows of the call's own, literals, appends. -/
import Derived.Test.YtefeajnlogbilaaFaceSpot2
import Derived.Lib.AppendZeros
import Derived.Deep.AppendLies
import Derived.Laws.OwnMore
namespace Go.Proofs.Ytefeajnlogbilaa.Face
open Go.ChangeShapes Go.WideShapes Go.ChangeAt Go.RowKit
open Go.Proofs.Ytefeajnlogbilaa.Strip Go.Proofs.Ytefeajnlogbilaa.Strs Go.Proofs.Ytefeajnlogbilaa.Card
set_option linter.unusedVariables false

def tcells (l : List (Int × Int)) : List Value := l.flatMap fun p => [.int .i64 p.1, .int .i64 p.2]
theorem tcells_length (l : List (Int × Int)) : (tcells l).length = l.length * 2 := by
  induction l with
  | nil => rfl
  | cons p l ih => unfold tcells at *; rw [List.flatMap_cons, List.length_append, ih, List.length_cons]; simp only [List.length_cons, List.length_nil]; omega
theorem tcells_snoc (l : List (Int × Int)) (p : Int × Int) : tcells (l ++ [p]) = tcells l ++ [.int .i64 p.1, .int .i64 p.2] := by simp [tcells]
theorem tcells_one (l : List (Int × Int)) : ∀ v ∈ tcells l, v.oneCell' = true := by
  intro v hv
  simp [tcells] at hv
  obtain ⟨a, b, _, rfl | rfl⟩ := hv <;> rfl
theorem tcells_get (l : List (Int × Int)) (j : Nat) (h : j < l.length) : (tcells l)[j * 2]? = some (.int .i64 l[j].1) ∧ (tcells l)[j * 2 + 1]? = some (.int .i64 l[j].2) := by
  induction l generalizing j with
  | nil => simp at h
  | cons p l ih =>
    unfold tcells at *
    rw [List.flatMap_cons]
    cases j with
    | zero => simp
    | succ j =>
      have h2 := ih j (by simpa using h)
      rw [show (j + 1) * 2 = j * 2 + 2 by omega]
      simpa using h2

/-- v is a slice of the tiles l; its block is none of those below base. -/
def TOwn (w : World) (base : Nat) (v : Value) (l : List (Int × Int)) : Prop := w.ownsRow base tileT 2 v l.length (tcells l)

theorem TOwn.nil (w : World) (base : Nat) : TOwn w base (.slice none 0 0) [] := World.ownsRow_nil w base _ _
theorem TOwn.below {w w' : World} {base : Nat} {v : Value} {l : List (Int × Int)} (h : TOwn w base v l) (hb : Below w.heap.size w w') : TOwn w' base v l :=
  World.ownsRow.kept h (grown_below hb none) (by
    cases hb : v.ownBlock with
    | none => exact .inl rfl
    | some b => right; simp)
theorem TOwn.kept {w w' : World} {base : Nat} {v : Value} {l : List (Int × Int)} {row : Option Nat} (h : TOwn w base v l) (hg : w.grownBy w' row) (hne : v.ownBlock = none ∨ v.ownBlock ≠ row) : TOwn w' base v l := World.ownsRow.kept h hg hne
theorem TOwn.lt {w : World} {base : Nat} {v : Value} {l : List (Int × Int)} (h : TOwn w base v l) : ∀ k, v.ownBlock = some k → base ≤ k ∧ k < w.heap.size := World.ownsRow.lt h
theorem TOwn.mono {w : World} {base base2 : Nat} {v : Value} {l : List (Int × Int)} (h : TOwn w base v l) (hb : base2 ≤ base) : TOwn w base2 v l := by
  obtain ⟨hl, h1 | ⟨g, cap, cur, e, hg, rest⟩⟩ := h
  · exact ⟨hl, .inl h1⟩
  · exact ⟨hl, .inr ⟨g, cap, cur, e, by omega, rest⟩⟩
theorem TOwn.slice {w : World} {base : Nat} {v : Value} {l : List (Int × Int)} (h : TOwn w base v l) : ∃ a c, v = .slice a l.length c := by
  obtain ⟨_, ⟨rfl, h0⟩ | ⟨g, cap, cur, e, _⟩⟩ := h
  · exact ⟨none, 0, by rw [h0]⟩
  · exact ⟨_, _, e⟩
theorem TOwn.cell {w : World} {base n c : Nat} {a : Option Addr} {l : List (Int × Int)} (h : TOwn w base (.slice a n c) l) {j : Nat} (hj : j < l.length) :
    ∃ g, a = some ⟨g, 0, none⟩ ∧ g < w.heap.size ∧ w.cell? ⟨g, j * 2, none⟩ = some (.int .i64 l[j].1) ∧ w.cell? ⟨g, j * 2 + 1, none⟩ = some (.int .i64 l[j].2) := by
  obtain ⟨hl, h1 | ⟨g, cap, cur, e, hg, hh, hnc, hcm, hcs, ht⟩⟩ := h
  · exact absurd h1.2 (by omega)
  · cases e
    have hget := tcells_get l j hj
    rw [← ht] at hget
    rw [List.getElem?_take_of_lt (by omega), List.getElem?_take_of_lt (by omega)] at hget
    refine ⟨g, rfl, (Array.getElem?_eq_some_iff.1 hh).1, ?_, ?_⟩
    · simp [World.cell?, hh]; simpa using hget.1
    · simp [World.cell?, hh]; simpa using hget.2

theorem info_tile : (Try.prog.info? tileT).map (fun i => (i.zero, i.size, i.bytes)) = some (some (.agg #[.int .i64 0, .int .i64 0]), 2, 16) := by kernel_rfl

/-- One tile more, onto a row of one's own, the nil slice too. -/
theorem tpush {w : World} {base k c b : Nat} {a : Option Addr} {l : List (Int × Int)} {x y : Int} (ho : TOwn w base (.slice a k c) l) (hk : l.length = k) (hv : w.heap[b]? = some (.cells #[.int .i64 x, .int .i64 y] tileT (0, 0))) (hbd : k ≤ 2097151) (hbase : base ≤ w.heap.size) :
    ∃ g cap w', (∀ ty, (Builtin.append_ #[92, 92] ty #[.slice a k c, .slice (some ⟨b, 0, none⟩) 1 1]).run Try.prog w = .ok (.slice (some ⟨g, 0, none⟩) (k + 1) cap) w') ∧
      TOwn w' base (.slice (some ⟨g, 0, none⟩) (k + 1) cap) (l ++ [(x, y)]) ∧ w.grownBy w' (Value.slice a k c).ownBlock ∧ ((Value.slice a k c).ownBlock = some g ∨ g = w.heap.size) := by
  obtain ⟨i0, hi, hz0, hz1, hz2⟩ := info_parts info_tile
  unfold TOwn at ho
  rw [hk] at ho
  have h1 := fun ty => run_append_lies (P := Try.prog) w 92 ty base tileT i0 _ 2 16 Try.underlying92 hi hz0 hz1 hz2 rfl (by omega) _ k (tcells l) ho ⟨b, 0, none⟩ 1 1 [.int .i64 x, .int .i64 y] rfl (World.news_of_block (cs := #[.int .i64 x, .int .i64 y]) hv) (by intro u hu; simp at hu; rcases hu with rfl | rfl <;> rfl) (by omega) (by unfold maxLen; omega) (by omega) hbase w.heap.size rfl
  obtain ⟨g, cap, w', hr, hown, hg, hat, _⟩ := h1 0
  refine ⟨g, cap, w', fun ty => ?_, ?_, hg, hat⟩
  · rw [← hr]; rfl
  · unfold TOwn
    rw [tcells_snoc, List.length_append, hk]
    exact hown

/-- A row that a literal of one tile, or of two, has laid. -/
theorem TOwn.lit1 (w : World) (base : Nat) (x y : Int) (hb : base ≤ w.heap.size) : TOwn (w.alloc (.cells #[.int .i64 x, .int .i64 y] tileT)) base (.slice (some ⟨w.heap.size, 0, none⟩) 1 1) [(x, y)] :=
  World.ownsRow_lit (e := tileT) (size := 2) w #[.int .i64 x, .int .i64 y] 1 hb (by unfold maxLen; omega) rfl
end Go.Proofs.Ytefeajnlogbilaa.Face

/- What spec.l05Card and DrawCard return: a valid card of memory of its own. -/
import Derived.Test.YtfhpbgmnekhfeaaDrawStrip
import Derived.Test.YtfhpbgmnekhfeaaStripMany
import Derived.Test.YtfhpbgmnekhfeaaCardEnd
import Derived.Test.YtfhpbgmnekhfeaaAppAny
namespace Go.Proofs.Ytfhpbgmnekhfeaa.Card
open Go.ChangeShapes Go.WideShapes Go.ChangeAt Go.RowKit
open Go.Proofs.Ytfhpbgmnekhfeaa.Strip Go.Proofs.Ytfhpbgmnekhfeaa.Strs Go.Proofs.Ytfhpbgmnekhfeaa.Draw
set_option linter.unusedVariables false

theorem good_of {l : List UInt8} {d f : Int} (h : okL l = true) (hd : (cnt 100 l : Int) = d) (hf : (cnt 102 l : Int) = f) (h1 : frameB d f = true) : goodB d f ⟨l.toArray⟩ = true := by
  subst hd; subst hf
  have hs : stripB l = true := by unfold stripB; rw [h, h1]; rfl
  unfold goodB numV
  simp [hs]

theorem cnt_rep (x y : UInt8) (n : Nat) : cnt x (List.replicate n y) = if x = y then n else 0 := by
  unfold cnt
  rw [List.count_replicate]
  by_cases e : x = y
  · subst e; simp
  · rw [if_neg e, if_neg (by simpa using fun e' => e e'.symm)]

theorem okL_rep (y : UInt8) (hy : y = 100 ∨ y = 102) (n : Nat) : okL (List.replicate n y) = true := by
  induction n with
  | zero => rfl
  | succ n ih =>
    rw [List.replicate_succ', okL_snoc, ih]
    rcases hy with rfl | rfl <;> rfl

theorem okL_append (a b : List UInt8) : okL (a ++ b) = (okL a && okL b) := by unfold okL; simp
theorem cnt_append (x : UInt8) (a b : List UInt8) : cnt x (a ++ b) = cnt x a + cnt x b := by unfold cnt; simp

theorem frame_pos {d f : Int} (h : frameB d f = true) : 1 ≤ d ∧ d ≤ 8 ∧ 1 ≤ f ∧ f ≤ 8 := by
  unfold frameB at h
  simp at h
  omega
theorem frame_mk {d f : Int} (h1 : 1 ≤ d) (h2 : d ≤ 8) (h3 : 1 ≤ f) (h4 : f ≤ 8) : frameB d f = true := by
  unfold frameB
  simp
  omega

theorem flat_good {d f : Int} (h : frameB d f = true) : goodB d f ⟨(flatL d f).toArray⟩ = true := by
  have hp := frame_pos h
  unfold flatL
  rw [if_pos h]
  refine good_of ?_ ?_ ?_ h
  · rw [okL_append, okL_rep 100 (.inl rfl), okL_rep 102 (.inr rfl)]; rfl
  · simp [cnt_append, cnt_rep]; omega
  · simp [cnt_append, cnt_rep]; omega
theorem high_good {d f : Int} (h : frameB d f = true) : goodB d f ⟨(highL d f).toArray⟩ = true := by
  have hp := frame_pos h
  unfold highL
  rw [if_pos h]
  refine good_of ?_ ?_ ?_ h
  · rw [okL_append, okL_rep 100 (.inl rfl), okL_rep 102 (.inr rfl)]; rfl
  · simp [cnt_append, cnt_rep]; omega
  · simp [cnt_append, cnt_rep]; omega

/-- Where the draw of a card stands. -/
def St (w : World) (k g0 g1 : Nat) (d f : Int) (a : Option Addr) (n c : Nat) (l : List ByteArray) (ca : Option Addr) (cl cc : Nat) (wr : World) : Prop :=
  (k < w.heap.size ∧ w.heap.size ≤ g0 ∧ w.heap.size ≤ g1 ∧ g0 ≠ g1) ∧ w.grownBy wr (some k) ∧ Cur wr k ca cl cc ∧ Var wr g0 0 0 (.slice none 0 0) ∧ Var wr g1 d f (.slice a n c) ∧ Own wr w.heap.size (.slice a n c) l

section
variable {w wr w' : World} {k g0 g1 : Nat} {d f : Int} {a : Option Addr} {n c : Nat} {l : List ByteArray} {ca : Option Addr} {cl cc : Nat}

/-- Something was drawn. -/
theorem St.draw (h : St w k g0 g1 d f a n c l ca cl cc wr) (hc : Cur w' k ca cl cc) (g : wr.grownBy w' (some k)) : St w k g0 g1 d f a n c l ca cl cc w' := by
  obtain ⟨⟨hk, h0, h1, h2⟩, hg, _, v0, v1, ho⟩ := h
  refine ⟨⟨hk, h0, h1, h2⟩, grownBy_trans hg g, hc, v0.grown g (by simp; omega), v1.grown g (by simp; omega), World.ownsRow.kept ho g (.inr fun e => ?_)⟩
  have := (ho.lt k e).1
  omega

/-- Nothing that stood was written. -/
theorem St.still (h : St w k g0 g1 d f a n c l ca cl cc wr) (hb : Below wr.heap.size wr w') : St w k g0 g1 d f a n c l ca cl cc w' := by
  obtain ⟨h0, hg, hc, v0, v1, ho⟩ := h
  exact ⟨h0, grownBy_trans hg (grown_below hb _), hc.kept (grown_below hb none) (by simp) (by simp), v0.below hb, v1.below hb, ho.below hb⟩

theorem St.lt (h : St w k g0 g1 d f a n c l ca cl cc wr) : w.heap.size ≤ wr.heap.size := h.2.1.size

/-- One strip more, in a row of the call's own. -/
theorem St.push (h : St w k g0 g1 d f a n c l ca cl cc wr) (s : ByteArray) (hn : n ≤ 100) :
    ∃ gg cap w6, (∀ ty, (Builtin.append_ #[24, 24] ty #[.slice a n c, .slice (some ⟨wr.heap.size, 0, none⟩) 1 1]).run Try.prog (wr.alloc (.cells #[.string s] 9)) = .ok (.slice (some ⟨gg, 0, none⟩) (n + 1) cap) w6) ∧
      Var w6 g1 d f (.slice a n c) ∧ St w k g0 g1 d f (some ⟨gg, 0, none⟩) (n + 1) cap (l ++ [s]) ca cl cc (w6.setCell ⟨g1, 2, none⟩ (.slice (some ⟨gg, 0, none⟩) (n + 1) cap)) := by
  obtain ⟨⟨hk, h0, h1, h2⟩, hg, hc, v0, v1, ho⟩ := h
  have hx := alloc_below wr (.cells #[.string s] 9)
  have ox := ho.below hx
  obtain ⟨gg, cap, w6, hr6, ho6, hg6⟩ := push_own (w := wr.alloc (.cells #[.string s] 9)) (b := wr.heap.size) (s := s) ox (heap_alloc_new wr _) (by omega) (Nat.le_trans hg.size hx.size)
  have v1' := (v1.below hx).written ox hg6
  have v0' := (v0.below hx).written ox hg6
  have hgk : ∀ row, (∀ b, row = some b → w.heap.size ≤ b) → ∀ {u u' : World}, w.grownBy u (some k) → u.grownBy u' row → w.grownBy u' (some k) := by
    intro row hrow u u' q q'
    refine ⟨q'.os.trans q.os, q'.tape.trans q.tape, q'.output.trans q.output, Nat.le_trans q.size q'.size, fun i hi hne => ?_⟩
    refine (q'.block i (Nat.lt_of_lt_of_le hi q.size) (fun e => ?_)).trans (q.block i hi hne)
    have := hrow i e.symm
    omega
  have e1 := hgk none (by simp) hg (grown_below hx none)
  have e2 := hgk _ (fun b e => (ox.lt b e).1) e1 hg6
  have e3 := hgk (some g1) (by simp; omega) e2 (grown_set w6 g1 2 (.slice (some ⟨gg, 0, none⟩) (n + 1) cap))
  have c1 := hc.kept (grown_below hx none) (by simp) (by simp)
  have c2 := c1.kept hg6 (fun e => by have := (ox.lt k e.symm).1; omega) (fun b hb e => by have := (ox.lt b e.symm).1; omega)
  have c3 := c2.kept (grown_set w6 g1 2 (.slice (some ⟨gg, 0, none⟩) (n + 1) cap)) (by simp; omega) (fun b hb => by simp; omega)
  exact ⟨gg, cap, w6, hr6, v1', ⟨hk, h0, h1, h2⟩, e3, c3, v0'.other h2, v1'.set1 _, Own.aside ho6 v1'⟩

/-- The result's variable is written, and the card is handed over. -/
theorem St.end (h : St w k g0 g1 d f a n c l ca cl cc wr) : ∃ Z, Z = Card.set3 wr g0 d f (.slice a n c) ∧ Var Z g0 d f (.slice a n c) ∧ Cur Z k ca cl cc ∧ w.grownBy Z (some k) ∧ Own Z w.heap.size (.slice a n c) l := by
  obtain ⟨⟨hk, h0, h1, h2⟩, hg, hc, v0, v1, ho⟩ := h
  have step : ∀ {u : World} (j : Nat) (x : Value), Cur u k ca cl cc ∧ w.grownBy u (some k) → Cur (u.setCell ⟨g0, j, none⟩ x) k ca cl cc ∧ w.grownBy (u.setCell ⟨g0, j, none⟩ x) (some k) := by
    intro u j x q
    have hs := grown_set u g0 j x
    refine ⟨q.1.kept hs (by simp; omega) (fun b hb => by simp; omega), hs.os.trans q.2.os, hs.tape.trans q.2.tape, hs.output.trans q.2.output, Nat.le_trans q.2.size hs.size, fun i hi hne => ?_⟩
    refine (hs.block i (Nat.lt_of_lt_of_le hi q.2.size) (by simp; omega)).trans (q.2.block i hi hne)
  have q := step 2 (.slice a n c) (step 1 (.int .i64 f) (step 0 (.int .i64 d) ⟨hc, hg⟩))
  exact ⟨_, rfl, v0.set3 _ _ _, q.1, q.2, Own.aside3 ho v0⟩

theorem St.begin (w : World) {w2 : World} {k : Nat} (hk : k < w.heap.size) (d f : Int) (hc : Cur w2 k ca cl cc) (g : (w.alloc (.cells #[.int .i64 0, .int .i64 0, .slice none 0 0] 26)).grownBy w2 (some k)) :
    St w k w.heap.size w2.heap.size d f none 0 0 [] ca cl cc (w2.alloc (.cells #[.int .i64 d, .int .i64 f, .slice none 0 0] 26)) := by
  have hsz := g.size
  simp at hsz
  have v0 := (Var.new w 0 0 (.slice none 0 0)).grown g (by simp; omega)
  refine ⟨⟨hk, Nat.le_refl _, by omega, by omega⟩, ?_, hc.alloc _, v0.below (alloc_below _ _), Var.new w2 d f _, Own.nil _ _⟩
  exact grownBy_trans (grownBy_trans (World.grownBy_alloc w _ _) g) (World.grownBy_alloc w2 _ _)
end
end Go.Proofs.Ytfhpbgmnekhfeaa.Card

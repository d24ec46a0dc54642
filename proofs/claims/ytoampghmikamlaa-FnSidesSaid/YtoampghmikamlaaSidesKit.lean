/- What the law of chapter 12 calls, as its walk wants it (printed by wip/gen_sideslaw.py). -/
import Derived.Test.YtoampghmikamlaaSideProp
import Derived.Test.YtoampghmikamlaaSymmImpl
import Derived.Test.YtoampghmikamlaaSymImpl
import Derived.Test.YtoampghmikamlaaTurnCard
import Derived.Test.YtoampghmikamlaaCardSame
namespace Go.Proofs.Ytoampghmikamlaa.Turn
open Go.ChangeShapes Go.WideShapes Go.ChangeAt Go.RowKit Go.Sort
open Go.Proofs.Ytoampghmikamlaa.Strip Go.Proofs.Ytoampghmikamlaa.Strs Go.Proofs.Ytoampghmikamlaa.Card Go.Proofs.Ytoampghmikamlaa.Kerf Go.Proofs.Ytoampghmikamlaa.Order
set_option linter.unusedVariables false

/-- A card in memory of the call's own. -/
def GaveN (w : World) (d f : Int) (n : Nat) (l : List ByteArray) (e : Ending) (w' : World) : Prop :=
  ∃ a c, e = .returned (.agg #[.int .i64 d, .int .i64 f, .slice a n c]) ∧ Below w.heap.size w w' ∧ Own w' w.heap.size (.slice a n c) l
theorem turn_good {d f : Int} {base n c : Nat} {a : Option Addr} {l t : List ByteArray} (w : World) (hc : cardB d f l = true) (ht : turnC l = t) (hn : t.length = n) (hnn : n ≤ 1048576) (ha : Own w base (.slice a n c) l) :
    Calls Try.prog 13 #[.agg #[.int .i64 d, .int .i64 f, .slice a n c]] w (GaveN w f d n t) := by
  have h := turnC_impl d f base n c a l w hnn (sizes_of hc) ha
  unfold TurnPost at h
  rw [hc, ht] at h
  exact h.mono fun _ _ hh => gave_in hn hh
theorem mir_good {d f : Int} {base n c : Nat} {a : Option Addr} {l t : List ByteArray} (w : World) (hc : cardB d f l = true) (ht : l.reverse = t) (hn : t.length = n) (hnn : n ≤ 1048576) (ha : Own w base (.slice a n c) l) :
    Calls Try.prog 14 #[.agg #[.int .i64 d, .int .i64 f, .slice a n c]] w (GaveN w d f n t) := by
  have h := mirC_impl d f base n c a l w hnn (sizes_of hc) ha
  unfold MirrorPost at h
  rw [hc, ht] at h
  exact h.mono fun _ _ hh => gave_in hn hh
theorem symm_good {d f : Int} {base n c : Nat} {a : Option Addr} {l t : List ByteArray} (w : World) (hc : cardB d f l = true) (ht : symL l = t) (hn : t.length = n) (hnn : n ≤ 1048576) (ha : Own w base (.slice a n c) l) :
    Calls Try.prog 15 #[.agg #[.int .i64 d, .int .i64 f, .slice a n c]] w (GaveN w d f n t) := by
  have h := symm_impl d f base n c a l w hnn (sizes_of hc) ha
  unfold SymmPost at h
  rw [hc, ht] at h
  exact h.mono fun _ _ hh => gave_in hn hh
theorem shift_ok {N : Int} (h0 : 1 ≤ N) (h1 : N ≤ 8) : wrap64 (2 ^ N.toNat) = balN N ∧ IntKind.i64.wrap (2 ^ N.toNat) = balN N := by
  rcases bals_in ⟨h0, h1⟩ with rfl | rfl | rfl | rfl | rfl | rfl | rfl | rfl <;> exact ⟨by kernel_rfl, by kernel_rfl⟩
section
variable {w0 w' w'' : World} {p1 p2 p3 p4 p5 p6 p7 p8 p9 p10 p11 p12 : Addr} {u1 u2 u3 u4 u5 u6 u7 u8 u9 u10 u11 u12 : Value}
theorem tw_next (h : w'.cell? p1 = some u1 ∧ w'.cell? p2 = some u2 ∧ w'.cell? p3 = some u3 ∧ w'.cell? p4 = some u4 ∧ w'.cell? p5 = some u5 ∧ w'.cell? p6 = some u6 ∧ w'.cell? p7 = some u7 ∧ w'.cell? p8 = some u8 ∧ w'.cell? p9 = some u9 ∧ w'.cell? p10 = some u10 ∧ w'.cell? p11 = some u11 ∧ w'.cell? p12 = some u12 ∧ Below w0.heap.size w0 w') (hb : Below w'.heap.size w' w'') : w''.cell? p1 = some u1 ∧ w''.cell? p2 = some u2 ∧ w''.cell? p3 = some u3 ∧ w''.cell? p4 = some u4 ∧ w''.cell? p5 = some u5 ∧ w''.cell? p6 = some u6 ∧ w''.cell? p7 = some u7 ∧ w''.cell? p8 = some u8 ∧ w''.cell? p9 = some u9 ∧ w''.cell? p10 = some u10 ∧ w''.cell? p11 = some u11 ∧ w''.cell? p12 = some u12 ∧ Below w0.heap.size w0 w'' :=
  ⟨(hb.cell (World.block_lt_of_cell? _ _ h.1)).trans h.1, (hb.cell (World.block_lt_of_cell? _ _ h.2.1)).trans h.2.1, (hb.cell (World.block_lt_of_cell? _ _ h.2.2.1)).trans h.2.2.1, (hb.cell (World.block_lt_of_cell? _ _ h.2.2.2.1)).trans h.2.2.2.1, (hb.cell (World.block_lt_of_cell? _ _ h.2.2.2.2.1)).trans h.2.2.2.2.1, (hb.cell (World.block_lt_of_cell? _ _ h.2.2.2.2.2.1)).trans h.2.2.2.2.2.1, (hb.cell (World.block_lt_of_cell? _ _ h.2.2.2.2.2.2.1)).trans h.2.2.2.2.2.2.1, (hb.cell (World.block_lt_of_cell? _ _ h.2.2.2.2.2.2.2.1)).trans h.2.2.2.2.2.2.2.1, (hb.cell (World.block_lt_of_cell? _ _ h.2.2.2.2.2.2.2.2.1)).trans h.2.2.2.2.2.2.2.2.1, (hb.cell (World.block_lt_of_cell? _ _ h.2.2.2.2.2.2.2.2.2.1)).trans h.2.2.2.2.2.2.2.2.2.1, (hb.cell (World.block_lt_of_cell? _ _ h.2.2.2.2.2.2.2.2.2.2.1)).trans h.2.2.2.2.2.2.2.2.2.2.1, (hb.cell (World.block_lt_of_cell? _ _ h.2.2.2.2.2.2.2.2.2.2.2.1)).trans h.2.2.2.2.2.2.2.2.2.2.2.1, h.2.2.2.2.2.2.2.2.2.2.2.2.trans (hb.mono h.2.2.2.2.2.2.2.2.2.2.2.2.size)⟩
theorem tw_drew (h : w'.cell? p1 = some u1 ∧ w'.cell? p2 = some u2 ∧ w'.cell? p3 = some u3 ∧ w'.cell? p4 = some u4 ∧ w'.cell? p5 = some u5 ∧ w'.cell? p6 = some u6 ∧ w'.cell? p7 = some u7 ∧ w'.cell? p8 = some u8 ∧ w'.cell? p9 = some u9 ∧ w'.cell? p10 = some u10 ∧ w'.cell? p11 = some u11 ∧ w'.cell? p12 = some u12 ∧ Below w0.heap.size w0 w') : w'.drew.cell? p1 = some u1 ∧ w'.drew.cell? p2 = some u2 ∧ w'.drew.cell? p3 = some u3 ∧ w'.drew.cell? p4 = some u4 ∧ w'.drew.cell? p5 = some u5 ∧ w'.drew.cell? p6 = some u6 ∧ w'.drew.cell? p7 = some u7 ∧ w'.drew.cell? p8 = some u8 ∧ w'.drew.cell? p9 = some u9 ∧ w'.drew.cell? p10 = some u10 ∧ w'.drew.cell? p11 = some u11 ∧ w'.drew.cell? p12 = some u12 ∧ Below w0.heap.size w0 w'.drew :=
  ⟨h.1, h.2.1, h.2.2.1, h.2.2.2.1, h.2.2.2.2.1, h.2.2.2.2.2.1, h.2.2.2.2.2.2.1, h.2.2.2.2.2.2.2.1, h.2.2.2.2.2.2.2.2.1, h.2.2.2.2.2.2.2.2.2.1, h.2.2.2.2.2.2.2.2.2.2.1, h.2.2.2.2.2.2.2.2.2.2.2.1, h.2.2.2.2.2.2.2.2.2.2.2.2.drew⟩
theorem tw_below (h : w'.cell? p1 = some u1 ∧ w'.cell? p2 = some u2 ∧ w'.cell? p3 = some u3 ∧ w'.cell? p4 = some u4 ∧ w'.cell? p5 = some u5 ∧ w'.cell? p6 = some u6 ∧ w'.cell? p7 = some u7 ∧ w'.cell? p8 = some u8 ∧ w'.cell? p9 = some u9 ∧ w'.cell? p10 = some u10 ∧ w'.cell? p11 = some u11 ∧ w'.cell? p12 = some u12 ∧ Below w0.heap.size w0 w') : Below w0.heap.size w0 w' := h.2.2.2.2.2.2.2.2.2.2.2.2
end
end Go.Proofs.Ytoampghmikamlaa.Turn

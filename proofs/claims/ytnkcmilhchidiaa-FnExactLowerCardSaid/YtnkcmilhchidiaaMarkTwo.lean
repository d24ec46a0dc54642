/- laws.markCard behind another markCard; facts on six cells. -/
import Derived.Test.YtnkcmilhchidiaaCardLaw
import Derived.Test.YtnkcmilhchidiaaCardSz
namespace Go.Proofs.Ytnkcmilhchidiaa.Card
open Go.ChangeShapes Go.WideShapes Go.ChangeAt Go.RowKit
open Go.Proofs.Ytnkcmilhchidiaa.Strip Go.Proofs.Ytnkcmilhchidiaa.Strs
set_option linter.unusedVariables false

theorem mark_at3 (k : Nat) (hk1 : 1 ≤ k) (hk : k ≤ 1048577) (base : Nat) (a : Option Addr) (cap : Nat) (l : List ByteArray) (hn : l.length ≤ 1048576) (w : World) (h : Own w base (.slice a l.length cap) l) :
    Calls Try.prog 55 #[.slice a l.length cap, .int .i64 (k : Int)] w fun e w' => e = .returned (.int .i64 ((k : Int) + (l.length : Int))) ∧ Own w' base (.slice a l.length cap) (marks k l.length) ∧ w.grownBy w' (Value.slice a l.length cap).ownBlock := by
  rcases h.shape with ⟨rfl, rfl, rfl⟩ | ⟨g, rfl⟩
  · refine (mark_nil (k : Int) w none 0).mono ?_
    rintro e w' ⟨rfl, rfl⟩
    exact ⟨by simp, by simpa [marks] using h, World.grownBy.refl _ _⟩
  · have h0 := h
    obtain ⟨hl, h1 | ⟨g', cap', cur, e, hg, hh, hnc, hcm, hcs, ht⟩⟩ := h
    · cases h1.1
    · cases e
      have h2 := mark_row g l.length cap k hk1 (by omega) (by omega) hnc cur w hh (by omega)
      refine h2.mono ?_
      rintro e w' ⟨rfl, ⟨cur', hh', hcs', ht'⟩, hgr⟩
      refine ⟨by rw [show ((k + l.length : Nat) : Int) = (k : Int) + (l.length : Int) from by omega], ⟨?_, .inr ⟨g, cap, cur', ?_, hg, hh', ?_, hcm, by omega, ?_⟩⟩, hgr⟩
      · simp [scells, marks_length]
      · rw [marks_length]
      · rw [marks_length]; exact hnc
      · rw [marks_length, Nat.mul_one]; exact ht'

theorem mark_card2 (m : Nat) (hm : m ≤ 1048576) (d f : Int) (base : Nat) (a : Option Addr) (cap : Nat) (l : List ByteArray) (hn : l.length ≤ 1048576) (w : World) (h : Own w base (.slice a l.length cap) l) :
    Calls Try.prog 30 #[.agg #[.int .i64 d, .int .i64 f, .slice a l.length cap], .int .i64 (1 + (m : Int))] w fun e w' => e = .returned (.int .i64 (1 + (m : Int) + (l.length : Int))) ∧ Own w' base (.slice a l.length cap) (marks (1 + m) l.length) ∧ w.grownBy w' (Value.slice a l.length cap).ownBlock := by
  have hk := fun w h => mark_at3 (1 + m) (by omega) (by omega) base a cap l hn w h
  rw [show ((1 + m : Nat) : Int) = 1 + (m : Int) from by omega] at hk
  have HK := Lib.hid hk
  have H := Lib.hid h
  clear h hk
  go_enter Try.func30, Try.ntmps30
  go_wp2_with fail
  refine (HK.out _ (H.out.below (alloc_below _ _))).mono ?_
  rintro e w1 ⟨rfl, hm, hg⟩
  have HM := Lib.hid hm
  have HG := Lib.hid (grown_trans (grown_below (alloc_below w _) _) hg)
  clear hm hg
  go_wp2
  go_ret
  exact ⟨rfl, HM.out, HG.out⟩

section
variable {w0 w' : World} {p1 p2 p3 p4 p5 p6 : Addr} {u1 u2 u3 u4 u5 u6 : Value}
/-- What stood in a world stands in every world that leaves it alone. -/
theorem six_of (h : w0.cell? p1 = some u1 ∧ w0.cell? p2 = some u2 ∧ w0.cell? p3 = some u3 ∧ w0.cell? p4 = some u4 ∧ w0.cell? p5 = some u5 ∧ w0.cell? p6 = some u6 ∧ Below w0.heap.size w0 w0) (hb : Below w0.heap.size w0 w') :
    w'.cell? p1 = some u1 ∧ w'.cell? p2 = some u2 ∧ w'.cell? p3 = some u3 ∧ w'.cell? p4 = some u4 ∧ w'.cell? p5 = some u5 ∧ w'.cell? p6 = some u6 ∧ Below w0.heap.size w0 w' := by
  obtain ⟨h1, h2, h3, h4, h5, h6, h7⟩ := h
  have k : ∀ {p : Addr} {u : Value}, w0.cell? p = some u → w'.cell? p = some u := fun {p u} e => (hb.cell (p := p) (World.block_lt_of_cell? _ _ e)).trans e
  exact ⟨k h1, k h2, k h3, k h4, k h5, k h6, hb⟩
end
end Go.Proofs.Ytnkcmilhchidiaa.Card

/- What spec.l01Pick and DrawSplitFields return and leave alone. -/
import Derived.Test.YtbfbjolggilfoaaDrawEnc
import Derived.Test.YtbfbjolggilfoaaFmtSpec
import Derived.Deep.LoopGhost
namespace Go.Proofs.Ytbfbjolggilfoaa.Draw
open Go.ChangeShapes Go.WideShapes Go.ChangeAt Go.RowKit
open Go.Proofs.Ytbfbjolggilfoaa.Bytes (run_one)
set_option linter.unusedVariables false

theorem pick_get (k : Nat) (ca : Option Addr) (cl cc : Nat) (lb n : Nat) (xs : List ByteArray) (T : TypeId) (m : Nat × Nat) (P : ByteArray → Prop) (hP : ∀ x ∈ xs, P x) (hn : xs.length = n) (hpos : 0 < n) (hmax : n ≤ 1000) (w : World) (hc : Cur w k ca cl cc)
    (hb : w.heap[lb]? = some (.cells (xs.map Value.string).toArray T m)) (hlk : lb ≠ k) {Q : Ending → World → Prop}
    (h : ∀ (x : ByteArray) (w' : World), P x → Cur w' k ca cl cc → w.grownBy w' (some k) → Q (.returned (.string x)) w') :
    Calls Try.prog 77 #[.pointer (some ⟨k, 0, none⟩), .slice (some ⟨lb, 0, none⟩) n n] w Q := by
  have H := Lib.hid h; clear h
  have HB := Lib.hid hb; clear hb
  have HN := Lib.hid hn; clear hn
  have HP := Lib.hid hP; clear hP
  go_enter Try.func77, Try.ntmps77
  go_wp2_with fail
  refine below_get k ca cl cc n (by omega) _ hc ?_
  intro x w1 x0 x1 hc1 g1
  obtain ⟨i, rfl⟩ := Int.eq_ofNat_of_zero_le x0
  have hi : i < n := by omega
  have hi' : i < xs.length := by rw [HN.out]; exact hi
  have hcell : w1.cell? ⟨lb, i, none⟩ = some (.string xs[i]) := by
    refine g1.cell ?_ (by simpa using hlk)
    simp [World.cell?, HB.out, hi']
  have HG := Lib.hid g1; clear g1
  have HC := Lib.hid hc1; clear hc1
  have hp : P xs[i] := HP.out _ (List.getElem_mem _)
  generalize xs[i] = y at hcell hp
  have HPY := Lib.hid hp; clear hp
  go_wp2
  exact H.out _ _ HPY.out HC.out HG.out

theorem empty_size : (((⟨#[]⟩ : ByteArray).size : Nat) : Int) ≤ 8 * ((0 : Nat) : Int) := by
  have h : (⟨#[]⟩ : ByteArray).size = 0 := rfl
  rw [h]; omega

theorem pick_small : ∀ x ∈ [(⟨#[32]⟩ : ByteArray), ⟨#[32, 32]⟩, ⟨#[9]⟩, ⟨#[10]⟩, ⟨#[127]⟩, ⟨#[233]⟩], x.size ≤ 2 := by
  intro x hx
  simp only [List.mem_cons, List.not_mem_nil, or_false] at hx
  rcases hx with rfl | rfl | rfl | rfl | rfl | rfl <;> decide

theorem small_prod (p q : Int) (p0 : 0 ≤ p) (p1 : p < 2) (q0 : 0 ≤ q) (q1 : q < 3) : 0 ≤ p * q ∧ p * q ≤ 2 := by
  have h : p = 0 ∨ p = 1 := by omega
  rcases h with rfl | rfl
  · simp
  · rw [Int.one_mul]; omega

end Go.Proofs.Ytbfbjolggilfoaa.Draw

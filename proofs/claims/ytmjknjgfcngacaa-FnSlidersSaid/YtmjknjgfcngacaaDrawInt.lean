/- What spec.l01PickInt, l01Number and DrawClamp return and leave alone. -/
import Derived.Test.YtmjknjgfcngacaaOnce
namespace Go.Proofs.Ytmjknjgfcngacaa.Draw
open Go.ChangeShapes Go.WideShapes Go.ChangeAt Go.RowKit
set_option linter.unusedVariables false

/-- The number fits an int. -/
def I64 (n : Int) : Prop := (Lit.int .i64 n).wf = true

theorem I64.of_bounds {n : Int} (h0 : -9223372036854775808 ≤ n) (h1 : n ≤ 9223372036854775807) : I64 n := by
  unfold I64; simp [Lit.wf, IntKind.min, IntKind.max, IntKind.signed, IntKind.bits]; omega

theorem I64.small {n : Int} (h0 : -1000000000000 ≤ n) (h1 : n ≤ 1000000000000) : I64 n := I64.of_bounds (by omega) (by omega)

theorem pickInt_get (k : Nat) (ca : Option Addr) (cl cc : Nat) (lb n : Nat) (xs : List Int) (T : TypeId) (m : Nat × Nat) (P : Int → Prop) (hP : ∀ x ∈ xs, P x) (hn : xs.length = n) (hpos : 0 < n) (hmax : n ≤ 1000) (w : World) (hc : Cur w k ca cl cc)
    (hb : w.heap[lb]? = some (.cells (xs.map (Value.int .i64)).toArray T m)) (hlk : lb ≠ k) {Q : Ending → World → Prop}
    (h : ∀ (x : Int) (w' : World), P x → Cur w' k ca cl cc → w.grownBy w' (some k) → Q (.returned (.int .i64 x)) w') :
    Calls Try.prog 40 #[.pointer (some ⟨k, 0, none⟩), .slice (some ⟨lb, 0, none⟩) n n] w Q := by
  have H := Lib.hid h; clear h
  have HB := Lib.hid hb; clear hb
  have HN := Lib.hid hn; clear hn
  have HP := Lib.hid hP; clear hP
  go_enter Try.func40, Try.ntmps40
  go_wp2_with fail
  refine below_get k ca cl cc n (by omega) _ hc ?_
  intro x w1 x0 x1 hc1 g1
  obtain ⟨i, rfl⟩ := Int.eq_ofNat_of_zero_le x0
  have hi : i < n := by omega
  have hi' : i < xs.length := by rw [HN.out]; exact hi
  have hcell : w1.cell? ⟨lb, i, none⟩ = some (.int .i64 xs[i]) := by
    refine g1.cell ?_ (by simpa using hlk)
    simp [World.cell?, HB.out, hi']
  have HG := Lib.hid g1; clear g1
  have HC := Lib.hid hc1; clear hc1
  have hp : P xs[i] := HP.out _ (List.getElem_mem _)
  generalize xs[i] = y at hcell hp
  have HPY := Lib.hid hp; clear hp
  go_wp2
  exact H.out _ _ HPY.out HC.out HG.out

theorem pick_fits : ∀ x ∈ [-1, 0, 127, 128, 16383, 16384, 1000000000, 1000000001, 9223372036854775807, (-9223372036854775808 : Int)], I64 x := by
  intro x hx
  simp only [List.mem_cons, List.not_mem_nil, or_false] at hx
  rcases hx with rfl | rfl | rfl | rfl | rfl | rfl | rfl | rfl | rfl | rfl <;> exact I64.of_bounds (by omega) (by omega)

end Go.Proofs.Ytmjknjgfcngacaa.Draw

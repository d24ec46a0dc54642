/- A card that came in: how a law's argument of the laws' own type Card is opened. -/
import Derived.Test.YtfhpbgmnekhfeaaCardLaw
import Derived.ProofKit
import Derived.OpenShut
import Derived.Lib.SmallJoins
import Derived.SliceStrings
namespace Go.Proofs.Ytfhpbgmnekhfeaa.Card
open Go.ChangeShapes Go.WideShapes Go.ChangeAt Go.RowKit Go.Joins
open Go.Proofs.Ytfhpbgmnekhfeaa.Strip Go.Proofs.Ytfhpbgmnekhfeaa.Strs
set_option linter.unusedVariables false

/-- What is known of a row of strings that came in. -/
def IsSRow (w : World) (a : Option Addr) (len : Nat) (l : List ByteArray) : Prop := l.length = len ∧ len ≤ maxLen ∧ (∀ s ∈ l, s.size ≤ maxLen) ∧ ARow w a l

theorem lawCard_cells : Try.prog.cellsOf 37 = 3 := by kernel_rfl

set_option maxRecDepth 100000 in
theorem open_card {H : Type} {enc : TypeId × Value → H} {W : World} {r : Reach} {b0 : Nat} {spare : Nat → Bool} {held : Bool} {v : Value} {d : DataW H} {p : List MemPlace}
    (hv : Value.okWide Try.prog W r b0 37 v) (h : DataW.Trod enc Try.prog W 0 spare held 37 v d p) :
    ∃ (x y : Int) (a : Option Addr) (len cap : Nat) (l : List ByteArray), v = .agg #[.int .i64 x, .int .i64 y, .slice a len cap] ∧ IsSRow W a len l := by
  obtain ⟨c0, c1, c2, y0, y1, y2, m, rfl, _, _, h0, h1, h2⟩ := open_agg3 Try.underlying37 (by kernel_rfl) lawCard_cells hv h
  obtain ⟨x, e0, _⟩ := DataW.trod_int Try.underlying3 h0
  obtain ⟨y, e1, _⟩ := DataW.trod_int Try.underlying3 h1
  simp at e0 e1
  subst e0 e1
  rcases open_strings Try.underlying24 Try.underlying9 (by kernel_rfl) h2 with ⟨hcs, _⟩ | ⟨a, len, cap, ss, hcs, _, hl, hm, hz, _, hcell, hws⟩
  · simp at hcs
    subst hcs
    exact ⟨x, y, none, 0, 0, [], rfl, rfl, Nat.zero_le _, fun s hs => by simp at hs, fun j hj => by simp at hj⟩
  · simp at hcs
    subst hcs
    have hlen : len ≤ ss.length := by rw [hz]; split <;> omega
    refine ⟨x, y, some a, len, cap, ss.take len, rfl, by rw [List.length_take]; omega, by omega, fun s hs => hws s (List.mem_of_mem_take hs), fun j hj => ?_⟩
    rw [List.length_take] at hj
    have hc := hcell j (by omega)
    refine ⟨a, rfl, ?_, ?_⟩
    · have := World.block_lt_of_cell? _ _ hc
      rw [add_block] at this; exact this
    · rw [hc]
      have hj2 : j < ss.length := by omega
      simp [List.getD, List.getElem?_eq_getElem hj2]
end Go.Proofs.Ytfhpbgmnekhfeaa.Card

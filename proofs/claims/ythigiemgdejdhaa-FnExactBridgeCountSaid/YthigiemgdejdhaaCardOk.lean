/- What CardOk returns, of the model and of the program. -/
import Derived.Test.YthigiemgdejdhaaCardEq
import Derived.Test.YthigiemgdejdhaaStripMany
import Derived.Test.YthigiemgdejdhaaStripImpl
namespace Go.Proofs.Ythigiemgdejdhaa.Card
open Go.ChangeShapes Go.WideShapes Go.ChangeAt Go.RowKit
open Go.Proofs.Ythigiemgdejdhaa.Strip Go.Proofs.Ythigiemgdejdhaa.Strs
set_option linter.unusedVariables false

theorem cardB_frame {d f : Int} {l : List ByteArray} (h : frameB d f = false) : cardB d f l = false := by unfold cardB; rw [h]; rfl
theorem cardB_len {d f : Int} {l : List ByteArray} (h : ¬ (1 ≤ l.length ∧ l.length ≤ 10)) : cardB d f l = false := by unfold cardB; rw [decide_eq_false h]; simp
theorem cardB_bad {d f : Int} {l : List ByteArray} (k : Nat) (hk : k < l.length) (h : goodB d f l[k] = false) : cardB d f l = false := by
  cases hc : cardB d f l with
  | false => rfl
  | true =>
    have := (cardB_iff.1 hc).2.2.2 l[k] (List.getElem_mem hk)
    rw [h] at this; cases this
theorem cardB_all {d f : Int} {l : List ByteArray} (hf : frameB d f = true) (h1 : 1 ≤ l.length) (h2 : l.length ≤ 10) (h : ∀ j (hj : j < l.length), goodB d f l[j] = true) : cardB d f l = true :=
  cardB_iff.2 ⟨hf, h1, h2, fun s hs => by obtain ⟨j, hj, rfl⟩ := List.mem_iff_getElem.1 hs; exact h j hj⟩

theorem Row.at {w : World} {a : Option Addr} {l : List ByteArray} (h : Row w a l) {w' : World} (hb : Below w.heap.size w w') (j : Nat) (hj : j < l.length) : ∃ g, a = some ⟨g, 0, none⟩ ∧ g < w.heap.size ∧ w'.cell? ⟨g, j, none⟩ = some (.string l[j]) := by
  obtain ⟨g, e, hg, hc⟩ := h j hj
  exact ⟨g, e, hg, by rw [hb.cell (p := ⟨g, j, none⟩) hg]; exact hc⟩

theorem calls_below {P : Program} {f : FuncId} {args : Array Value} {w : World} {v : Value} (h : Calls P f args w fun e w' => e = .returned v ∧ w = w') : Calls P f args w fun e w' => e = .returned v ∧ Below w.heap.size w w' :=
  h.mono fun _ _ ⟨a, b⟩ => ⟨a, b ▸ Below.refl _ _⟩

end Go.Proofs.Ythigiemgdejdhaa.Card

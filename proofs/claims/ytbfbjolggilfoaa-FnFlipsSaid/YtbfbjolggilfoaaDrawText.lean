/- What spec.l01Long and l01Text return and leave alone. -/
import Derived.Test.YtbfbjolggilfoaaDrawInt
import Derived.Test.YtbfbjolggilfoaaBytes
import Derived.Deep.AppendLies
import Derived.Laws.MakeOwn
import Derived.OwnWalk
namespace Go.Proofs.Ytbfbjolggilfoaa.Draw
open Go.ChangeShapes Go.WideShapes Go.ChangeAt Go.RowKit Go.Proofs.Ytbfbjolggilfoaa.Bytes
set_option linter.unusedVariables false

/-- Block b holds the bytes l. -/
def HasBytes (w : World) (b : Nat) (l : List UInt8) : Prop := w.heap[b]? = some (.cells (bcells l).toArray 5 (0, 0))

theorem made_bytes (n : Nat) : madeCells #[Value.int .u8 0] n = (bcells (List.replicate n 0)).toArray := by
  apply Array.ext
  · simp [size_madeCells, bcells]
  · intro i h1 h2
    simp [madeCells, bcells, Nat.mod_one]

theorem HasBytes.cell {w : World} {b i : Nat} {l : List UInt8} (h : HasBytes w b l) (hi : i < l.length) : w.cell? ⟨b, i, none⟩ = some (.int .u8 (l[i].toNat : Int)) := by
  unfold HasBytes at h
  simp [World.cell?, h, bcells, hi]

theorem HasBytes.free {w : World} {b i : Nat} {l : List UInt8} (h : HasBytes w b l) : w.frozen? ⟨b, i, none⟩ = false := by
  unfold HasBytes at h
  simp [World.frozen?, h]

theorem HasBytes.set {w : World} {b i : Nat} {l : List UInt8} (h : HasBytes w b l) (x : UInt8) : HasBytes (w.setCell ⟨b, i, none⟩ (.int .u8 (x.toNat : Int))) b (l.set i x) := by
  unfold HasBytes at h ⊢
  rw [heap_setCell_at _ _ _ _ _ _ _ h]
  simp [bcells, List.map_set]

theorem HasBytes.string {w : World} {b cap : Nat} {l : List UInt8} (h : HasBytes w b l) :
    (Go.convert 22 9 (.slice (some ⟨b, 0, none⟩) l.length cap)).run Try.prog w = .ok (.string ⟨l.toArray⟩) w := by
  refine run_convert_bytes_back (P := Try.prog) w 22 9 5 ⟨b, 0, none⟩ cap l Try.underlying22 Try.underlying5 Try.underlying9 ?_
  intro j hj
  have hc := h.cell hj
  by_cases h0 : j = 0
  · subst h0; simpa [Addr.add] using hc
  · simpa [Addr.add, h0] using hc

end Go.Proofs.Ytbfbjolggilfoaa.Draw

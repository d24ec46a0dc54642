/- CHANNELS IN ONE GOROUTINE, INSIDE THE WALK BY 'Code.wp': a region whose operations are taken one by one, and three that the machine takes: a send into a buffer with room, a receive from a buffer that holds something, a receive from a closed channel whose buffer is empty. -/
import Derived.Test.YtmjknjgfcngacaaChecked
import Derived.WalkKit
import Derived.ProofKit
import Derived.Conc.LoneCalls
namespace Go.Proofs.Ytmjknjgfcngacaa.Chan
open Go.RowKit Go.Conc
set_option linter.unusedVariables false

/-- The operations l of a region, from here on, come to an end of which Q holds. -/
def OpsTo (P : Program) (ops : Array Oper) (Q : Exit → Act → World → Prop) (l : List Nat) (a : Act) (w : World) : Prop :=
  ∀ (b : Frame) (k : List Item) (cs : List Frame), ∃ e a' w', Q e a' w' ∧ Arrives P (lone (b.at a (.inRegion ops l :: k)) cs w) b k cs e a' w'
section
variable {P : Program} {ops : Array Oper} {Q : Exit → Act → World → Prop} {l rest : List Nat} {a : Act} {w w' : World} {i id : Nat} {o : Oper} {v z : Value} {c cap s r : Nat} {buf : Array Value} {tm closed ok : Bool}
theorem region_of (h : OpsTo P ops Q (List.range ops.size) a w) : (Code.region id ops false).wp P Q a w :=
  fun b k cs => let ⟨e, a', w', q, r⟩ := h b k cs; ⟨e, a', w', q, .of_steps (.one step_region) r⟩
theorem opsTo_nil (h : Q .normal a w) : OpsTo P ops Q [] a w := fun b k cs => ⟨.normal, a, w, h, .one step_region_end⟩
theorem finish_to {b : Frame} {k : List Item} (ho : ops[i]? = some o) (v : Value) : (b.at a (.inRegion ops (i :: rest) :: k)).finish v = b.at (a.put o.dst v) (.inRegion ops rest :: k) := by
  rw [Frame.finish_at, ho]; rfl
theorem opsTo_value (ho : ops[i]? = some o) (hw : Region.wanted o (yielded ops a.tmps) = true) (hr : (execOp a.eval o).run P w = .ok (.value v) w') (h : OpsTo P ops Q rest (a.put o.dst v) w') : OpsTo P ops Q (i :: rest) a w := by
  intro b k cs
  obtain ⟨e, a', w'', hq, harr⟩ := h b k cs
  have hg := stepG_op (P := P) (b := b) (k := k) (cs := cs) (w := w) (rest := rest) ho hw
  refine ⟨e, a', w'', hq, .of_steps (.one (step_lone_go ?_)) harr⟩
  rw [hg, ← finish_to ho]; simp [stepG.apply, hr]
theorem opsTo_skip (ho : ops[i]? = some o) (hw : Region.wanted o (yielded ops a.tmps) = true) (hr : (execOp a.eval o).run P w = .ok .skip w') (h : OpsTo P ops Q rest (a.put o.dst undef) w') : OpsTo P ops Q (i :: rest) a w := by
  intro b k cs
  obtain ⟨e, a', w'', hq, harr⟩ := h b k cs
  have hg := stepG_op (P := P) (b := b) (k := k) (cs := cs) (w := w) (rest := rest) ho hw
  refine ⟨e, a', w'', hq, .of_steps (.one (step_lone_go ?_)) harr⟩
  rw [hg, ← finish_to ho]; simp [stepG.apply, hr]
theorem comm_at {cases : Array CommCase} {blocking : Bool} {shape : CommShape} (b : Frame) (k : List Item) (cs : List Frame) (ho : ops[i]? = some o) (hw : Region.wanted o (yielded ops a.tmps) = true) (hr : (execOp a.eval o).run P w = .ok (.comm cases blocking shape) w') :
    ∃ es, stepG P true (G (b.at a (.inRegion ops (i :: rest) :: k)) cs) w = .comm (G (b.at a (.inRegion ops (i :: rest) :: k)) cs) cases blocking shape w' es := by
  have hg := stepG_op (P := P) (b := b) (k := k) (cs := cs) (w := w) (rest := rest) ho hw
  have hb : (stepG P true (G (b.at a (.inRegion ops (i :: rest) :: k)) cs) w).bare = .comm (G (b.at a (.inRegion ops (i :: rest) :: k)) cs) cases blocking shape w' := by
    show (stepG P true { frame := b.at a (.inRegion ops (i :: rest) :: k), callers := cs, status := .running, dying := none } w).bare = _
    rw [hg]; simp [stepG.apply, hr, G]
  generalize stepG P true (G (b.at a (.inRegion ops (i :: rest) :: k)) cs) w = t at hb
  cases t <;> simp at hb
  obtain ⟨rfl, rfl, rfl, rfl, rfl⟩ := hb
  exact ⟨_, rfl⟩
theorem opsTo_send (ho : ops[i]? = some o) (hw : Region.wanted o (yielded ops a.tmps) = true) (hr : (execOp a.eval o).run P w = .ok (.comm #[scase c v z] true .send) w)
    (hc : w.heap[c]? = some (.chan cap buf false s r tm)) (hroom : buf.size < cap) (h : OpsTo P ops Q rest (a.put o.dst undef) (w.setChan c cap (buf.push v) false (s + 1) r tm)) : OpsTo P ops Q (i :: rest) a w := by
  intro b k cs
  obtain ⟨es, he⟩ := comm_at (rest := rest) b k cs ho hw hr
  obtain ⟨e, a', w'', hq, harr⟩ := h b k cs
  refine ⟨e, a', w'', hq, .of_steps (.one ?_) harr⟩
  have hs := step_lone_send_room he hc hroom
  rw [finish_to ho] at hs
  exact hs
theorem opsTo_recv (ho : ops[i]? = some o) (hw : Region.wanted o (yielded ops a.tmps) = true) (hr : (execOp a.eval o).run P w = .ok (.comm #[rcase c z] true (.recv ok)) w)
    (hc : w.heap[c]? = some (.chan cap buf closed s r tm)) (hsome : 0 < buf.size) (h : OpsTo P ops Q rest (a.put o.dst (got ok (buf.getD 0 undef) true)) (w.setChan c cap (buf.extract 1 buf.size) closed s (r + 1) tm)) : OpsTo P ops Q (i :: rest) a w := by
  intro b k cs
  obtain ⟨es, he⟩ := comm_at (rest := rest) b k cs ho hw hr
  obtain ⟨e, a', w'', hq, harr⟩ := h b k cs
  refine ⟨e, a', w'', hq, .of_steps (.one ?_) harr⟩
  have hs := step_lone_recv_buf ok he hc hsome
  rw [finish_to ho] at hs
  exact hs
theorem opsTo_shut (ho : ops[i]? = some o) (hw : Region.wanted o (yielded ops a.tmps) = true) (hr : (execOp a.eval o).run P w = .ok (.comm #[rcase c z] true (.recv ok)) w)
    (hc : w.heap[c]? = some (.chan cap #[] true s r tm)) (h : OpsTo P ops Q rest (a.put o.dst (got ok z false)) w) : OpsTo P ops Q (i :: rest) a w := by
  intro b k cs
  obtain ⟨es, he⟩ := comm_at (rest := rest) b k cs ho hw hr
  obtain ⟨e, a', w'', hq, harr⟩ := h b k cs
  refine ⟨e, a', w'', hq, .of_steps (.one ?_) harr⟩
  have hs := step_lone_recv_shut ok he hc
  rw [finish_to ho] at hs
  exact hs
end

/-- Block c is a channel. -/
def Chan (w : World) (c cap : Nat) (buf : Array Value) (closed : Bool) (s r : Nat) : Prop := w.heap[c]? = some (.chan cap buf closed s r false)
section
variable {w w' : World} {c cap s r cap2 s2 r2 B : Nat} {buf buf2 : Array Value} {closed closed2 : Bool}
theorem Chan.lt (h : Chan w c cap buf closed s r) : c < w.heap.size := (Array.getElem?_eq_some_iff.1 h).1
theorem Chan.below (h : Chan w c cap buf closed s r) (hb : Below w.heap.size w w') : Chan w' c cap buf closed s r := (hb.block c h.lt).trans h
theorem Chan.set (h : Chan w c cap buf closed s r) : Chan (w.setChan c cap2 buf2 closed2 s2 r2 false) c cap2 buf2 closed2 s2 r2 := heap_setChan _ _ _ _ _ _ _ _ h.lt
theorem Chan.grown {row : Option Nat} (h : Chan w c cap buf closed s r) (hg : w.grownBy w' row) (hne : some c ≠ row) : Chan w' c cap buf closed s r := (hg.block c h.lt hne).trans h
/-- Whatever is done to a channel leaves the blocks ahead of it alone. -/
theorem grown_chan (w : World) (c cap : Nat) (buf : Array Value) (cl : Bool) (s r : Nat) (tm : Bool) : w.grownBy (w.setChan c cap buf cl s r tm) (some c) :=
  ⟨rfl, rfl, rfl, by simp [World.setChan], fun k hk hne => by simp only [World.setChan]; rw [Array.getElem?_setIfInBounds_ne (fun e => hne (by rw [e]))]⟩
end
end Go.Proofs.Ytmjknjgfcngacaa.Chan

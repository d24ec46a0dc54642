/- A map of one's own from strips to numbers: looked up, added to, struck out of, its keys collected. -/
import Derived.Test.YtbfbjolggilfoaaFlipBag
import Derived.Test.YtbfbjolggilfoaaFlipRows
import Derived.Test.YtbfbjolggilfoaaFlipSeq
import Derived.Maps.OwnSet
namespace Go.Proofs.Ytbfbjolggilfoaa.Flip
open Go.ChangeShapes Go.WideShapes Go.ChangeAt Go.RowKit Go.Maps Go.WideMaps
open Go.Proofs.Ytbfbjolggilfoaa.Ints Go.Proofs.Ytbfbjolggilfoaa.Corner
set_option linter.unusedVariables false

abbrev mapT : TypeId := 43
abbrev keyT : TypeId := 9
abbrev numT : TypeId := 3
theorem zero_num (w : World) : (zeroValue numT).run Try.prog w = .ok (.int .i64 0) w := by kernel_rfl
theorem key_keyed : Keyed Try.prog keyT := string_keyed Try.underlying9
theorem num_wf {x : Int} (h0 : -9223372036854775808 ≤ x) (h1 : x ≤ 9223372036854775807) : (Lit.int .i64 x).wf = true := by
  simp [Lit.wf, IntKind.min, IntKind.max, IntKind.signed, IntKind.bits]
  omega

theorem own_tight {H : Type} {P : Program} {k : TypeId} {R : Value → Option (DataW H × List MemPlace)} {w : World} {b n : Nat} {D : DataW H} (h : w.ownsMap P k R b n D) : w.ownsMap P k R b (Maps.size D) D := by
  obtain ⟨es, clock, hb, F, hs, rfl⟩ := h
  exact ⟨es, clock, hb, F, by simp [Maps.size, length_sorted], rfl⟩

/-- The map in block b has the keys ns; what it holds at a text is val (0 where there is nothing). -/
def MapW (w : World) (b : Nat) (ns : List ByteArray) (val : ByteArray → Int) : Prop :=
  ∃ (D : DataW Unit) (n : Nat), w.ownsMap Try.prog keyT (plainElem Try.prog numT) b n D ∧ Maps.size D = ns.length ∧ ns.Nodup ∧ (∀ l, Maps.has D (.string l) = true ↔ ∃ s ∈ ns, s.data.toList = l) ∧
    ∀ s : ByteArray, D.atKey (.string s.data.toList) (.lit (.int .i64 0)) = .lit (.int .i64 (val s))

section
variable {w w' : World} {b : Nat} {ns : List ByteArray} {val : ByteArray → Int}
theorem MapW.lt (h : MapW w b ns val) : b < w.heap.size := by
  obtain ⟨D, n, h1, _⟩ := h
  exact h1.lt
theorem MapW.kept {row : Option Nat} (h : MapW w b ns val) (hg : w.grownBy w' row) (hne : some b ≠ row) : MapW w' b ns val := by
  obtain ⟨D, n, h1, h2⟩ := h
  exact ⟨D, n, h1.kept hg hne, h2⟩
theorem MapW.below (h : MapW w b ns val) (hb : Below w.heap.size w w') : MapW w' b ns val := h.kept (grown_below hb none) (by simp)
theorem MapW.made (w : World) : MapW (w.alloc (.map #[] 0)) w.heap.size [] (fun _ => 0) :=
  ⟨.map [], 0, World.ownsMap_made _ _ _ _, rfl, by simp, fun l => by simp [Maps.has], fun s => rfl⟩

theorem MapW.look (h : MapW w b ns val) {s : ByteArray} (hs : s.size ≤ maxLen) : (Instr.lookup mapT (.map (some b)) (.string s) false).run Try.prog w = .ok (.int .i64 (val s)) w := by
  obtain ⟨D, n, h1, _, _, _, h2⟩ := h
  obtain ⟨c, hr, hat, _⟩ := h1.lookup_int key_keyed (t := mapT) Try.underlying43 Try.underlying3 (zero_num w) (keyOf_string_mk Try.underlying9 hs)
  rw [h2 s] at hat
  have : val s = c := by simpa using hat
  rw [this]; exact hr

theorem MapW.put (h : MapW w b ns val) (hn : ns.length < maxLen) {s : ByteArray} (hs : s.size ≤ maxLen) {c : Int} (h0 : -9223372036854775808 ≤ c) (h1 : c ≤ 9223372036854775807) :
    ∃ w1, (Instr.mapUpdate mapT (.map (some b)) (.string s) (.int .i64 c)).run Try.prog w = .ok () w1 ∧ MapW w1 b (insB ns s) (upd val s c) ∧ w.grownBy w1 (some b) := by
  obtain ⟨D, n, hD, hsz, hd, hh, ha⟩ := h
  obtain ⟨w1, hr, hown, hg⟩ := (own_tight hD).update key_keyed (t := mapT) Try.underlying43 (by rw [hsz]; exact hn) (keyOf_string_mk Try.underlying9 hs) (plainElem_int Try.underlying3 (num_wf h0 h1))
  refine ⟨w1, hr, ⟨_, _, hown, ?_, ins_nodup hd s, fun l => ?_, fun x => ?_⟩, hg⟩
  · rw [size_put (hD.tidy key_keyed)]
    by_cases hm : s ∈ ns
    · rw [if_pos ((hh _).2 ⟨s, hm, rfl⟩), ins_yes hm, hsz]
    · have : Maps.has D (.string s.data.toList) = false := by
        cases e : Maps.has D (.string s.data.toList) with
        | false => rfl
        | true =>
          obtain ⟨x, hx, e2⟩ := (hh _).1 e
          rw [Order.of_list e2] at hx
          exact absurd hx hm
      rw [this, if_neg (by simp), ins_no hm, List.length_append, hsz]; rfl
  · by_cases e : l = s.data.toList
    · subst e
      rw [has_put_same hD.isMap (show WideAt.IsKeyLit (.string s.data.toList) from trivial)]
      exact ⟨fun _ => ⟨s, ins_mem.2 (.inr rfl), rfl⟩, fun _ => rfl⟩
    · rw [has_put_other (show (Lit.string l : Lit) ≠ .string s.data.toList from fun e2 => e (by cases e2; rfl)), hh l]
      constructor
      · rintro ⟨x, hx, e2⟩; exact ⟨x, ins_mem.2 (.inl hx), e2⟩
      · rintro ⟨x, hx, e2⟩
        rcases ins_mem.1 hx with hx | rfl
        · exact ⟨x, hx, e2⟩
        · exact absurd e2.symm e
  · by_cases e : x = s
    · subst e
      rw [atKey_put_same hD.isMap (show WideAt.IsKeyLit (.string x.data.toList) from trivial), upd_same]
    · rw [atKey_put_other (show (Lit.string x.data.toList : Lit) ≠ .string s.data.toList from fun e2 => e (Order.of_list (by injection e2))), ha x, upd_other val e]

theorem MapW.drop (h : MapW w b ns val) {s : ByteArray} (hm : s ∈ ns) (hs : s.size ≤ maxLen) :
    ∃ w1, (∀ ty, (Builtin.delete_ #[mapT, keyT] ty #[.map (some b), .string s]).run Try.prog w = .ok (.tuple #[]) w1) ∧ MapW w1 b (outB ns s) (upd val s 0) ∧ w.grownBy w1 (some b) := by
  obtain ⟨D, n, hD, hsz, hd, hh, ha⟩ := h
  obtain ⟨w1, hr, hown, hg⟩ := hD.drop key_keyed (t := mapT) Try.underlying43 (keyOf_string_mk Try.underlying9 hs) 0
  refine ⟨w1, fun ty => ?_, ⟨_, _, hown, ?_, out_nodup hd s, fun l => ?_, fun x => ?_⟩, hg.grown⟩
  · rw [← hr]; rfl
  · have h1 := size_del (k := .string s.data.toList) (hD.tidy key_keyed)
    rw [if_pos ((hh _).2 ⟨s, hm, rfl⟩), hsz] at h1
    have h2 := out_len ns hd hm
    omega
  · by_cases e : l = s.data.toList
    · subst e
      rw [has_del_same]
      constructor
      · intro h; cases h
      · rintro ⟨x, hx, e2⟩
        exact absurd (Order.of_list e2) (out_mem.1 hx).2
    · rw [has_del_other (show (Lit.string l : Lit) ≠ .string s.data.toList from fun e2 => e (by cases e2; rfl)), hh l]
      constructor
      · rintro ⟨x, hx, e2⟩
        exact ⟨x, out_mem.2 ⟨hx, fun e3 => e (by rw [← e2, e3])⟩, e2⟩
      · rintro ⟨x, hx, e2⟩
        exact ⟨x, (out_mem.1 hx).1, e2⟩
  · by_cases e : x = s
    · subst e
      rw [atKey_del_same, upd_same]
    · rw [atKey_del_other (show (Lit.string x.data.toList : Lit) ≠ .string s.data.toList from fun e2 => e (Order.of_list (by injection e2))), ha x, upd_other val e]

def strB (l : List UInt8) : ByteArray := ⟨l.toArray⟩
theorem strB_list (s : ByteArray) : strB s.data.toList = s := Order.of_list (by simp [strB])

/-- slices.Collect(maps.Keys(m)): a new row of the keys, in some order. -/
theorem MapW.collect (h : MapW w b ns val) (hl : ns.length ≤ 68719476736) (B : Nat) (hB : B < w.heap.size) (hm : w.cell? ⟨B, 0, none⟩ = some (.map (some b))) :
    Calls Try.prog 40 #[.func (.func 61) #[] #[.pointer (some ⟨B, 0, none⟩)]] w fun e w' => ∃ (v : Value) (ss : List ByteArray), e = .returned v ∧ ss.Perm ns ∧ Strs.Own w' w.heap.size v ss ∧ Below w.heap.size w w' := by
  obtain ⟨D, n, hD, hsz, hd, hh, ha⟩ := h
  refine (collect_at B b n D w hB hm hD (by rw [hsz]; unfold maxLen; omega) (by rw [hsz]; omega)).mono ?_
  rintro e w' ⟨v, ls, rfl, hp, hrow, _, hb⟩
  have hnd : (ns.map fun s => s.data.toList).Nodup := by
    refine List.pairwise_map.2 (List.Pairwise.imp ?_ hd)
    intro a c hne e
    exact hne (Order.of_list e)
  have hcol : Collected D (fun _ => false) (ns.map fun s => s.data.toList) := by
    refine ⟨hnd, fun l => ?_⟩
    rw [List.mem_map, hh l]
    constructor
    · rintro ⟨s, h1, h2⟩; exact ⟨⟨s, h1, h2⟩, rfl⟩
    · rintro ⟨⟨s, h1, h2⟩, _⟩; exact ⟨s, h1, h2⟩
  have hp2 := hcol.perm hD key_keyed Try.underlying9 (fun _ => rfl)
  have hp3 : ls.Perm (ns.map fun s => s.data.toList) := hp.trans hp2.symm
  refine ⟨v, ls.map strB, rfl, ?_, ?_, hb⟩
  · have h4 := hp3.map strB
    rw [List.map_map] at h4
    have h5 : ns.map (strB ∘ fun s => s.data.toList) = ns := by
      rw [show (strB ∘ fun s : ByteArray => s.data.toList) = id from funext strB_list, List.map_id]
    rw [h5] at h4; exact h4
  · unfold Strs.Own
    rw [List.length_map]
    have h6 : Strs.scells (ls.map strB) = ls.map encStr := by
      unfold Strs.scells
      rw [List.map_map]
      rfl
    rw [h6]; exact hrow
end
end Go.Proofs.Ytbfbjolggilfoaa.Flip

/- What spec.l01Long and l01Text return and leave alone. -/
import Derived.Test.YtcagffcmnpakjaaDoorDrawInt
import Derived.Test.YtcagffcmnpakjaaDoorBytes
import Derived.Deep.AppendLies
import Derived.Laws.MakeOwn
import Derived.OwnWalk
namespace Go.Proofs.YtcagffcmnpakjaaDoor.Draw
open Go.ChangeShapes Go.WideShapes Go.ChangeAt Go.RowKit Go.Proofs.YtcagffcmnpakjaaDoor.Bytes
set_option linter.unusedVariables false

/-- Block b holds the bytes l. -/
def HasBytes (w : World) (b : Nat) (l : List UInt8) : Prop := w.heap[b]? = some (.cells (bcells l).toArray 5 (0, 0))

theorem made_bytes (n : Nat) : madeCells #[Value.int .u8 0] n = (bcells (List.replicate n 0)).toArray := by
  apply Array.ext
  · simp [size_madeCells, bcells]
  · intro i h1 h2
    simp [madeCells, bcells, Nat.mod_one]

theorem HasBytes.cell {w : World} {b i : Nat} {l : List UInt8} (h : HasBytes w b l) (hi : i < l.length) : w.cell? ⟨b, i, none⟩ = some (.int .u8 (l[i].toNat : Int)) := by
  unfold HasBytes at h
  simp [World.cell?, h, bcells, hi]

theorem HasBytes.free {w : World} {b i : Nat} {l : List UInt8} (h : HasBytes w b l) : w.frozen? ⟨b, i, none⟩ = false := by
  unfold HasBytes at h
  simp [World.frozen?, h]

theorem HasBytes.set {w : World} {b i : Nat} {l : List UInt8} (h : HasBytes w b l) (x : UInt8) : HasBytes (w.setCell ⟨b, i, none⟩ (.int .u8 (x.toNat : Int))) b (l.set i x) := by
  unfold HasBytes at h ⊢
  rw [heap_setCell_at _ _ _ _ _ _ _ h]
  simp [bcells, List.map_set]

theorem HasBytes.string {w : World} {b cap : Nat} {l : List UInt8} (h : HasBytes w b l) :
    (Go.convert 22 9 (.slice (some ⟨b, 0, none⟩) l.length cap)).run Tryd.prog w = .ok (.string ⟨l.toArray⟩) w := by
  refine run_convert_bytes_back (P := Tryd.prog) w 22 9 5 ⟨b, 0, none⟩ cap l Tryd.underlying22 Tryd.underlying5 Tryd.underlying9 ?_
  intro j hj
  have hc := h.cell hj
  by_cases h0 : j = 0
  · subst h0; simpa [Addr.add] using hc
  · simpa [Addr.add, h0] using hc

theorem long_get (n : Nat) (x : UInt8) (hn : n ≤ 1000000) (w : World) {Q : Ending → World → Prop}
    (h : ∀ (s : ByteArray) (w' : World), s.size = n → Below w.heap.size w w' → w.grownBy w' none → Q (.returned (.string s)) w') :
    Calls Tryd.prog 27 #[.int .i64 (n : Int), .int .u8 (x.toNat : Int)] w Q := by
  have H := Lib.hid h; clear h
  obtain ⟨i0, hi, hz0, hz1, hz2⟩ := info_parts info_u8
  have hmk := run_make (P := Tryd.prog) w 22 5 i0 _ Tryd.underlying22 hi hz0 .i64 .i64 (n : Int) (n : Int) (by omega) (Int.le_refl _) (by rw [hz2]; omega) (by omega)
  simp only [Int.toNat_natCast, hz1, Nat.mul_one] at hmk
  have hmc : madeCells (Value.int .u8 0).cells n = (bcells (List.replicate n 0)).toArray := made_bytes n
  rw [hmc] at hmk
  clear hmc
  have hb0 : HasBytes (w.alloc (.cells (bcells (List.replicate n 0)).toArray 5 (0, 0))) w.heap.size (List.replicate n 0) := heap_new w _
  have hg0 : w.grownBy (w.alloc (.cells (bcells (List.replicate n 0)).toArray 5 (0, 0))) none := World.grownBy_alloc w _ none
  have HB0 := Lib.hid hb0; clear hb0
  have HG0 := Lib.hid hg0; clear hg0
  go_enter Tryd.func27, Tryd.ntmps27
  go_wp2_with fail
  clear hmk
  go_loopw [6] (fun i wr => ∃ (k : Nat) (l : List UInt8), k ≤ n ∧ i = .int .i64 k ∧ Hid (l.length = n) ∧ Hid (HasBytes wr w.heap.size l) ∧ Hid (w.grownBy wr none)) (fun i _ => n - (intOf i).toNat)
  case atStart => exact ⟨0, List.replicate n 0, Nat.zero_le _, rfl, by show _ = _; simp, HB0, HG0⟩
  case round =>
    obtain ⟨k, l, hk, rfl, hl, hbl, hg⟩ := hrel
    by_cases hlt : k < n
    · have hk0 : (0 : Int) ≤ (k : Int) := Int.natCast_nonneg _
      have hk1 : (k : Int) < (n : Int) := by omega
      have hc := hbl.out.cell (i := k) (by rw [hl.out]; exact hlt)
      have hf := hbl.out.free (i := k)
      have hg2 : w.grownBy (wr.setCell ⟨w.heap.size, k, none⟩ (.int .u8 (x.toNat : Int))) none :=
        ⟨hg.out.os, hg.out.tape, hg.out.output, by simp [World.setCell]; exact hg.out.size, fun b hb _ => by rw [Below.heap_setCell _ _ _ _ (by show b ≠ w.heap.size; omega)]; exact hg.out.block b hb (by simp)⟩
      have HG2 := Lib.hid hg2; clear hg2
      have hb2 := hbl.out.set (i := k) x
      have HB2 := Lib.hid hb2; clear hb2
      go_wp2
      refine ⟨⟨k + 1, l.set k x, by omega, by go_num, ?_, HB2, HG2⟩, by simp [intOf]; omega⟩
      show _ = _
      rw [List.length_set, hl.out]
    · have hs := hbl.out.string (cap := n)
      rw [hl.out] at hs
      have hsz : (⟨l.toArray⟩ : ByteArray).size = n := by
        show l.toArray.size = n
        simp [hl.out]
      have HSZ := Lib.hid hsz; clear hsz
      have hbel : Below w.heap.size w wr := ⟨hg.out.os, hg.out.tape, hg.out.output, hg.out.size, fun b hb => hg.out.block b hb (by simp)⟩
      have HBEL := Lib.hid hbel; clear hbel
      go_wp2
      exact H.out _ _ HSZ.out HBEL.out hg.out

theorem text_get (k : Nat) (ca : Option Addr) (cl cc : Nat) (n : Nat) (hn : n ≤ 5000) (w : World) (hc : Cur w k ca cl cc) {Q : Ending → World → Prop}
    (h : ∀ (s : ByteArray) (w' : World), s.size = n → Cur w' k ca cl cc → w.grownBy w' (some k) → Q (.returned (.string s)) w') :
    Calls Tryd.prog 29 #[.pointer (some ⟨k, 0, none⟩), .int .i64 (n : Int)] w Q := by
  have H := Lib.hid h; clear h
  obtain ⟨i0, hi, hz0, hz1, hz2⟩ := info_parts info_u8
  have hkw := hc.lt
  have HC := Lib.hid hc; clear hc
  have hdn : decide ((5000 : Int) < (n : Int)) = false := by simp; omega
  go_enter Tryd.func29, Tryd.ntmps29
  go_wp2_with fail
  go_loopw [5, 6] (fun v i wr => ∃ (j : Nat) (l : List UInt8), j ≤ n ∧ i = .int .i64 j ∧ Hid (l.length = j) ∧ Hid (wr.ownsRow w.heap.size 5 1 v j (bcells l)) ∧ Hid (Cur wr k ca cl cc) ∧ Hid (w.grownBy wr (some k))) (fun _ i _ => n - (intOf i).toNat)
  case atStart => exact ⟨0, [], Nat.zero_le _, rfl, rfl, World.ownsRow_made w #[] 0 (Nat.le_refl _) (by unfold maxLen; omega) rfl, HC.out.alloc _, World.grownBy_alloc w _ _⟩
  case round =>
    obtain ⟨j, l, hj, rfl, hl, hown, hcw, hg⟩ := hrel
    by_cases hlt : j < n
    · go_wp2_with fail
      refine byte_get k ca cl cc _ hcw.out ?_
      intro x w1 x0 x1 hc1 g1
      have hne : u5.ownBlock = none ∨ u5.ownBlock ≠ some k := by
        right
        intro e
        have := (hown.out.lt k e).1
        omega
      have HO1 := Lib.hid (hown.out.kept g1 hne)
      have HG1 := Lib.hid (grownBy_trans hg.out g1)
      have hsz : w.heap.size ≤ w1.heap.size := HG1.out.size
      have HS := Lib.hid hsz; clear hsz g1
      have HC1 := Lib.hid hc1; clear hc1
      have hxx : ((UInt8.ofNat x.toNat).toNat : Int) = x := by simp; omega
      have hbn : bcells (l ++ [UInt8.ofNat x.toNat]) = bcells l ++ [.int .u8 x] := by rw [bcells_append, bcells_one, hxx]
      have HBN := Lib.hid hbn; clear hbn hxx
      go_wp2_with (at_builtin; refine wpList_append_own _ rfl _ _ 22 rfl w.heap.size 5 i0 _ 1 1 Tryd.underlying22 hi hz0 hz1 hz2 rfl (by decide) u5 j (bcells l) rfl (HO1.out.alloc _) ⟨w1.heap.size, 0, none⟩ 1 1 [.int .u8 x] rfl rfl ?c1 ?c2 ?c3 ?c4 ?c5 ?_)
      case c1 => exact World.news_of_block (cs := #[.int .u8 x]) (t := 5) (fr := (0, 0)) (heap_alloc_new w1 _)
      case c2 => simp [Value.oneCell']
      case c3 => unfold maxLen; omega
      case c4 => omega
      case c5 => have := HS.out; simp; omega
      intro v1 w2 hown1 hgrow _
      have hkb : ∀ b, b ≤ k → some b ≠ u5.ownBlock := fun b hb e => by have := (HO1.out.lt b e.symm).1; omega
      have HC2 := Lib.hid ((HC1.out.alloc _).kept hgrow (hkb k (Nat.le_refl _)) (fun b hb => hkb b (Nat.le_of_lt hb)))
      have hg2 : w.grownBy w2 (some k) := by
        refine ⟨hgrow.os.trans HG1.out.os, hgrow.tape.trans HG1.out.tape, hgrow.output.trans HG1.out.output, ?_, fun b hb hne => ?_⟩
        · have a1 := hgrow.size
          have a2 := HS.out
          simp at a1
          omega
        · have a2 := HS.out
          rw [hgrow.block b (by simp; omega) (fun e => by have := (HO1.out.lt b e.symm).1; omega)]
          rw [Below.heap_alloc _ _ _ (by omega)]
          exact HG1.out.block b hb hne
      have HG2 := Lib.hid hg2; clear hg2
      have HO2 := Lib.hid hown1
      clear hown1 hgrow hkb
      go_wp2
      go_roundw
      case rel => exact ⟨j + 1, l ++ [UInt8.ofNat x.toNat], by omega, by go_num, by show _ = _; simp [hl.out], by show World.ownsRow _ _ _ _ _ _ _; rw [HBN.out]; exact HO2.out, HC2, HG2⟩
      case measure => simp [intOf]; omega
    · have hconv := run_string_owned hown.out
      have hsz : (⟨l.toArray⟩ : ByteArray).size = n := by
        show l.toArray.size = n
        simp [hl.out]; omega
      have HSZ := Lib.hid hsz; clear hsz
      go_wp2
      exact H.out _ _ HSZ.out hcw.out hg.out
end Go.Proofs.YtcagffcmnpakjaaDoor.Draw

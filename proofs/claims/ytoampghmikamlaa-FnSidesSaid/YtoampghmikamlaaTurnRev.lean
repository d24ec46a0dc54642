/- What the program's rows in the opposite order are: slices.Clone and slices.Reverse of bytes, reversed of bytes and of strings. -/
import Derived.Test.YtoampghmikamlaaTurnMath
import Derived.Test.YtoampghmikamlaaBytes
import Derived.Test.YtoampghmikamlaaCardCopy3
import Derived.Lib.OwnBridge
import Derived.Sort.EncStr
import Derived.Sort.WalkB12
import Derived.Lib.SlicesMore
import Derived.Lib.SliceRun
import Derived.Deep.LoopGhost
import Derived.Lib.Walk
import Derived.Lib.ConvBytes
namespace Go.Proofs.Ytoampghmikamlaa.Turn
open Go.ChangeShapes Go.WideShapes Go.ChangeAt Go.RowKit Go.Sort
open Go.Proofs.Ytoampghmikamlaa.Strip Go.Proofs.Ytoampghmikamlaa.Strs Go.Proofs.Ytoampghmikamlaa.Card Go.Proofs.Ytoampghmikamlaa.Bytes
set_option linter.unusedVariables false


set_option maxRecDepth 100000 in
theorem revs_impl (base n c : Nat) (a : Option Addr) (l : List ByteArray) (w : World) (hn : n ≤ 1048576) (h : Own w base (.slice a n c) l) :
    Calls Try.prog 41 #[.slice a n c] w (GaveRow w l.reverse) := by
  obtain rfl := h.row2.1
  have HC := Lib.hid (clone_any base l.length c a l w hn h)
  clear h
  go_enter Try.func41, Try.ntmps41
  go_wp2_with fail
  refine HC.out.mono ?_
  rintro e w1 ⟨a1, c1, rfl, hb1, ho1⟩
  clear HC
  rcases ho1.shape with ⟨rfl, rfl, rfl⟩ | ⟨g, rfl⟩
  · go_wp2_with fail
    refine (Try.slices_Reverse_string_empty none 0 _).mono ?_
    rintro e w2 ⟨rfl, rfl⟩
    go_wp2
    go_ret
    exact ⟨none, 0, rfl, hb1, Own.nil _ _⟩
  · have hlen : (l.map (·.data.toList)).length = l.length := List.length_map ..
    have hown : w1.ownsRow w.heap.size 9 1 (.slice (some ⟨g, 0, none⟩) l.length c1) l.length ((l.map (·.data.toList)).map encStr) := by
      rw [Lib.map_encStr]; exact ho1
    obtain ⟨g', cap, e0, hbg, hlt, h1, h2, h3, hH⟩ := Lib.holds_of_ownsRow hown (by intro e; cases e)
    cases e0
    have hrev := Try.slices_Reverse_string g 0 c1 (l.map (·.data.toList)) w1 hH (by omega)
    rw [hlen] at hrev
    have HREV := Lib.hid hrev
    have hup : ∀ q, Own (putRow encStr (Sort.ahead w1 q) g 0 (l.map (·.data.toList)).reverse.toArray) w.heap.size (.slice (some ⟨g, 0, none⟩) l.length c1) l.reverse := fun q => by
      have := Lib.ownsRow_putRow (q := q) (k := l.length) (ys := (l.map (·.data.toList)).reverse) hown (by simp) (Nat.le_refl _)
      rw [List.take_of_length_le (by simp), show ((l.map (·.data.toList)).reverse.map encStr) = scells l.reverse by rw [← List.map_reverse, Lib.map_encStr]; rfl] at this
      unfold Own
      rw [List.length_reverse]
      exact this
    have HUP := Lib.hid hup
    have HBL := Lib.hid (fun q => Lib.below_putRow (enc := encStr) (q := q) (d := (l.map (·.data.toList)).reverse.toArray) hb1 hbg)
    clear hup hrev hown ho1 hH hb1 hlen
    go_wp2_with fail
    refine HREV.out.mono ?_
    rintro e w2 ⟨rfl, q, rfl⟩
    have HUQ := Lib.hid (HUP.out q)
    have HBQ := Lib.hid (HBL.out q)
    clear HUP HBL HREV
    generalize putRow encStr (Sort.ahead w1 q) g 0 (l.map (·.data.toList)).reverse.toArray = w2 at *
    go_wp2
    go_ret
    exact ⟨some ⟨g, 0, none⟩, c1, by rw [List.length_reverse]; rfl, HBQ.out, by rw [List.length_reverse]; exact HUQ.out⟩

/-- A byte in a cell. -/
def encU (b : UInt8) : Value := .int .u8 (b.toNat : Int)
theorem bcells_enc (l : List UInt8) : bcells l = l.map encU := rfl

set_option maxHeartbeats 2000000 in
set_option maxRecDepth 100000 in
theorem clone_bytes (b c : Nat) (xs : List UInt8) (w : World) (hx : xs.length ≤ 1048576) (hc : ∀ j (h : j < xs.length), w.cell? ⟨b, j, none⟩ = some (.int .u8 (xs[j].toNat : Int))) :
    Calls Try.prog 69 #[.slice (some ⟨b, 0, none⟩) xs.length c] w fun e w' => ∃ v', e = .returned v' ∧ w'.ownsRow w.heap.size 5 1 v' xs.length (bcells xs) ∧ v' ≠ .slice none 0 0 ∧ Below w.heap.size w w' := by
  obtain ⟨i0, hi, hz0, hz1, hz2⟩ := info_parts info_u8
  have q22 : ∀ (w : World) (a : Option Addr) (n c n' c' : Nat), (binOp .eql 22 (.slice a n c) (.slice none n' c')).run Try.prog w = .ok (.bool a.isNone) w := fun w a n c n' c' => Lib.run_eql_slice_nil w _ _ a n c n' c' Try.underlying22
  have HC := Lib.hid hc
  clear hc
  go_enter Try.func69, Try.ntmps69
  go_wp2_with (at_builtin; refine wpList_append_own _ rfl _ _ 22 rfl w.heap.size 5 i0 (.int .u8 0) 1 1 Try.underlying22 hi hz0 hz1 hz2 rfl (by decide) _ _ _ rfl (World.ownsRow_made w #[] 0 (Nat.le_refl _) (Nat.zero_le _) rfl) ⟨b, 0, none⟩ xs.length c (bcells xs) rfl ?qc1 ?qc2 ?qc3 ?qc4 ?qc5 ?qc6 ?_)
  case qc1 => simp [bcells]
  case qc2 =>
    intro j u hj
    have hjl : j < xs.length := by
      have := (List.getElem?_eq_some_iff.1 hj).1
      simpa [bcells] using this
    rw [Addr.add_lit]
    refine Lib.cell?_alloc_some _ ?_
    rw [Nat.zero_add, HC.out j hjl, ← hj]
    simp [bcells, hjl]
  case qc3 => intro u hu; obtain ⟨x, _, rfl⟩ := List.mem_map.1 hu; rfl
  case qc4 => unfold maxLen; omega
  case qc5 => omega
  case qc6 => simp
  intro v' w1 hown hgrow hnil
  go_wp2
  go_ret
  refine ⟨v', rfl, by simpa using hown, ?_, ?_⟩
  · exact hnil
  · exact ((Below.refl _ w).alloc (Nat.le_refl _) _).grown hgrow (by simp) (by intro k hk; simp [Value.ownBlock] at hk; omega)

set_option maxHeartbeats 1600000 in
set_option maxRecDepth 1000000 in
theorem reverse_arr (blk off cap : Nat) (d : Array UInt8) (w : World) (hH : Holds encU w blk off d) (hsz : d.size ≤ 9223372036854775807) :
    Calls Try.prog 70 #[.slice (some ⟨blk, off, none⟩) d.size cap] w fun e w' => e = .returned (.tuple #[]) ∧ ∃ n, w' = putRow encU (Sort.ahead w n) blk off d.reverse := by
  go_enter Try.func70, Try.ntmps70
  go_wp2
  go_loopg [2, 3] d.size (fun k s2 s3 wr => ∃ (i jn : Nat) (jz : Int) (dk : Array UInt8) (n : Nat), s2 = .int .i64 i ∧ s3 = .int .i64 jz ∧ ((i : Int) < jz → jz = jn ∧ jn < d.size) ∧ (¬ (i : Int) < jz → ¬ i < jn) ∧ jn - i ≤ k ∧
    dk.size = d.size ∧ wr = putRow encU (Sort.ahead w n) blk off dk ∧ reverseLoop i jn dk = reverseLoop 0 (d.size - 1) d)
  case atStart => exact ⟨0, d.size - 1, (d.size : Int) - 1, d, 0, rfl, rfl, fun h => ⟨by omega, by omega⟩, fun h => by omega, by omega, rfl, (putRow_self encU w blk off d hH).symm, rfl⟩
  case round =>
    obtain ⟨i, jn, jz, dk, n, rfl, rfl, h1, h2, hk, hds, hwr, heq⟩ := hrel
    by_cases hlt : (i : Int) < jz
    · obtain ⟨rfl, hjn⟩ := h1 hlt
      have hij : i < jn := by omega
      have hHk : Holds encU wr blk off dk := by rw [hwr]; exact holds_putRow encU _ blk off d dk (holds_ahead encU w n blk off d hH) hds
      obtain ⟨ci, fi⟩ := hHk i (by omega)
      obtain ⟨cj, fj⟩ := hHk jn (by omega)
      unfold encU at ci cj
      have A : Hid (wr = putRow encU (Sort.ahead w n) blk off dk) := Lib.hid hwr
      clear hwr hHk hH h1 h2
      go_wp2_with fail
      go_region
      go_wp2
      go_roundg (jn - 1 - (i + 1))
      case measure => omega
      case rel =>
        rw [reverseLoop, if_pos hij] at heq
        exact ⟨i + 1, jn - 1, (jn : Int) - 1, swp dk i jn, n + 1, by simp, rfl, fun h => ⟨by omega, by omega⟩, fun h => by omega, Nat.le_refl _, by rw [size_swp]; exact hds,
          swap_world encU (by omega) (by omega) A.out (by first | rfl | simp [encU, getElem!_pos, show jn < dk.size by omega]) (by first | rfl | simp [encU, getElem!_pos, show i < dk.size by omega]), heq⟩
    · have hnot := h2 hlt
      go_wp2
      go_end0
      refine ⟨rfl, n, ?_⟩
      rw [reverseLoop, if_neg hnot] at heq
      rw [← Lib.reverseLoop_reverse, ← heq]


set_option maxRecDepth 100000 in
theorem revb_impl (b c : Nat) (xs : List UInt8) (w : World) (hx : xs.length ≤ 1048576) (hc : ∀ j (h : j < xs.length), w.cell? ⟨b, j, none⟩ = some (.int .u8 (xs[j].toNat : Int))) :
    Calls Try.prog 44 #[.slice (some ⟨b, 0, none⟩) xs.length c] w fun e w' => ∃ g cap, e = .returned (.slice (some ⟨g, 0, none⟩) xs.length cap) ∧ (∀ j (h : j < xs.reverse.length), w'.cell? ⟨g, j, none⟩ = some (.int .u8 (xs.reverse[j].toNat : Int))) ∧ Below w.heap.size w w' := by
  have HC := Lib.hid (clone_bytes b c xs w hx hc)
  clear hc
  go_enter Try.func44, Try.ntmps44
  go_wp2_with fail
  refine HC.out.mono ?_
  rintro e w1 ⟨v1, rfl, hown, hnil, hb1⟩
  clear HC
  rw [bcells_enc] at hown
  obtain ⟨g, cap, rfl, hbg, hlt, h1, h2, h3, hH⟩ := Lib.holds_of_ownsRow hown hnil
  have hrev := reverse_arr g 0 cap xs.toArray w1 hH (by simp; omega)
  rw [List.size_toArray, List.reverse_toArray] at hrev
  have HREV := Lib.hid hrev
  have HCL := Lib.hid (show ∀ q j (h : j < xs.reverse.length), (putRow encU (Sort.ahead w1 q) g 0 xs.reverse.toArray).cell? ⟨g, j, none⟩ = some (.int .u8 (xs.reverse[j].toNat : Int)) from fun q j h => by
    have := Lib.ownsRow_putRow (q := q) (k := xs.length) (ys := xs.reverse) hown (by simp) (Nat.le_refl _)
    rw [this.cellAt j (by simpa using h), List.take_of_length_le (by simp), List.getElem?_map, List.getElem?_eq_getElem h]
    rfl)
  have HBL := Lib.hid (fun q => Lib.below_putRow (enc := encU) (q := q) (d := xs.reverse.toArray) hb1 hbg)
  clear hrev hown hnil hH hb1
  go_wp2_with fail
  refine HREV.out.mono ?_
  rintro e w2 ⟨rfl, q, rfl⟩
  have HCQ := Lib.hid (HCL.out q)
  have HBQ := Lib.hid (HBL.out q)
  clear HCL HBL HREV
  generalize putRow encU (Sort.ahead w1 q) g 0 xs.reverse.toArray = w2 at *
  go_wp2
  go_ret
  exact ⟨g, cap, rfl, HCQ.out, HBQ.out⟩
end Go.Proofs.Ytoampghmikamlaa.Turn

/- Rows of strings in memory; what laws.eqStringS, markText, markStringS and heldStringS return and leave alone. -/
import Derived.Test.YtfhpbgmnekhfeaaFmtSpec
import Derived.Deep.RegionHeld3
import Derived.BigQuiet
import Derived.Deep.QuietTactic
import Derived.OwnWalk
namespace Go.Proofs.Ytfhpbgmnekhfeaa.Strs
open Go.ChangeShapes Go.WideShapes Go.ChangeAt Go.RowKit Go.Proofs.Ytfhpbgmnekhfeaa.Bytes
set_option linter.unusedVariables false

/-- The first cells behind a are the strings l. -/
def Row (w : World) (a : Option Addr) (l : List ByteArray) : Prop :=
  ∀ j (h : j < l.length), ∃ g, a = some ⟨g, 0, none⟩ ∧ g < w.heap.size ∧ w.cell? ⟨g, j, none⟩ = some (.string l[j])

def scells (l : List ByteArray) : List Value := l.map Value.string

theorem Row.of_block {w : World} {g : Nat} {cur : Array Value} {T : TypeId} {m : Nat × Nat} {l : List ByteArray} (h : w.heap[g]? = some (.cells cur T m)) (ht : cur.toList.take l.length = scells l) : Row w (some ⟨g, 0, none⟩) l := by
  intro j hj
  refine ⟨g, rfl, (Array.getElem?_eq_some_iff.1 h).1, ?_⟩
  have h2 : (cur.toList.take l.length)[j]? = (scells l)[j]? := by rw [ht]
  rw [List.getElem?_take_of_lt hj] at h2
  simp [scells, hj] at h2
  simp [World.cell?, h, h2]

theorem Row.of_owns {w : World} {base n : Nat} {v : Value} {l : List ByteArray} (h : w.ownsRow base 9 1 v n (scells l)) : ∃ a cap, v = .slice a l.length cap ∧ Row w a l := by
  obtain ⟨hl, h1 | ⟨g, cap, cur, rfl, hg, hh, hnc, hcm, hcs, ht⟩⟩ := h
  · obtain ⟨rfl, rfl⟩ := h1
    have hl0 : l = [] := by simpa [scells] using hl
    subst hl0
    exact ⟨none, 0, rfl, fun j hj => by simp at hj⟩
  · have hn : l.length = n := by simpa [scells] using hl
    subst hn
    exact ⟨_, cap, rfl, Row.of_block hh (by simpa using ht)⟩

theorem Row.kept {w w' : World} {a : Option Addr} {l : List ByteArray} (h : Row w a l) (hb : w.grownBy w' none) : Row w' a l := by
  intro j hj
  obtain ⟨g, e, hg, hc⟩ := h j hj
  exact ⟨g, e, Nat.lt_of_lt_of_le hg hb.size, hb.cell hc (by simp)⟩

theorem Row.below {w w' : World} {a : Option Addr} {l : List ByteArray} (h : Row w a l) (hb : Below w.heap.size w w') : Row w' a l := by
  intro j hj
  obtain ⟨g, e, hg, hc⟩ := h j hj
  refine ⟨g, e, Nat.lt_of_lt_of_le hg hb.size, ?_⟩
  rw [hb.cell (p := ⟨g, j, none⟩) hg]; exact hc

theorem eq_yes (n ca cb : Nat) (a b : Option Addr) (l : List ByteArray) (hl : l.length = n) (hm : n ≤ maxLen) (w : World) (ha : Row w a l) (hb : Row w b l) :
    Calls Try.prog 40 #[.slice a n ca, .slice b n cb] w fun e w' => e = .returned (.bool true) ∧ ∃ q, w' = w.drewN q := by
  unfold maxLen at hm
  have HL := Lib.hid hl; clear hl
  have HA := Lib.hid ha; clear ha
  have HB := Lib.hid hb; clear hb
  go_enter Try.func40, Try.ntmps40
  go_wp2_with fail
  go_loopw [5] (fun i wr => ∃ k q : Nat, k ≤ n ∧ i = .int .i64 k ∧ wr = w.drewN q) (fun i _ => n - (intOf i).toNat)
  case atStart => exact ⟨0, 0, Nat.zero_le _, rfl, rfl⟩
  case round =>
    obtain ⟨k, q, hk, rfl, rfl⟩ := hrel
    by_cases hlt : k < n
    · obtain ⟨ga, rfl, hga, hca⟩ := HA.out k (by rw [HL.out]; exact hlt)
      obtain ⟨gb, rfl, hgb, hcb⟩ := HB.out k (by rw [HL.out]; exact hlt)
      generalize l[k]'_ = x at hca hcb
      have hk0 : (0 : Int) ≤ (k : Int) := Int.natCast_nonneg _
      have hk1 : (k : Int) < (n : Int) := by omega
      go_wp2_with fail
      go_quiet (fail)
      go_wp2
      go_roundw
      case rel => exact ⟨k + 1, _, by omega, by go_num, rfl⟩
      case measure => simp [intOf]; omega
    · go_wp2
      go_ret
      exact ⟨rfl, q, rfl⟩
end Go.Proofs.Ytfhpbgmnekhfeaa.Strs

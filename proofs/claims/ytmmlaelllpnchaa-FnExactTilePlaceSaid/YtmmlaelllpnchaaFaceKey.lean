/- Tiles as keys of a map: how a key reads; what a map of one's own gives at a key, and which entry a store turns. -/
import Derived.Test.YtmmlaelllpnchaaChecked
import Derived.WalkKit
import Derived.ProofKit
import Derived.Maps.RangeWalk
import Derived.Maps.OwnSet
import Derived.DeepKeys4
namespace Go.Proofs.Ytmmlaelllpnchaa.Face
open Go.ChangeShapes Go.WideShapes Go.ChangeAt Go.RowKit Go.Maps
set_option linter.unusedVariables false

abbrev tileT : TypeId := 41
theorem laidOut : laidOutB Try.prog = true := by kernel_rfl
theorem rowTile : (tileT : TypeId) < Try.prog.types.size := of_decide_eq_true (by kernel_rfl)
theorem wideTile : (match Try.prog.underlying tileT with | some (.array _ _) | some (.struct _) => true | _ => false) = true := by kernel_rfl
theorem keyAt2 : Try.prog.keyTypeAt 2 tileT = true := by kernel_rfl
theorem tile_law : WideMaps.KeyLaw Try.prog tileT := deep_law_laid (m := 2) (k := tileT) laidOut (by omega) rowTile keyAt2 (by rw [show Try.prog.underlying tileT = _ from Try.underlying41])
theorem tile_keyed : Keyed Try.prog tileT := Keyed.of_law tile_law

/-- A tile as a value; as a key. -/
def tv (a b : Int) : Value := .agg #[.int .i64 a, .int .i64 b]
def tk (a b : Int) : Lit := .string (keyBytes [.int .i64 a, .int .i64 b])
def wf (a : Int) : Prop := (Lit.int .i64 a).wf = true

theorem tile_formed (a b : Int) : (tv a b).formed Try.prog tileT = true := by
  have h : Try.prog.cellsOf tileT = 2 := by kernel_rfl
  unfold tv
  simp [Value.formed, Try.underlying41, h]

theorem tk_key {a b : Int} (ha : wf a) (hb : wf b) : keyOf Try.prog tileT (tv a b) = some (tk a b) := by
  have h1 : Try.prog.keyType tileT = true := by kernel_rfl
  have h2 : Try.prog.cellsOf tileT = 2 := by kernel_rfl
  have h3 : Try.prog.cellsOf 3 = 1 := by kernel_rfl
  obtain ⟨m, hm⟩ : ∃ m, Try.prog.types.size + 1 = m + 2 := ⟨Try.prog.types.size - 1, by have : 0 < Try.prog.types.size := Nat.lt_of_le_of_lt (Nat.zero_le _) rowTile; omega⟩
  unfold wf at ha hb
  unfold keyOf
  rw [Try.underlying41]
  simp only [h1, tile_formed, Bool.and_self, if_true, hm]
  simp [tv, tk, Value.cells, Program.keyLits, Try.underlying41, Try.underlying3, h2, h3, ha, hb]

theorem tk_inj {a b c d : Int} (ha : wf a) (hb : wf b) (hc : wf c) (hd : wf d) (h : tk a b = tk c d) : a = c ∧ b = d := by
  have h1 := tk_key ha hb
  have h2 := tk_key hc hd
  rw [← h] at h2
  have := tile_keyed.inj h1 h2
  unfold tv at this
  simpa using this

theorem tk_lit {a b : Int} (ha : wf a) (hb : wf b) : WideAt.IsKeyLit (tk a b) := tile_keyed.key (tk_key ha hb)

theorem wf_of {a : Int} (h1 : -(2 ^ 63) ≤ a) (h2 : a < 2 ^ 63) : wf a := by
  unfold wf
  exact WalkArith.wf_i64 (by omega)

theorem sameKey_iff {a b c d : Int} (ha : wf a) (hb : wf b) (hc : wf c) (hd : wf d) : (tk a b).sameKey (tk c d) = decide (a = c ∧ b = d) := by
  by_cases e : a = c ∧ b = d
  · obtain ⟨rfl, rfl⟩ := e
    rw [WideAt.sameKey_self (tk_lit ha hb)]; simp
  · rw [sameKey_ne (fun h => e (tk_inj ha hb hc hd h))]
    simp [e]
end Go.Proofs.Ytmmlaelllpnchaa.Face

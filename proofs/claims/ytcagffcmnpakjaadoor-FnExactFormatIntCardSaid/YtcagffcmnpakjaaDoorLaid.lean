/- What the rows' condition gives: the tables of Go's library as lists of numbers, also in later worlds. -/
import Derived.Test.YtcagffcmnpakjaaDoorRows
import Derived.Lib.LaidTab
import Derived.Lib.ItoaNum
import Derived.Stop.LaidErr
import Derived.LaidMore
import Derived.WalkSmall
import Derived.MakeChecks
import Derived.OpenShut
namespace Go.Proofs.YtcagffcmnpakjaaDoor.Laid
open Go.RowKit

theorem pow10_data : (Rows.laid_internal_strconv_uint64pow10 : DataW Unit) = Lib.tabData .u64 Lib.pow10Tab := by kernel_rfl
theorem gPow10 : Tryd.prog.globalNamed "internal/strconv.uint64pow10" = some 5 := by kernel_rfl

/-- The table of powers of ten. -/
def Pow10 (w : World) : Prop := Lib.TabIs Tryd.prog w "internal/strconv.uint64pow10" .u64 Lib.pow10Tab

theorem Pow10.below {w w' : World} {B : Nat} (h : Pow10 w) (hb : Below B w w') (hB : 5 < B) : Pow10 w' := var?_below hb gPow10 hB h
theorem Pow10.lt {w : World} (h : Pow10 w) : 5 < w.heap.size :=
  World.block_lt_of_cell? _ _ (h.cell gPow10 0 (by decide))

theorem pow10_third {x y : String × DataW Unit} {r : List (String × DataW Unit)} {w : World}
    (h : laidMet Tryd.prog (x :: y :: ("internal/strconv.uint64pow10", Rows.laid_internal_strconv_uint64pow10) :: r) w) : Pow10 w := by
  have h3 := h.tail.tail
  rw [pow10_data] at h3
  exact Lib.tabIs_of_head gPow10 (by kernel_rfl) Tryd.underlying100 Tryd.underlying76 (by kernel_rfl) (by kernel_rfl) h3

/-- The two errors of strconv hold some interface value. -/
def Sent (w : World) : Prop := (∃ tp p, w.var? Tryd.prog "strconv.ErrRange" = some #[.iface tp p]) ∧ (∃ tp p, w.var? Tryd.prog "strconv.ErrSyntax" = some #[.iface tp p])
theorem gRange : Tryd.prog.globalNamed "strconv.ErrRange" = some 4 := by kernel_rfl
theorem gSyn : Tryd.prog.globalNamed "strconv.ErrSyntax" = some 3 := by kernel_rfl

theorem Sent.below {w w' : World} {B : Nat} (h : Sent w) (hb : Below B w w') (h1 : 4 < B) (h2 : 3 < B) : Sent w' := by
  obtain ⟨⟨t1, p1, e1⟩, ⟨t2, p2, e2⟩⟩ := h
  exact ⟨⟨t1, p1, var?_below hb gRange h1 e1⟩, ⟨t2, p2, var?_below hb gSyn h2 e2⟩⟩

theorem star : "*" ++ "errors.errorString" = "*errors.errorString" := by decide
theorem row_errorString (u : TypeId) (h : Tryd.prog.typeName? 3 u = some "*errors.errorString") : u = 105 :=
  typeName_ptr_named (nm := "errors.errorString") (by rw [star]; kernel_rfl) (by kernel_rfl) (by decide) u (by rw [star]; exact h)

theorem sent_behind {x y z : String × DataW Unit} {w : World}
    (h : laidMet Tryd.prog (x :: y :: z :: ("strconv.ErrRange", Rows.laid_strconv_ErrRange) :: ("strconv.ErrSyntax", Rows.laid_strconv_ErrSyntax) :: []) w) : Sent w := by
  have h4 := h.tail.tail.tail
  have h5 := h4.tail
  obtain ⟨a, s, hv, _⟩ := laid_sentinel h4 gRange (by kernel_rfl) Tryd.underlying48 row_errorString Tryd.underlying105 Tryd.underlying107 rfl rfl Tryd.underlying9 (by kernel_rfl) (by kernel_rfl)
  obtain ⟨a2, s2, hv2, _⟩ := laid_sentinel h5 gSyn (by kernel_rfl) Tryd.underlying48 row_errorString Tryd.underlying105 Tryd.underlying107 rfl rfl Tryd.underlying9 (by kernel_rfl) (by kernel_rfl)
  exact ⟨⟨_, _, hv⟩, ⟨_, _, hv2⟩⟩
end Go.Proofs.YtcagffcmnpakjaaDoor.Laid

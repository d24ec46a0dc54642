/- What the rows' condition gives: the tables of Go's library as lists of numbers, also in later worlds. -/
import Derived.Test.YtcagffcmnpakjaaDoorRows
import Derived.Lib.LaidTab
import Derived.Lib.ItoaNum
import Derived.Stop.LaidErr
import Derived.LaidMore
import Derived.WalkSmall
import Derived.MakeChecks
import Derived.OpenShut
namespace Go.Proofs.YtcagffcmnpakjaaDoor.Laid
open Go.RowKit

theorem pow10_data : (Rows.laid_internal_strconv_uint64pow10 : DataW Unit) = Lib.tabData .u64 Lib.pow10Tab := by kernel_rfl
theorem gPow10 : Tryd.prog.globalNamed "internal/strconv.uint64pow10" = some 5 := by kernel_rfl

/-- The table of powers of ten. -/
def Pow10 (w : World) : Prop := Lib.TabIs Tryd.prog w "internal/strconv.uint64pow10" .u64 Lib.pow10Tab

theorem Pow10.below {w w' : World} {B : Nat} (h : Pow10 w) (hb : Below B w w') (hB : 5 < B) : Pow10 w' := var?_below hb gPow10 hB h
theorem Pow10.lt {w : World} (h : Pow10 w) : 5 < w.heap.size :=
  World.block_lt_of_cell? _ _ (h.cell gPow10 0 (by decide))

theorem pow10_third {x y : String × DataW Unit} {r : List (String × DataW Unit)} {w : World}
    (h : laidMet Tryd.prog (x :: y :: ("internal/strconv.uint64pow10", Rows.laid_internal_strconv_uint64pow10) :: r) w) : Pow10 w := by
  have h3 := h.tail.tail
  rw [pow10_data] at h3
  exact Lib.tabIs_of_head gPow10 (by kernel_rfl) Tryd.underlying100 Tryd.underlying76 (by kernel_rfl) (by kernel_rfl) h3
end Go.Proofs.YtcagffcmnpakjaaDoor.Laid

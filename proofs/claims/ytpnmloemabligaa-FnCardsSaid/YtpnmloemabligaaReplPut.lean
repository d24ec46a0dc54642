/- What slices.Replace returns where one string is put in. -/
import Derived.Test.YtpnmloemabligaaIns2
namespace Go.Proofs.Ytpnmloemabligaa.Strs
open Go.ChangeShapes Go.WideShapes Go.ChangeAt Go.RowKit
set_option linter.unusedVariables false

set_option maxRecDepth 100000 in
set_option maxHeartbeats 400000 in
theorem replace_put (g n cap base k vb : Nat) (s : ByteArray) (l : List ByteArray) (w : World) (hk : k ≤ n) (hn : n ≤ 1048576) (h : Own w base (.slice (some ⟨g, 0, none⟩) n cap) l) (hv : w.heap[vb]? = some (.cells #[.string s] 9 (0, 0))) (hne : vb ≠ g) :
    Calls Try.prog 62 #[.slice (some ⟨g, 0, none⟩) n cap, .int .i64 (k : Int), .int .i64 (k : Int), .slice (some ⟨vb, 0, none⟩) 1 1] w (Replaced w base (.slice (some ⟨g, 0, none⟩) n cap) (putIn l k s)) := by
  have HI := Lib.hid (insert_any hk hn h hv hne)
  obtain ⟨cs, hh, hgb, hnc, hcm, hcs, hln, hcell⟩ := h.block
  unfold maxLen at hcm
  have hk0 : (0 : Int) ≤ (k : Int) := Int.natCast_nonneg _
  have hk1 : (k : Int) ≤ (n : Int) := by omega
  have hk3 : (n : Int) ≤ (cap : Int) := by omega
  have hk4 : (cap : Int) ≤ 9223372036854775807 := by omega
  clear hh hgb hcs hcell h hln hv
  by_cases hck : cap = k
  · subst hck
    go_enter Try.func62, Try.ntmps62
    go_wp2_with fail
    refine HI.out.mono ?_
    rintro e w' ⟨a, c, rfl, ho, hg⟩
    have HO := Lib.hid ho
    have HG := Lib.hid hg
    clear ho hg
    go_wp2
    go_ret
    exact ⟨a, c, rfl, HO.out, HG.out⟩
  · skip
    go_enter Try.func62, Try.ntmps62
    go_wp2_with fail
    refine HI.out.mono ?_
    rintro e w' ⟨a, c, rfl, ho, hg⟩
    have HO := Lib.hid ho
    have HG := Lib.hid hg
    clear ho hg
    go_wp2
    go_ret
    exact ⟨a, c, rfl, HO.out, HG.out⟩
end Go.Proofs.Ytpnmloemabligaa.Strs

/- What spec.DrawEncodeHex returns and leaves alone. -/
import Derived.Test.YtcagffcmnpakjaaDoorDrawText
namespace Go.Proofs.YtcagffcmnpakjaaDoor.Draw
open Go.ChangeShapes Go.WideShapes Go.ChangeAt Go.RowKit
set_option linter.unusedVariables false

theorem long_at (n x : Int) (n0 : 0 ≤ n) (n1 : n ≤ 1000000) (x0 : 0 ≤ x) (x1 : x ≤ 255) (w : World) {Q : Ending → World → Prop}
    (h : ∀ (s : ByteArray) (w' : World), (s.size : Int) = n → Below w.heap.size w w' → w.grownBy w' none → Q (.returned (.string s)) w') :
    Calls Tryd.prog 27 #[.int .i64 n, .int .u8 x] w Q := by
  obtain ⟨m, rfl⟩ := Int.eq_ofNat_of_zero_le n0
  have hx : x = ((UInt8.ofNat x.toNat).toNat : Int) := by simp; omega
  rw [hx]
  exact long_get m _ (by omega) w fun s w' hs hb hg => h s w' (by omega) hb hg

theorem text_at (k : Nat) (ca : Option Addr) (cl cc : Nat) (n : Int) (n0 : 0 ≤ n) (n1 : n ≤ 5000) (w : World) (hc : Cur w k ca cl cc) {Q : Ending → World → Prop}
    (h : ∀ (s : ByteArray) (w' : World), (s.size : Int) = n → Cur w' k ca cl cc → w.grownBy w' (some k) → Q (.returned (.string s)) w') :
    Calls Tryd.prog 29 #[.pointer (some ⟨k, 0, none⟩), .int .i64 n] w Q := by
  obtain ⟨m, rfl⟩ := Int.eq_ofNat_of_zero_le n0
  exact text_get k ca cl cc m (by omega) w hc fun s w' hs h1 h2 => h s w' (by omega) h1 h2

theorem drawEnc_get (ca : Option Addr) (cl cc : Nat) (w : World) (hm : cl ≤ maxLen) (hr : RowIn w ca cl) {Q : Ending → World → Prop}
    (h : ∀ (s : ByteArray) (w' : World), s.size ≤ 20001 → Below w.heap.size w w' → Q (.returned (.string s)) w') :
    Calls Tryd.prog 10 #[.slice ca cl cc] w Q := by
  have H := Lib.hid h; clear h
  have hm' := hm
  unfold maxLen at hm'
  go_enter Tryd.func10, Tryd.ntmps10
  go_wp2_with fail
  refine new_get ca cl cc w hm hr ?_
  intro k w1 hk hk1 hc1 hb1
  have HB1 := Lib.hid hb1; clear hb1
  go_wp2_with fail
  refine once_get k ca cl cc 60 (by omega) _ hc1 ?_
  intro x w2 hc2 g2
  have HB2 := Lib.hid (below_of_grown HB1.out g2 hk hc1.lt); clear g2
  cases x
  · go_wp2_with fail
    refine below_get k ca cl cc 30 (by omega) _ hc2 ?_
    intro y w3 y0 y1 hc3 g3
    have HB3 := Lib.hid (below_of_grown HB2.out g3 hk hc2.lt); clear g3
    go_wp2_with fail
    refine text_at k ca cl cc y y0 (by omega) _ hc3 ?_
    intro s w4 hs hc4 g4
    have HB4 := Lib.hid (below_of_grown HB3.out g4 hk hc3.lt); clear g4
    have hs' : s.size ≤ 20001 := by omega
    clear hs
    go_wp2
    exact H.out _ _ hs' HB4.out
  · go_wp2_with fail
    refine below_get k ca cl cc 2 (by omega) _ hc2 ?_
    intro y w3 y0 y1 hc3 g3
    have HB3 := Lib.hid (below_of_grown HB2.out g3 hk hc2.lt); clear g3
    go_wp2_with fail
    refine long_at _ _ (by omega) (by omega) (by omega) (by omega) _ ?_
    intro s w4 hs hb4 _
    have HB4 := Lib.hid (HB3.out.trans (hb4.mono HB3.out.size)); clear hb4
    have hs' : s.size ≤ 20001 := by omega
    clear hs
    go_wp2
    exact H.out _ _ hs' HB4.out
end Go.Proofs.YtcagffcmnpakjaaDoor.Draw

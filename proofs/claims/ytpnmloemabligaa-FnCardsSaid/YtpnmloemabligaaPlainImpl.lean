/- What impl.PlainCard returns. -/
import Derived.Test.YtpnmloemabligaaCardEnd
import Derived.Test.YtpnmloemabligaaRept
namespace Go.Proofs.Ytpnmloemabligaa.Card
open Go.ChangeShapes Go.WideShapes Go.ChangeAt Go.RowKit
open Go.Proofs.Ytpnmloemabligaa.Strip Go.Proofs.Ytpnmloemabligaa.Strs
set_option linter.unusedVariables false

def flatS (d f : Int) : ByteArray := ⟨(flatL d f).toArray⟩
def plainB (d f n : Int) : Bool := decide (1 ≤ n ∧ n ≤ 10) && cardB d f (List.replicate n.toNat (flatS d f))
def plainD (d f n : Int) : Int := if plainB d f n = true then d else 0
def plainF (d f n : Int) : Int := if plainB d f n = true then f else 0
def plainL (d f n : Int) : List ByteArray := if plainB d f n = true then List.replicate n.toNat (flatS d f) else []

theorem flatS_size (d f : Int) : (flatS d f).size ≤ 16 := by
  unfold flatS flatL
  split
  · rename_i h
    obtain ⟨h1, h2, h3, h4⟩ := frameB_iff.1 h
    simp [ByteArray.size]
    omega
  · simp [ByteArray.size]

/-- The post, behind a name. -/
def PlainPost (w : World) (d f n : Int) (e : Ending) (w' : World) : Prop := Gave2 w (plainD d f n) (plainF d f n) (plainL d f n) (plainB d f n) e w'
theorem plain_no {w w' : World} {d f n : Int} (h : plainB d f n = false) (hb : Below w.heap.size w w') : PlainPost w d f n (.returned (.tuple #[.agg #[.int .i64 0, .int .i64 0, .slice none 0 0], .bool false])) w' := by
  unfold PlainPost plainD plainF plainL
  rw [if_neg (by rw [h]; simp), if_neg (by rw [h]; simp), if_neg (by rw [h]; simp), h]
  exact ⟨none, 0, rfl, hb, Own.nil _ _⟩
theorem plain_yes {w w' : World} {d f n : Int} {a : Option Addr} {c : Nat} {l : List ByteArray} (h : plainB d f n = true) (hl : l = List.replicate n.toNat (flatS d f)) (hb : Below w.heap.size w w') (ho : Own w' w.heap.size (.slice a l.length c) l) :
    PlainPost w d f n (.returned (.tuple #[.agg #[.int .i64 d, .int .i64 f, .slice a l.length c], .bool true])) w' := by
  unfold PlainPost plainD plainF plainL
  rw [if_pos h, if_pos h, if_pos h, h]
  subst hl
  exact ⟨a, c, rfl, hb, ho⟩

theorem begin1 (w : World) : ∃ W, W = w.alloc (.cells #[.int .i64 0, .int .i64 0, .slice none 0 0] 26) ∧ Var W w.heap.size 0 0 (.slice none 0 0) ∧ Below w.heap.size w W ∧ W.heap.size = w.heap.size + 1 :=
  ⟨_, rfl, Var.new w 0 0 (.slice none 0 0), alloc_below _ _, by simp⟩

set_option maxRecDepth 100000 in
set_option maxHeartbeats 1000000 in
theorem plain_out (d f n : Int) (w : World) (h : ¬ (0 ≤ n ∧ n ≤ 10)) :
    Calls Try.prog 19 #[.int .i64 d, .int .i64 f, .int .i64 n] w (PlainPost w d f n) := by
  have HNO := Lib.hid (show plainB d f n = false by unfold plainB; rw [decide_eq_false (by omega)]; rfl)
  obtain ⟨W, hW, hv, hb, hs⟩ := begin1 w
  have HW := Lib.hid hW
  have HV := Lib.hid hv
  have HB := Lib.hid hb
  clear hW hv hb
  by_cases hneg : n < 0
  all_goals
    first | (have hd1 : decide (n < 0) = true := by simpa using hneg) | (have hd1 : decide (n < 0) = false := by simpa using hneg)
    first | (have hd3 : n < 0 := hneg) | (have hd3 : (10 : Int) < n := by omega)
    clear h hneg
    obtain ⟨k0, k1, k2⟩ := HV.out.cells
    have f0 := HV.out.free 0
    have f1 := HV.out.free 1
    have f2 := HV.out.free 2
    go_enter Try.func19, Try.ntmps19
    go_wp2
    rw [← HW.out]
    exact bodyPost_ret (v := .tuple #[.agg #[.int .i64 0, .int .i64 0, .slice none 0 0], .bool false]) (by simp [results, Try.results19, go_sem, k0, k1, k2]) rfl (plain_no HNO.out HB.out)

set_option maxRecDepth 100000 in
set_option maxHeartbeats 1000000 in
theorem plain_in (d f : Int) (n : Nat) (w : World) (hn : n ≤ 10) :
    Calls Try.prog 19 #[.int .i64 d, .int .i64 f, .int .i64 (n : Int)] w (PlainPost w d f (n : Int)) := by
  have HFL := Lib.hid (show ∀ w' : World, Calls Try.prog 45 #[.int .i64 d, .int .i64 f] w' fun e w'' => e = .returned (.string (flatS d f)) ∧ Below w'.heap.size w' w'' from fun w' => flat_impl d f w')
  have HSZ := Lib.hid (flatS_size d f)
  have HPB := Lib.hid (show plainB d f (n : Int) = cardB d f (List.replicate n (flatS d f)) by
    unfold plainB
    by_cases h1 : 1 ≤ n
    · rw [decide_eq_true (by omega)]; simp
    · have : n = 0 := by omega
      subst this
      have e := cardB_len (d := d) (f := f) (l := []) (by simp)
      simp [e])
  have HNE := Lib.hid (show (List.replicate n (flatS d f)) = List.replicate (n : Int).toNat (flatS d f) by simp)
  obtain ⟨W, hW, hv, hb, hs⟩ := begin1 w
  have HW := Lib.hid hW
  have HV := Lib.hid hv
  have HB := Lib.hid hb
  clear hW hv hb hs
  have hn0 : (0 : Int) ≤ (n : Int) := Int.natCast_nonneg _
  have hn1 : (n : Int) ≤ 10 := by omega
  generalize hfs : flatS d f = s at HFL HSZ HPB HNE
  have HFS := Lib.hid hfs; clear hfs
  go_enter Try.func19, Try.ntmps19
  go_wp2_with fail
  rw [← HW.out]
  clear HW
  refine (HFL.out _).mono ?_
  rintro e w1 ⟨rfl, hb1⟩
  have HV := Lib.hid (HV.out.below hb1)
  have HB1 := Lib.hid (HB.out.trans (hb1.mono HB.out.size))
  clear hb1 HB
  go_wp2_with fail
  have hx0 := heap_alloc_new w1 (.cells #[.string s] 9)
  have hb := alloc_below w1 (.cells #[.string s] 9)
  have HV := Lib.hid (HV.out.below hb)
  have HB2 := Lib.hid (HB1.out.trans (hb.mono HB1.out.size))
  have HREP := Lib.hid (repeat_any w1.heap.size n s _ hn hx0)
  clear hx0 hb HB1
  generalize (w1.alloc (.cells #[.string s] 9)) = w2 at *
  (with_reducible refine HREP.out.mono ?_)
  rintro e w3 ⟨a3, c3, rfl, hb3, ho3⟩
  have HV := Lib.hid (HV.out.below hb3)
  have HB3 := Lib.hid (HB2.out.trans (hb3.mono HB2.out.size))
  have HO3 := Lib.hid (ho3.mono (base2 := w.heap.size) HB2.out.size)
  clear hb3 ho3 HB2
  have hlen : (List.replicate n s).length = n := List.length_replicate ..
  have hgood : ∀ t ∈ List.replicate n s, t.size ≤ 1048576 := fun t ht => by rw [List.eq_of_mem_replicate ht]; have := HSZ.out; omega
  have HLEN := Lib.hid hlen
  have HGOOD := Lib.hid hgood
  clear hlen hgood
  generalize List.replicate n s = l at *
  have hv0 := Var.new w3 d f (.slice a3 l.length c3)
  have hb := alloc_below w3 (.cells #[.int .i64 d, .int .i64 f, .slice a3 l.length c3] 26)
  have HV := Lib.hid (HV.out.below hb)
  have HO3 := Lib.hid (HO3.out.below hb)
  have HB3 := Lib.hid (HB3.out.trans (hb.mono HB3.out.size))
  have HVC := Lib.hid hv0
  clear hv0 hb
  go_wp2_with fail
  generalize (w3.alloc (.cells #[.int .i64 d, .int .i64 f, .slice a3 l.length c3] 26)) = w4 at *
  refine (ok_impl d f a3 l.length c3 l _ rfl (by have := HLEN.out; omega) HGOOD.out HO3.out.row2.2).mono ?_
  rintro e w5 ⟨rfl, hb5⟩
  have HV := Lib.hid (HV.out.below hb5)
  have HVC := Lib.hid (HVC.out.below hb5)
  have HO5 := Lib.hid (HO3.out.below hb5)
  have HB5 := Lib.hid (HB3.out.trans (hb5.mono HB3.out.size))
  clear hb5 HB3 HO3
  cases hc : cardB d f l with
  | true =>
    have HC := Lib.hid (HPB.out.trans hc)
    clear hc
    obtain ⟨g0, g1, g2⟩ := HVC.out.cells
    have hx : ∃ Z, Z = Card.set3 w5 w.heap.size d f (.slice a3 l.length c3) ∧ Var Z w.heap.size d f (.slice a3 l.length c3) ∧ Below w.heap.size w Z ∧ Own Z w.heap.size (.slice a3 l.length c3) l := ⟨_, rfl, HV.out.set3 _ _ _, below_set3 HB5.out (Nat.le_refl _), (Own.aside3 HO5.out HV.out).mono (Nat.le_refl _)⟩
    obtain ⟨Z, hZ, hz1, hz2, hz3⟩ := hx
    unfold set3 at hZ
    obtain ⟨p0, p1, p2⟩ := HV.out.cells
    have f0 := HV.out.free 0
    have f1 := HV.out.free 1
    have f2 := HV.out.free 2
    have HZZ := Lib.hid hZ
    have HZ1 := Lib.hid hz1
    have HZ2 := Lib.hid hz2
    have HZ3 := Lib.hid hz3
    clear hZ hz1 hz2 hz3
    go_wp2_with fail
    clear g0 g1 g2
    rw [← HZZ.out]
    clear HZZ p0 p1 p2 f0 f1 f2
    obtain ⟨z0, z1, z2⟩ := HZ1.out.cells
    refine bodyPost_ret (v := .tuple #[.agg #[.int .i64 d, .int .i64 f, .slice a3 l.length c3], .bool true]) (by simp [results, Try.results19, go_sem, z0, z1, z2]) rfl ?_
    exact plain_yes HC.out (by rw [HFS.out]; exact HNE.out) HZ2.out HZ3.out
  | false =>
    have HC := Lib.hid (HPB.out.trans hc)
    clear hc
    have hx : ∃ Z, Z = Card.set3 w5 w.heap.size 0 0 (.slice none 0 0) ∧ Var Z w.heap.size 0 0 (.slice none 0 0) ∧ Below w.heap.size w Z := ⟨_, rfl, HV.out.set3 _ _ _, below_set3 HB5.out (Nat.le_refl _)⟩
    obtain ⟨Z, hZ, hz1, hz2⟩ := hx
    unfold set3 at hZ
    obtain ⟨p0, p1, p2⟩ := HV.out.cells
    have f0 := HV.out.free 0
    have f1 := HV.out.free 1
    have f2 := HV.out.free 2
    have HZZ := Lib.hid hZ
    have HZ1 := Lib.hid hz1
    have HZ2 := Lib.hid hz2
    clear hZ hz1 hz2
    go_wp2_with fail
    rw [← HZZ.out]
    clear HZZ p0 p1 p2 f0 f1 f2
    obtain ⟨z0, z1, z2⟩ := HZ1.out.cells
    refine bodyPost_ret (v := .tuple #[.agg #[.int .i64 0, .int .i64 0, .slice none 0 0], .bool false]) (by simp [results, Try.results19, go_sem, z0, z1, z2]) rfl ?_
    exact plain_no HC.out HZ2.out

theorem plain_impl (d f n : Int) (w : World) : Calls Try.prog 19 #[.int .i64 d, .int .i64 f, .int .i64 n] w (PlainPost w d f n) := by
  by_cases h : 0 ≤ n ∧ n ≤ 10
  · obtain ⟨j, rfl⟩ := Int.eq_ofNat_of_zero_le h.1
    exact plain_in d f j w (by omega)
  · exact plain_out d f n w h
end Go.Proofs.Ytpnmloemabligaa.Card

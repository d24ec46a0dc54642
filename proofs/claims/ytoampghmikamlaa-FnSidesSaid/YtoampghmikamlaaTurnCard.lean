/- CARDS FROM OTHER SIDES: what is said of turned, mirrored and symmetric cards; what impl.TurnCard returns. -/
import Derived.Test.YtoampghmikamlaaTurnImpl
import Derived.Test.YtoampghmikamlaaCardEnd
import Derived.Test.YtoampghmikamlaaCardImpl2
import Derived.Test.YtoampghmikamlaaAppAny
namespace Go.Proofs.Ytoampghmikamlaa.Turn
open Go.ChangeShapes Go.WideShapes Go.ChangeAt Go.RowKit
open Go.Proofs.Ytoampghmikamlaa.Strip Go.Proofs.Ytoampghmikamlaa.Strs Go.Proofs.Ytoampghmikamlaa.Card Go.Proofs.Ytoampghmikamlaa.Order
set_option linter.unusedVariables false

def whenI (b : Bool) (x : Int) : Int := if b = true then x else 0
def whenL (b : Bool) (l : List ByteArray) : List ByteArray := if b = true then l else []
theorem whenL_size (b : Bool) (l : List ByteArray) : (whenL b l).length ≤ l.length := by unfold whenL; split <;> simp
/-- A card where b holds, the zero card where not; behind a name. -/
def GaveIf (b : Bool) (w : World) (d f : Int) (l : List ByteArray) (e : Ending) (w' : World) : Prop := Gave w (whenI b d) (whenI b f) (whenL b l) e w'
theorem gave_no {w w' : World} {d f : Int} {l : List ByteArray} (hb : Below w.heap.size w w') : GaveIf false w d f l (.returned (.agg #[.int .i64 0, .int .i64 0, .slice none 0 0])) w' :=
  ⟨none, 0, rfl, hb, Own.nil _ _⟩
theorem gave_yes {w w' : World} {d f : Int} {a : Option Addr} {c n : Nat} {l : List ByteArray} (hn : l.length = n) (hb : Below w.heap.size w w') (ho : Own w' w.heap.size (.slice a n c) l) :
    GaveIf true w d f l (.returned (.agg #[.int .i64 d, .int .i64 f, .slice a n c])) w' := by
  subst hn
  exact ⟨a, c, rfl, hb, ho⟩

/-- What TurnCard returns of the strips. -/
def turnC (l : List ByteArray) : List ByteArray := l.map turnS
theorem turnC_length (l : List ByteArray) : (turnC l).length = l.length := by unfold turnC; rw [List.length_map]
theorem turnC_succ (l : List ByteArray) (k : Nat) (h : k < l.length) : (turnC l).take (k + 1) = (turnC l).take k ++ [turnS l[k]] := by
  have hk : k < (turnC l).length := by rw [turnC_length]; exact h
  rw [List.take_succ_eq_append_getElem hk]
  simp [turnC]
def TurnPost (w : World) (d f : Int) (l : List ByteArray) : Ending → World → Prop := GaveIf (cardB d f l) w f d (turnC l)
def MirrorPost (w : World) (d f : Int) (l : List ByteArray) : Ending → World → Prop := GaveIf (cardB d f l) w d f l.reverse

set_option maxRecDepth 100000 in
set_option maxHeartbeats 8000000 in
theorem turnC_impl (d f : Int) (base n c : Nat) (a : Option Addr) (l : List ByteArray) (w : World) (hn : n ≤ 1048576) (hz : ∀ s ∈ l, s.size ≤ 1048576) (ha : Own w base (.slice a n c) l) :
    Calls Try.prog 13 #[.agg #[.int .i64 d, .int .i64 f, .slice a n c]] w (TurnPost w d f l) := by
  have hl : l.length = n := ha.row2.1.symm
  obtain ⟨W, hW, hv1, hv2, hbw, hs⟩ := begin2 w d f (.slice a n c)
  have HOK := Lib.hid (fun (w' : World) (h : Below w.heap.size w w') => ok_impl d f a n c l w' hl hn hz (ha.row2.2.since (Nat.le_refl _) h))
  have HV1 := Lib.hid hv1
  have HV2 := Lib.hid hv2
  have HB := Lib.hid hbw
  have HS := Lib.hid hs
  have HW := Lib.hid hW
  have HR := Lib.hid ha.row2.2
  have HL := Lib.hid hl
  have HZ := Lib.hid hz
  clear hv1 hv2 hbw hs hW hl hz ha
  unfold TurnPost
  cases hc : cardB d f l with
  | false =>
    rw [hc] at HOK
    clear hc
    go_enter Try.func13, Try.ntmps13
    go_wp2_with fail
    rw [← HW.out]
    clear HW
    obtain ⟨k0, k1, k2⟩ := HV1.out.cells
    go_wp2_with fail
    clear k0 k1 k2
    refine (HOK.out _ HB.out).mono ?_
    rintro e w1 ⟨rfl, hb1⟩
    have HV2 := Lib.hid (HV2.out.below hb1)
    have HB1 := Lib.hid (HB.out.trans (hb1.mono HB.out.size))
    clear hb1
    have hx : ∃ Z, Z = Card.set3 w1 (w.heap.size + 1) 0 0 (.slice none 0 0) ∧ Var Z (w.heap.size + 1) 0 0 (.slice none 0 0) ∧ Below w.heap.size w Z := ⟨_, rfl, HV2.out.set3 _ _ _, below_set3 HB1.out (by omega)⟩
    obtain ⟨Z, hZ, hz1, hz2⟩ := hx
    unfold set3 at hZ
    obtain ⟨p0, p1, p2⟩ := HV2.out.cells
    have f0 := HV2.out.free 0
    have f1 := HV2.out.free 1
    have f2 := HV2.out.free 2
    have HZZ := Lib.hid hZ
    have HZ1 := Lib.hid hz1
    have HZ2 := Lib.hid hz2
    clear hZ hz1 hz2
    go_wp2_with fail
    rw [← HZZ.out]
    clear HZZ p0 p1 p2 f0 f1 f2
    obtain ⟨z0, z1, z2⟩ := HZ1.out.cells
    refine bodyPost_ret (v := .agg #[.int .i64 0, .int .i64 0, .slice none 0 0]) (by simp [results, Try.results13, go_sem, z0, z1, z2]) rfl ?_
    exact gave_no HZ2.out
  | true =>
    have h10 : n ≤ 10 := by have := (cardB_iff.1 hc).2.2.1; rw [HL.out] at this; exact this
    rw [hc] at HOK
    clear hc
    go_enter Try.func13, Try.ntmps13
    go_wp2_with fail
    rw [← HW.out]
    clear HW
    obtain ⟨k0, k1, k2⟩ := HV1.out.cells
    go_wp2_with fail
    clear k0 k1 k2
    refine (HOK.out _ HB.out).mono ?_
    rintro e w1 ⟨rfl, hb1⟩
    have HV1 := Lib.hid (HV1.out.below hb1)
    have HV2 := Lib.hid (HV2.out.below hb1)
    have HB1 := Lib.hid (HB.out.trans (hb1.mono HB.out.size))
    have HS1 := Lib.hid (show w.heap.size + 2 ≤ w1.heap.size by have := hb1.size; have := HS.out; omega)
    clear hb1 HOK HB HS
    obtain ⟨k0, k1, k2⟩ := HV1.out.cells
    obtain ⟨m0, m1, m2⟩ := (HV1.out.below (alloc_below w1 (.cells #[.int .i64 f, .int .i64 d, .slice none 0 0] 26))).cells
    go_wp2_with fail
    clear k0 k1 k2 m0 m1 m2
    have hv0 := Var.new w1 f d (.slice none 0 0)
    have hb := alloc_below w1 (.cells #[.int .i64 f, .int .i64 d, .slice none 0 0] 26)
    have HV1 := Lib.hid (HV1.out.below hb)
    have HV2 := Lib.hid (HV2.out.below hb)
    have HB1 := Lib.hid (HB1.out.trans (hb.mono HB1.out.size))
    have HV4 := Lib.hid hv0
    clear hv0 hb
    generalize (w1.alloc (.cells #[.int .i64 f, .int .i64 d, .slice none 0 0] 26)) = W2 at *
    generalize w1.heap.size = B4 at *
    go_loopw [18] (fun i wr => ∃ (k : Nat) (ao : Option Addr) (co : Nat), k ≤ n ∧ i = .int .i64 (k : Int) ∧ Hid (Var wr w.heap.size d f (.slice a n c)) ∧ Hid (Var wr (w.heap.size + 1) 0 0 (.slice none 0 0)) ∧ Hid (Var wr B4 f d (.slice ao k co)) ∧ Hid (Own wr w.heap.size (.slice ao k co) ((turnC l).take k)) ∧ Hid (Below w.heap.size w wr)) (fun i _ => n - (intOf i).toNat)
    case atStart => exact ⟨0, none, 0, Nat.zero_le _, rfl, HV1, HV2, HV4, Own.nil _ _, HB1⟩
    case round =>
      clear HV1 HV2 HV4 HB1
      obtain ⟨k, ao, co, hk, rfl, V1, V2, V4, HO, HBR⟩ := hrel
      have hk0 : (0 : Int) ≤ (k : Int) := Int.natCast_nonneg _
      by_cases hlt : k < n
      · have hk1 : (k : Int) < (n : Int) := by omega
        have hkl : k < l.length := by rw [HL.out]; exact hlt
        obtain ⟨ga, rfl, hga, hca⟩ := Row.at HR.out HBR.out k hkl
        have HTS := Lib.hid (show ∀ w' : World, Calls Try.prog 16 #[.string l[k]] w' fun e w'' => e = .returned (.string (turnS l[k])) ∧ Below w'.heap.size w' w'' from fun w' => turn_impl l[k] w' (HZ.out _ (List.getElem_mem hkl)))
        have HSN := Lib.hid (turnC_succ l k hkl)
        generalize turnS l[k] = s at *
        generalize l[k] = x at *
        obtain ⟨o0, o1, o2⟩ := V4.out.cells
        have HPUSH := Lib.hid (show ∀ (w5 : World), Var w5 w.heap.size d f (.slice (some ⟨ga, 0, none⟩) n c) → Var w5 (w.heap.size + 1) 0 0 (.slice none 0 0) → Var w5 B4 f d (.slice ao k co) → Own w5 w.heap.size (.slice ao k co) ((turnC l).take k) → Below w.heap.size w w5 → ∃ gg cap w6, (∀ ty, (Builtin.append_ #[24, 24] ty #[.slice ao k co, .slice (some ⟨w5.heap.size, 0, none⟩) 1 1]).run Try.prog (w5.alloc (.cells #[.string s] 9)) = .ok (.slice (some ⟨gg, 0, none⟩) (k + 1) cap) w6) ∧ Var w6 w.heap.size d f (.slice (some ⟨ga, 0, none⟩) n c) ∧ Var w6 (w.heap.size + 1) 0 0 (.slice none 0 0) ∧ Var w6 B4 f d (.slice ao k co) ∧ Below w.heap.size w w6 ∧ Own w6 w.heap.size (.slice (some ⟨gg, 0, none⟩) (k + 1) cap) ((turnC l).take (k + 1)) from fun w5 v1 v2 v4 o5 b5 => by
          have hx := alloc_below w5 (.cells #[.string s] 9)
          have hbx := b5.alloc b5.size (.cells #[.string s] 9)
          have ox := o5.below hx
          obtain ⟨gg, cap, w6, hr6, ho6, hg6⟩ := push_own (w := w5.alloc (.cells #[.string s] 9)) (b := w5.heap.size) (s := s) ox (heap_alloc_new w5 (.cells #[.string s] 9)) (by omega) hbx.size
          refine ⟨gg, cap, w6, hr6, (v1.below hx).written ox hg6, (v2.below hx).written ox hg6, (v4.below hx).written ox hg6, ox.write_below hbx (Nat.le_refl _) hbx.size hg6, ?_⟩
          rw [HSN.out]
          exact ho6)
        go_wp2_with fail
        go_region_law ((first | (go_simp; go_at_call 16; refine (HTS.out _).mono ?_; rintro e w5 ⟨rfl, hb5'⟩; have hb5 := undrew hb5'; have V51 := Lib.hid (V1.out.below hb5); have V52 := Lib.hid (V2.out.below hb5); have V54 := Lib.hid (V4.out.below hb5); have O5 := Lib.hid (HO.out.below hb5); have B5 := Lib.hid (HBR.out.trans (hb5.mono HBR.out.size)); obtain ⟨q0, q1, q2⟩ := V54.out.cells; obtain ⟨qa0, qa1, qa2⟩ := ((V54.out.below (alloc_below w5 (.cells #[.string s] 9))).cells); clear hb5 hb5') | (obtain ⟨gg, cap, w6, hr6, v61, v62, v64, b6, o6⟩ := HPUSH.out w5 V51.out V52.out V54.out O5.out B5.out; refine step_append_run rfl (.tmp 23) (.tmp 26) _ _ rfl _ _ (by rfl) (by rfl) hr6 ?_; have V61 := Lib.hid v61; have V62 := Lib.hid v62; have V64 := Lib.hid v64; have B6 := Lib.hid b6; have O6 := Lib.hid o6; obtain ⟨r0, r1, r2⟩ := v64.cells; have fr := v64.free 2; clear hr6 v61 v62 v64 b6 o6)))
        all_goals
          go_wp2
          go_roundw
          case rel => exact ⟨k + 1, some ⟨gg, 0, none⟩, cap, by omega, by go_num, Lib.hid (V61.out.other (by have := HS1.out; omega)), Lib.hid (V62.out.other (by have := HS1.out; omega)), Lib.hid (V64.out.set1 _), Lib.hid (Own.aside O6.out V64.out), Lib.hid (B6.out.setCell (by have := HS1.out; show w.heap.size ≤ B4; omega) _)⟩
          case measure => simp [intOf]; omega
      · obtain rfl : k = n := by omega
        have HLM := Lib.hid (show (turnC l).length = k from by rw [turnC_length]; exact HL.out)
        have hall : (turnC l).take k = turnC l := List.take_of_length_le (by rw [HLM.out]; exact Nat.le_refl _)
        rw [hall] at HO
        clear hall
        have hx : ∃ Z, Z = Card.set3 wr (w.heap.size + 1) f d (.slice ao k co) ∧ Var Z (w.heap.size + 1) f d (.slice ao k co) ∧ Below w.heap.size w Z ∧ Own Z w.heap.size (.slice ao k co) (turnC l) := ⟨_, rfl, gave_last HBR.out V2.out (by omega) HO.out (Nat.le_refl _)⟩
        obtain ⟨Z, hZ, hz1, hz2, hz3⟩ := hx
        unfold set3 at hZ
        obtain ⟨o0, o1, o2⟩ := V4.out.cells
        obtain ⟨p0, p1, p2⟩ := V2.out.cells
        have f0 := V2.out.free 0
        have f1 := V2.out.free 1
        have f2 := V2.out.free 2
        have HZZ := Lib.hid hZ
        have HZ1 := Lib.hid hz1
        have HZ2 := Lib.hid hz2
        have HZ3 := Lib.hid hz3
        clear hZ hz1 hz2 hz3
        go_wp2_with fail
        rw [← HZZ.out]
        clear HZZ o0 o1 o2 p0 p1 p2 f0 f1 f2
        obtain ⟨z0, z1, z2⟩ := HZ1.out.cells
        refine bodyPost_ret (v := .agg #[.int .i64 f, .int .i64 d, .slice ao k co]) (by simp [results, Try.results13, go_sem, z0, z1, z2]) rfl ?_
        exact gave_yes HLM.out HZ2.out HZ3.out
end Go.Proofs.Ytoampghmikamlaa.Turn

/- What the model of chapter 15 returns: CreaseAt, CreaseText. -/
import Derived.Test.YtigakakgikcghaaCreaseSpec
import Derived.Test.YtigakakgikcghaaCreaseDef
namespace Go.Proofs.Ytigakakgikcghaa.Crease
open Go.ChangeShapes Go.WideShapes Go.ChangeAt Go.RowKit
open Go.Proofs.Ytigakakgikcghaa.Strip Go.Proofs.Ytigakakgikcghaa.Corner Go.Proofs.Ytigakakgikcghaa.Strs Go.Proofs.Ytigakakgikcghaa.Card
set_option linter.unusedVariables false

set_option maxRecDepth 100000 in
set_option maxHeartbeats 4000000 in
theorem cAt_spec (d f : Int) (a : Option Addr) (m c : Nat) (l : List ByteArray) (k i : Int) (w : World) (hl : l.length = m) (hm : m ≤ 1048576) (hz : ∀ s ∈ l, s.size ≤ 1048576) (hr : Row w a l) (hi0 : -9223372036854775808 ≤ i) (hi1 : i ≤ 9223372036854775807) :
    Calls Try.prog 19 #[.agg #[.int .i64 d, .int .i64 f, .slice a m c], .int .i64 k, .int .i64 i] w fun e w' => e = .returned (.int .i64 (crV (stripN d f l k).data.toList i)) ∧ Below w.heap.size w w' := by
  have HBa := Lib.hid (alloc_below w (.cells #[.int .i64 d, .int .i64 f, .slice a m c] 26))
  have HVa := Lib.hid (Var.new w d f (.slice a m c))
  have HR0 := Lib.hid hr
  have HR := Lib.hid (hr.below HBa.out)
  have HOK := Lib.hid (fun (w' : World) (h : Row w' a l) => ok_spec d f a m c l w' hl hm hz h)
  have HL := Lib.hid hl
  have hnil : ∀ {k : Int}, ¬ (cardB d f l = true ∧ 0 ≤ k ∧ k < (l.length : Int)) → crV (stripN d f l k).data.toList i = 0 := fun h => by rw [stripN_no h]; exact crV_nil i
  cases hb : cardB d f l with
  | false =>
    rw [hnil (by rw [hb]; rintro ⟨h, _⟩; cases h)]
    rw [hb] at HOK
    clear hr hb hz hl hnil
    go_enter Try.func19, Try.ntmps19
    go_wp2_with fail
    refine (HOK.out _ HR.out).mono ?_
    rintro e w1 ⟨rfl, hb1⟩
    have HBb := Lib.hid (HBa.out.trans (hb1.mono HBa.out.size))
    clear hb1
    go_wp2
    go_ret
    exact ⟨rfl, HBb.out⟩
  | true =>
    rw [hb] at HOK
    obtain ⟨f1, f2, f3, f4, f5, f6⟩ := frame_of hb
    rw [hl] at f5 f6
    by_cases hk : 0 ≤ k ∧ k ≤ (m : Int) - 1
    · have hq := decide_eq_true hk
      obtain ⟨j, rfl⟩ := Int.eq_ofNat_of_zero_le hk.1
      have hkl : j < l.length := by omega
      have hj0 : (0 : Int) ≤ (j : Int) := Int.natCast_nonneg _
      have hj1 : (j : Int) < (m : Int) := by omega
      rw [stripN_yes hb j hkl]
      have hso := strip_of hb l[j] (List.getElem_mem _)
      by_cases hi : 0 ≤ i ∧ i ≤ d + f
      · have hq2 := decide_eq_true hi
        have HX := Lib.hid (fun w' : World => cr_spec l[j] i w' (by have := hso.high; omega) (by have := hso.low; omega) hi0 hi1)
        clear hr hb hz hl hk hnil hso
        go_enter Try.func19, Try.ntmps19
        go_wp2_with fail
        refine (HOK.out _ HR.out).mono ?_
        rintro e w1 ⟨rfl, hb1⟩
        have HBb := Lib.hid (HBa.out.trans (hb1.mono HBa.out.size))
        have HVb := Lib.hid (HVa.out.below hb1)
        clear hb1
        obtain ⟨k0, k1, k2⟩ := HVb.out.cells
        obtain ⟨g, rfl, _, c0⟩ := Row.at HR0.out HBb.out j hkl
        go_wp2_with fail
        refine (in_at _ 0 _ _).mono ?_
        rintro e w2 ⟨rfl, rfl⟩
        rw [hq]
        go_wp2_with fail
        refine (in_at _ 0 _ _).mono ?_
        rintro e w2 ⟨rfl, rfl⟩
        rw [hq2]
        go_wp2_with fail
        refine (HX.out _).mono ?_
        rintro e w3 ⟨rfl, hb3⟩
        have HBc := Lib.hid (HBb.out.trans (hb3.mono HBb.out.size))
        go_wp2
        go_ret
        exact ⟨rfl, HBc.out⟩
      · have hq2 := decide_eq_false hi
        have hv : crV l[j].data.toList i = 0 := crV_out _ _ (by
          have h := hso.size
          have hsl : l[j].data.toList.length = l[j].size := by simp
          omega)
        rw [hv]
        clear hr hb hz hl hk hnil hso hv
        go_enter Try.func19, Try.ntmps19
        go_wp2_with fail
        refine (HOK.out _ HR.out).mono ?_
        rintro e w1 ⟨rfl, hb1⟩
        have HBb := Lib.hid (HBa.out.trans (hb1.mono HBa.out.size))
        have HVb := Lib.hid (HVa.out.below hb1)
        clear hb1
        obtain ⟨k0, k1, k2⟩ := HVb.out.cells
        go_wp2_with fail
        refine (in_at _ 0 _ _).mono ?_
        rintro e w2 ⟨rfl, rfl⟩
        rw [hq]
        go_wp2_with fail
        refine (in_at _ 0 _ _).mono ?_
        rintro e w2 ⟨rfl, rfl⟩
        rw [hq2]
        go_wp2
        go_ret
        exact ⟨rfl, HBb.out⟩
    · have hq := decide_eq_false hk
      rw [hnil (by rintro ⟨_, h1, h2⟩; omega)]
      clear hr hb hz hl hk hnil
      go_enter Try.func19, Try.ntmps19
      go_wp2_with fail
      refine (HOK.out _ HR.out).mono ?_
      rintro e w1 ⟨rfl, hb1⟩
      have HBb := Lib.hid (HBa.out.trans (hb1.mono HBa.out.size))
      have HVb := Lib.hid (HVa.out.below hb1)
      clear hb1
      obtain ⟨k0, k1, k2⟩ := HVb.out.cells
      go_wp2_with fail
      refine (in_at _ 0 _ _).mono ?_
      rintro e w2 ⟨rfl, rfl⟩
      rw [hq]
      go_wp2
      go_ret
      exact ⟨rfl, HBb.out⟩

set_option maxRecDepth 100000 in
set_option maxHeartbeats 4000000 in
theorem textC_spec (d f : Int) (a : Option Addr) (m c : Nat) (l : List ByteArray) (k : Int) (w : World) (hl : l.length = m) (hm : m ≤ 1048576) (hz : ∀ s ∈ l, s.size ≤ 1048576) (hr : Row w a l) :
    Calls Try.prog 22 #[.agg #[.int .i64 d, .int .i64 f, .slice a m c], .int .i64 k] w fun e w' => e = .returned (.string (textV (stripN d f l k))) ∧ Below w.heap.size w w' := by
  have HBa := Lib.hid (alloc_below w (.cells #[.int .i64 d, .int .i64 f, .slice a m c] 26))
  have HVa := Lib.hid (Var.new w d f (.slice a m c))
  have HR0 := Lib.hid hr
  have HR := Lib.hid (hr.below HBa.out)
  have HOK := Lib.hid (fun (w' : World) (h : Row w' a l) => ok_spec d f a m c l w' hl hm hz h)
  have HL := Lib.hid hl
  have hnil : ∀ {k : Int}, ¬ (cardB d f l = true ∧ 0 ≤ k ∧ k < (l.length : Int)) → textV (stripN d f l k) = ⟨#[]⟩ := fun h => by rw [stripN_no h]; rfl
  cases hb : cardB d f l with
  | false =>
    rw [hnil (by rw [hb]; rintro ⟨h, _⟩; cases h)]
    rw [hb] at HOK
    clear hr hb hz hl hnil
    go_enter Try.func22, Try.ntmps22
    go_wp2_with fail
    refine (HOK.out _ HR.out).mono ?_
    rintro e w1 ⟨rfl, hb1⟩
    have HBb := Lib.hid (HBa.out.trans (hb1.mono HBa.out.size))
    clear hb1
    go_wp2
    go_ret
    exact ⟨rfl, HBb.out⟩
  | true =>
    rw [hb] at HOK
    obtain ⟨f1, f2, f3, f4, f5, f6⟩ := frame_of hb
    rw [hl] at f5 f6
    by_cases hk : 0 ≤ k ∧ k ≤ (m : Int) - 1
    · have hq := decide_eq_true hk
      obtain ⟨j, rfl⟩ := Int.eq_ofNat_of_zero_le hk.1
      have hkl : j < l.length := by omega
      have hj0 : (0 : Int) ≤ (j : Int) := Int.natCast_nonneg _
      have hj1 : (j : Int) < (m : Int) := by omega
      rw [stripN_yes hb j hkl]
      have hso := strip_of hb l[j] (List.getElem_mem _)
      have hv : textV l[j] = ⟨(txt l[j].data.toList).toArray⟩ := by unfold textV; rw [if_neg (by have := hso.low; omega)]
      rw [hv]
      have HX := Lib.hid (fun w' : World => text_spec l[j] w' (by have := hso.high; omega) (by have := hso.low; omega))
      clear hr hb hz hl hk hnil hso hv
      go_enter Try.func22, Try.ntmps22
      go_wp2_with fail
      refine (HOK.out _ HR.out).mono ?_
      rintro e w1 ⟨rfl, hb1⟩
      have HBb := Lib.hid (HBa.out.trans (hb1.mono HBa.out.size))
      have HVb := Lib.hid (HVa.out.below hb1)
      clear hb1
      obtain ⟨k0, k1, k2⟩ := HVb.out.cells
      obtain ⟨g, rfl, _, c0⟩ := Row.at HR0.out HBb.out j hkl
      go_wp2_with fail
      refine (in_at _ 0 _ _).mono ?_
      rintro e w2 ⟨rfl, rfl⟩
      rw [hq]
      go_wp2_with fail
      refine (HX.out _).mono ?_
      rintro e w3 ⟨rfl, hb3⟩
      have HBc := Lib.hid (HBb.out.trans (hb3.mono HBb.out.size))
      go_wp2
      go_ret
      exact ⟨rfl, HBc.out⟩
    · have hq := decide_eq_false hk
      rw [hnil (by rintro ⟨_, h1, h2⟩; omega)]
      clear hr hb hz hl hk hnil
      go_enter Try.func22, Try.ntmps22
      go_wp2_with fail
      refine (HOK.out _ HR.out).mono ?_
      rintro e w1 ⟨rfl, hb1⟩
      have HBb := Lib.hid (HBa.out.trans (hb1.mono HBa.out.size))
      have HVb := Lib.hid (HVa.out.below hb1)
      clear hb1
      obtain ⟨k0, k1, k2⟩ := HVb.out.cells
      go_wp2_with fail
      refine (in_at _ 0 _ _).mono ?_
      rintro e w2 ⟨rfl, rfl⟩
      rw [hq]
      go_wp2
      go_ret
      exact ⟨rfl, HBb.out⟩
end Go.Proofs.Ytigakakgikcghaa.Crease

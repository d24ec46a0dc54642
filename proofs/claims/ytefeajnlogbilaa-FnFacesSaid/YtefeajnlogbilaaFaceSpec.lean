/- What the model's TilePlace returns; what both AreJoined return. -/
import Derived.Test.YtefeajnlogbilaaFaceSpot2
import Derived.Test.YtefeajnlogbilaaFaceEq
import Derived.Deep.RegionLaw
namespace Go.Proofs.Ytefeajnlogbilaa.Face
open Go.ChangeShapes Go.WideShapes Go.ChangeAt Go.RowKit
open Go.Proofs.Ytefeajnlogbilaa.Strip Go.Proofs.Ytefeajnlogbilaa.Strs Go.Proofs.Ytefeajnlogbilaa.Card
set_option linter.unusedVariables false

theorem tile_iff {l : List ByteArray} {d f : Int} (hf : 1 ≤ d ∧ d ≤ 8 ∧ 1 ≤ f ∧ f ≤ 8) {m : Nat} (hl : l.length = m) (k i : Int) : tileB l (d + f).toNat k i = (decide (0 ≤ k ∧ k ≤ (m : Int) - 1) && decide (0 ≤ i ∧ i ≤ d + f - 1)) := by
  unfold tileB
  rw [Bool.eq_iff_iff]
  simp only [decide_eq_true_eq, Bool.and_eq_true, hl]
  omega

theorem not_empty {s : ByteArray} (h : s ≠ ⟨#[]⟩) : s.toList.isEmpty = false := by
  cases he : s.toList.isEmpty with
  | false => rfl
  | true =>
    rw [List.isEmpty_iff, ByteArray.toList_eq] at he
    exact absurd (ByteArray.ext (Array.ext' (by rw [he]))) h

/-- Do two tiles of strips side by side belong together? -/
def eqB (l : List ByteArray) (n : Nat) (k i k2 j : Int) : Bool := decide (spF l n k i = spF l n k2 j ∧ spD l n k i = spD l n k2 j ∧ spS l n k i = spS l n k2 j)
def jnB (d f : Int) (l : List ByteArray) (k i j : Int) : Bool := cardB d f l && (tileB l (d + f).toNat k i && eqB l (d + f).toNat k i (k + 1) j)

theorem eqB_out {l : List ByteArray} {n : Nat} {k i k2 j : Int} (hn : 1 ≤ n) (h : tileB l n k i = true) (h2 : tileB l n k2 j = false) : eqB l n k i k2 j = false := by
  obtain ⟨t, ht, rfl, rfl, _⟩ := tile_mk hn h
  unfold eqB
  rw [(sp_at hn ht).2.2, (sp_out h2).2.2]
  exact decide_eq_false fun e => one_ne _ e.2.2

set_option maxRecDepth 100000 in
set_option maxHeartbeats 1000000 in
theorem joined_impl (d f : Int) (a : Option Addr) (m c : Nat) (l : List ByteArray) (k i j : Int) (w : World) (hl : l.length = m) (hm : m ≤ 1048576) (hz : ∀ s ∈ l, s.size ≤ 1048576) (hr : Row w a l) :
    Calls Try.prog 22 #[.agg #[.int .i64 d, .int .i64 f, .slice a m c], .int .i64 k, .int .i64 i, .int .i64 j] w fun e w' => e = .returned (.bool (jnB d f l k i j)) ∧ Below w.heap.size w w' := by
  have HB := Lib.hid (alloc_below w (.cells #[.int .i64 d, .int .i64 f, .slice a m c] 26))
  have HV := Lib.hid (Var.new w d f (.slice a m c))
  have HR := Lib.hid (hr.below HB.out)
  have HOK := Lib.hid (fun (w' : World) (h : Row w' a l) => ok_impl d f a m c l w' hl hm hz h)
  unfold jnB
  cases hb : cardB d f l with
  | false =>
    rw [hb] at HOK
    clear hr hb hz
    go_enter Try.func22, Try.ntmps22
    go_wp2_with fail
    refine (HOK.out _ HR.out).mono ?_
    rintro e w1 ⟨rfl, hb1⟩
    have HB := Lib.hid (HB.out.trans (hb1.mono HB.out.size))
    clear hb1
    go_wp2
    go_ret
    exact ⟨rfl, HB.out⟩
  | true =>
    rw [hb] at HOK
    have hfr := card_frame hb
    have HSP := Lib.hid (fun (x y : Int) (w' : World) (h : Row w' a l) => spot_impl d f (d + f).toNat m c a l x y w' hl hb (by omega) h)
    have hn0 : 1 ≤ (d + f).toNat := by omega
    generalize (d + f).toNat = n at *
    have hn1 : 1 ≤ n := hn0
    have hlm2 : (m : Int) ≤ 10 := by have := (cardB_iff.1 hb).2.2.1; omega
    cases ht : tileB l n k i with
    | false =>
      obtain ⟨e1, e2, e3⟩ := sp_out ht
      have HS1 := Lib.hid (fun (w' : World) (h : Row w' a l) => HSP.out k i w' h)
      unfold spotV at HS1
      rw [e1, e2, e3] at HS1
      clear hr hb hz hn0 HSP e1 e2 e3
      go_enter Try.func22, Try.ntmps22
      go_wp2_with fail
      refine (HOK.out _ HR.out).mono ?_
      rintro e w1 ⟨rfl, hb1⟩
      have HR := Lib.hid (HR.out.below hb1)
      have HB := Lib.hid (HB.out.trans (hb1.mono HB.out.size))
      obtain ⟨k0, k1, k2⟩ := (HV.out.below hb1).cells
      clear hb1
      go_wp2_with fail
      refine (HS1.out _ HR.out).mono ?_
      rintro e w2 ⟨rfl, hb2⟩
      have HB := Lib.hid ((HB.out.trans (hb2.mono HB.out.size)).alloc (Nat.le_trans HB.out.size hb2.size) (.cells #[.int .i64 0, .int .i64 0, .string ⟨#[]⟩] 68))
      have HS := Lib.hid (SVar.new w2 0 0 ⟨#[]⟩)
      clear hb2 k0 k1 k2
      go_upto_region 4 with (fail)
      generalize w2.alloc (.cells #[.int .i64 0, .int .i64 0, .string ⟨#[]⟩] 68) = W at *
      obtain ⟨k0, k1, k2⟩ := HS.out.cells
      go_quiet (fail)
      go_wp2
      go_ret
      exact ⟨rfl, HB.out.trans ((drewN_below W _).mono HB.out.size)⟩
    | true =>
      obtain ⟨tt, htt, hpx, hpy, _⟩ := tile_mk hn1 ht
      have hne : spS l n k i ≠ ⟨#[]⟩ := by rw [hpx, hpy, (sp_at hn1 htt).2.2]; exact one_ne _
      obtain ⟨hkb, hkb2⟩ : 0 ≤ k ∧ k < (m : Int) := by
        unfold tileB at ht
        simp only [decide_eq_true_eq, hl] at ht
        exact ⟨ht.1, ht.2.1⟩
      have hwr : IntKind.i64.wrap (k + 1) = k + 1 := by rw [IntKind.wrap_i64]; omega
      have HQ := Lib.hid (fun w' : World => spot_equal (spF l n k i) (spD l n k i) (spF l n (k + 1) j) (spD l n (k + 1) j) (spS l n k i) (spS l n (k + 1) j) w')
      have HS1 := Lib.hid (fun (w' : World) (h : Row w' a l) => HSP.out k i w' h)
      have HS2 := Lib.hid (fun (w' : World) (h : Row w' a l) => HSP.out (k + 1) j w' h)
      unfold spotV at HS1 HS2
      have hval : (true && (true && eqB l n k i (k + 1) j)) = decide (spF l n k i = spF l n (k + 1) j ∧ spD l n k i = spD l n (k + 1) j ∧ spS l n k i = spS l n (k + 1) j) := by unfold eqB; simp
      rw [hval]
      have hqw := HQ.out
      generalize decide (spF l n k i = spF l n (k + 1) j ∧ spD l n k i = spD l n (k + 1) j ∧ spS l n k i = spS l n (k + 1) j) = r at *
      generalize spF l n k i = u at *
      generalize spD l n k i = v at *
      generalize spS l n k i = s at *
      generalize spF l n (k + 1) j = u2 at *
      generalize spD l n (k + 1) j = v2 at *
      generalize spS l n (k + 1) j = s2 at *
      have hsne : (s.toList == (⟨#[]⟩ : ByteArray).toList) = false := by rw [toList_beq]; exact decide_eq_false hne
      have hsne3 : s.toList.isEmpty = false := not_empty hne
      have hsne2 : (s == (⟨#[]⟩ : ByteArray)) = false := by rw [beq_toListBytes]; exact hsne
      clear hr hb hz hn0 HSP hval HQ htt hpx hpy ht
      go_enter Try.func22, Try.ntmps22
      go_wp2_with fail
      refine (HOK.out _ HR.out).mono ?_
      rintro e w1 ⟨rfl, hb1⟩
      have HR := Lib.hid (HR.out.below hb1)
      have HB := Lib.hid (HB.out.trans (hb1.mono HB.out.size))
      have HV := Lib.hid (HV.out.below hb1)
      obtain ⟨k0, k1, k2⟩ := HV.out.cells
      clear hb1
      go_wp2_with fail
      refine (HS1.out _ HR.out).mono ?_
      rintro e w2 ⟨rfl, hb2⟩
      have HV := Lib.hid (HV.out.below (hb2.alloc hb2.size (.cells #[.int .i64 u, .int .i64 v, .string s] 68)))
      have HR := Lib.hid (HR.out.below (hb2.alloc hb2.size (.cells #[.int .i64 u, .int .i64 v, .string s] 68)))
      have HB := Lib.hid ((HB.out.trans (hb2.mono HB.out.size)).alloc (Nat.le_trans HB.out.size hb2.size) (.cells #[.int .i64 u, .int .i64 v, .string s] 68))
      have HS := Lib.hid (SVar.new w2 u v s)
      clear hb2 k0 k1 k2
      go_upto_region 4 with (fail)
      obtain ⟨b9, hb9⟩ : ∃ b9, w2.heap.size = b9 := ⟨_, rfl⟩
      rw [hb9] at HS
      try rw [hb9]
      generalize w2.alloc (.cells #[.int .i64 u, .int .i64 v, .string s] 68) = W at *
      clear hb9
      obtain ⟨k0, k1, k2⟩ := HV.out.cells
      obtain ⟨p0, p1, p2⟩ := HS.out.cells
      go_region_law ((go_simp; go_at_call 55; refine (HS2.out _ (HR.out.below (Below.refl _ _).drew)).mono ?_; rintro e w3 ⟨rfl, hb3⟩; have HB3 := Lib.hid (HB.out.trans (((Below.refl W.heap.size W).drew.trans hb3).mono HB.out.size)); obtain ⟨q0, q1, q2⟩ := (HS.out.below ((Below.refl W.heap.size W).drew.trans hb3)).cells; clear hb3))
      all_goals
        go_wp2
        go_ret
        exact ⟨rfl, HB3.out⟩
end Go.Proofs.Ytefeajnlogbilaa.Face

/- What the model of chapter 15 returns: CountCreases. -/
import Derived.Test.YtigakakgikcghaaCreaseSpec
import Derived.Test.YtigakakgikcghaaCreaseDef
namespace Go.Proofs.Ytigakakgikcghaa.Crease
open Go.ChangeShapes Go.WideShapes Go.ChangeAt Go.RowKit
open Go.Proofs.Ytigakakgikcghaa.Strip Go.Proofs.Ytigakakgikcghaa.Corner Go.Proofs.Ytigakakgikcghaa.Strs Go.Proofs.Ytigakakgikcghaa.Card
set_option linter.unusedVariables false

theorem cnt_next (x : UInt8) (l : List UInt8) (i : Nat) : cnt x (txtN l (i + 1)) = cnt x (txtN l i) + (if sg (crV l (i : Nat)) = x then 1 else 0) := by
  rw [txtN_succ, cnt_snoc]
theorem cnt_m (l : List UInt8) (i : Nat) : cnt 109 (txtN l (i + 1)) = cnt 109 (txtN l i) + (if crV l (i : Nat) = 1 then 1 else 0) := by
  rw [cnt_next]
  have h := (sg_ne _ (crV_in l i).1 (crV_in l i).2).2.1
  congr 1
  by_cases h1 : crV l (i : Nat) = 1
  · rw [if_pos h1, if_pos (h.2 h1)]
  · rw [if_neg h1, if_neg (fun e => h1 (h.1 e))]
theorem cnt_v (l : List UInt8) (i : Nat) : cnt 118 (txtN l (i + 1)) = cnt 118 (txtN l i) + (if crV l (i : Nat) = 2 then 1 else 0) := by
  rw [cnt_next]
  have h := (sg_ne _ (crV_in l i).1 (crV_in l i).2).2.2
  congr 1
  by_cases h1 : crV l (i : Nat) = 2
  · rw [if_pos h1, if_pos (h.2 h1)]
  · rw [if_neg h1, if_neg (fun e => h1 (h.1 e))]
theorem cntN_le (x : UInt8) (l : List UInt8) (i : Nat) : cnt x (txtN l i) ≤ i := by
  have := cnt_le x (txtN l i)
  rw [txtN_length] at this
  exact this

set_option maxRecDepth 100000 in
set_option maxHeartbeats 4000000 in
theorem cnt_spec (d f : Int) (a : Option Addr) (m c : Nat) (l : List ByteArray) (w : World) (hl : l.length = m) (hm : m ≤ 1048576) (hz : ∀ s ∈ l, s.size ≤ 1048576) (hr : Row w a l) :
    Calls Try.prog 24 #[.agg #[.int .i64 d, .int .i64 f, .slice a m c]] w fun e w' => e = .returned (.tuple #[.int .i64 (totV 109 d f l), .int .i64 (totV 118 d f l)]) ∧ Below w.heap.size w w' := by
  have HBa := Lib.hid (alloc_below w (.cells #[.int .i64 d, .int .i64 f, .slice a m c] 26))
  have HVa := Lib.hid (Var.new w d f (.slice a m c))
  have HR0 := Lib.hid hr
  have HR := Lib.hid (hr.below HBa.out)
  have HOK := Lib.hid (fun (w' : World) (h : Row w' a l) => ok_spec d f a m c l w' hl hm hz h)
  have HL := Lib.hid hl
  unfold totV
  cases hb : cardB d f l with
  | false =>
    rw [hb] at HOK
    simp only [Bool.false_eq_true, if_false]
    clear hr hb hz hl
    obtain ⟨k0, k1, k2⟩ := HVa.out.cells
    go_enter Try.func24, Try.ntmps24
    go_wp2_with fail
    refine wp_loop_rounds 1 ?_
    rw [rounds_succ]
    by_cases h1 : (0 : Int) < (m : Int)
    · go_wp2_with fail
      refine (HOK.out _ HR.out).mono ?_
      rintro e w1 ⟨rfl, hb1⟩
      have HBb := Lib.hid (HBa.out.trans (hb1.mono HBa.out.size))
      clear hb1
      go_wp2
      go_ret2
      exact ⟨rfl, HBb.out⟩
    · go_wp2
      go_ret2
      exact ⟨rfl, HBa.out⟩
  | true =>
    rw [hb] at HOK
    obtain ⟨f1, f2, f3, f4, f5, f6⟩ := frame_of hb
    rw [hl] at f5 f6
    have HSO := Lib.hid (strip_of hb)
    have HTI := Lib.hid (fun x k (hk : k ≤ m) => tot_in hb x k (by rw [hl]; exact hk))
    simp only [if_true]
    rw [hl]
    clear hr hb hz hl
    go_enter Try.func24, Try.ntmps24
    go_wp2_with fail
    go_loopw [4, 5, 6] (fun x y i wr => ∃ k : Nat, k ≤ m ∧ i = .int .i64 (k : Int) ∧ x = .int .i64 (tot 109 l k : Nat) ∧ y = .int .i64 (tot 118 l k : Nat) ∧ Hid (Var wr w.heap.size d f (.slice a m c)) ∧ Hid (Below w.heap.size w wr)) (fun _ _ i _ => m - (intOf i).toNat)
    case atStart => exact ⟨0, Nat.zero_le _, rfl, rfl, rfl, HVa, HBa⟩
    case round =>
      rename World => wq
      obtain ⟨k, hk, rfl, rfl, rfl, HV, HB⟩ := hrel
      obtain ⟨k0, k1, k2⟩ := HV.out.cells
      have t0 := HTI.out 109 k hk
      have t1 := HTI.out 118 k hk
      have hk0 : (0 : Int) ≤ (k : Int) := Int.natCast_nonneg _
      by_cases hlt : k < m
      · have hk1 : (k : Int) < (m : Int) := by omega
        have hkl : k < l.length := by rw [HL.out]; exact hlt
        have hso := HSO.out l[k] (List.getElem_mem hkl)
        have hlo := hso.low
        have hhi := hso.high
        obtain ⟨g, rfl, _, c0⟩ := Row.at HR0.out HB.out k hkl
        have S1 := Lib.hid (tot_succ 109 l k hkl)
        have S2 := Lib.hid (tot_succ 118 l k hkl)
        have HCR := Lib.hid (fun (i : Nat) (hi : i ≤ 17) (w' : World) => cr_spec l[k] (i : Int) w' (by omega) (by omega) (by omega) (by omega))
        have hsl : l[k].data.toList.length = l[k].size := by simp
        have HTX := Lib.hid (show txtN l[k].data.toList (l[k].size + 1) = txt l[k].data.toList by unfold txt; rw [hsl])
        have HCE := Lib.hid (fun (w' : World) (hb : Below wq.heap.size wq w') => (hb.cell (p := ⟨g, k, none⟩) (World.block_lt_of_cell? _ _ c0)).trans c0)
        generalize l[k] = s at *
        generalize tot 109 l k = M at *
        generalize tot 118 l k = V at *
        clear hso hsl
        go_wp2_with fail
        refine (HOK.out _ (HR0.out.below HB.out)).mono ?_
        rintro e w1 ⟨rfl, hb1⟩
        have HV1 := Lib.hid (HV.out.below hb1)
        have HB1 := Lib.hid hb1
        clear hb1 k0 k1 k2
        go_wp2_with fail
        go_loopw [4, 5, 7] (fun x y i wr => ∃ u : Nat, u ≤ s.size + 1 ∧ i = .int .i64 (u : Int) ∧ x = .int .i64 ((M + cnt 109 (txtN s.data.toList u) : Nat) : Int) ∧ y = .int .i64 ((V + cnt 118 (txtN s.data.toList u) : Nat) : Int) ∧ Hid (Var wr w.heap.size d f (.slice (some ⟨g, 0, none⟩) m c)) ∧ Hid (Below wq.heap.size wq wr)) (fun _ _ i _ => s.size + 1 - (intOf i).toNat)
        case atStart => exact ⟨0, Nat.zero_le _, rfl, rfl, rfl, HV1, HB1⟩
        case round =>
          clear HV1 HB1
          obtain ⟨u, hu, rfl, rfl, rfl, HV2, HB2⟩ := hrel
          obtain ⟨k0, k1, k2⟩ := HV2.out.cells
          have c1 := HCE.out _ HB2.out
          have hu0 : (0 : Int) ≤ (u : Int) := Int.natCast_nonneg _
          have b1 := cntN_le 109 s.data.toList u
          have b2 := cntN_le 118 s.data.toList u
          by_cases hul : u ≤ s.size
          · have hu1 : (u : Int) ≤ (s.size : Int) := by omega
            have HX := Lib.hid (fun w' : World => HCR.out u (by omega) w')
            have N1 := Lib.hid (cnt_m s.data.toList u)
            have N2 := Lib.hid (cnt_v s.data.toList u)
            have h3 := crV_three s.data.toList (u : Int)
            generalize crV s.data.toList (u : Int) = x at *
            generalize cnt 109 (txtN s.data.toList u) = A at *
            generalize cnt 118 (txtN s.data.toList u) = B at *
            rcases h3 with rfl | rfl | rfl
            all_goals
              go_wp2_with fail
              refine (HX.out _).mono ?_
              rintro e w2 ⟨rfl, hb⟩
              have HV3 := Lib.hid (HV2.out.below hb)
              have HB3 := Lib.hid (HB2.out.trans (hb.mono HB2.out.size))
              clear hb k0 k1 k2
              go_wp2
              go_roundw
              case rel => exact ⟨u + 1, by omega, by go_num, by rw [N1.out]; go_num, by rw [N2.out]; go_num, HV3, HB3⟩
              case measure => simp [intOf]; omega
          · have hue : u = s.size + 1 := by omega
            subst hue
            rw [HTX.out] at b1 b2 ⊢
            have HBz := Lib.hid (HB.out.trans (HB2.out.mono HB.out.size))
            go_wp2
            go_roundw
            case rel => exact ⟨k + 1, by omega, by go_num, by rw [S1.out], by rw [S2.out], HV2, HBz⟩
            case measure => simp [intOf]; omega
      · obtain rfl : k = m := by omega
        go_wp2
        go_ret2
        exact ⟨rfl, HB.out⟩
end Go.Proofs.Ytigakakgikcghaa.Crease

/- The property of chapter 17: the walk (printed by wip/gen_sliderslaw.py). -/
import Derived.Test.YtmjknjgfcngacaaSlidersMath
import Derived.Test.YtmjknjgfcngacaaDrawAll
import Derived.Test.YtmjknjgfcngacaaSlideAll
import Derived.Test.YtmjknjgfcngacaaSlideLkSpec
import Derived.Test.YtmjknjgfcngacaaAtB
import Derived.Test.YtmjknjgfcngacaaBig
import Derived.Lib.QuietBelow
import Derived.Deep.RegionHeld3
import Derived.Deep.DeepCutAuto
namespace Go.Proofs.Ytmjknjgfcngacaa.Slide
open Go.ChangeShapes Go.WideShapes Go.ChangeAt Go.RowKit Go.Sort
open Go.Proofs.Ytmjknjgfcngacaa.Tri
open Go.Proofs.Ytmjknjgfcngacaa.Draw (RowIn big_at at_below RowIn.below heap_new)
set_option linter.unusedVariables false

section
variable {w0 w' w'' : World} {p1 p2 p3 p4 p5 p6 p7 p8 p9 p10 p11 p12 : Addr} {u1 u2 u3 u4 u5 u6 u7 u8 u9 u10 u11 u12 : Value}
theorem tri_next (h : w'.cell? p1 = some u1 ∧ w'.cell? p2 = some u2 ∧ w'.cell? p3 = some u3 ∧ Below w0.heap.size w0 w') (hb : Below w'.heap.size w' w'') : w''.cell? p1 = some u1 ∧ w''.cell? p2 = some u2 ∧ w''.cell? p3 = some u3 ∧ Below w0.heap.size w0 w'' :=
  ⟨(hb.cell (World.block_lt_of_cell? _ _ h.1)).trans h.1, (hb.cell (World.block_lt_of_cell? _ _ h.2.1)).trans h.2.1, (hb.cell (World.block_lt_of_cell? _ _ h.2.2.1)).trans h.2.2.1, h.2.2.2.trans (hb.mono h.2.2.2.size)⟩
theorem tri_drew (h : w'.cell? p1 = some u1 ∧ w'.cell? p2 = some u2 ∧ w'.cell? p3 = some u3 ∧ Below w0.heap.size w0 w') : w'.drew.cell? p1 = some u1 ∧ w'.drew.cell? p2 = some u2 ∧ w'.drew.cell? p3 = some u3 ∧ Below w0.heap.size w0 w'.drew :=
  ⟨h.1, h.2.1, h.2.2.1, h.2.2.2.drew⟩
theorem tri_below (h : w'.cell? p1 = some u1 ∧ w'.cell? p2 = some u2 ∧ w'.cell? p3 = some u3 ∧ Below w0.heap.size w0 w') : Below w0.heap.size w0 w' := h.2.2.2
theorem tri_of (h : w0.cell? p1 = some u1 ∧ w0.cell? p2 = some u2 ∧ w0.cell? p3 = some u3 ∧ Below w0.heap.size w0 w0) (hb : Below w0.heap.size w0 w') : w'.cell? p1 = some u1 ∧ w'.cell? p2 = some u2 ∧ w'.cell? p3 = some u3 ∧ Below w0.heap.size w0 w' :=
  ⟨(hb.cell (World.block_lt_of_cell? _ _ h.1)).trans h.1, (hb.cell (World.block_lt_of_cell? _ _ h.2.1)).trans h.2.1, (hb.cell (World.block_lt_of_cell? _ _ h.2.2.1)).trans h.2.2.1, hb⟩
theorem dz_next (h : w'.cell? p1 = some u1 ∧ w'.cell? p2 = some u2 ∧ w'.cell? p3 = some u3 ∧ w'.cell? p4 = some u4 ∧ w'.cell? p5 = some u5 ∧ w'.cell? p6 = some u6 ∧ w'.cell? p7 = some u7 ∧ w'.cell? p8 = some u8 ∧ w'.cell? p9 = some u9 ∧ w'.cell? p10 = some u10 ∧ w'.cell? p11 = some u11 ∧ w'.cell? p12 = some u12 ∧ Below w0.heap.size w0 w') (hb : Below w'.heap.size w' w'') : w''.cell? p1 = some u1 ∧ w''.cell? p2 = some u2 ∧ w''.cell? p3 = some u3 ∧ w''.cell? p4 = some u4 ∧ w''.cell? p5 = some u5 ∧ w''.cell? p6 = some u6 ∧ w''.cell? p7 = some u7 ∧ w''.cell? p8 = some u8 ∧ w''.cell? p9 = some u9 ∧ w''.cell? p10 = some u10 ∧ w''.cell? p11 = some u11 ∧ w''.cell? p12 = some u12 ∧ Below w0.heap.size w0 w'' :=
  ⟨(hb.cell (World.block_lt_of_cell? _ _ h.1)).trans h.1, (hb.cell (World.block_lt_of_cell? _ _ h.2.1)).trans h.2.1, (hb.cell (World.block_lt_of_cell? _ _ h.2.2.1)).trans h.2.2.1, (hb.cell (World.block_lt_of_cell? _ _ h.2.2.2.1)).trans h.2.2.2.1, (hb.cell (World.block_lt_of_cell? _ _ h.2.2.2.2.1)).trans h.2.2.2.2.1, (hb.cell (World.block_lt_of_cell? _ _ h.2.2.2.2.2.1)).trans h.2.2.2.2.2.1, (hb.cell (World.block_lt_of_cell? _ _ h.2.2.2.2.2.2.1)).trans h.2.2.2.2.2.2.1, (hb.cell (World.block_lt_of_cell? _ _ h.2.2.2.2.2.2.2.1)).trans h.2.2.2.2.2.2.2.1, (hb.cell (World.block_lt_of_cell? _ _ h.2.2.2.2.2.2.2.2.1)).trans h.2.2.2.2.2.2.2.2.1, (hb.cell (World.block_lt_of_cell? _ _ h.2.2.2.2.2.2.2.2.2.1)).trans h.2.2.2.2.2.2.2.2.2.1, (hb.cell (World.block_lt_of_cell? _ _ h.2.2.2.2.2.2.2.2.2.2.1)).trans h.2.2.2.2.2.2.2.2.2.2.1, (hb.cell (World.block_lt_of_cell? _ _ h.2.2.2.2.2.2.2.2.2.2.2.1)).trans h.2.2.2.2.2.2.2.2.2.2.2.1, h.2.2.2.2.2.2.2.2.2.2.2.2.trans (hb.mono h.2.2.2.2.2.2.2.2.2.2.2.2.size)⟩
theorem dz_drew (h : w'.cell? p1 = some u1 ∧ w'.cell? p2 = some u2 ∧ w'.cell? p3 = some u3 ∧ w'.cell? p4 = some u4 ∧ w'.cell? p5 = some u5 ∧ w'.cell? p6 = some u6 ∧ w'.cell? p7 = some u7 ∧ w'.cell? p8 = some u8 ∧ w'.cell? p9 = some u9 ∧ w'.cell? p10 = some u10 ∧ w'.cell? p11 = some u11 ∧ w'.cell? p12 = some u12 ∧ Below w0.heap.size w0 w') : w'.drew.cell? p1 = some u1 ∧ w'.drew.cell? p2 = some u2 ∧ w'.drew.cell? p3 = some u3 ∧ w'.drew.cell? p4 = some u4 ∧ w'.drew.cell? p5 = some u5 ∧ w'.drew.cell? p6 = some u6 ∧ w'.drew.cell? p7 = some u7 ∧ w'.drew.cell? p8 = some u8 ∧ w'.drew.cell? p9 = some u9 ∧ w'.drew.cell? p10 = some u10 ∧ w'.drew.cell? p11 = some u11 ∧ w'.drew.cell? p12 = some u12 ∧ Below w0.heap.size w0 w'.drew :=
  ⟨h.1, h.2.1, h.2.2.1, h.2.2.2.1, h.2.2.2.2.1, h.2.2.2.2.2.1, h.2.2.2.2.2.2.1, h.2.2.2.2.2.2.2.1, h.2.2.2.2.2.2.2.2.1, h.2.2.2.2.2.2.2.2.2.1, h.2.2.2.2.2.2.2.2.2.2.1, h.2.2.2.2.2.2.2.2.2.2.2.1, h.2.2.2.2.2.2.2.2.2.2.2.2.drew⟩
theorem dz_below (h : w'.cell? p1 = some u1 ∧ w'.cell? p2 = some u2 ∧ w'.cell? p3 = some u3 ∧ w'.cell? p4 = some u4 ∧ w'.cell? p5 = some u5 ∧ w'.cell? p6 = some u6 ∧ w'.cell? p7 = some u7 ∧ w'.cell? p8 = some u8 ∧ w'.cell? p9 = some u9 ∧ w'.cell? p10 = some u10 ∧ w'.cell? p11 = some u11 ∧ w'.cell? p12 = some u12 ∧ Below w0.heap.size w0 w') : Below w0.heap.size w0 w' := h.2.2.2.2.2.2.2.2.2.2.2.2
theorem dz_of (h : w0.cell? p1 = some u1 ∧ w0.cell? p2 = some u2 ∧ w0.cell? p3 = some u3 ∧ w0.cell? p4 = some u4 ∧ w0.cell? p5 = some u5 ∧ w0.cell? p6 = some u6 ∧ w0.cell? p7 = some u7 ∧ w0.cell? p8 = some u8 ∧ w0.cell? p9 = some u9 ∧ w0.cell? p10 = some u10 ∧ w0.cell? p11 = some u11 ∧ w0.cell? p12 = some u12 ∧ Below w0.heap.size w0 w0) (hb : Below w0.heap.size w0 w') : w'.cell? p1 = some u1 ∧ w'.cell? p2 = some u2 ∧ w'.cell? p3 = some u3 ∧ w'.cell? p4 = some u4 ∧ w'.cell? p5 = some u5 ∧ w'.cell? p6 = some u6 ∧ w'.cell? p7 = some u7 ∧ w'.cell? p8 = some u8 ∧ w'.cell? p9 = some u9 ∧ w'.cell? p10 = some u10 ∧ w'.cell? p11 = some u11 ∧ w'.cell? p12 = some u12 ∧ Below w0.heap.size w0 w' :=
  ⟨(hb.cell (World.block_lt_of_cell? _ _ h.1)).trans h.1, (hb.cell (World.block_lt_of_cell? _ _ h.2.1)).trans h.2.1, (hb.cell (World.block_lt_of_cell? _ _ h.2.2.1)).trans h.2.2.1, (hb.cell (World.block_lt_of_cell? _ _ h.2.2.2.1)).trans h.2.2.2.1, (hb.cell (World.block_lt_of_cell? _ _ h.2.2.2.2.1)).trans h.2.2.2.2.1, (hb.cell (World.block_lt_of_cell? _ _ h.2.2.2.2.2.1)).trans h.2.2.2.2.2.1, (hb.cell (World.block_lt_of_cell? _ _ h.2.2.2.2.2.2.1)).trans h.2.2.2.2.2.2.1, (hb.cell (World.block_lt_of_cell? _ _ h.2.2.2.2.2.2.2.1)).trans h.2.2.2.2.2.2.2.1, (hb.cell (World.block_lt_of_cell? _ _ h.2.2.2.2.2.2.2.2.1)).trans h.2.2.2.2.2.2.2.2.1, (hb.cell (World.block_lt_of_cell? _ _ h.2.2.2.2.2.2.2.2.2.1)).trans h.2.2.2.2.2.2.2.2.2.1, (hb.cell (World.block_lt_of_cell? _ _ h.2.2.2.2.2.2.2.2.2.2.1)).trans h.2.2.2.2.2.2.2.2.2.2.1, (hb.cell (World.block_lt_of_cell? _ _ h.2.2.2.2.2.2.2.2.2.2.2.1)).trans h.2.2.2.2.2.2.2.2.2.2.2.1, hb⟩
end

set_option maxRecDepth 100000 in
set_option maxHeartbeats 8000000 in
theorem sliders (ca : Option Addr) (cl cc : Nat) (w : World) (hm : cl ≤ maxLen) (hr : RowIn w ca cl) :
    Calls Try.prog 3 #[.slice ca cl cc] w fun e w' => e = .returned (.bool true) ∧ Below w.heap.size w w' := by
  by_cases hbig : 1048576 < cl
  · have hd : decide (1048576 < (cl : Int)) = true := by simp; omega
    go_enter Try.func3, Try.ntmps3
    go_wp2_with fail
    refine (big_at ca cl cc w hm).mono ?_
    rintro e w' ⟨rfl, rfl⟩
    rw [hd]
    go_wp2
    go_ret
    exact ⟨rfl, Below.refl _ _⟩
  · have hd : decide (1048576 < (cl : Int)) = false := by simp; omega
    have HR := Lib.hid hr
    clear hr
    go_enter Try.func3, Try.ntmps3
    go_wp2_with fail
    refine (big_at ca cl cc w hm).mono ?_
    rintro e w' ⟨rfl, rfl⟩
    rw [hd]
    go_wp2_with fail
    refine drawAll_get ca cl cc w hm HR.out ?_
    intro g c L g2 c2 ls k q w1 n hn hn1 hn6 hm5 hk0 hk1 hq0 hq1 hb1 ho1 ho2 hgg
    obtain ⟨m, hmm⟩ : ∃ m, ls.length = m := ⟨_, rfl⟩
    have HB := Lib.hid hb1
    have HL := Lib.hid ho1
    have HK := Lib.hid ho2
    have HN := Lib.hid hn
    have HM := Lib.hid hmm
    rw [hmm] at hm5 HK ⊢
    have HPN := Lib.hid (pullL_length L ls k q)
    have HAT := Lib.hid (fun (h : pullB L ls k q = true) (i : Nat) (hi : i < L.length) hP => pull_at h hi hP)
    have hpb : pullB L ls k q = ((linksB (n : Int) ls && L.all okS) && decide (0 ≤ k ∧ k < (n : Int) ∧ -100 ≤ q ∧ q ≤ 100)) := by unfold pullB; rw [hn, Bool.and_assoc]
    rw [hn] at HPN
    have HIM := Lib.hid (fun w' h h2 h3 => all_impl k q ⟨g, 0, none⟩ n c m c2 (some ⟨g2, 0, none⟩) L ls w' HN.out (by omega) h HM.out (by omega) h2 h3)
    have HSP := Lib.hid (fun w' h => links_spec (n : Int) (some ⟨g2, 0, none⟩) m c2 ls w' HM.out (by omega) h)
    generalize pullL L ls k q = P at *
    generalize pullB L ls k q = pb at *
    generalize linksB (n : Int) ls = lb at *
    have HPB := Lib.hid hpb
    clear hpb hb1 ho1 ho2 hgg hn hmm hbig hd
    go_wp2_with fail
    refine (HIM.out _ HL.out.row2.2 HK.out.row2.2 (fun x e => by cases e; exact (HK.out.lt g2 rfl).2)).mono ?_
    rintro e w2 ⟨gP, cP, rfl, hb, ho⟩
    have HB := Lib.hid (HB.out.trans (hb.mono HB.out.size))
    have HL := Lib.hid (HL.out.below hb)
    have HK := Lib.hid (HK.out.below hb)
    have HP := Lib.hid ho
    clear hb ho HIM
    go_wp2_with fail
    refine (HSP.out _ HK.out.row2.2).mono ?_
    rintro e w3 ⟨rfl, hb⟩
    have HB := Lib.hid (HB.out.trans (hb.mono HB.out.size))
    have HLC := Lib.hid (fun (w' : World) (h : Below w3.heap.size w3 w') (j : Nat) (hj : j < L.length) => ((HL.out.below hb).below h).cell hj)
    have HKC := Lib.hid (fun (w' : World) (h : Below w3.heap.size w3 w') (j : Nat) (hj : j < ls.length) => ((HK.out.below hb).below h).cell hj)
    have HPC := Lib.hid (fun (w' : World) (h : Below w3.heap.size w3 w') (j : Nat) (hj : j < P.length) => ((HP.out.below hb).below h).cell hj)
    have HBW := Lib.hid (Below.refl w3.heap.size w3)
    clear hb HSP HL HK HP
    go_wp2_with fail
    go_loopw [9, 10] (fun x i wr => ∃ j : Nat, j ≤ n ∧ i = .int .i64 (j : Int) ∧ x = .bool (lb && (L.take j).all okS) ∧ Hid (Below w3.heap.size w3 wr)) (fun _ i _ => n - (intOf i).toNat)
    case atStart => exact ⟨0, Nat.zero_le _, rfl, by simp, HBW⟩
    case round =>
      rename World => wr
      clear HBW
      obtain ⟨j, hj, rfl, rfl, HBW⟩ := hrel
      by_cases hlt : j < n
      · have hj0 : (0 : Int) ≤ (j : Int) := Int.natCast_nonneg _
        as_aux_lemma =>
          have hj1 : (j : Int) < (n : Int) := by omega
          have hjl : j < L.length := by rw [HN.out]; exact hlt
          obtain ⟨c0, c1, c2'⟩ := HLC.out _ HBW.out j hjl
          have hgn := good_next (b := lb) hjl
          generalize L[j] = s at *
          obtain ⟨x, y, z⟩ := s
          simp only at c0 c1 c2'
          generalize (lb && (L.take j).all okS) = gd at *
          have HGN := Lib.hid hgn
          clear hgn
          cases gd with
          | false =>
            go_wp2
            go_roundw
            case rel => exact ⟨j + 1, by omega, by go_num, by rw [HGN.out, Bool.false_and], HBW⟩
            case measure => simp [intOf]; omega
          | true =>
            go_wp2_with fail
            refine (ok_spec x y z _).mono ?_
            rintro e w4 ⟨rfl, hb⟩
            have HBW := Lib.hid (HBW.out.trans (hb.mono HBW.out.size))
            generalize okS (x, y, z) = ob at *
            clear hb c0 c1 c2'
            go_wp2
            go_roundw
            case rel => exact ⟨j + 1, by omega, by go_num, by rw [HGN.out, Bool.true_and], HBW⟩
            case measure => simp [intOf]; omega
      · obtain rfl : j = n := by omega
        have hnj : decide ((j : Int) < (j : Int)) = false := decide_eq_false (by omega)
        rw [List.take_of_length_le (show L.length ≤ j by rw [HN.out]; exact Nat.le_refl _)]
        clear hlt hj
        generalize (lb && L.all okS) = gd at *
        go_upto_region 10 with (fail)
        go_cut [80] (fun v wx => v = .bool false ∧ Hid (Below w3.heap.size w3 wx))
        case first =>
          as_aux_lemma =>
            cases gd with
            | false =>
              obtain rfl : pb = false := by rw [HPB.out, Bool.false_and]
              clear HPB
              go_wp2_with fail
              go_meet
              exact ⟨rfl, HBW⟩
            | true =>
              by_cases h1 : 0 ≤ k
              · by_cases h2 : k < (j : Int)
                · by_cases h3 : -100 ≤ q
                  · by_cases h4 : q ≤ 100
                    · obtain rfl : pb = true := by rw [HPB.out]; rw [Bool.true_and]; exact decide_eq_true (by omega)
                      clear HPB
                      have := decide_eq_true (p := 0 ≤ k) (by omega)
                      have := decide_eq_true (p := k < (j : Int)) (by omega)
                      have := decide_eq_true (p := -100 ≤ q) (by omega)
                      have := decide_eq_true (p := q ≤ 100) (by omega)
                      go_wp2_with fail
                      go_meet
                      exact ⟨rfl, HBW⟩
                    · obtain rfl : pb = false := by rw [HPB.out]; rw [Bool.true_and]; exact decide_eq_false (by omega)
                      clear HPB
                      have := decide_eq_true (p := 0 ≤ k) (by omega)
                      have := decide_eq_true (p := k < (j : Int)) (by omega)
                      have := decide_eq_true (p := -100 ≤ q) (by omega)
                      have := decide_eq_false (p := q ≤ 100) (by omega)
                      go_wp2_with fail
                      go_meet
                      exact ⟨rfl, HBW⟩
                  · obtain rfl : pb = false := by rw [HPB.out]; rw [Bool.true_and]; exact decide_eq_false (by omega)
                    clear HPB
                    have := decide_eq_true (p := 0 ≤ k) (by omega)
                    have := decide_eq_true (p := k < (j : Int)) (by omega)
                    have := decide_eq_false (p := -100 ≤ q) (by omega)
                    go_wp2_with fail
                    go_meet
                    exact ⟨rfl, HBW⟩
                · obtain rfl : pb = false := by rw [HPB.out]; rw [Bool.true_and]; exact decide_eq_false (by omega)
                  clear HPB
                  have := decide_eq_true (p := 0 ≤ k) (by omega)
                  have := decide_eq_false (p := k < (j : Int)) (by omega)
                  go_wp2_with fail
                  go_meet
                  exact ⟨rfl, HBW⟩
              · obtain rfl : pb = false := by rw [HPB.out]; rw [Bool.true_and]; exact decide_eq_false (by omega)
                clear HPB
                have := decide_eq_false (p := 0 ≤ k) (by omega)
                go_wp2_with fail
                go_meet
                exact ⟨rfl, HBW⟩
        case rest =>
          obtain ⟨rfl, HBW⟩ := hcut
          clear HPB
          generalize wc = wr at *
          go_wp2_with fail
          go_loopw [11] (fun i wr => ∃ i' : Nat, i' ≤ j ∧ i = .int .i64 (i' : Int) ∧ Hid (Below w3.heap.size w3 wr)) (fun i _ => j - (intOf i).toNat)
          case atStart => exact ⟨0, Nat.zero_le _, rfl, HBW⟩
          case round =>
            clear HBW
            rename World => wq
            obtain ⟨i, hi, rfl, HBW⟩ := hrel
            have hi0 : (0 : Int) ≤ (i : Int) := Int.natCast_nonneg _
            go_upto_region 13 with (fail)
            go_cut [87] from 81 to 87 (fun v wx => v = .bool (decide (i < j) && pb) ∧ wx = wq)
            case first =>
              by_cases hlt : i < j
              · have hi1 : (i : Int) < (j : Int) := by omega
                go_wp2_with fail
                go_meet
                exact ⟨by rw [decide_eq_true hlt, Bool.true_and], rfl⟩
              · have hi1 : ¬ (i : Int) < (j : Int) := by omega
                have hi2 : decide ((i : Int) < (j : Int)) = false := decide_eq_false hi1
                go_wp2_with fail
                go_meet
                exact ⟨by rw [decide_eq_false hlt, Bool.false_and], rfl⟩
            case rest =>
              obtain ⟨rfl, rfl⟩ := hcut
              generalize hgo : (decide (i < j) && pb) = go
              cases go with
              | true =>
                as_aux_lemma =>
                  rw [Bool.and_eq_true, decide_eq_true_eq] at hgo
                  obtain ⟨hlt, hpb⟩ := hgo
                  have hil : i < L.length := by rw [HN.out]; exact hlt
                  have hiP : i < P.length := by rw [HPN.out]; exact hlt
                  obtain ⟨t1, t2, t3, t4, t5⟩ := HAT.out hpb i hil hiP
                  have T4 := Lib.hid t4
                  have T5 := Lib.hid t5
                  have hi1 : (i : Int) < (j : Int) := by omega
                  clear t4 t5 hpb
                  go_wp2_with fail
                  go_loopw [12, 13] (fun x v wl => ∃ p : Nat, p ≤ m ∧ v = .int .i64 (p : Int) ∧ x = .bool (linkedB ls (i : Int) k p) ∧ Hid (Below w3.heap.size w3 wl)) (fun _ v _ => m - (intOf v).toNat)
                  case atStart => exact ⟨0, Nat.zero_le _, rfl, by rw [linked_start]; first | rfl | simp, HBW⟩
                  case round =>
                    clear HBW
                    rename World => wl
                    obtain ⟨p, hp, rfl, rfl, HBW⟩ := hrel
                    have hp0 : (0 : Int) ≤ (p : Int) := Int.natCast_nonneg _
                    by_cases hpm : p < m
                    · have hp1 : (p : Int) < (m : Int) := by omega
                      have hpl : p < ls.length := by rw [HM.out]; exact hpm
                      obtain ⟨d0, d1, d2⟩ := HKC.out _ HBW.out p hpl
                      have hln := linked_next (i := (i : Int)) (k := k) hpl
                      generalize ls[p] = l at *
                      obtain ⟨f, t, z⟩ := l
                      simp only at d0 d1 d2 hln
                      have HLN := Lib.hid hln
                      clear hln
                      generalize linkedB ls (i : Int) k p = kb at *
                      cases kb with
                      | true =>
                        go_wp2
                        go_roundw
                        case rel => exact ⟨p + 1, by omega, by go_num, by rw [HLN.out, Bool.true_or], HBW⟩
                        case measure => simp [intOf]; omega
                      | false =>
                        by_cases ht : t = (i : Int)
                        · have htb : (t == (i : Int)) = true := by rw [ht]; simp
                          go_wp2
                          go_roundw
                          case rel => exact ⟨p + 1, by omega, by go_num, by rw [HLN.out, decide_eq_true ht]; rfl, HBW⟩
                          case measure => simp [intOf]; omega
                        · have htb : (t == (i : Int)) = false := by simp; omega
                          go_wp2
                          go_roundw
                          case rel => exact ⟨p + 1, by omega, by go_num, by rw [HLN.out, decide_eq_false ht]; rfl, HBW⟩
                          case measure => simp [intOf]; omega
                    · obtain rfl : p = m := by omega
                      have hpx : decide ((p : Int) < (p : Int)) = false := decide_eq_false (by omega)
                      have hlk := fun (h : linkedB ls (i : Int) k p = false) => linked_not (ls := ls) (i := (i : Int)) (k := k) (by rw [HM.out]; exact h)
                      obtain ⟨c0, c1, c2'⟩ := HLC.out _ HBW.out i hil
                      obtain ⟨r0, r1, r2⟩ := HPC.out _ HBW.out i hiP
                      have T6 := Lib.hid (fun (h : linkedB ls (i : Int) k p = false) => T4.out (hlk h).1 (hlk h).2)
                      clear hlk T4
                      generalize linkedB ls (i : Int) k p = kb at *
                      generalize L[i] = s at *
                      generalize P[i] = s2 at *
                      obtain ⟨x, y, z⟩ := s
                      obtain ⟨x2, y2, z2⟩ := s2
                      simp only at c0 c1 c2' r0 r1 r2 t2 t3
                      subst t2 t3
                      have c0 := cell_regrown c0
                      have c1 := cell_regrown c1
                      have c2' := cell_regrown c2'
                      have r0 := cell_regrown r0
                      have r1 := cell_regrown r1
                      have r2 := cell_regrown r2
                      have HOK := Lib.hid (fun w => ok_impl x2 y2 z2 w)
                      rw [t1] at HOK
                      have HOK := Lib.hid (fun (dd : Nat) (os : Array Obj) => Calls.regrown_of (HOK.out (grow (redrawn wl dd) os)))
                      have hxx : (x2 != x2) = false := by simp
                      have hyy : (y2 != y2) = false := by simp
                      clear t1 hpx hp hp0
                      go_wp2_with fail
                      refine wp_region_quiet_below (by kernel_rfl) (by kernel_rfl) ?_
                      cases kb with
                      | false =>
                        have h6 := T6.out rfl
                        rw [Prod.mk.injEq, Prod.mk.injEq] at h6
                        obtain ⟨_, _, rfl⟩ := h6
                        clear T6 T5
                        have hzz : (z2 != z2) = false := by simp
                        by_cases hq : q = 0
                        · have hq2 : (q == 0) = true := by simp [hq]
                          clear hq
                          repeat (go_big_quiet_step ((go_at_call 14; exact HOK.out _ _)))
                          refine wpQuiet_nil ?_
                          intro _ hw'
                          obtain ⟨⟨dq, osq⟩, hw''⟩ := hw'
                          subst hw''
                          have hbr := below_regrown wl dq osq
                          have HBW := Lib.hid (HBW.out.trans (hbr.mono HBW.out.size))
                          clear hbr c0 c1 c2' r0 r1 r2
                          go_wp2
                          go_roundw
                          case rel => exact ⟨i + 1, by omega, by go_num, HBW⟩
                          case measure => simp [intOf]; omega
                        · have hq2 : (q == 0) = false := by simp [hq]
                          clear hq
                          repeat (go_big_quiet_step ((go_at_call 14; exact HOK.out _ _)))
                          refine wpQuiet_nil ?_
                          intro _ hw'
                          obtain ⟨⟨dq, osq⟩, hw''⟩ := hw'
                          subst hw''
                          have hbr := below_regrown wl dq osq
                          have HBW := Lib.hid (HBW.out.trans (hbr.mono HBW.out.size))
                          clear hbr c0 c1 c2' r0 r1 r2
                          go_wp2
                          go_roundw
                          case rel => exact ⟨i + 1, by omega, by go_num, HBW⟩
                          case measure => simp [intOf]; omega
                      | true =>
                        clear T6
                        by_cases hq : q = 0
                        · have h6 := T5.out hq
                          rw [Prod.mk.injEq, Prod.mk.injEq] at h6
                          obtain ⟨_, _, rfl⟩ := h6
                          clear T5
                          have hzz : (z2 != z2) = false := by simp
                          have hq2 : (q == 0) = true := by simp [hq]
                          clear hq
                          repeat (go_big_quiet_step ((go_at_call 14; exact HOK.out _ _)))
                          refine wpQuiet_nil ?_
                          intro _ hw'
                          obtain ⟨⟨dq, osq⟩, hw''⟩ := hw'
                          subst hw''
                          have hbr := below_regrown wl dq osq
                          have HBW := Lib.hid (HBW.out.trans (hbr.mono HBW.out.size))
                          clear hbr c0 c1 c2' r0 r1 r2
                          go_wp2
                          go_roundw
                          case rel => exact ⟨i + 1, by omega, by go_num, HBW⟩
                          case measure => simp [intOf]; omega
                        · have hq2 : (q == 0) = false := by simp [hq]
                          clear hq
                          repeat (go_big_quiet_step ((go_at_call 14; exact HOK.out _ _)))
                          refine wpQuiet_nil ?_
                          intro _ hw'
                          obtain ⟨⟨dq, osq⟩, hw''⟩ := hw'
                          subst hw''
                          have hbr := below_regrown wl dq osq
                          have HBW := Lib.hid (HBW.out.trans (hbr.mono HBW.out.size))
                          clear hbr c0 c1 c2' r0 r1 r2
                          go_wp2
                          go_roundw
                          case rel => exact ⟨i + 1, by omega, by go_num, HBW⟩
                          case measure => simp [intOf]; omega
              | false =>
                have HB := Lib.hid (HB.out.trans (HBW.out.mono HB.out.size))
                clear HAT HLC HKC HPC HPN HBW hgo hi0 hi
                go_wp2_with fail
                refine drawSliders_get ca cl cc _ hm (HR.out.below HB.out (Nat.le_refl _)) ?_
                intro gS cS LS w5 nS hnS hnS1 hnS6 hokS hbS hoS
                have HB := Lib.hid (HB.out.trans (hbS.mono HB.out.size))
                obtain ⟨A, hA, hat⟩ := at_below ca cl cc 0 (by decide) w5 hm (HR.out.below HB.out (Nat.le_refl _))
                rw [show ((0 : Nat) : Int) = 0 from rfl] at hat
                have HAT := Lib.hid hat
                have hls : 0 < LS.length := by omega
                have hnS2 : (0 : Int) < (nS : Int) := by omega
                have hnS3 : 0 < nS := by omega
                obtain ⟨p0, p1, p2⟩ := hoS.cell hls
                simp only [Nat.zero_mul, Nat.zero_add] at p0 p1 p2
                have hok := hokS LS[0] (List.getElem_mem hls)
                have HGS := Lib.hid (hoS.lt gS rfl).2
                clear hat hbS hoS hokS hnS hnS6
                generalize LS[0] = s at *
                obtain ⟨x, y, z⟩ := s
                simp only at p0 p1 p2
                have ho := okS_iff.1 hok
                simp only at ho
                obtain ⟨o1, o2, o3, o4⟩ := ho
                obtain ⟨a1, ha1⟩ : ∃ a1, (A : Int) - 100 = a1 := ⟨_, rfl⟩
                have e1 : IntKind.i64.wrap ((A : Int) - 100) = a1 := by rw [ha1, IntKind.wrap_i64]; omega
                obtain ⟨s1, hs1⟩ : ∃ s1, z + (A : Int) = s1 := ⟨_, rfl⟩
                have e2 : IntKind.i64.wrap (z + (A : Int)) = s1 := by rw [hs1, IntKind.wrap_i64]; omega
                obtain ⟨s2, hs2⟩ : ∃ s2, s1 - 100 = s2 := ⟨_, rfl⟩
                have e3 : IntKind.i64.wrap (s1 - 100) = s2 := by rw [hs2, IntKind.wrap_i64]; omega
                have hvm := pull_max hok (show -1000 ≤ a1 by omega) (show a1 ≤ 1000 by omega)
                rw [show z + a1 = s2 by omega] at hvm
                have hokx : okS (x, y, nowV (x, y, z) a1) = true := pull_ok hok a1
                have HPX := Lib.hid (fun w => pull_impl x y z a1 w)
                have HPY := Lib.hid (fun w => pull_impl x y z 1000 w)
                have HPZ := Lib.hid (fun w => pull_impl x y z (-1000) w)
                rw [pull_top hok] at HPY
                rw [pull_low hok] at HPZ
                have HSPT := Lib.hid (fun a c w hr => spent_impl a 2 c [(x, y, y), (x, y, x)] w rfl (by decide) hr)
                have HLKT := Lib.hid (fun a c w hr => links_impl 2 a 1 c [(0, 1, -1)] w rfl (by decide) hr)
                rw [spent_two hok] at HSPT
                rw [links_one] at HLKT
                generalize nowV (x, y, z) a1 = v at *
                have HOX := Lib.hid (fun w => ok_impl x y v w)
                rw [hokx] at HOX
                obtain ⟨mn, hmn⟩ : ∃ mn, (if y < s2 then y else s2) = mn := ⟨_, rfl⟩
                have hmn2 : (if s2 < y then s2 else y) = mn := by rw [← hmn]; (repeat' split) <;> omega
                have hmn3 : min y s2 = mn := by rw [← hmn]; split <;> omega
                rw [hmn3] at hvm
                have hmx : (if mn < x then x else mn) = v := by rw [hvm]; split <;> omega
                have hmx2 : (if x < mn then mn else x) = v := by rw [hvm]; split <;> omega
                have hvv : (v == v) = true := by simp
                have hyy : (y == y) = true := by simp
                have hxx : (x == x) = true := by simp
                clear ha1 hs1 hs2 hmn3 hokx hok hvm
                go_upto_region 23 with (fail)
                have S0 : w5.cell? ⟨gS, 0, none⟩ = some (.int .i64 x) ∧ w5.cell? ⟨gS, 1, none⟩ = some (.int .i64 y) ∧ w5.cell? ⟨gS, 2, none⟩ = some (.int .i64 z) ∧ Below w5.heap.size w5 w5 := ⟨p0, p1, p2, Below.refl _ _⟩
                go_cut [15] (fun v15 wx => ∃ b : Nat, v15 = .pointer (some ⟨b, 0, none⟩) ∧ Hid (VarT 33 wx b (x, y, v)) ∧ Hid (Below w5.heap.size w5 wx))
                case first =>
                  as_aux_lemma =>
                    clear hmn hmn2 hmx hmx2 e2 e3 HPY HPZ HSPT HLKT HOX
                    go_region_held3 (fun w' => w'.cell? ⟨gS, 0, none⟩ = some (.int .i64 x) ∧ w'.cell? ⟨gS, 1, none⟩ = some (.int .i64 y) ∧ w'.cell? ⟨gS, 2, none⟩ = some (.int .i64 z) ∧ Below w5.heap.size w5 w')
                      (first | with_reducible exact S0 | with_reducible exact tri_drew S0 | with_reducible exact tri_next (by assumption) hb | with_reducible exact tri_drew (by assumption) | with_reducible assumption | with_reducible exact tri_next (by assumption) (alloc_below _ _) | with_reducible exact tri_of S0 (HWZ.out.alloc HWZ.out.size _) | with_reducible exact tri_of S0 (((HWZ.out.setCell (by first | exact HWZ.out.size | exact Nat.le_refl _ | (simp; done) | omega) _).setCell (by first | exact HWZ.out.size | exact Nat.le_refl _ | (simp; done) | omega) _).setCell (by first | exact HWZ.out.size | exact Nat.le_refl _ | (simp; done) | omega) _))
                      ((first | (go_at_call 17; refine (HAT.out _ (tri_below (by assumption))).mono ?_; rintro e x1 ⟨rfl, rfl⟩) | (go_at_call 16; refine (HPX.out _).mono ?_; rintro e wz ⟨rfl, hb⟩; have hbz : Below w5.heap.size w5 wz := Below.trans (tri_below (by assumption)) (hb.mono (Below.size (tri_below (by assumption)))); have HWZ := Lib.hid hbz; (first | (have HV := Lib.hid (HV.out.below hb)) | (have hv0 := VarT.below (VarT.new (T := 33) _ (0, 0, 0)) hb; have HV := Lib.hid hv0; clear hv0) | (have hv0 := VarT.below (T := 33) (w := (w5.alloc (.cells #[.int .i64 0, .int .i64 0, .int .i64 0] 33)).drew) (b := w5.heap.size) (VarT.new w5 (0, 0, 0)) hb; have HV := Lib.hid hv0; clear hv0) | skip); (first | (have hv_0 := HV.out.cells.1; have hv_1 := HV.out.cells.2.1; have hv_2 := HV.out.cells.2.2; have fv_0 := HV.out.free 0; have fv_1 := HV.out.free 1; have fv_2 := HV.out.free 2) | skip))))
                    all_goals
                      go_wp2_with fail
                      go_meet
                      refine ⟨_, rfl, ?_, ?_⟩
                      · first | exact Lib.hid (VarT.new wz (x, y, v)) | exact Lib.hid (HV.out.set3 x y v)
                      · first | exact Lib.hid (HWZ.out.alloc HWZ.out.size _) | exact Lib.hid (((HWZ.out.setCell (by first | exact HWZ.out.size | exact Nat.le_refl _ | (simp; done) | omega) _).setCell (by first | exact HWZ.out.size | exact Nat.le_refl _ | (simp; done) | omega) _).setCell (by first | exact HWZ.out.size | exact Nat.le_refl _ | (simp; done) | omega) _)
                case rest =>
                  obtain ⟨bx, rfl, HX, HBX⟩ := hcut
                  generalize wc = w6 at *
                  have HS := Lib.hid (tri_of S0 HBX.out)
                  clear S0 p0 p1 p2 HBX HPX
                  obtain ⟨p0, p1, p2, _⟩ := HS.out
                  go_wp2_with fail
                  refine (HPY.out _).mono ?_
                  rintro e w7 ⟨rfl, hb⟩
                  have HS := Lib.hid (tri_next HS.out hb)
                  have HX := Lib.hid (HX.out.below hb)
                  clear hb
                  obtain ⟨p0, p1, p2, _⟩ := HS.out
                  go_upto_region 25 with (fail)
                  have hb := alloc_below w7 (.cells #[.int .i64 x, .int .i64 y, .int .i64 y] 33)
                  have HS := Lib.hid (tri_next HS.out hb)
                  have HX := Lib.hid (HX.out.below hb)
                  have HY := Lib.hid (VarT.new (T := 33) w7 (x, y, y))
                  clear hb p0 p1 p2
                  obtain ⟨p0, p1, p2, _⟩ := HS.out
                  generalize (w7.alloc (.cells #[.int .i64 x, .int .i64 y, .int .i64 y] 33)) = w8 at *
                  generalize w7.heap.size = bY at *
                  go_wp2_with fail
                  refine (HPZ.out _).mono ?_
                  rintro e w9 ⟨rfl, hb⟩
                  have HS := Lib.hid (tri_next HS.out hb)
                  have HX := Lib.hid (HX.out.below hb)
                  have HY := Lib.hid (HY.out.below hb)
                  clear hb
                  obtain ⟨p0, p1, p2, _⟩ := HS.out
                  go_upto_region 26 with (fail)
                  have hb := alloc_below w9 (.cells #[.int .i64 x, .int .i64 y, .int .i64 x] 33)
                  have HS := Lib.hid (tri_next HS.out hb)
                  have HX := Lib.hid (HX.out.below hb)
                  have HY := Lib.hid (HY.out.below hb)
                  have HZ := Lib.hid (VarT.new (T := 33) w9 (x, y, x))
                  clear hb p0 p1 p2
                  obtain ⟨p0, p1, p2, _⟩ := HS.out
                  generalize (w9.alloc (.cells #[.int .i64 x, .int .i64 y, .int .i64 x] 33)) = w10 at *
                  generalize w9.heap.size = bZ at *
                  have HS0 := HS.out
                  obtain ⟨x0, x1, x2⟩ := HX.out.cells
                  obtain ⟨y0, y1, y2⟩ := HY.out.cells
                  obtain ⟨z0, z1, z2⟩ := HZ.out.cells
                  have S0 : w10.cell? ⟨gS, 0, none⟩ = some (.int .i64 x) ∧ w10.cell? ⟨gS, 1, none⟩ = some (.int .i64 y) ∧ w10.cell? ⟨gS, 2, none⟩ = some (.int .i64 z) ∧ w10.cell? ⟨bx, 0, none⟩ = some (.int .i64 x) ∧ w10.cell? ⟨bx, 1, none⟩ = some (.int .i64 y) ∧ w10.cell? ⟨bx, 2, none⟩ = some (.int .i64 v) ∧ w10.cell? ⟨bY, 0, none⟩ = some (.int .i64 x) ∧ w10.cell? ⟨bY, 1, none⟩ = some (.int .i64 y) ∧ w10.cell? ⟨bY, 2, none⟩ = some (.int .i64 y) ∧ w10.cell? ⟨bZ, 0, none⟩ = some (.int .i64 x) ∧ w10.cell? ⟨bZ, 1, none⟩ = some (.int .i64 y) ∧ w10.cell? ⟨bZ, 2, none⟩ = some (.int .i64 x) ∧ Below w5.heap.size w5 w10 := ⟨HS0.1, HS0.2.1, HS0.2.2.1, x0, x1, x2, y0, y1, y2, z0, z1, z2, HS0.2.2.2⟩
                  clear HS0 x0 x1 x2 y0 y1 y2 z0 z1 z2 p0 p1 p2 HS HX HY HZ HPY HPZ
                  go_region_held3 (fun w' => w'.cell? ⟨gS, 0, none⟩ = some (.int .i64 x) ∧ w'.cell? ⟨gS, 1, none⟩ = some (.int .i64 y) ∧ w'.cell? ⟨gS, 2, none⟩ = some (.int .i64 z) ∧ w'.cell? ⟨bx, 0, none⟩ = some (.int .i64 x) ∧ w'.cell? ⟨bx, 1, none⟩ = some (.int .i64 y) ∧ w'.cell? ⟨bx, 2, none⟩ = some (.int .i64 v) ∧ w'.cell? ⟨bY, 0, none⟩ = some (.int .i64 x) ∧ w'.cell? ⟨bY, 1, none⟩ = some (.int .i64 y) ∧ w'.cell? ⟨bY, 2, none⟩ = some (.int .i64 y) ∧ w'.cell? ⟨bZ, 0, none⟩ = some (.int .i64 x) ∧ w'.cell? ⟨bZ, 1, none⟩ = some (.int .i64 y) ∧ w'.cell? ⟨bZ, 2, none⟩ = some (.int .i64 x) ∧ Below w5.heap.size w5 w')
                    (first | with_reducible exact S0 | with_reducible exact dz_drew S0 | with_reducible exact dz_next (by assumption) hb | with_reducible exact dz_drew (by assumption) | with_reducible assumption | with_reducible exact dz_next (by assumption) (alloc_below _ _))
                    ((first | (go_at_call 14; refine (HOX.out _).mono ?_; rintro e v1 ⟨rfl, hb⟩) | (go_at_call 17; refine (HAT.out _ (dz_below (by assumption))).mono ?_; rintro e v2 ⟨rfl, rfl⟩) | (go_at_call 18; refine (HSPT.out _ _ _ (Row3.of_block (heap_new _ _) rfl)).mono ?_; rintro e v3 ⟨rfl, hb⟩) | (go_at_call 19; refine (HLKT.out _ _ _ (Row3.of_block (heap_new _ _) rfl)).mono ?_; rintro e v4 ⟨rfl, hb⟩)))
                  have hbz : Below w5.heap.size w5 v4 := dz_below (w' := v4) (by assumption)
                  have HBZ := Lib.hid (HB.out.trans (hbz.mono HB.out.size))
                  clear S0 hb hbz
                  go_wp2
                  go_ret
                  exact ⟨rfl, HBZ.out⟩
end Go.Proofs.Ytmjknjgfcngacaa.Slide

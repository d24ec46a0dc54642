/- The walk of the property of chapter 3. -/
import Derived.Test.YtnkompcampnpoaaCornerImpl2
import Derived.Test.YtnkompcampnpoaaCornerFrom2
import Derived.Test.YtnkompcampnpoaaCornerMath
import Derived.Test.YtnkompcampnpoaaDrawStrip
import Derived.Test.YtnkompcampnpoaaBig
import Derived.Deep.RegionHeld3
namespace Go.Proofs.Ytnkompcampnpoaa.Corner
open Go.ChangeShapes Go.WideShapes Go.ChangeAt Go.RowKit
open Go.Proofs.Ytnkompcampnpoaa.Draw Go.Proofs.Ytnkompcampnpoaa.Strip Go.Proofs.Ytnkompcampnpoaa.Ints
set_option linter.unusedVariables false

theorem btoi_at (b : Bool) (w : World) :
    Calls Try.prog 17 #[.bool b] w fun e w' => e = .returned (.int .i64 (one b)) ∧ w = w' := by
  cases b <;>
  · go_enter Try.func17, Try.ntmps17
    go_wp2
    go_ret
    exact ⟨rfl, rfl⟩

/-- What the last statement of the law keeps: the runs, the library's variable, and all that stood before. -/
structure Kept (w0 : World) (ar : Option Addr) (capr : Nat) (rs : List Int) (mx : Int) (w' : World) : Prop where
  row : Own w' w0.heap.size (.slice ar rs.length capr) rs
  var : w'.cell? ⟨0, 0, none⟩ = some (.int .i64 mx)
  below : Below w0.heap.size w0 w'
theorem Kept.drew {w0 w' : World} {ar : Option Addr} {capr : Nat} {rs : List Int} {mx : Int} (h : Kept w0 ar capr rs mx w') : Kept w0 ar capr rs mx w'.drew :=
  ⟨h.row.below (drewN_below w' 1), h.var, h.below.drew⟩
theorem Kept.next {w0 w' w'' : World} {ar : Option Addr} {capr : Nat} {rs : List Int} {mx : Int} (h : Kept w0 ar capr rs mx w') (hb : Below w'.heap.size w' w'') : Kept w0 ar capr rs mx w'' := by
  refine ⟨h.row.below hb, ?_, h.below.trans (hb.mono h.below.size)⟩
  rw [hb.cell (p := ⟨0, 0, none⟩) (World.block_lt_of_cell? _ _ h.var)]; exact h.var
theorem Kept.irow {w0 w' : World} {ar : Option Addr} {capr : Nat} {rs : List Int} {mx : Int} (h : Kept w0 ar capr rs mx w') : IRow w' ar rs := by
  obtain ⟨_, _, e, hr, _⟩ := h.row.row
  cases e; exact hr

theorem wrap_in (n : Int) (h0 : -9223372036854775808 ≤ n) (h1 : n ≤ 9223372036854775807) : IntKind.i64.wrap n = n := by
  simp [IntKind.wrap, IntKind.signed, IntKind.bits]
  omega

theorem one_f : one false = 0 := rfl
theorem one_t : one true = 1 := rfl

set_option maxRecDepth 100000 in
set_option maxHeartbeats 4000000 in
theorem corn (ca : Option Addr) (cl cc : Nat) (w : World) (hm : cl ≤ maxLen) (hr : RowIn w ca cl) (hml : ∃ m, w.cell? ⟨0, 0, none⟩ = some (.int .i64 m)) :
    Calls Try.prog 3 #[.slice ca cl cc] w fun e w' => e = .returned (.bool true) ∧ Below w.heap.size w w' := by
  obtain ⟨mx, hml⟩ := hml
  have hlt := World.block_lt_of_cell? _ _ hml
  have HML := Lib.hid hml; clear hml
  by_cases hbig : 1048576 < cl
  · have hd : decide (1048576 < (cl : Int)) = true := by simp; omega
    go_enter Try.func3, Try.ntmps3
    go_wp2_with fail
    refine (big_at ca cl cc w hm).mono ?_
    rintro e w' ⟨rfl, rfl⟩
    rw [hd]
    go_wp2
    go_ret
    exact ⟨rfl, Below.refl _ _⟩
  · have hd : decide (1048576 < (cl : Int)) = false := by simp; omega
    go_enter Try.func3, Try.ntmps3
    go_wp2_with fail
    refine (big_at ca cl cc w hm).mono ?_
    rintro e w' ⟨rfl, rfl⟩
    rw [hd]
    clear hd hbig
    go_wp2_with fail
    refine drawStrip_get ca cl cc w hm hr ?_
    intro l w1 hok h1 h2 h3 h4 hb1
    have HB1 := Lib.hid hb1; clear hb1 hr
    have hst : stripB l = true := by
      unfold stripB frameB
      rw [hok]
      simp
      omega
    have hzl := strip_size hst
    obtain ⟨s, hs⟩ : ∃ s : ByteArray, (⟨l.toArray⟩ : ByteArray) = s := ⟨_, rfl⟩
    have hsl : s.data.toList = l := by rw [← hs]
    rw [hs]
    have hsz : s.size = l.length := by rw [← hsl]; simp
    clear hs h1 h2 h3 h4
    obtain ⟨b, hb⟩ : ∃ b, l[0]? = some (letter b) := by
      have hm0 : l[0]? = some l[0] := List.getElem?_eq_getElem (by omega)
      have hall := hok
      unfold okL at hall
      rw [List.all_eq_true] at hall
      have hd := hall l[0] (List.getElem_mem _)
      rw [hm0]
      generalize l[0] = y at *
      simp only [Bool.or_eq_true, beq_iff_eq] at hd
      rcases hd with rfl | rfl
      · exact ⟨false, rfl⟩
      · exact ⟨true, rfl⟩
    have hsm : s.size ≤ 1048576 := by omega
    have hci := fun w => corners_impl s w hsm
    have hri := fun w => runs_impl s w hsm
    rw [hsl, corners_yes hst] at hci
    rw [hsl, runs_yes hst] at hri
    have hmi := fun k w => mountain_impl s k w hsm
    have hvi := fun k w => valley_impl s k w hsm
    have hfi := fun w => folds_impl s w hsm
    have hpi := fun w => peaks_impl s w hsm
    rw [hsl] at hmi hvi hfi hpi
    obtain ⟨ha, hfv⟩ := folds_are l hst b hb
    rw [hfv] at hfi
    have hpv : peaksV l = (mts l (turns l l.length).length : Int) := by unfold peaksV; rw [if_pos hst, mts_all l hst]
    rw [hpv] at hpi
    have hatc := at_corner l hst b hb
    have hmv := mountain_or_valley l hst
    have hend := fun x => no_corner_end x l
    have hrs := runs_sum_take l
    have hrsum := runs_sum l
    have hback := runs_back l hst b hb
    have hmts := mts_succ l
    have hmle := mts_le l
    have hodd := folds_odd (turns l l.length).length b
    have hclt := turns_lt l l.length (by omega)
    have hrlen : (gaps 0 (turns l l.length ++ [(l.length : Int)])).length = (turns l l.length).length + 1 := by rw [gaps_length]; simp
    have HCI := Lib.hid hci; clear hci
    have HRI := Lib.hid hri; clear hri
    have HMI := Lib.hid hmi; clear hmi
    have HVI := Lib.hid hvi; clear hvi
    have HFI := Lib.hid hfi; clear hfi
    have HPI := Lib.hid hpi; clear hpi
    have HATC := Lib.hid hatc; clear hatc
    have HMV := Lib.hid hmv; clear hmv
    have HEND := Lib.hid hend; clear hend
    have HRS := Lib.hid hrs; clear hrs
    have HRSUM := Lib.hid hrsum; clear hrsum
    have HBACK := Lib.hid hback; clear hback
    have HMTS := Lib.hid hmts; clear hmts
    have HMLE := Lib.hid hmle; clear hmle
    have HA := Lib.hid ha; clear ha
    have HB0 := Lib.hid hb; clear hb
    clear hfv hpv hok
    have HST := Lib.hid hst; clear hst
    obtain ⟨cs, hcs⟩ : ∃ cs, turns l l.length = cs := ⟨_, rfl⟩
    have HCS := Lib.hid hcs
    rw [hcs] at HCI HRI HFI HPI HRS HRSUM HBACK HA hodd hclt hrlen
    clear hcs
    generalize gaps 0 (cs ++ [(l.length : Int)]) = rs at *
    go_wp2_with fail
    refine (HCI.out _).mono ?_
    rintro e w2 ⟨vc, rfl, hb2, hoc⟩
    have HB2 := Lib.hid (HB1.out.trans (hb2.mono HB1.out.size))
    have HOC2 := Lib.hid (hoc.mono HB1.out.size); clear hoc hb2
    obtain ⟨ac, capc, rfl, _, _⟩ := HOC2.out.row
    go_wp2_with fail
    refine (HRI.out _).mono ?_
    rintro e w3 ⟨vr, rfl, hb3, hor⟩
    have HB3 := Lib.hid (HB2.out.trans (hb3.mono HB2.out.size))
    have HOC3 := Lib.hid (HOC2.out.below hb3)
    have HOR3 := Lib.hid (hor.mono HB2.out.size); clear hor hb3
    obtain ⟨ar, capr, rfl, _, _⟩ := HOR3.out.row
    have hrl : rs.length ≤ 17 := by omega
    have hcl2 : cs.length ≤ 16 := by omega
    have HRLEN := Lib.hid hrlen; clear hrlen
    go_wp2_with fail
    go_loopw [6, 7] (fun su i wr => ∃ k : Nat, k ≤ rs.length ∧ i = .int .i64 (k : Int) ∧ su = .int .i64 (rs.take k).sum ∧ Hid (Own wr w.heap.size (.slice ac cs.length capc) cs) ∧ Hid (Own wr w.heap.size (.slice ar rs.length capr) rs) ∧ Hid (Below w.heap.size w wr)) (fun _ i _ => rs.length - (intOf i).toNat)
    case atStart => exact ⟨0, Nat.zero_le _, rfl, rfl, HOC3, HOR3, HB3⟩
    case round =>
      obtain ⟨k, hk, rfl, rfl, HOC, HOR, HB⟩ := hrel
      by_cases hlt : k < rs.length
      · have hk0 : (0 : Int) ≤ (k : Int) := Int.natCast_nonneg _
        have hk1 : (k : Int) < (rs.length : Int) := by omega
        obtain ⟨s0, s1⟩ := HRS.out k
        obtain ⟨s2, s3⟩ := HRS.out (k + 1)
        have hsn := sum_snoc rs k hlt
        obtain ⟨_, _, e, hrow, _⟩ := HOR.out.row
        cases e
        obtain ⟨g, rfl, hgs, hcell⟩ := hrow k hlt
        clear hrow
        rw [hsn] at s2 s3
        have HSN := Lib.hid hsn; clear hsn
        generalize (rs.take k).sum = su at *
        generalize rs[k] = r at *
        go_wp2
        refine ⟨⟨k + 1, by omega, by go_num, by rw [HSN.out], HOC, HOR, HB⟩, by simp [intOf]; omega⟩
      · obtain rfl : k = rs.length := by omega
        rw [List.take_length] at *
        clear hk
        go_wp2_with fail
        clear HRS
        go_loopw [8, 9] (fun pe i wr => ∃ k : Nat, k ≤ cs.length ∧ i = .int .i64 (k : Int) ∧ pe = .int .i64 (mts l k : Int) ∧ Hid (Own wr w.heap.size (.slice ac cs.length capc) cs) ∧ Hid (Own wr w.heap.size (.slice ar rs.length capr) rs) ∧ Hid (Below w.heap.size w wr)) (fun _ i _ => cs.length - (intOf i).toNat)
        case atStart => exact ⟨0, Nat.zero_le _, rfl, by rw [mts_zero]; rfl, HOC, HOR, HB⟩
        case round =>
          clear HOC HOR HB
          obtain ⟨k, hk, rfl, rfl, HOC, HOR, HB⟩ := hrel
          have hle := HMLE.out k
          by_cases hlt : k < cs.length
          · have hk0 : (0 : Int) ≤ (k : Int) := Int.natCast_nonneg _
            have hk1 : (k : Int) < (cs.length : Int) := by omega
            have hin : 0 ≤ cs[k] ∧ cs[k] ≤ 16 := by
              have := (turns_mem l l.length cs[k]).1 (by rw [HCS.out]; exact List.getElem_mem hlt)
              obtain ⟨j, e, hj, _⟩ := this
              omega
            have hms := HMTS.out k (by rw [HCS.out]; exact hlt)
            have hac := HATC.out k (by rw [HCS.out]; exact hlt)
            simp only [HCS.out] at hms hac
            rw [hac.1] at hms
            have hmt := fun w => HMI.out cs[k] w (by omega) (by omega)
            have hvt := fun w => HVI.out cs[k] w (by omega) (by omega)
            rw [hac.1] at hmt
            rw [hac.2] at hvt
            have HMT := Lib.hid hmt; clear hmt
            have HVT := Lib.hid hvt; clear hvt hac
            have HMS := Lib.hid hms; clear hms
            obtain ⟨_, _, e, hrow, _⟩ := HOC.out.row
            cases e
            obtain ⟨g, rfl, hgs, hcell⟩ := hrow k hlt
            clear hrow hgs
            have hfp : ∀ j, k = j + 1 → flip b j = !(flip b k) := fun j e => by rw [e, flip_succ]; simp
            have HFP := Lib.hid hfp; clear hfp
            generalize hce : cs[k] = c at *
            have hcd : ∀ w', Own w' w.heap.size (.slice (some ⟨g, 0, none⟩) cs.length capc) cs → w'.cell? ⟨g, k, none⟩ = some (.int .i64 c) := fun w' h => by rw [← hce]; exact h.cell hlt
            have HCD := Lib.hid hcd; clear hcd
            cases hfl : flip b k
            all_goals
              rw [hfl] at HMT HVT HMS HFP
              go_wp2_with fail
              refine (HMT.out _).mono ?_
              rintro e w4 ⟨rfl, hb4⟩
              have HB4 := Lib.hid (HB.out.trans (hb4.mono HB.out.size))
              have HOC4 := Lib.hid (HOC.out.below hb4)
              have HOR4 := Lib.hid (HOR.out.below hb4)
              have hcell4 := HCD.out _ HOC4.out
              clear hb4 hcell
              go_wp2_with fail
              refine (HVT.out _).mono ?_
              rintro e w5 ⟨rfl, hb5⟩
              have HB5 := Lib.hid (HB4.out.trans (hb5.mono HB4.out.size))
              have HOC5 := Lib.hid (HOC4.out.below hb5)
              have HOR5 := Lib.hid (HOR4.out.below hb5)
              clear hb5 hcell4
              by_cases hz : k = 0
              · have hkp : decide ((0 : Int) < (k : Int)) = false := by simp; omega
                have hkz : ¬ (0 : Int) < (k : Int) := by omega
                clear hz
                go_wp2_with fail
                refine (btoi_at _ _).mono ?_
                rintro e w' ⟨rfl, rfl⟩
                first | rw [one_f] | rw [one_t]
                go_wp2
                exact ⟨⟨k + 1, by omega, by go_num, by rw [HMS.out]; go_num, HOC5, HOR5, HB5⟩, by simp [intOf]; omega⟩
              · obtain ⟨j, hj⟩ : ∃ j, k = j + 1 := ⟨k - 1, by omega⟩
                have hkp : (0 : Int) < (k : Int) := by omega
                have hkj : (k : Int) - 1 = (j : Int) := by omega
                have hfj := HFP.out j hj
                have hinj : 0 ≤ cs[j]'(by omega) ∧ cs[j]'(by omega) ≤ 16 := by
                  have := (turns_mem l l.length (cs[j]'(by omega))).1 (by rw [HCS.out]; exact List.getElem_mem (by omega))
                  obtain ⟨j2, e, hj2, _⟩ := this
                  omega
                have hacj := (HATC.out j (by rw [HCS.out]; omega)).1
                simp only [HCS.out] at hacj
                rw [hfj] at hacj
                have hmj := fun w => HMI.out (cs[j]'(by omega)) w (by omega) (by omega)
                rw [hacj] at hmj
                have HMJ := Lib.hid hmj; clear hmj hacj hfj
                have hcellj : w5.cell? ⟨g, j, none⟩ = some (.int .i64 (cs[j]'(by omega))) := HOC5.out.cell (by omega)
                generalize cs[j]'_ = cj at *
                have hj0 : (0 : Int) ≤ (j : Int) := Int.natCast_nonneg _
                have hj1 : (j : Int) < (cs.length : Int) := by omega
                have hq0 : (0 : Int) ≤ (k : Int) - 1 := by omega
                have hq1 : (k : Int) - 1 < (cs.length : Int) := by omega
                clear hz
                go_wp2_with fail
                refine (HMJ.out _).mono ?_
                rintro e w6 ⟨rfl, hb6⟩
                have HB6 := Lib.hid (HB5.out.trans (hb6.mono HB5.out.size))
                have HOC6 := Lib.hid (HOC5.out.below hb6)
                have HOR6 := Lib.hid (HOR5.out.below hb6)
                clear hb6 hcellj
                go_wp2_with fail
                refine (btoi_at _ _).mono ?_
                rintro e w' ⟨rfl, rfl⟩
                first | rw [one_f] | rw [one_t]
                rw [hj] at HMS hle
                go_wp2
                exact ⟨⟨j + 1 + 1, by omega, by go_num, by rw [HMS.out]; go_num, HOC6, HOR6, HB6⟩, by simp [intOf]; omega⟩
          · obtain rfl : k = cs.length := by omega
            clear HATC HMTS hle
            go_wp2_with fail
            go_loopw [11, 12] (fun inn i wr => ∃ k : Nat, k ≤ l.length + 1 ∧ i = .int .i64 (k : Int) ∧ inn = .int .i64 ((turns l (min k l.length)).length : Int) ∧ Hid (Own wr w.heap.size (.slice ac cs.length capc) cs) ∧ Hid (Own wr w.heap.size (.slice ar rs.length capr) rs) ∧ Hid (Below w.heap.size w wr)) (fun _ i _ => l.length + 1 - (intOf i).toNat)
            case atStart => exact ⟨0, Nat.zero_le _, rfl, by simp [turns_zero], HOC, HOR, HB⟩
            case round =>
              clear HOC HOR HB
              obtain ⟨k, hk, rfl, rfl, HOC, HOR, HB⟩ := hrel
              have hle := turns_le l (min k l.length)
              by_cases hlt : k ≤ l.length
              · have hk0 : (0 : Int) ≤ (k : Int) := Int.natCast_nonneg _
                have hk1 : (k : Int) ≤ (s.size : Int) := by omega
                have hmt := fun w => HMI.out (k : Int) w (by omega) (by omega)
                have hvt := fun w => HVI.out (k : Int) w (by omega) (by omega)
                have hor : ∃ t : Bool, (cornerB 102 l (k : Int) || cornerB 100 l (k : Int)) = t ∧ ((turns l (min (k + 1) l.length)).length : Int) = (turns l (min k l.length)).length + one t := by
                  by_cases hkn : k < l.length
                  · refine ⟨turn l k, HMV.out k hkn, ?_⟩
                    rw [Nat.min_eq_left (by omega), Nat.min_eq_left (by omega)]
                    cases ht : turn l k with
                    | false => rw [turns_no _ _ ht, one_f]; omega
                    | true => rw [turns_yes _ _ ht, one_t, List.length_append]; simp
                  · obtain rfl : k = l.length := by omega
                    refine ⟨false, by rw [HEND.out, HEND.out]; rfl, ?_⟩
                    rw [Nat.min_eq_right (by omega), Nat.min_eq_right (by omega), one_f]; omega
                obtain ⟨t, ht, hnext⟩ := hor
                have HNEXT := Lib.hid hnext; clear hnext
                generalize cornerB 102 l (k : Int) = bm at *
                generalize cornerB 100 l (k : Int) = bv at *
                have HMT := Lib.hid hmt; clear hmt
                have HVT := Lib.hid hvt; clear hvt
                generalize (turns l (min k l.length)).length = inn at *
                cases bm
                · have hbt : bv = t := by simpa using ht
                  subst hbt
                  clear ht
                  go_wp2_with fail
                  refine (HMT.out _).mono ?_
                  rintro e w4 ⟨rfl, hb4⟩
                  have HB4 := Lib.hid (HB.out.trans (hb4.mono HB.out.size))
                  have HOC4 := Lib.hid (HOC.out.below hb4)
                  have HOR4 := Lib.hid (HOR.out.below hb4)
                  clear hb4
                  go_wp2_with fail
                  refine (HVT.out _).mono ?_
                  rintro e w5 ⟨rfl, hb5⟩
                  have HB5 := Lib.hid (HB4.out.trans (hb5.mono HB4.out.size))
                  have HOC5 := Lib.hid (HOC4.out.below hb5)
                  have HOR5 := Lib.hid (HOR4.out.below hb5)
                  clear hb5
                  cases bv
                  all_goals
                    go_wp2_with fail
                    refine (btoi_at _ _).mono ?_
                    rintro e w' ⟨rfl, rfl⟩
                    first | rw [one_f] | rw [one_t]
                    go_wp2
                    exact ⟨⟨k + 1, by omega, by go_num, by rw [HNEXT.out]; go_num, HOC5, HOR5, HB5⟩, by simp [intOf]; omega⟩
                · have hbt : true = t := by simpa using ht
                  subst hbt
                  clear ht
                  go_wp2_with fail
                  refine (HMT.out _).mono ?_
                  rintro e w4 ⟨rfl, hb4⟩
                  have HB4 := Lib.hid (HB.out.trans (hb4.mono HB.out.size))
                  have HOC4 := Lib.hid (HOC.out.below hb4)
                  have HOR4 := Lib.hid (HOR.out.below hb4)
                  clear hb4
                  go_wp2_with fail
                  refine (btoi_at _ _).mono ?_
                  rintro e w' ⟨rfl, rfl⟩
                  first | rw [one_f] | rw [one_t]
                  go_wp2
                  exact ⟨⟨k + 1, by omega, by go_num, by rw [HNEXT.out]; go_num, HOC4, HOR4, HB4⟩, by simp [intOf]; omega⟩
              · obtain rfl : k = l.length + 1 := by omega
                clear HMI HVI HMV HEND hle hlt hk
                rw [Nat.min_eq_right (by omega), HCS.out]
                have hfr : ∀ w' : World, IRow w' ar rs → Calls Try.prog 19 #[.string ⟨#[letter b]⟩, .slice ar rs.length capr] w' fun e w'' => e = .returned (.string s) ∧ Below w'.heap.size w' w'' := by
                  intro w' h
                  have hback2 := HBACK.out
                  have hss : (⟨l.toArray⟩ : ByteArray) = s := by rw [← hsl]
                  cases b with
                  | false =>
                    have h2 := from_impl_false rs ar capr w' (by have := HRLEN.out; omega) h
                    rw [show (⟨#[100]⟩ : ByteArray) = ⟨#[letter false]⟩ from rfl, hback2, hss] at h2
                    exact h2
                  | true =>
                    have h2 := from_impl_true rs ar capr w' (by have := HRLEN.out; omega) h
                    rw [show (⟨#[102]⟩ : ByteArray) = ⟨#[letter true]⟩ from rfl, hback2, hss] at h2
                    exact h2
                have HFR := Lib.hid hfr; clear hfr HBACK
                have hs0 : 0 < s.size := by omega
                have hsl1 : s.size - 1 < s.size := by omega
                have g0 : s[0] = letter b := by
                  have h1 := at_get s 0 hs0
                  rw [hsl, HB0.out] at h1
                  exact (Option.some.inj h1).symm
                have hex : s.extract 0 1 = ⟨#[letter b]⟩ := by
                  apply ByteArray.ext
                  apply Array.ext'
                  have h1 := take_str s 1
                  rw [h1, hsl]
                  cases hl : l with
                  | nil => rw [hl] at hzl; simp at hzl
                  | cons x r =>
                    have h2 := HB0.out
                    rw [hl] at h2
                    have h3 : x = letter b := by simpa using h2
                    rw [h3]; rfl
                have g1 : ((s[0].toNat : Int) == 102) = b := by rw [show ((s[0].toNat : Int) == 102) = (s[0] == 102) from byte_beq _ 102, g0, (letter_is b).1]
                have g2 : ((s[s.size - 1].toNat : Int) == 100) = !(flip b cs.length) := by
                  rw [show ((s[s.size - 1].toNat : Int) == 100) = (s[s.size - 1] == 100) from byte_beq _ 100, ← HA.out, ← hsz]
                  have h1 := at_get s (s.size - 1) hsl1
                  rw [hsl] at h1
                  rw [h1]; simp
                have HEX := Lib.hid hex; clear hex g0
                have hss : (s.toList == s.toList) = true := by simp
                have x0 : 0 ≤ one b ∧ one b ≤ 1 := by cases b <;> exact ⟨by decide, by decide⟩
                have y0 : 0 ≤ one (!(flip b cs.length)) ∧ one (!(flip b cs.length)) ≤ 1 := by cases (flip b cs.length) <;> exact ⟨by decide, by decide⟩
                have hbx : ∀ w, Calls Try.prog 17 #[.bool b] w fun e w' => e = .returned (.int .i64 (one b)) ∧ w = w' := btoi_at b
                have hby : ∀ w, Calls Try.prog 17 #[.bool (!(flip b cs.length))] w fun e w' => e = .returned (.int .i64 (one (!(flip b cs.length)))) ∧ w = w' := btoi_at _
                have HBX := Lib.hid hbx; clear hbx
                have HBY := Lib.hid hby; clear hby
                generalize one b = x at *
                generalize one (!(flip b cs.length)) = y at *
                generalize (!(flip b cs.length)) = fb at *
                have HG1 := Lib.hid g1; clear g1
                have HG2 := Lib.hid g2; clear g2
                have hmo : (((cs.length : Int) + x + y).tmod 2) = 1 := by
                  rw [Int.tmod_eq_emod_of_nonneg (by omega)]; exact hodd
                go_wp2_with fail
                refine (HFI.out _).mono ?_
                rintro e w4 ⟨rfl, hb4⟩
                have HB4 := Lib.hid (HB.out.trans (hb4.mono HB.out.size))
                have HOC4 := Lib.hid (HOC.out.below hb4)
                have HOR4 := Lib.hid (HOR.out.below hb4)
                clear hb4
                obtain ⟨x0, x1⟩ := x0
                obtain ⟨y0, y1⟩ := y0
                have hk0 : Kept w ar capr rs mx w4 := ⟨HOR4.out, by rw [HB4.out.cell (p := ⟨0, 0, none⟩) (by assumption)]; exact HML.out, HB4.out⟩
                clear HB4 HOC4 HOR4 HB HOC HOR
                have hrl1 : (rs.length : Int) = (cs.length : Int) + 1 := by have := HRLEN.out; omega
                have hsum : rs.sum = (s.size : Int) := by rw [HRSUM.out, hsz]
                have e1 : ((rs.length : Int) == (cs.length : Int) + 1) = true := by simp; omega
                have e2 : (rs.sum == (s.size : Int)) = true := by rw [hsum]; simp
                have e3 : ((s[0].toNat : Int) == 102) = b := HG1.out
                obtain ⟨m, hm1⟩ : ∃ m, s.size - 1 = m := ⟨_, rfl⟩
                have hm2 : m < s.size := by omega
                have hm3 : ((s.size : Int) - 1).toNat = m := by omega
                have e4 : ((s[m].toNat : Int) == 100) = fb := by
                  have h := HG2.out
                  simp only [hm1] at h
                  exact h
                have hv1 : IntKind.i64.wrap ((cs.length : Int) + 1) = (cs.length : Int) + 1 := wrap_in _ (by omega) (by omega)
                have hv2 : IntKind.i64.wrap ((cs.length : Int) + x) = (cs.length : Int) + x := wrap_in _ (by omega) (by omega)
                have hv3 : IntKind.i64.wrap ((cs.length : Int) + x + y) = (cs.length : Int) + x + y := wrap_in _ (by omega) (by omega)
                have hv4 : IntKind.i64.wrap ((s.size : Int) - 1) = (s.size : Int) - 1 := wrap_in _ (by omega) (by omega)
                have hz1 : (0 : Int) < (s.size : Int) := by omega
                have hz2 : (0 : Int) ≤ (s.size : Int) - 1 := by omega
                have hz3 : (s.size : Int) - 1 < (s.size : Int) := by omega
                have hz4 : (1 : Int) ≤ (s.size : Int) := by omega
                clear hrl1 hsum hm1 HG2 HG1
                clear hsz hzl hsl1 hclt hrl
                go_wp2_with fail
                go_region_held3 (fun w' => Kept w ar capr rs mx w') (first | exact hk0.drew | exact hk0 | assumption | exact Kept.next (by assumption) hb | exact (Kept.next (by assumption) hb).drew | exact Kept.drew (by assumption))
                  ((first | (go_at_call 19; rw [HEX.out]; refine (HFR.out _ (Kept.irow (by assumption))).mono ?_; rintro e w' ⟨rfl, hb⟩) | (go_at_call 20; refine (HPI.out _ _ (Kept.var (by assumption))).mono ?_; rintro e w' ⟨rfl, hb⟩) | (go_at_call 17; refine (HBX.out _).mono ?_; rintro e w' ⟨rfl, rfl⟩) | (go_at_call 17; refine (HBY.out _).mono ?_; rintro e w' ⟨rfl, rfl⟩)))
                all_goals
                  have hB := Lib.hid (Kept.below (w' := w') (by assumption))
                  go_wp2
                  go_ret
                  exact ⟨rfl, hB.out⟩
end Go.Proofs.Ytnkompcampnpoaa.Corner

/- What PullAll of the program returns (printed by wip/gen_slide7.py): the moves of each round wait in a channel. -/
import Derived.Test.YtmjknjgfcngacaaSlideRound
import Derived.Test.YtmjknjgfcngacaaSlideLinks
import Derived.Test.YtmjknjgfcngacaaSlideClone
import Derived.Test.YtmjknjgfcngacaaSlideEq
import Derived.Test.YtmjknjgfcngacaaSlideGave
import Derived.Test.YtmjknjgfcngacaaChan
namespace Go.Proofs.Ytmjknjgfcngacaa.Slide
open Go.ChangeShapes Go.WideShapes Go.ChangeAt Go.RowKit Go.Sort
open Go.Proofs.Ytmjknjgfcngacaa.Tri
open Go.Proofs.Ytmjknjgfcngacaa.Chan
open Go.Conc (run_makeChan got scase rcase heap_setChan)
open Go.Proofs.Ytmjknjgfcngacaa.Ints (grown_below grown_set grown_trans heap_set_at drewN_below)
set_option linter.unusedVariables false

theorem info_shifts : ∃ i, Try.prog.info? 69 = some i ∧ i.bytes = 64 := by
  have h : (Try.prog.info? 69).map (·.bytes) = some 64 := by kernel_rfl
  obtain ⟨i, hi, hb⟩ := Option.map_eq_some_iff.1 h
  exact ⟨i, hi, hb⟩
theorem make_chan (w : World) : (Instr.makeChan 72 (.int .i64 1)).run Try.prog w = .ok (.chan (some w.heap.size)) (w.alloc (.chan 1 #[] false 0 0 false)) := by
  obtain ⟨i, hi, hb⟩ := info_shifts
  simpa using run_makeChan (P := Try.prog) (w := w) Try.underlying72 hi .i64 1 (by omega) (by rw [hb]; omega)
/-- How many moves have been received. -/
def gotN (w : World) (c : Nat) : Nat := match w.heap[c]? with | some (.chan _ _ _ _ r _) => r | _ => 0
theorem gotN_of {w : World} {c cap s r : Nat} {buf : Array Value} {cl : Bool} (h : Chan w c cap buf cl s r) : gotN w c = r := by unfold gotN; rw [h]

set_option maxRecDepth 100000 in
set_option maxHeartbeats 4000000 in
theorem all_impl (k q : Int) (ad : Addr) (n c m cl : Nat) (al : Option Addr) (L ls : List T3) (w : World) (hL : L.length = n) (hn : n ≤ 1048576) (hr : Row3 w (some ad) L) (hl : ls.length = m) (hm : m ≤ 1048576) (hrl : Row3 w al ls) (hal : ∀ x, al = some x → x.block < w.heap.size) :
    Calls Try.prog 11 #[.slice (some ad) n c, .slice al m cl, .int .i64 k, .int .i64 q] w (GaveS w n (pullL L ls k q) (pullB L ls k q)) := by
  have HL := Lib.hid hL
  have HM := Lib.hid hl
  have HR := Lib.hid hr
  have HRL := Lib.hid hrl
  have HAL := Lib.hid hal
  have HCL := Lib.hid (clone_impl ad n c L w hL hn hr)
  have HLK := Lib.hid (fun w' h => links_impl (n : Int) al m cl ls w' hl hm h)
  have HAR := Lib.hid (fun w' h => are_impl (some ad) n c L w' hL hn h)
  clear hL hl hr hrl hal
  cases hlk : linksB (n : Int) ls with
  | false =>
    rw [hlk] at HLK
    have HP := Lib.hid (pullB_no (L := L) (ls := ls) (k := k) (q := q) (fun h => by rw [HL.out] at h; rw [h.1] at hlk; cases hlk))
    clear hlk
    go_enter Try.func11, Try.ntmps11
    generalize hc7 : Code.region 7 _ false = cs7
    go_wp2_with fail
    refine HCL.out.mono ?_
    rintro e w1 ⟨g, cap, rfl, hb, ho⟩
    have HO := Lib.hid ho
    have HB := Lib.hid hb
    clear ho hb
    go_wp2_with fail
    refine (HLK.out _ (HRL.out.below HB.out)).mono ?_
    rintro e w2 ⟨rfl, hb⟩
    have HO := Lib.hid (HO.out.below hb)
    have HB := Lib.hid (HB.out.trans (hb.mono HB.out.size))
    clear hb
    go_wp2_with fail
    go_ret2
    unfold GaveS
    rw [HP.out, pullL_no HP.out]
    exact ⟨g, cap, rfl, HB.out, HO.out⟩
  | true =>
    rw [hlk] at HLK
    cases har : L.all okS with
    | false =>
      rw [har] at HAR
      have HP := Lib.hid (pullB_no (L := L) (ls := ls) (k := k) (q := q) (fun h => by rw [HL.out] at h; rw [List.all_eq_true.2 h.2.1] at har; cases har))
      clear har
      go_enter Try.func11, Try.ntmps11
      generalize hc7 : Code.region 7 _ false = cs7
      go_wp2_with fail
      refine HCL.out.mono ?_
      rintro e w1 ⟨g, cap, rfl, hb, ho⟩
      have HO := Lib.hid ho
      have HB := Lib.hid hb
      clear ho hb
      go_wp2_with fail
      refine (HLK.out _ (HRL.out.below HB.out)).mono ?_
      rintro e w2 ⟨rfl, hb⟩
      have HO := Lib.hid (HO.out.below hb)
      have HB := Lib.hid (HB.out.trans (hb.mono HB.out.size))
      clear hb
      go_wp2_with fail
      refine (HAR.out _ (HR.out.below HB.out)).mono ?_
      rintro e w3 ⟨rfl, hb⟩
      have HO := Lib.hid (HO.out.below hb)
      have HB := Lib.hid (HB.out.trans (hb.mono HB.out.size))
      clear hb
      go_wp2_with fail
      go_ret2
      unfold GaveS
      rw [HP.out, pullL_no HP.out]
      exact ⟨g, cap, rfl, HB.out, HO.out⟩
    | true =>
      rw [har] at HAR
      by_cases h1 : k < 0
      · have e1 : decide (k < 0) = true := decide_eq_true h1
        have HP := Lib.hid (pullB_no (L := L) (ls := ls) (k := k) (q := q) (fun h => by rw [HL.out] at h; omega))
        go_enter Try.func11, Try.ntmps11
        generalize hc7 : Code.region 7 _ false = cs7
        go_wp2_with fail
        refine HCL.out.mono ?_
        rintro e w1 ⟨g, cap, rfl, hb, ho⟩
        have HO := Lib.hid ho
        have HB := Lib.hid hb
        clear ho hb
        go_wp2_with fail
        refine (HLK.out _ (HRL.out.below HB.out)).mono ?_
        rintro e w2 ⟨rfl, hb⟩
        have HO := Lib.hid (HO.out.below hb)
        have HB := Lib.hid (HB.out.trans (hb.mono HB.out.size))
        clear hb
        go_wp2_with fail
        refine (HAR.out _ (HR.out.below HB.out)).mono ?_
        rintro e w3 ⟨rfl, hb⟩
        have HO := Lib.hid (HO.out.below hb)
        have HB := Lib.hid (HB.out.trans (hb.mono HB.out.size))
        clear hb
        go_wp2_with fail
        go_ret2
        unfold GaveS
        rw [HP.out, pullL_no HP.out]
        exact ⟨g, cap, rfl, HB.out, HO.out⟩
      · have e1 : decide (k < 0) = false := decide_eq_false h1
        by_cases h2 : (n : Int) ≤ k
        · have e2 : decide ((n : Int) ≤ k) = true := decide_eq_true h2
          have HP := Lib.hid (pullB_no (L := L) (ls := ls) (k := k) (q := q) (fun h => by rw [HL.out] at h; omega))
          go_enter Try.func11, Try.ntmps11
          generalize hc7 : Code.region 7 _ false = cs7
          go_wp2_with fail
          refine HCL.out.mono ?_
          rintro e w1 ⟨g, cap, rfl, hb, ho⟩
          have HO := Lib.hid ho
          have HB := Lib.hid hb
          clear ho hb
          go_wp2_with fail
          refine (HLK.out _ (HRL.out.below HB.out)).mono ?_
          rintro e w2 ⟨rfl, hb⟩
          have HO := Lib.hid (HO.out.below hb)
          have HB := Lib.hid (HB.out.trans (hb.mono HB.out.size))
          clear hb
          go_wp2_with fail
          refine (HAR.out _ (HR.out.below HB.out)).mono ?_
          rintro e w3 ⟨rfl, hb⟩
          have HO := Lib.hid (HO.out.below hb)
          have HB := Lib.hid (HB.out.trans (hb.mono HB.out.size))
          clear hb
          go_wp2_with fail
          go_ret2
          unfold GaveS
          rw [HP.out, pullL_no HP.out]
          exact ⟨g, cap, rfl, HB.out, HO.out⟩
        · have e2 : decide ((n : Int) ≤ k) = false := decide_eq_false h2
          by_cases h3 : q < -100
          · have e3 : decide (q < -100) = true := decide_eq_true h3
            have HP := Lib.hid (pullB_no (L := L) (ls := ls) (k := k) (q := q) (fun h => by rw [HL.out] at h; omega))
            go_enter Try.func11, Try.ntmps11
            generalize hc7 : Code.region 7 _ false = cs7
            go_wp2_with fail
            refine HCL.out.mono ?_
            rintro e w1 ⟨g, cap, rfl, hb, ho⟩
            have HO := Lib.hid ho
            have HB := Lib.hid hb
            clear ho hb
            go_wp2_with fail
            refine (HLK.out _ (HRL.out.below HB.out)).mono ?_
            rintro e w2 ⟨rfl, hb⟩
            have HO := Lib.hid (HO.out.below hb)
            have HB := Lib.hid (HB.out.trans (hb.mono HB.out.size))
            clear hb
            go_wp2_with fail
            refine (HAR.out _ (HR.out.below HB.out)).mono ?_
            rintro e w3 ⟨rfl, hb⟩
            have HO := Lib.hid (HO.out.below hb)
            have HB := Lib.hid (HB.out.trans (hb.mono HB.out.size))
            clear hb
            go_wp2_with fail
            go_ret2
            unfold GaveS
            rw [HP.out, pullL_no HP.out]
            exact ⟨g, cap, rfl, HB.out, HO.out⟩
          · have e3 : decide (q < -100) = false := decide_eq_false h3
            by_cases h4 : 100 < q
            · have e4 : decide (100 < q) = true := decide_eq_true h4
              have HP := Lib.hid (pullB_no (L := L) (ls := ls) (k := k) (q := q) (fun h => by rw [HL.out] at h; omega))
              go_enter Try.func11, Try.ntmps11
              generalize hc7 : Code.region 7 _ false = cs7
              go_wp2_with fail
              refine HCL.out.mono ?_
              rintro e w1 ⟨g, cap, rfl, hb, ho⟩
              have HO := Lib.hid ho
              have HB := Lib.hid hb
              clear ho hb
              go_wp2_with fail
              refine (HLK.out _ (HRL.out.below HB.out)).mono ?_
              rintro e w2 ⟨rfl, hb⟩
              have HO := Lib.hid (HO.out.below hb)
              have HB := Lib.hid (HB.out.trans (hb.mono HB.out.size))
              clear hb
              go_wp2_with fail
              refine (HAR.out _ (HR.out.below HB.out)).mono ?_
              rintro e w3 ⟨rfl, hb⟩
              have HO := Lib.hid (HO.out.below hb)
              have HB := Lib.hid (HB.out.trans (hb.mono HB.out.size))
              clear hb
              go_wp2_with fail
              go_ret2
              unfold GaveS
              rw [HP.out, pullL_no HP.out]
              exact ⟨g, cap, rfl, HB.out, HO.out⟩
            · have e4 : decide (100 < q) = false := decide_eq_false h4
              have e3b : decide (q < -100) = false := e3
              have hP : pullB L ls k q = true := pullB_iff.2 ⟨by rw [HL.out]; exact hlk, List.all_eq_true.1 har, by omega, by rw [HL.out]; omega, by omega, by omega⟩
              obtain ⟨hF, hk, _, _, hE⟩ := pull_fit hP
              rw [HL.out] at hF hE
              have HP := Lib.hid hP
              have HE := Lib.hid hE
              have HF := Lib.hid hF
              obtain ⟨K, rfl⟩ := Int.eq_ofNat_of_zero_le (show 0 ≤ k by omega)
              rw [Int.toNat_natCast] at HF HE
              have hK : K < n := HF.out.k
              have hK0 : (0 : Int) ≤ (K : Int) := Int.natCast_nonneg _
              have hK1 : (K : Int) < (n : Int) := by omega
              have hn8 := HF.out.most
              have hK8 : (K : Int) < 8 := by omega
              clear hP hF hE hk hlk har h1 h2 h3 h4
              go_enter Try.func11, Try.ntmps11
              generalize hc7 : Code.region 7 _ false = cs7
              go_wp2_with fail
              refine HCL.out.mono ?_
              rintro e w1 ⟨g, cap, rfl, hb, ho⟩
              have HO := Lib.hid ho
              have HB := Lib.hid hb
              clear ho hb
              go_wp2_with fail
              refine (HLK.out _ (HRL.out.below HB.out)).mono ?_
              rintro e w2 ⟨rfl, hb⟩
              have HO := Lib.hid (HO.out.below hb)
              have HB := Lib.hid (HB.out.trans (hb.mono HB.out.size))
              clear hb
              go_wp2_with fail
              refine (HAR.out _ (HR.out.below HB.out)).mono ?_
              rintro e w3 ⟨rfl, hb⟩
              have HO := Lib.hid (HO.out.below hb)
              have HB := Lib.hid (HB.out.trans (hb.mono HB.out.size))
              clear hb
              have e2n : decide (n ≤ K) = false := decide_eq_false (by omega)
              have hmc := make_chan
              have ha := Arr8.new w3 noMove
              have hb := alloc_below w3 (.cells (a8 noMove) 69)
              have hgB : g < w3.heap.size := (HO.out.lt g rfl).2
              have hgW : w.heap.size ≤ g := (HO.out.lt g rfl).1
              have HBW := Lib.hid (show w.heap.size ≤ w3.heap.size from HB.out.size)
              have HO := Lib.hid (HO.out.below hb)
              have HB := Lib.hid (HB.out.trans (hb.mono HB.out.size))
              have HA := Lib.hid ha
              have HKL := Lib.hid (show K < L.length by rw [HL.out]; exact hK)
              have HMV := Lib.hid (move_impl q w.heap.size g n cap K L _ HO.out HKL.out)
              have HST := Lib.hid (first_at (q := q) HKL.out)
              obtain ⟨d, hd⟩ : ∃ d, nowV (L[K]'HKL.out) q - (L[K]'HKL.out).2.2 = d := ⟨_, rfl⟩
              rw [hd] at HST HMV
              clear ha hb
              go_wp2_with fail
              refine HMV.out.mono ?_
              rintro e w4 ⟨rfl, ho, hg⟩
              clear hd HMV
              obtain ⟨B, hB⟩ : ∃ B, w3.heap.size = B := ⟨_, rfl⟩
              rw [hB] at HA hgB HBW ⊢
              have HO := Lib.hid ho
              have HA := Lib.hid (HA.out.grown hg (by simp only [ne_eq, Option.some.injEq]; omega))
              have HB := Lib.hid (HB.out.grown hg HB.out.size (fun t e => by cases e; exact hgW))
              clear ho hg hB
              have a0 := HA.out.cell (j := K) (by omega)
              have f0 := HA.out.free K
              go_wp2_with fail
              have HA2 := Lib.hid (show Arr8 (w4.setCell ⟨B, K, none⟩ (.int .i64 d)) B (st L ls K q 0).2 from (HA.out.set (j := K) (by omega) d).congr (fun i _ => by rw [st_zero, HST.out]; rfl))
              have HO2 := Lib.hid (show OwnT 33 (w4.setCell ⟨B, K, none⟩ (.int .i64 d)) w.heap.size (.slice (some ⟨g, 0, none⟩) n cap) (st L ls K q 0).1 from by rw [st_zero, HST.out]; exact own_other HO.out (grown_set w4 B K (.int .i64 d)) (by omega))
              have HB2 := Lib.hid (below_set (c := B) (j := K) (u := .int .i64 d) HB.out HBW.out HB.out.size)
              have HSZ := Lib.hid (size_set (w := w4) (c := B) (j := K) (u := .int .i64 d))
              have HBC := Lib.hid (show B < w4.heap.size from HA.out.lt)
              clear HA HO HB a0 f0 hmc
              obtain ⟨C, hC⟩ : ∃ C, w4.heap.size = C := ⟨_, rfl⟩
              rw [hC] at HSZ HBC ⊢
              clear hC
              generalize (w4.setCell ⟨B, K, none⟩ (.int .i64 d)) = w5 at *
              have hch : Chan (w5.alloc (.chan 1 #[] false 0 0 false)) C 1 #[] false 0 0 := by
                have := heap_alloc_new w5 (.chan 1 #[] false 0 0 false)
                rw [HSZ.out] at this
                exact this
              have HCH := Lib.hid hch
              have hb := alloc_below w5 (.chan 1 #[] false 0 0 false)
              have HA := Lib.hid (HA2.out.below hb)
              have HO := Lib.hid (HO2.out.below hb)
              have HB := Lib.hid (HB2.out.trans (hb.mono HB2.out.size))
              clear hb hch HA2 HO2 HB2 HSZ
              generalize (w5.alloc (.chan 1 #[] false 0 0 false)) = w6 at *
              obtain ⟨b0, b1, b2, b3, b4, b5, b6, b7⟩ := HA.out.cells
              rw [← hc7]
              refine region_of ?_
              show OpsTo _ _ _ [0, 1, 2] _ _
              refine opsTo_value (w' := w6) (v := .chan (some C)) rfl rfl (by go_simp) ?_
              refine opsTo_value (w' := w6) (v := .agg (a8 (st L ls K q 0).2)) rfl rfl (by go_simp; rfl) ?_
              refine opsTo_send (c := C) (v := .agg (a8 (st L ls K q 0).2)) (z := .tuple #[]) rfl rfl (by go_simp; rfl) HCH.out (by simp) ?_
              refine opsTo_nil ?_
              clear b0 b1 b2 b3 b4 b5 b6 b7 hc7
              simp only [Act.put, List.getElem_toArray, List.getElem_cons_succ, List.getElem_cons_zero, List.setIfInBounds_toArray, List.set_cons_succ, List.set_cons_zero]
              have hgc := grown_chan w6 C 1 (#[].push (.agg (a8 (st L ls K q 0).2))) false (0 + 1) 0 false
              have HCH2 : Hid (Chan (w6.setChan C 1 (#[].push (.agg (a8 (st L ls K q 0).2))) false (0 + 1) 0 false) C 1 #[.agg (a8 (st L ls K q 0).2)] false 1 0) := Lib.hid HCH.out.set
              have HO2 := Lib.hid (own_other HO.out hgc (by have := HBC.out; omega))
              have HCW := Lib.hid (show w.heap.size ≤ C from by have := HBW.out; have := HBC.out; omega)
              have HB2 := Lib.hid (HB.out.grown hgc HB.out.size (fun t e => by cases e; exact HCW.out))
              clear hgc HCH HO HB HA
              generalize (w6.setChan C 1 (#[].push (.agg (a8 (st L ls K q 0).2))) false (0 + 1) 0 false) = w7 at *
              have hgC : C ≠ g := by have := HBC.out; omega
              go_wp2_with fail
              go_loopw [] (fun wr => ∃ r : Nat, Hid (OwnT 33 wr w.heap.size (.slice (some ⟨g, 0, none⟩) n cap) (st L ls K q r).1) ∧ Hid (Below w.heap.size w wr) ∧ ((r ≤ n ∧ Hid (Chan wr C 1 #[.agg (a8 (st L ls K q r).2)] false (r + 1) r)) ∨ (Hid (∀ v, v < n → (st L ls K q r).2 v = 0) ∧ ∃ s, Hid (Chan wr C 1 #[] true s r)))) (fun wr => n + 1 - gotN wr C)
              case atStart => exact ⟨0, HO2, HB2, .inl ⟨by omega, HCH2⟩⟩
              case round =>
                clear HO2 HB2 HCH2
                obtain ⟨r, HO, HB, ⟨hr, HCH⟩ | ⟨HZ, s, HCH⟩⟩ := hrel
                · have HMEAS := Lib.hid (gotN_of HCH.out)
                  generalize hc9 : Code.region 9 _ false = cs9
                  generalize hc13 : Code.region 13 _ false = cs13
                  generalize hc14 : Code.region 14 _ false = cs14
                  go_wp2_with fail
                  rw [← hc9]
                  refine region_of ?_
                  show OpsTo _ _ _ [0, 1] _ _
                  refine opsTo_recv (c := C) (z := .agg (a8 noMove)) (ok := true) rfl rfl (by go_simp; rfl) HCH.out (by simp) ?_
                  have hgot : got true ((#[.agg (a8 (st L ls K q r).2)] : Array Value).getD 0 undef) true = .tuple #[.agg (a8 (st L ls K q r).2), .bool true] := rfl
                  rw [hgot]
                  clear hgot
                  have hgc := grown_chan wr C 1 ((#[.agg (a8 (st L ls K q r).2)] : Array Value).extract 1 (#[.agg (a8 (st L ls K q r).2)] : Array Value).size) false (r + 1) (r + 1) false
                  have HCH2 : Hid (Chan (wr.setChan C 1 ((#[.agg (a8 (st L ls K q r).2)] : Array Value).extract 1 (#[.agg (a8 (st L ls K q r).2)] : Array Value).size) false (r + 1) (r + 1) false) C 1 #[] false (r + 1) (r + 1)) := Lib.hid HCH.out.set
                  have HO2 := Lib.hid (own_other HO.out hgc hgC)
                  have HB2 := Lib.hid (HB.out.grown hgc HB.out.size (fun t e => by cases e; exact HCW.out))
                  clear hgc HCH HO HB
                  generalize (wr.setChan C 1 ((#[.agg (a8 (st L ls K q r).2)] : Array Value).extract 1 (#[.agg (a8 (st L ls K q r).2)] : Array Value).size) false (r + 1) (r + 1) false) = w8 at *
                  refine opsTo_value (w' := w8) (v := .bool true) rfl rfl (by go_simp) ?_
                  refine opsTo_nil ?_
                  clear hc9
                  simp only [Act.put, List.getElem_toArray, List.getElem_cons_succ, List.getElem_cons_zero, List.setIfInBounds_toArray, List.set_cons_succ, List.set_cons_zero]
                  obtain ⟨h1, h2, h3, _, _⟩ := HF.out.st_ok q r
                  obtain ⟨mv, hmv⟩ : ∃ mv, (st L ls K q r).2 = mv := ⟨_, rfl⟩
                  obtain ⟨mm, hmm⟩ : ∃ mm, (st L ls K q (r + 1)).2 = mm := ⟨_, rfl⟩
                  rw [hmv] at h3
                  have hs1 : (part mv (st L ls K q r).1 ls) = st L ls K q (r + 1) := by rw [st_succ, hmv]
                  have HMM := Lib.hid hmm
                  have HMV := Lib.hid hmv
                  have hb := alloc_below w8 (.cells #[.int .i64 (mv 0), .int .i64 (mv 1), .int .i64 (mv 2), .int .i64 (mv 3), .int .i64 (mv 4), .int .i64 (mv 5), .int .i64 (mv 6), .int .i64 (mv 7)] 69)
                  have HCH := Lib.hid (HCH2.out.below hb)
                  have HO := Lib.hid (HO2.out.below hb)
                  have HB := Lib.hid (HB2.out.trans (hb.mono HB2.out.size))
                  have ha := Arr8.new w8 mv
                  unfold a8 at ha
                  obtain ⟨x0, x1, x2, x3, x4, x5, x6, x7⟩ := Arr8.cells (w := w8.alloc (.cells #[.int .i64 (mv 0), .int .i64 (mv 1), .int .i64 (mv 2), .int .i64 (mv 3), .int .i64 (mv 4), .int .i64 (mv 5), .int .i64 (mv 6), .int .i64 (mv 7)] 69)) ha
                  have hrd := round_impl mv w.heap.size g n cap m cl al (st L ls K q r).1 ls _ HO.out h1 hn8 h2 h3 HM.out (by have := HF.out.few; have := HM.out; omega) HF.out.link (HRL.out.below HB.out) (fun x e => by have := HAL.out x e; omega)
                  rw [hs1, hmm] at hrd
                  unfold a8 at hrd
                  have HRD := Lib.hid hrd
                  rw [hmv]
                  unfold a8
                  clear hb ha hrd hs1 h1 h2 h3 hmv hmm HCH2 HO2 HB2
                  go_wp2_with fail
                  refine HRD.out.mono ?_
                  rintro e w9 ⟨rfl, ho, hg⟩
                  have HO := Lib.hid ho
                  have HCH := Lib.hid (HCH.out.grown hg (by simpa using hgC))
                  have HB := Lib.hid (HB.out.grown hg HB.out.size (fun t e => by cases e; exact hgW))
                  clear ho hg x0 x1 x2 x3 x4 x5 x6 x7 HRD
                  have hb := alloc_below w9 (.cells #[.int .i64 (mm 0), .int .i64 (mm 1), .int .i64 (mm 2), .int .i64 (mm 3), .int .i64 (mm 4), .int .i64 (mm 5), .int .i64 (mm 6), .int .i64 (mm 7)] 69)
                  have HCH := Lib.hid (HCH.out.below hb)
                  have HO := Lib.hid (HO.out.below hb)
                  have HB := Lib.hid (HB.out.trans (hb.mono HB.out.size))
                  have ha := Arr8.new w9 mm
                  unfold a8 at ha
                  obtain ⟨x0, x1, x2, x3, x4, x5, x6, x7⟩ := Arr8.cells (w := w9.alloc (.cells #[.int .i64 (mm 0), .int .i64 (mm 1), .int .i64 (mm 2), .int .i64 (mm 3), .int .i64 (mm 4), .int .i64 (mm 5), .int .i64 (mm 6), .int .i64 (mm 7)] 69)) ha
                  clear hb ha
                  have heq := eq_shifts mm
                  cases hrest : restB mm with
                  | true =>
                    rw [hrest] at heq
                    go_wp2_with fail
                    generalize (w9.alloc (.cells #[.int .i64 (mm 0), .int .i64 (mm 1), .int .i64 (mm 2), .int .i64 (mm 3), .int .i64 (mm 4), .int .i64 (mm 5), .int .i64 (mm 6), .int .i64 (mm 7)] 69)) = w10 at *
                    rw [← hc13]
                    refine region_of ?_
                    show OpsTo _ _ _ [0, 1] _ _
                    refine opsTo_value (w' := w10) (v := .chan (some C)) rfl rfl (by go_simp) ?_
                    have hcl := fun ats ty => run_close_open (P := Try.prog) (w := w10) ats ty HCH.out
                    refine opsTo_value (w' := w10.setChan C 1 #[] true (r + 1) (r + 1) false) (v := .tuple #[]) rfl rfl (by go_simp; rfl) ?_
                    refine opsTo_nil ?_
                    clear x0 x1 x2 x3 x4 x5 x6 x7 hc13 hc14 hcl
                    simp only [Act.put, List.getElem_toArray, List.getElem_cons_succ, List.getElem_cons_zero, List.setIfInBounds_toArray, List.set_cons_succ, List.set_cons_zero]
                    have HZ := Lib.hid (show ∀ v, v < n → (st L ls K q (r + 1)).2 v = 0 from fun v hv => by rw [HMM.out]; exact restB_iff.1 hrest v (by omega))
                    have hgc := grown_chan w10 C 1 #[] true (r + 1) (r + 1) false
                    have HCH2 : Hid (Chan (w10.setChan C 1 #[] true (r + 1) (r + 1) false) C 1 #[] true (r + 1) (r + 1)) := Lib.hid HCH.out.set
                    have HO2 := Lib.hid (own_other HO.out hgc hgC)
                    have HB2 := Lib.hid (HB.out.grown hgc HB.out.size (fun t e => by cases e; exact HCW.out))
                    clear hgc HCH HO HB heq hrest
                    generalize (w10.setChan C 1 #[] true (r + 1) (r + 1) false) = w11 at *
                    go_wp2_with fail
                    go_roundw
                    case rel => exact ⟨_, _, _, _, _, _, _, _, _, _, _, _, _, _, _, ⟨r + 1, HO2, HB2, .inr ⟨HZ, r + 1, HCH2⟩⟩, rfl⟩
                    case measure => rw [gotN_of HCH2.out, HMEAS.out]; omega
                  | false =>
                    rw [hrest] at heq
                    go_wp2_with fail
                    generalize (w9.alloc (.cells #[.int .i64 (mm 0), .int .i64 (mm 1), .int .i64 (mm 2), .int .i64 (mm 3), .int .i64 (mm 4), .int .i64 (mm 5), .int .i64 (mm 6), .int .i64 (mm 7)] 69)) = w10 at *
                    rw [← hc14]
                    refine region_of ?_
                    show OpsTo _ _ _ [0, 1, 2] _ _
                    refine opsTo_value (w' := w10) (v := .chan (some C)) rfl rfl (by go_simp) ?_
                    refine opsTo_value (w' := w10) (v := .agg #[.int .i64 (mm 0), .int .i64 (mm 1), .int .i64 (mm 2), .int .i64 (mm 3), .int .i64 (mm 4), .int .i64 (mm 5), .int .i64 (mm 6), .int .i64 (mm 7)]) rfl rfl (by go_simp) ?_
                    refine opsTo_send (c := C) (v := .agg #[.int .i64 (mm 0), .int .i64 (mm 1), .int .i64 (mm 2), .int .i64 (mm 3), .int .i64 (mm 4), .int .i64 (mm 5), .int .i64 (mm 6), .int .i64 (mm 7)]) (z := .tuple #[]) rfl rfl (by go_simp; rfl) HCH.out (by simp) ?_
                    refine opsTo_nil ?_
                    clear x0 x1 x2 x3 x4 x5 x6 x7 hc13 hc14
                    simp only [Act.put, List.getElem_toArray, List.getElem_cons_succ, List.getElem_cons_zero, List.setIfInBounds_toArray, List.set_cons_succ, List.set_cons_zero]
                    obtain ⟨v, hv8, hvn⟩ := restB_no hrest
                    have hr1 : r + 1 ≤ n := HF.out.early q (r := r + 1) (v := v) (by rw [HMM.out]; exact hvn)
                    have hgc := grown_chan w10 C 1 (#[].push (.agg #[.int .i64 (mm 0), .int .i64 (mm 1), .int .i64 (mm 2), .int .i64 (mm 3), .int .i64 (mm 4), .int .i64 (mm 5), .int .i64 (mm 6), .int .i64 (mm 7)])) false (r + 1 + 1) (r + 1) false
                    have HCH2 : Hid (Chan (w10.setChan C 1 (#[].push (.agg #[.int .i64 (mm 0), .int .i64 (mm 1), .int .i64 (mm 2), .int .i64 (mm 3), .int .i64 (mm 4), .int .i64 (mm 5), .int .i64 (mm 6), .int .i64 (mm 7)])) false (r + 1 + 1) (r + 1) false) C 1 #[.agg (a8 (st L ls K q (r + 1)).2)] false (r + 1 + 1) (r + 1)) := by
                      rw [HMM.out]; exact Lib.hid HCH.out.set
                    have HO2 := Lib.hid (own_other HO.out hgc hgC)
                    have HB2 := Lib.hid (HB.out.grown hgc HB.out.size (fun t e => by cases e; exact HCW.out))
                    clear hgc HCH HO HB heq hrest
                    generalize (w10.setChan C 1 (#[].push (.agg #[.int .i64 (mm 0), .int .i64 (mm 1), .int .i64 (mm 2), .int .i64 (mm 3), .int .i64 (mm 4), .int .i64 (mm 5), .int .i64 (mm 6), .int .i64 (mm 7)])) false (r + 1 + 1) (r + 1) false) = w11 at *
                    go_wp2_with fail
                    go_roundw
                    case rel => exact ⟨_, _, _, _, _, _, _, _, _, _, _, _, _, _, _, ⟨r + 1, HO2, HB2, .inl ⟨hr1, HCH2⟩⟩, rfl⟩
                    case measure => rw [gotN_of HCH2.out, HMEAS.out]; omega
                · have HSAME := Lib.hid (HF.out.same q HZ.out)
                  generalize hc9 : Code.region 9 _ false = cs9
                  generalize hc13 : Code.region 13 _ false = cs13
                  generalize hc14 : Code.region 14 _ false = cs14
                  go_wp2_with fail
                  rw [← hc9]
                  refine region_of ?_
                  show OpsTo _ _ _ [0, 1] _ _
                  refine opsTo_shut (c := C) (z := .agg (a8 noMove)) (ok := true) rfl rfl (by go_simp; rfl) HCH.out ?_
                  have hgot : got true (.agg (a8 noMove)) false = .tuple #[.agg (a8 noMove), .bool false] := rfl
                  rw [hgot]
                  clear hgot
                  refine opsTo_value (w' := wr) (v := .bool false) rfl rfl (by go_simp) ?_
                  refine opsTo_nil ?_
                  clear hc9
                  simp only [Act.put, List.getElem_toArray, List.getElem_cons_succ, List.getElem_cons_zero, List.setIfInBounds_toArray, List.set_cons_succ, List.set_cons_zero]
                  go_wp2_with fail
                  go_ret2
                  unfold GaveS
                  rw [HP.out, HE.out, ← HSAME.out]
                  exact ⟨g, cap, rfl, HB.out, HO.out⟩
end Go.Proofs.Ytmjknjgfcngacaa.Slide

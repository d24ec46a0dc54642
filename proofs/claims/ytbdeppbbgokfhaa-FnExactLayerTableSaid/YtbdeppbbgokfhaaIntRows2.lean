/- What laws.eqIntSS, markIntSS and heldIntSS return and leave alone. -/
import Derived.Test.YtbdeppbbgokfhaaIntRows
namespace Go.Proofs.Ytbdeppbbgokfhaa.Ints
open Go.ChangeShapes Go.WideShapes Go.ChangeAt Go.RowKit
set_option linter.unusedVariables false

theorem eq_yesN (n ca cb : Nat) (a b : Option Addr) (l : List Int) (hl : l.length = n) (hm : n ≤ maxLen) (w : World) (q p : Nat) (ha : IRow (w.drewN (q + p)) a l) (hb : IRow (w.drewN (q + p)) b l) :
    Calls Try.prog 41 #[.slice a n ca, .slice b n cb] (w.drewN (q + p)) fun e w' => e = .returned (.bool true) ∧ ∃ m, w' = w.drewN (q + m) := by
  refine (eq_yes n ca cb a b l hl hm _ ha hb).mono ?_
  rintro e w' ⟨rfl, r, rfl⟩
  exact ⟨rfl, p + r, by rw [World.drewN_drewN, Nat.add_assoc]⟩

theorem IRow.drewN {w : World} {a : Option Addr} {l : List Int} (h : IRow w a l) (q : Nat) : IRow (w.drewN q) a l := h.below (drewN_below w q)

set_option maxRecDepth 100000 in
theorem eqSS_yes (n ca cb : Nat) (a b : Option Addr) (ls : List (List Int)) (hl : ls.length = n) (hm : n ≤ maxLen) (w : World) (ha : Row2 w a ls) (hb : Row2 w b ls) :
    Calls Try.prog 34 #[.slice a n ca, .slice b n cb] w fun e w' => e = .returned (.bool true) ∧ ∃ q, w' = w.drewN q := by
  unfold maxLen at hm
  have HL := Lib.hid hl; clear hl
  have HA := Lib.hid ha; clear ha
  have HB := Lib.hid hb; clear hb
  go_enter Try.func34, Try.ntmps34
  go_wp2_with fail
  go_loopw [5] (fun i wr => ∃ k q : Nat, k ≤ n ∧ i = .int .i64 k ∧ wr = w.drewN q) (fun i _ => n - (intOf i).toNat)
  case atStart => exact ⟨0, 0, Nat.zero_le _, rfl, rfl⟩
  case round =>
    obtain ⟨k, q, hk, rfl, rfl⟩ := hrel
    by_cases hlt : k < n
    · have hle : ls[k]? = some (ls[k]'(by rw [HL.out]; exact hlt)) := List.getElem?_eq_getElem _
      obtain ⟨ga, aa, xa, rfl, hca, hra, hma⟩ := HA.out k _ hle
      obtain ⟨gb, ab, xb, rfl, hcb, hrb, hmb⟩ := HB.out k _ hle
      have HC := Lib.hid (fun p => eq_yesN _ xa xb aa ab _ rfl hma w q p (hra.drewN _) (hrb.drewN _))
      clear hra hrb hma hmb hle
      generalize (ls[k]'_).length = ln at *
      have hk0 : (0 : Int) ≤ (k : Int) := Int.natCast_nonneg _
      have hk1 : (k : Int) < (n : Int) := by omega
      go_wp2_with fail
      go_quiet ((go_at_call 41; exact HC.out _))
      go_wp2
      go_roundw
      case rel => exact ⟨k + 1, _, by omega, by go_num, rfl⟩
      case measure => simp [intOf]; omega
    · go_wp2
      go_ret
      exact ⟨rfl, q, rfl⟩

set_option maxRecDepth 100000 in
theorem markSS_at (k : Nat) (hk1 : 1 ≤ k) (base n cap : Nat) (a : Option Addr) (vs : List Value) (ls : List (List Int)) (hl : ls.length = n) (hk : k + tot ls ≤ 1000000) (hn : n ≤ 1000000) (w : World) (hbw : base ≤ w.heap.size) (h : Own2 w base (.slice a n cap) vs ls) :
    Calls Try.prog 37 #[.slice a n cap, .int .i64 (k : Int)] w fun e w' => e = .returned (.int .i64 ((k + tot ls : Nat) : Int)) ∧ Own2 w' base (.slice a n cap) vs (marks2 k ls) ∧ Below base w w' := by
  have HNL := Lib.hid hl
  have H := Lib.hid h
  clear h hl
  go_enter Try.func37, Try.ntmps37
  go_wp2_with fail
  go_loopw [1, 5] (fun kv i wr => ∃ j : Nat, j ≤ n ∧ i = .int .i64 j ∧ kv = .int .i64 ((k + tot (ls.take j) : Nat) : Int) ∧ Hid (Own2 wr base (.slice a n cap) vs (part2 k j ls)) ∧ Hid (Below base w wr)) (fun _ i _ => n - (intOf i).toNat)
  case atStart => exact ⟨0, Nat.zero_le _, rfl, by simp [tot], (by rw [part2_zero]; exact H.out), Below.refl _ _⟩
  case round =>
    obtain ⟨j, hj, rfl, rfl, HO, HB⟩ := hrel
    have htl := tot_take_le ls j
    by_cases hlt : j < n
    · have hj0 : (0 : Int) ≤ (j : Int) := Int.natCast_nonneg _
      have hj1 : (j : Int) < (n : Int) := by omega
      have hjl : j < ls.length := by rw [HNL.out]; exact hlt
      have hat := part2_at k j ls hjl
      obtain ⟨u, hu⟩ := HO.out.val hat
      have hin := HO.out.inner j u _ hu hat
      have hst := tot_step ls j hjl
      have hts := tot_take_le ls (j + 1)
      rw [hst] at hts
      obtain ⟨aj, cj, rfl, hrow, hmm⟩ := hin.row
      have hcell : ∃ g, a = some ⟨g, 0, none⟩ ∧ wr.cell? ⟨g, j, none⟩ = some (.slice aj (ls[j]'hjl).length cj) := by
        obtain ⟨a2, c2, e, hr2, _⟩ := HO.out.row
        obtain ⟨g, aj', cj', e2, hc2, _, _⟩ := hr2 j _ hat
        have e3 : a = a2 := by cases e; rfl
        subst e3
        subst e2
        exact ⟨g, rfl, HO.out.at hu⟩
      obtain ⟨g, rfl, hcell⟩ := hcell
      have HMK := Lib.hid (mark_at (k + tot (ls.take j)) (by omega) (by omega) base aj cj _ (by omega) wr hin)
      have HU := Lib.hid hu
      have HST := Lib.hid hst
      clear hat hin hrow hu hst hmm
      go_wp2_with fail
      refine HMK.out.mono ?_
      rintro e w1 ⟨rfl, ho, hg⟩
      have HO2 := Lib.hid (HO.out.turn HU.out ho hg)
      rw [part2_set _ _ _ hjl] at HO2
      have HB2 := Lib.hid (HB.out.grown hg (Nat.le_trans hbw HB.out.size) (fun b e => (HO.out.lt HU.out b e).1))
      clear ho hg hcell
      go_wp2_with fail
      refine ⟨⟨j + 1, by omega, by go_num, ?_, HO2, HB2⟩, by simp [intOf]; omega⟩
      rw [HST.out]
      congr 1
      try omega
    · obtain rfl : j = n := by omega
      go_wp2
      go_ret
      have ht : ls.take ls.length = ls := List.take_length
      refine ⟨ret_int (by rw [← HNL.out, ht]), ?_, HB.out⟩
      have h2 := HO.out
      rw [← HNL.out, part2_all] at h2
      rw [← HNL.out]
      exact h2

set_option maxRecDepth 100000 in
theorem heldSS_at (a : Option Addr) (n cap k : Nat) (hk1 : 1 ≤ k) (ls : List (List Int)) (hl : ls.length = n) (hk : k + tot ls ≤ 1000000) (hn : n ≤ 1000000) (w : World) (hr : Row2 w a (marks2 k ls)) :
    Calls Try.prog 38 #[.slice a n cap, .int .i64 (k : Int)] w fun e w' => e = .returned (.int .i64 ((k + tot ls : Nat) : Int)) ∧ ∃ q, w' = w.drewN q := by
  have HNL := Lib.hid hl
  have HR := Lib.hid hr
  clear hr hl
  go_enter Try.func38, Try.ntmps38
  go_wp2_with fail
  go_loopw [1, 5] (fun kv i wr => ∃ j q : Nat, j ≤ n ∧ i = .int .i64 j ∧ kv = .int .i64 ((k + tot (ls.take j) : Nat) : Int) ∧ wr = w.drewN q) (fun _ i _ => n - (intOf i).toNat)
  case atStart => exact ⟨0, 0, Nat.zero_le _, rfl, by simp [tot], rfl⟩
  case round =>
    obtain ⟨j, q, hj, rfl, rfl, rfl⟩ := hrel
    have htl := tot_take_le ls j
    by_cases hlt : j < n
    · have hj0 : (0 : Int) ≤ (j : Int) := Int.natCast_nonneg _
      have hj1 : (j : Int) < (n : Int) := by omega
      have hjl : j < ls.length := by rw [HNL.out]; exact hlt
      have hst := tot_step ls j hjl
      have hts := tot_take_le ls (j + 1)
      rw [hst] at hts
      obtain ⟨g, aj, cj, rfl, hc, hrow, hmm⟩ := HR.out j _ (marks2_get ls j _ (List.getElem?_eq_getElem hjl) k)
      rw [marks_length] at hc
      have HH := Lib.hid (held_at aj (ls[j]'hjl).length cj (k + tot (ls.take j)) (by omega) (by omega) (by omega) (w.drewN q) (hrow.drewN q))
      have HST := Lib.hid hst
      clear hrow hst hmm
      go_wp2_with fail
      refine HH.out.mono ?_
      rintro e w1 ⟨rfl, p, rfl⟩
      go_wp2
      refine ⟨⟨j + 1, q + p, by omega, by go_num, ?_, rfl⟩, by simp [intOf]; omega⟩
      rw [HST.out]
      congr 1
      try omega
    · obtain rfl : j = n := by omega
      go_wp2
      go_ret
      have ht : ls.take ls.length = ls := List.take_length
      exact ⟨ret_int (by rw [← HNL.out, ht]), q, rfl⟩
end Go.Proofs.Ytbdeppbbgokfhaa.Ints

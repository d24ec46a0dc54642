/- What the program of chapter 19 returns: sumOf of a band, areBandStrips, firstWithRoom. -/
import Derived.Test.YtfhpbgmnekhfeaaFitBands
namespace Go.Proofs.Ytfhpbgmnekhfeaa.Sheet
open Go.ChangeShapes Go.WideShapes Go.ChangeAt Go.RowKit
open Go.Proofs.Ytfhpbgmnekhfeaa.Ints Go.Proofs.Ytfhpbgmnekhfeaa.Order
set_option linter.unusedVariables false

theorem sum_small : ∀ {l : List Int}, (∀ x ∈ l, 1 ≤ x ∧ x ≤ 1000) → 0 ≤ sumL l ∧ sumL l ≤ 1000 * (l.length : Int)
  | [], _ => by simp [sumL]
  | a :: r, h => by
    have h1 := sum_small (l := r) (fun x hx => h x (List.mem_cons_of_mem _ hx))
    have h2 := h a (by simp)
    show 0 ≤ a + sumL r ∧ a + sumL r ≤ 1000 * ((r.length + 1 : Nat) : Int)
    omega

set_option maxRecDepth 100000 in
set_option maxHeartbeats 2000000 in
theorem sum_any (a : Option Addr) (n c : Nat) (h : List Int) (w : World) (hl : h.length = n) (hn : n ≤ 30) (hin : ∀ x ∈ h, 1 ≤ x ∧ x ≤ 1000) (hr : ARow w a h) :
    Calls Try.prog 48 #[.slice a n c] w fun e w' => e = .returned (.int .i64 (sumL h)) ∧ w = w' := by
  have HN := Lib.hid hl
  have HIN := Lib.hid hin
  have HR := Lib.hid hr
  clear hl hin hr
  go_enter Try.func48, Try.ntmps48
  go_wp2_with fail
  go_loop [3, 8] (fun x i => ∃ k : Nat, k ≤ n ∧ i = .int .i64 (k : Int) ∧ x = .int .i64 (sumL (h.take k))) (fun _ i => n - (intOf i).toNat)
  case atStart => exact ⟨0, Nat.zero_le _, rfl, rfl⟩
  case round =>
    obtain ⟨k, hk, rfl, rfl⟩ := hrel
    have hp := sum_small (l := h.take k) (fun x hx => HIN.out x (List.mem_of_mem_take hx))
    have hkl : (h.take k).length ≤ k := List.length_take_le _ _
    have hp0 : 0 ≤ sumL (h.take k) := hp.1
    have hp1 : sumL (h.take k) ≤ 30000 := by omega
    clear hp hkl
    by_cases hlt : k < n
    · have ja : k < h.length := by rw [HN.out]; exact hlt
      obtain ⟨ga, rfl, _, hca⟩ := HR.out k ja
      have HST := Lib.hid (sumL_take h k ja)
      obtain ⟨x0, x1⟩ := HIN.out h[k] (List.getElem_mem ja)
      generalize h[k] = x at *
      generalize sumL (h.take k) = p at *
      have hk0 : (0 : Int) ≤ (k : Int) := Int.natCast_nonneg _
      have hk1 : (k : Int) < (n : Int) := by omega
      clear ja
      go_wp2
      refine ⟨⟨k + 1, by omega, by go_num, ?_⟩, by simp [intOf]; omega⟩
      rw [HST.out]
    · obtain rfl : k = n := by omega
      have hta : h.take k = h := by rw [← HN.out]; exact List.take_length
      have HT := Lib.hid hta
      clear hta
      go_wp2
      go_ret
      exact ⟨by rw [HT.out]; rfl, rfl⟩

set_option maxRecDepth 100000 in
set_option maxHeartbeats 2000000 in
theorem rows_impl (W : Int) (a : Option Addr) (n c : Nat) (l : List Int) (w : World) (hl : l.length = n) (hn : n ≤ 1048576) (hr : IRow w a l) :
    Calls Try.prog 35 #[.int .i64 W, .slice a n c] w fun e w' => e = .returned (.bool (rowsB W l)) ∧ w = w' := by
  by_cases hf : (1 ≤ W ∧ W ≤ 1000) ∧ n ≤ 30
  · obtain ⟨⟨w0, w1⟩, h30⟩ := hf
    have q0 : decide (W < 1) = false := decide_eq_false (by omega)
    have q1 : decide (1000 < W) = false := decide_eq_false (by omega)
    have q2 : decide (30 < n) = false := decide_eq_false (by omega)
    have q3 : decide ((30 : Int) < (n : Int)) = false := decide_eq_false (by omega)
    have HL := Lib.hid hl
    have HR := Lib.hid hr
    clear hl hr
    go_enter Try.func35, Try.ntmps35
    go_wp2_with fail
    go_loop [20] (fun i => ∃ k : Nat, k ≤ n ∧ i = .int .i64 (k : Int) ∧ Hid (∀ x ∈ l.take k, 1 ≤ x ∧ x ≤ W)) (fun i => n - (intOf i).toNat)
    case atStart => exact ⟨0, Nat.zero_le _, rfl, Lib.hid (by simp)⟩
    case round =>
      obtain ⟨k, hk, rfl, HA⟩ := hrel
      have k0 : (0 : Int) ≤ (k : Int) := Int.natCast_nonneg _
      by_cases hlt : k < n
      · have k1 : (k : Int) < (n : Int) := by omega
        have hkl : k < l.length := by rw [HL.out]; exact hlt
        obtain ⟨ga, rfl, _, hca⟩ := HR.out k hkl
        by_cases hx0 : l[k] < 1
        · have HE : Hid (rowsB W l = false) := Lib.hid (by
            unfold rowsB
            exact decide_eq_false (fun h => by have := h.2.2 _ (List.getElem_mem hkl); omega))
          have qx := decide_eq_true hx0
          generalize l[k] = x at *
          clear hkl hx0
          go_wp2
          go_ret
          exact ⟨by rw [HE.out]; rfl, rfl⟩
        · have qx := decide_eq_false hx0
          by_cases hx1 : W < l[k]
          · have HE : Hid (rowsB W l = false) := Lib.hid (by
              unfold rowsB
              exact decide_eq_false (fun h => by have := h.2.2 _ (List.getElem_mem hkl); omega))
            have qy := decide_eq_true hx1
            generalize l[k] = x at *
            clear hkl hx0 hx1
            go_wp2
            go_ret
            exact ⟨by rw [HE.out]; rfl, rfl⟩
          · have qy := decide_eq_false hx1
            have HA2 : Hid (∀ y ∈ l.take (k + 1), 1 ≤ y ∧ y ≤ W) := Lib.hid (fun y hy => by
              rw [List.take_succ_eq_append_getElem hkl] at hy
              rcases List.mem_append.1 hy with h | h
              · exact HA.out y h
              · simp at h; subst h; omega)
            generalize l[k] = x at *
            clear hkl hx0 hx1
            go_wp2
            exact ⟨⟨k + 1, by omega, by go_num, HA2⟩, by simp [intOf]; omega⟩
      · obtain rfl : k = n := by omega
        have HE : Hid (rowsB W l = true) := Lib.hid (by
          rw [rowsB_iff]
          refine ⟨⟨w0, w1⟩, by rw [HL.out]; exact h30, ?_⟩
          have h := HA.out
          have e : l.take k = l := by rw [← HL.out]; exact List.take_length
          rwa [e] at h)
        go_wp2
        go_ret
        exact ⟨by rw [HE.out]; rfl, rfl⟩
  · have hb : rowsB W l = false := by
      unfold rowsB
      exact decide_eq_false (fun h => hf ⟨h.1, by rw [← hl]; exact h.2.1⟩)
    rw [hb]
    clear hb hr hl
    by_cases h1 : W < 1
    · have q0 := decide_eq_true h1
      go_enter Try.func35, Try.ntmps35
      go_wp2
      go_ret
      exact ⟨rfl, rfl⟩
    · have q0 := decide_eq_false h1
      by_cases h2 : 1000 < W
      · have q1 := decide_eq_true h2
        go_enter Try.func35, Try.ntmps35
        go_wp2
        go_ret
        exact ⟨rfl, rfl⟩
      · have q1 := decide_eq_false h2
        have q2 : decide (30 < n) = true := decide_eq_true (by omega)
        have q3 : decide ((30 : Int) < (n : Int)) = true := decide_eq_true (by omega)
        go_enter Try.func35, Try.ntmps35
        go_wp2
        go_ret
        exact ⟨rfl, rfl⟩

/-- Bands that can be read behind a. -/
def BRow2 (w : World) (a : Option Addr) (ls : List (List Int)) : Prop :=
  ∀ (j : Nat) (b : List Int), ls[j]? = some b → ∃ g u c, a = some ⟨g, 0, none⟩ ∧ w.cell? ⟨g, j, none⟩ = some (.slice u b.length c) ∧ ARow w u b
theorem Bands.rows {w : World} {B g0 n c : Nat} {a : Option Addr} {vs : List Value} {ls : List (List Int)} (h : Bands w B g0 (.slice a n c) vs ls) : BRow2 w a ls := by
  intro j b hb
  obtain ⟨u, hu⟩ := h.val hb
  obtain ⟨g, c', e, _⟩ := h.where_ hb
  cases e
  obtain ⟨_, a', c2, rfl, hr⟩ := (h.inner j u b hu hb).arow
  refine ⟨g, a', c2, rfl, ?_, hr⟩
  have hj := (List.getElem?_eq_some_iff.1 hb).1
  rw [World.ownsRow.cellAt h.outer j (by omega)]; exact hu

set_option maxRecDepth 100000 in
set_option maxHeartbeats 2000000 in
theorem first_impl (a : Option Addr) (n c : Nat) (W x : Int) (ls : List (List Int)) (w : World) (hl : ls.length = n) (hn : n ≤ 1000) (hW : 1 ≤ W ∧ W ≤ 1000) (hx : 1 ≤ x ∧ x ≤ 1000) (hs : ∀ b ∈ ls, b.length ≤ 30 ∧ ∀ y ∈ b, 1 ≤ y ∧ y ≤ 1000) (hr : BRow2 w a ls) :
    Calls Try.prog 36 #[.slice a n c, .int .i64 W, .int .i64 x] w fun e w' => e = .returned (.int .i64 ((firstB W x (ls.map sumL) : Nat) : Int)) ∧ w = w' := by
  have HL := Lib.hid hl
  have HS := Lib.hid hs
  have HR := Lib.hid hr
  have HLM := Lib.hid (show (ls.map sumL).length = n by rw [List.length_map]; exact hl)
  have hle := first_le W x (ls.map sumL)
  rw [HLM.out] at hle
  have HFU := Lib.hid (first_full (W := W) (x := x) (ls.map sumL))
  have HFI := Lib.hid (first_fits (W := W) (x := x) (ls.map sumL))
  obtain ⟨hW0, hW1⟩ := hW
  obtain ⟨hx0, hx1⟩ := hx
  clear hl hs hr
  generalize firstB W x (ls.map sumL) = J at *
  go_enter Try.func36, Try.ntmps36
  go_wp2_with fail
  go_loop [11] (fun i => ∃ j : Nat, j ≤ J ∧ i = .int .i64 (j : Int)) (fun i => J - (intOf i).toNat)
  case atStart => exact ⟨0, Nat.zero_le _, rfl⟩
  case round =>
    obtain ⟨j, hj, rfl⟩ := hrel
    have j0 : (0 : Int) ≤ (j : Int) := Int.natCast_nonneg _
    by_cases hlt : j < n
    · have j1 : (j : Int) < (n : Int) := by omega
      have hjl : j < ls.length := by rw [HL.out]; exact hlt
      have hjm : j < (ls.map sumL).length := by rw [HLM.out]; exact hlt
      obtain ⟨g, u, cu, rfl, hcell, hrow⟩ := HR.out j _ (List.getElem?_eq_getElem hjl)
      obtain ⟨s1, s2⟩ := HS.out _ (List.getElem_mem hjl)
      have HSUM := Lib.hid (fun w' (h : ARow w' u ls[j]) => sum_any u ls[j].length cu ls[j] w' rfl s1 s2 h)
      have HROW := Lib.hid hrow
      have hb := sum_small s2
      have hsb : sumL ls[j] ≤ 30000 := by omega
      have hsa := hb.1
      have hfu : j < J → W < sumL ls[j] + x := fun e => by
        have := HFU.out j hjm e
        rwa [List.getElem_map] at this
      have hfi2 : J = j → sumL ls[j] + x ≤ W := fun e => by
        subst e
        have := HFI.out hjm
        rwa [List.getElem_map] at this
      clear hb s1 s2 hrow hjm
      generalize ls[j].length = m at *
      generalize sumL ls[j] = y at *
      have e1 : IntKind.i64.wrap (y + x) = y + x := by rw [IntKind.wrap_i64]; omega
      by_cases hjJ : j < J
      · have hh := hfu hjJ
        have q : decide (y + x ≤ W) = false := decide_eq_false (by omega)
        clear hfu hfi2 hh
        go_wp2_with fail
        refine (HSUM.out _ HROW.out).mono ?_
        rintro e w' ⟨rfl, rfl⟩
        go_wp2
        exact ⟨⟨j + 1, by omega, by go_num⟩, by simp [intOf]; omega⟩
      · obtain rfl : j = J := by omega
        have hh := hfi2 rfl
        have q : decide (y + x ≤ W) = true := decide_eq_true hh
        clear hfu hfi2 hh
        go_wp2_with fail
        refine (HSUM.out _ HROW.out).mono ?_
        rintro e w' ⟨rfl, rfl⟩
        go_wp2
        go_ret
        exact ⟨rfl, rfl⟩
    · obtain rfl : j = J := by omega
      obtain rfl : j = n := by omega
      go_wp2
      go_ret
      exact ⟨rfl, rfl⟩
end Go.Proofs.Ytfhpbgmnekhfeaa.Sheet

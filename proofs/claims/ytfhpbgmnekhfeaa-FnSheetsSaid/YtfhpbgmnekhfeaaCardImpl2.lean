/- What the program's embedFrame and CardOk return. -/
import Derived.Test.YtfhpbgmnekhfeaaCardImpl
namespace Go.Proofs.Ytfhpbgmnekhfeaa.Card
open Go.ChangeShapes Go.WideShapes Go.ChangeAt Go.RowKit
open Go.Proofs.Ytfhpbgmnekhfeaa.Strip Go.Proofs.Ytfhpbgmnekhfeaa.Strs
set_option linter.unusedVariables false

theorem embed_impl (d f : Int) (a : Option Addr) (n c : Nat) (w : World) :
    Calls Try.prog 45 #[.agg #[.int .i64 d, .int .i64 f, .slice a n c]] w fun e w' => e = .returned (.agg #[.int .i64 d, .int .i64 f, .slice a n c]) ∧ Below w.heap.size w w' := by
  go_enter Try.func45, Try.ntmps45
  go_wp2
  refine bodyPost_ret (v := .agg #[.int .i64 d, .int .i64 f, .slice a n c]) (by simp [results, Try.results45, go_sem]) rfl ⟨rfl, ?_⟩
  exact ((Below.refl _ _).alloc (Nat.le_refl _) _).alloc (by simp) _

/-- Block b is a variable that holds a card with its frame embedded. -/
theorem framed_cells {w : World} {b : Nat} {d f : Int} {v : Value} (h : w.heap[b]? = some (.cells #[.int .i64 d, .int .i64 f, v] 68 (0, 0))) : w.cell? ⟨b, 0, none⟩ = some (.int .i64 d) ∧ w.cell? ⟨b, 1, none⟩ = some (.int .i64 f) ∧ w.cell? ⟨b, 2, none⟩ = some v :=
  ⟨(cell_of h).trans rfl, (cell_of h).trans rfl, (cell_of h).trans rfl⟩

set_option maxRecDepth 100000 in
set_option maxHeartbeats 1000000 in
theorem ok_impl (d f : Int) (a : Option Addr) (n c : Nat) (l : List ByteArray) (w : World) (hl : l.length = n) (hn : n ≤ 1048576) (hz : ∀ s ∈ l, s.size ≤ 1048576) (hr : Row w a l) :
    Calls Try.prog 32 #[.agg #[.int .i64 d, .int .i64 f, .slice a n c]] w fun e w' => e = .returned (.bool (cardB d f l)) ∧ Below w.heap.size w w' := by
  have HL := Lib.hid hl; clear hl
  have HR := Lib.hid hr; clear hr
  have HZ := Lib.hid hz; clear hz
  have HW := Lib.hid (alloc_below w (.cells #[.int .i64 d, .int .i64 f, .slice a n c] 26))
  cases hfr : frameB d f with
  | false =>
    have hres := cardB_frame (l := l) hfr
    rw [hres]
    go_enter Try.func32, Try.ntmps32
    go_wp2_with fail
    refine (embed_impl d f a n c _).mono ?_
    rintro e w1 ⟨rfl, hb1⟩
    have HB1 := Lib.hid ((HW.out.trans (hb1.mono HW.out.size)).alloc (HW.out.trans (hb1.mono HW.out.size)).size (.cells #[.int .i64 d, .int .i64 f, .slice a n c] 68)); clear hb1
    go_wp2_with fail
    refine (frame_impl d f _).mono ?_
    rintro e w2 ⟨rfl, rfl⟩
    rw [hfr]
    go_wp2
    go_ret
    exact ⟨rfl, HB1.out⟩
  | true =>
    by_cases hq : 1 ≤ (n : Int) ∧ (n : Int) ≤ 10
    · obtain ⟨q1, q2⟩ := hq
      have hd1 : decide ((n : Int) < 1) = false := by simp; omega
      have hd2 : decide (10 < (n : Int)) = false := by simp; omega
      have HF := Lib.hid hfr
      go_enter Try.func32, Try.ntmps32
      go_wp2_with fail
      refine (embed_impl d f a n c _).mono ?_
      rintro e w1 ⟨rfl, hb1⟩
      have HB1 := Lib.hid ((HW.out.trans (hb1.mono HW.out.size)).alloc (HW.out.trans (hb1.mono HW.out.size)).size (.cells #[.int .i64 d, .int .i64 f, .slice a n c] 68)); clear hb1
      have HV1 := Lib.hid (heap_alloc_new w1 (.cells #[.int .i64 d, .int .i64 f, .slice a n c] 68))
      go_wp2_with fail
      generalize (w1.alloc (.cells #[.int .i64 d, .int .i64 f, .slice a n c] 68)) = W at *
      generalize w1.heap.size = B at *
      refine (frame_impl d f _).mono ?_
      rintro e w2 ⟨rfl, rfl⟩
      rw [hfr]
      clear hfr
      obtain ⟨k0, k1, k2⟩ := framed_cells HV1.out
      go_wp2_with fail
      go_loopw [31] (fun i wr => ∃ k : Nat, k ≤ n ∧ i = .int .i64 (k : Int) ∧ Hid (wr.heap[B]? = some (.cells #[.int .i64 d, .int .i64 f, .slice a n c] 68 (0, 0))) ∧ Hid (Below w.heap.size w wr) ∧ Hid (∀ j (hj : j < l.length), j < k → goodB d f l[j] = true)) (fun i _ => n - (intOf i).toNat)
      case atStart => exact ⟨0, Nat.zero_le _, rfl, HV1, HB1, fun j _ hj => by omega⟩
      case round =>
        obtain ⟨k, hk, rfl, HVR, HBR, HG⟩ := hrel
        clear k0 k1 k2 HV1 HB1 HW hd1 hd2
        obtain ⟨k0, k1, k2⟩ := framed_cells HVR.out
        by_cases hlt : k < n
        · have hk0 : (0 : Int) ≤ (k : Int) := Int.natCast_nonneg _
          have hk1 : (k : Int) < (n : Int) := by omega
          have hkl : k < l.length := by rw [HL.out]; exact hlt
          obtain ⟨g, rfl, hg, hc⟩ := Row.at HR.out HBR.out k hkl
          have hsz : l[k].size ≤ 1048576 := HZ.out _ (List.getElem_mem hkl)
          have HX := Lib.hid (fun w' : World => holds_impl d f l[k] w' hsz)
          cases hgood : goodB d f l[k] with
          | true =>
            have HN := Lib.hid (show ∀ j (hj : j < l.length), j < k + 1 → goodB d f l[j] = true from fun j hj hjk => by
              by_cases e : j = k
              · subst e; exact hgood
              · exact HG.out j hj (by omega))
            rw [hgood] at HX
            clear hgood
            generalize l[k] = s at *
            go_wp2_with fail
            refine (HX.out _).mono ?_
            rintro e w3 ⟨rfl, hb3⟩
            have HB3 := Lib.hid (HBR.out.trans (hb3.mono HBR.out.size))
            have HV3 := Lib.hid ((hb3.block B (Array.getElem?_eq_some_iff.1 HVR.out).1).trans HVR.out)
            clear hb3
            go_wp2
            go_roundw
            case rel => exact ⟨k + 1, by omega, by go_num, HV3, HB3, HN⟩
            case measure => simp [intOf]; omega
          | false =>
            have HRES := Lib.hid (cardB_bad k hkl hgood)
            rw [hgood] at HX
            clear hgood HG
            generalize l[k] = s at *
            go_wp2_with fail
            refine (HX.out _).mono ?_
            rintro e w3 ⟨rfl, hb3⟩
            have HB3 := Lib.hid (HBR.out.trans (hb3.mono HBR.out.size))
            clear hb3
            go_wp2
            go_ret
            rw [HRES.out]
            exact ⟨rfl, HB3.out⟩
        · obtain rfl : k = n := by omega
          have HRES := Lib.hid (show cardB d f l = true from cardB_all HF.out (by rw [HL.out]; omega) (by rw [HL.out]; omega) (fun j hj => HG.out j hj (by rw [← HL.out]; exact hj)))
          go_wp2
          go_ret
          rw [HRES.out]
          exact ⟨rfl, HBR.out⟩
    · have HRES := Lib.hid (show cardB d f l = false from cardB_len (by rw [HL.out]; omega))
      by_cases hlow : (n : Int) < 1
      all_goals
        clear HR HZ HL
        have hhigh : (n : Int) < 1 ∨ 10 < (n : Int) := by omega
        have HH := Lib.hid hhigh
        first | (have hd1 : decide ((n : Int) < 1) = true := by simpa using hlow) | (have hd1 : decide ((n : Int) < 1) = false := by simpa using hlow)
        first | (have hd2 : decide (10 < (n : Int)) = true := by simp; omega) | (have hd2 : decide (10 < (n : Int)) = false := by simp; omega)
        clear hq hhigh hlow
        go_enter Try.func32, Try.ntmps32
        go_wp2_with fail
        refine (embed_impl d f a n c _).mono ?_
        rintro e w1 ⟨rfl, hb1⟩
        have HB1 := Lib.hid ((HW.out.trans (hb1.mono HW.out.size)).alloc (HW.out.trans (hb1.mono HW.out.size)).size (.cells #[.int .i64 d, .int .i64 f, .slice a n c] 68)); clear hb1
        go_wp2_with fail
        refine (frame_impl d f _).mono ?_
        rintro e w2 ⟨rfl, rfl⟩
        rw [hfr]
        go_wp2
        go_ret
        rw [HRES.out]
        exact ⟨rfl, HB1.out⟩
end Go.Proofs.Ytfhpbgmnekhfeaa.Card

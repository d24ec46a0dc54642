/- What LinksOk of the program returns. -/
import Derived.Test.YtmjknjgfcngacaaSlideCirc
namespace Go.Proofs.Ytmjknjgfcngacaa.Slide
open Go.ChangeShapes Go.WideShapes Go.ChangeAt Go.RowKit Go.Sort
open Go.Proofs.Ytmjknjgfcngacaa.Tri
open Go.Proofs.Ytmjknjgfcngacaa.Ints (grown_below grown_set grown_trans heap_set_at drewN_below)
set_option linter.unusedVariables false

theorem linkB_wide {n : Int} {l : T3} (hn : n ≤ 8) (h : linkB n l = true) : linkB 8 l = true := by
  have := linkB_iff.1 h
  exact linkB_iff.2 (by omega)

set_option maxRecDepth 100000 in
set_option maxHeartbeats 2000000 in
theorem links_impl (N : Int) (a : Option Addr) (n c : Nat) (l : List T3) (w : World) (hl : l.length = n) (hn : n ≤ 1048576) (hr : Row3 w a l) :
    Calls Try.prog 19 #[.int .i64 N, .slice a n c] w fun e w' => e = .returned (.bool (linksB N l)) ∧ Below w.heap.size w w' := by
  have HL := Lib.hid hl; clear hl
  have HR := Lib.hid hr; clear hr
  by_cases h1 : N < 1
  · have e1 : decide (N < 1) = true := decide_eq_true h1
    rw [linksB_no (ls := l) fun h => by omega]
    go_enter Try.func19, Try.ntmps19
    go_wp2_with fail
    go_ret
    exact ⟨rfl, Below.refl _ _⟩
  · have e1 : decide (N < 1) = false := decide_eq_false h1
    by_cases h2 : 8 < N
    · have e2 : decide (8 < N) = true := decide_eq_true h2
      rw [linksB_no (ls := l) fun h => by omega]
      go_enter Try.func19, Try.ntmps19
      go_wp2_with fail
      go_ret
      exact ⟨rfl, Below.refl _ _⟩
    · have e2 : decide (8 < N) = false := decide_eq_false h2
      by_cases h3 : 12 < n
      · have e3 : decide (12 < (n : Int)) = true := decide_eq_true (by omega)
        rw [linksB_no (n := N) (ls := l) fun h => by have := HL.out; omega]
        go_enter Try.func19, Try.ntmps19
        go_wp2_with fail
        go_ret
        exact ⟨rfl, Below.refl _ _⟩
      · have e3 : decide (12 < (n : Int)) = false := decide_eq_false (by omega)
        have HQ := Lib.hid (show 1 ≤ N ∧ N ≤ 8 ∧ l.length ≤ 12 from ⟨by omega, by omega, by have := HL.out; omega⟩)
        go_enter Try.func19, Try.ntmps19
        go_wp2_with fail
        go_loopw [20] (fun i wr => ∃ k : Nat, k ≤ n ∧ i = .int .i64 (k : Int) ∧ Hid ((l.take k).all (linkB N) = true) ∧ Hid (Below w.heap.size w wr)) (fun i _ => n - (intOf i).toNat)
        case atStart => exact ⟨0, Nat.zero_le _, rfl, Lib.hid (by rw [List.take_zero]; rfl), Lib.hid (Below.refl _ _)⟩
        case round =>
          obtain ⟨k, hk, rfl, HA, HB⟩ := hrel
          by_cases hlt : k < n
          · have hk0 : (0 : Int) ≤ (k : Int) := Int.natCast_nonneg _
            have hk1 : (k : Int) < (n : Int) := by omega
            have hkl : k < l.length := by rw [HL.out]; exact hlt
            obtain ⟨g, rfl, hg, c0, c1, c2⟩ := (HR.out.below HB.out) k hkl
            have HT := Lib.hid (fun h => all_take (p := linkB N) hkl HA.out h)
            have HF := Lib.hid (show linkB N l[k] = false → linksB N l = false from fun h => linksB_no fun h2 => by rw [h2.2.1 _ (List.getElem_mem hkl)] at h; cases h)
            generalize l[k] = s at *
            obtain ⟨x, y, z⟩ := s
            simp only at c0 c1 c2
            have hv := VarT.new (T := 35) wr (x, y, z)
            have hb := alloc_below wr (.cells #[.int .i64 x, .int .i64 y, .int .i64 z] 35)
            have HB := Lib.hid (HB.out.trans (hb.mono HB.out.size))
            have HO := Lib.hid (fun w => link_impl N x y z w)
            obtain ⟨m0, m1, m2⟩ := hv.cells
            simp only at m0 m1 m2
            clear hb hv
            cases hok : linkB N (x, y, z) with
            | false =>
              rw [hok] at HO
              have HF := Lib.hid (HF.out hok)
              clear HT hok
              go_wp2_with fail
              refine (HO.out _).mono ?_
              rintro e w2 ⟨rfl, hb⟩
              have HB := Lib.hid (HB.out.trans (hb.mono HB.out.size))
              clear hb m0 m1 m2
              go_wp2
              go_ret
              rw [HF.out]
              exact ⟨rfl, HB.out⟩
            | true =>
              rw [hok] at HO
              have HT := Lib.hid (HT.out hok)
              clear HF hok
              go_wp2_with fail
              refine (HO.out _).mono ?_
              rintro e w2 ⟨rfl, hb⟩
              have HB := Lib.hid (HB.out.trans (hb.mono HB.out.size))
              clear hb m0 m1 m2
              go_wp2_with fail
              exact ⟨⟨k + 1, by omega, by go_num, HT, HB⟩, by simp [intOf]; omega⟩
          · obtain rfl : k = n := by omega
            have hfin : l.take k = l := by rw [← HL.out]; exact List.take_length
            rw [hfin] at HA
            have hall : ∀ x ∈ l, linkB N x = true := List.all_eq_true.1 HA.out
            have HX := Lib.hid (fun w' h => circ_impl a k c l w' HL.out hn h (fun x hx => linkB_wide (by omega) (hall x hx)))
            have HRES := Lib.hid (show linksB N l = !circleB l by
              unfold linksB
              rw [decide_eq_true HQ.out, HA.out]; rfl)
            clear hall hfin
            go_wp2_with fail
            refine (HX.out _ (HR.out.below HB.out)).mono ?_
            rintro e w2 ⟨rfl, hb⟩
            have HB := Lib.hid (HB.out.trans (hb.mono HB.out.size))
            clear hb
            go_wp2
            go_ret
            rw [HRES.out]
            exact ⟨rfl, HB.out⟩
end Go.Proofs.Ytmjknjgfcngacaa.Slide

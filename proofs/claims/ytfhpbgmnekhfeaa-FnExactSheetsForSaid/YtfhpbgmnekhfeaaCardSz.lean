/- What laws.szStringS, szCard and toCard return. -/
import Derived.Test.YtfhpbgmnekhfeaaCardEq
namespace Go.Proofs.Ytfhpbgmnekhfeaa.Card
open Go.ChangeShapes Go.WideShapes Go.ChangeAt Go.RowKit
open Go.Proofs.Ytfhpbgmnekhfeaa.Strip Go.Proofs.Ytfhpbgmnekhfeaa.Strs
set_option linter.unusedVariables false

def tot (l : List ByteArray) : Nat := (l.map ByteArray.size).sum
def szV (left : Int) (l : List ByteArray) : Int := if (l.length : Int) + (tot l : Int) ≤ left then left - l.length - tot l else -1

theorem tot_take_succ (l : List ByteArray) (k : Nat) (h : k < l.length) : tot (l.take (k + 1)) = tot (l.take k) + l[k].size := by
  unfold tot
  rw [List.take_succ_eq_append_getElem h, List.map_append, List.sum_append]
  have e : ([l[k]].map ByteArray.size).sum = l[k].size := by simp
  rw [e]
theorem tot_take_le : ∀ (l : List ByteArray) (k : Nat), tot (l.take k) ≤ tot l
  | [], k => by simp [tot]
  | x :: l, 0 => by simp [tot]
  | x :: l, k + 1 => by
    have := tot_take_le l k
    unfold tot at *
    simp only [List.take_succ_cons, List.map_cons, List.sum_cons]
    omega
theorem size_le_tot : ∀ (l : List ByteArray) (s : ByteArray), s ∈ l → s.size ≤ tot l
  | x :: l, s, h => by
    unfold tot
    rcases List.mem_cons.1 h with rfl | h
    · simp
    · have := size_le_tot l s h; unfold tot at this; simp; omega

set_option maxRecDepth 100000 in
theorem sz_at (left : Int) (h0 : 0 ≤ left) (h1 : left ≤ 1048576) (a : Option Addr) (n c : Nat) (l : List ByteArray) (w : World) (hl : l.length = n) (hn : n ≤ maxLen) (hz : ∀ s ∈ l, s.size ≤ maxLen) (hr : ARow w a l) :
    Calls Try.prog 37 #[.slice a n c, .int .i64 left] w fun e w' => e = .returned (.int .i64 (szV left l)) ∧ w = w' := by
  unfold maxLen at hn hz
  have HL := Lib.hid hl; clear hl
  have HZ := Lib.hid hz; clear hz
  have HR := Lib.hid hr; clear hr
  by_cases hlong : left < (n : Int)
  · have HRES := Lib.hid (show szV left l = -1 by unfold szV; rw [HL.out, if_neg (by omega)])
    go_enter Try.func37, Try.ntmps37
    go_wp2
    go_ret
    rw [HRES.out]
    exact ⟨rfl, rfl⟩
  · have hle : (n : Int) ≤ left := by omega
    go_enter Try.func37, Try.ntmps37
    go_wp2_with fail
    go_loop [1, 5] (fun v i => ∃ k t : Nat, k ≤ n ∧ i = .int .i64 (k : Int) ∧ v = .int .i64 (left - (n : Int) - (t : Int)) ∧ (n : Int) + (t : Int) ≤ left ∧ Hid (t = tot (l.take k))) (fun _ i => n - (intOf i).toNat)
    case atStart => exact ⟨0, 0, Nat.zero_le _, rfl, by simp, by omega, Lib.hid (by simp [tot])⟩
    case round =>
      obtain ⟨k, t, hk, rfl, rfl, ht, HT⟩ := hrel
      by_cases hlt : k < n
      · have hk0 : (0 : Int) ≤ (k : Int) := Int.natCast_nonneg _
        have hk1 : (k : Int) < (n : Int) := by omega
        have hkl : k < l.length := by rw [HL.out]; exact hlt
        obtain ⟨x, rfl, hxs, hcell⟩ := HR.out k hkl
        have hzk := HZ.out _ (List.getElem_mem hkl)
        have HS := Lib.hid (tot_take_succ l k hkl)
        have HM := Lib.hid (tot_take_le l (k + 1))
        generalize l[k] = s at *
        by_cases hneg : left - (n : Int) - (t : Int) - (s.size : Int) < 0
        · have HRES := Lib.hid (show szV left l = -1 by
            have h1 := HS.out; have h2 := HM.out; have h3 := HT.out; have h4 := HL.out
            unfold szV; rw [if_neg (by omega)])
          go_wp2
          go_ret
          rw [HRES.out]
          exact ⟨rfl, rfl⟩
        · have HT2 := Lib.hid (show t + s.size = tot (l.take (k + 1)) by rw [HS.out, HT.out])
          clear HS HM HT
          go_wp2
          go_round
          case rel => exact ⟨k + 1, t + s.size, by omega, by go_num, by rw [show left - (n : Int) - ((t + s.size : Nat) : Int) = left - (n : Int) - (t : Int) - (s.size : Int) by omega], by omega, HT2⟩
          case measure => simp [intOf]; omega
      · obtain rfl : k = n := by omega
        have HRES := Lib.hid (show left - (k : Int) - (t : Int) = szV left l by
          have h3 := HT.out; have h4 := HL.out
          rw [← h4, List.take_length] at h3
          unfold szV; rw [if_pos (by omega)]; omega)
        go_wp2
        go_ret
        rw [HRES.out]
        exact ⟨rfl, rfl⟩

theorem szV_ok {left : Int} {l : List ByteArray} (h : ¬ szV left l < 0) : l.length ≤ left ∧ (∀ s ∈ l, (s.size : Int) ≤ left) ∧ 0 ≤ szV left l ∧ szV left l ≤ left := by
  unfold szV at *
  split at h
  · rename_i hc
    rw [if_pos hc]
    exact ⟨by omega, fun s hs => by have := size_le_tot l s hs; omega, by omega, by omega⟩
  · omega

theorem sz_card (left : Int) (h0 : 0 ≤ left) (h1 : left ≤ 1048576) (d f : Int) (a : Option Addr) (n c : Nat) (l : List ByteArray) (w : World) (hl : l.length = n) (hn : n ≤ maxLen) (hz : ∀ s ∈ l, s.size ≤ maxLen) (hr : ARow w a l) :
    Calls Try.prog 18 #[.agg #[.int .i64 d, .int .i64 f, .slice a n c], .int .i64 left] w fun e w' => e = .returned (.int .i64 (szV left l)) ∧ Below w.heap.size w w' := by
  have HS := Lib.hid (sz_at left h0 h1 a n c l _ hl hn hz (hr.below (alloc_below w (.cells #[.int .i64 d, .int .i64 f, .slice a n c] 37))))
  clear hl hn hz hr
  by_cases hneg : szV left l < 0
  · have hm : szV left l = -1 := by unfold szV at *; split at hneg <;> omega
    rw [hm] at HS ⊢
    clear hm hneg
    go_enter Try.func18, Try.ntmps18
    go_wp2_with fail
    refine HS.out.mono ?_
    rintro e w1 ⟨rfl, rfl⟩
    go_wp2
    go_ret
    exact ⟨rfl, alloc_below _ _⟩
  · generalize szV left l = v at *
    go_enter Try.func18, Try.ntmps18
    go_wp2_with fail
    refine HS.out.mono ?_
    rintro e w1 ⟨rfl, rfl⟩
    go_wp2
    go_ret
    exact ⟨rfl, alloc_below _ _⟩

theorem to_card (d f : Int) (a : Option Addr) (n c : Nat) (l : List ByteArray) (w : World) (hl : l.length = n) (hn : n ≤ 1048576) (hr : ARow w a l) :
    Calls Try.prog 20 #[.agg #[.int .i64 d, .int .i64 f, .slice a n c]] w (Gave w d f l) := by
  subst hl
  have HR := Lib.hid hr; clear hr
  go_enter Try.func20, Try.ntmps20
  go_wp2_with fail
  have hv1 := ((Var.new (w.alloc (.cells #[.int .i64 d, .int .i64 f, .slice a l.length c] 37)) 0 0 (.slice none 0 0)).below (alloc_below _ (.cells #[.int .i64 d, .int .i64 f, .slice none 0 0] 26)))
  have hv2 := (Var.new ((w.alloc (.cells #[.int .i64 d, .int .i64 f, .slice a l.length c] 37)).alloc (.cells #[.int .i64 0, .int .i64 0, .slice none 0 0] 26)) d f (.slice none 0 0))
  have hb := (((Below.refl w.heap.size w).alloc (Nat.le_refl _) (.cells #[.int .i64 d, .int .i64 f, .slice a l.length c] 37)).alloc (by simp) (.cells #[.int .i64 0, .int .i64 0, .slice none 0 0] 26)).alloc (by simp; omega) (.cells #[.int .i64 d, .int .i64 f, .slice none 0 0] 26)
  rw [show (w.alloc (.cells #[.int .i64 d, .int .i64 f, .slice a l.length c] 37)).heap.size = w.heap.size + 1 by simp] at hv1
  rw [show ((w.alloc (.cells #[.int .i64 d, .int .i64 f, .slice a l.length c] 37)).alloc (.cells #[.int .i64 0, .int .i64 0, .slice none 0 0] 26)).heap.size = w.heap.size + 1 + 1 by simp] at hv2
  have HV1 := Lib.hid hv1
  have HV2 := Lib.hid hv2
  have HB := Lib.hid hb
  clear hv1 hv2 hb
  generalize (((w.alloc (.cells #[.int .i64 d, .int .i64 f, .slice a l.length c] 37)).alloc (.cells #[.int .i64 0, .int .i64 0, .slice none 0 0] 26)).alloc (.cells #[.int .i64 d, .int .i64 f, .slice none 0 0] 26)) = W at *
  have HS := Lib.hid (show w.heap.size ≤ w.heap.size + 1 ∧ w.heap.size ≤ w.heap.size + 1 + 1 by omega)
  have hne : w.heap.size + 1 ≠ w.heap.size + 1 + 1 := by omega
  generalize w.heap.size + 1 + 1 = B2 at *
  generalize w.heap.size + 1 = B1 at *
  refine (to_at a c l W hn (HR.out.below (HB.out.mono ?_))).mono ?_
  · exact Nat.le_refl _
  rintro e w1 ⟨v, rfl, hb1, ho1⟩
  have HB1 := Lib.hid (HB.out.trans (hb1.mono HB.out.size))
  have HO1 := Lib.hid ho1
  have HX1 := Lib.hid (HV1.out.below hb1)
  have HX2 := Lib.hid (HV2.out.below hb1)
  clear hb1 ho1
  obtain ⟨k0, k1, k2⟩ := HX1.out.cells
  obtain ⟨m0, m1, m2⟩ := HX2.out.cells
  have f0 := HX1.out.free 0
  have f1 := HX1.out.free 1
  have f2 := HX1.out.free 2
  have g2 := HX2.out.free 2
  obtain ⟨av, cv, rfl, _, _⟩ := HO1.out.row
  have HL1 := Lib.hid (show B1 < W.heap.size ∧ B2 < W.heap.size from ⟨HV1.out.lt, HV2.out.lt⟩)
  go_wp2_with fail
  have hz : Var _ B1 d f (.slice av l.length cv) := Var.set3 (HX1.out.other (j := 2) (u := .slice av l.length cv) hne) d f (.slice av l.length cv)
  have hbz : Below w.heap.size w _ := below_set3 (d := d) (f := f) (u := .slice av l.length cv) (HB1.out.setCell (p := ⟨B2, 2, none⟩) HS.out.2 (.slice av l.length cv)) HS.out.1
  have hoz : Own _ W.heap.size (.slice av l.length cv) l := Own.other3 (d := d) (f := f) (u := .slice av l.length cv) (Own.other (b := B2) (j := 2) (u := .slice av l.length cv) HO1.out HL1.out.2) HL1.out.1
  unfold set3 at hz hbz hoz
  generalize ((((w1.setCell ⟨B2, 2, none⟩ (.slice av l.length cv)).setCell ⟨B1, 0, none⟩ (.int .i64 d)).setCell ⟨B1, 1, none⟩ (.int .i64 f)).setCell ⟨B1, 2, none⟩ (.slice av l.length cv)) = Z at *
  obtain ⟨z0, z1, z2⟩ := hz.cells
  refine bodyPost_ret (v := .agg #[.int .i64 d, .int .i64 f, .slice av l.length cv]) (by simp [results, Try.results20, go_sem, z0, z1, z2]) rfl ?_
  exact ⟨av, cv, rfl, hbz, hoz.mono HB.out.size⟩
end Go.Proofs.Ytfhpbgmnekhfeaa.Card

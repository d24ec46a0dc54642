/- What spec.l17List, l17Links, DrawPullAll and DrawSliders draw (printed by wip/gen_slidedraw2.py). -/
import Derived.Test.YtmjknjgfcngacaaDrawSlide
import Derived.Test.YtmjknjgfcngacaaSliderRow
import Derived.Test.YtmjknjgfcngacaaLinkRow
import Derived.Lib.AppendZeros
import Derived.Deep.AppendLies
namespace Go.Proofs.Ytmjknjgfcngacaa.Slide
open Go.ChangeShapes Go.WideShapes Go.ChangeAt Go.RowKit Go.Sort
open Go.Proofs.Ytmjknjgfcngacaa.Tri
open Go.Proofs.Ytmjknjgfcngacaa.Draw (Cur below_get once_get pickInt_get new_get heap_new RowIn grownBy_setCell grownBy_trans below_of_grown)
open Go.Proofs.Ytmjknjgfcngacaa.Ints (grown_below grown_set grown_trans heap_set_at drewN_below)
set_option linter.unusedVariables false

theorem own_off {T : TypeId} {w w' : World} {base g n c b : Nat} {l : List T3} (h : OwnT T w base (.slice (some ⟨g, 0, none⟩) n c) l) (hg : w.grownBy w' (some b)) (hne : b ≠ g) : OwnT T w' base (.slice (some ⟨g, 0, none⟩) n c) l :=
  World.ownsRow.kept h hg (by right; have h2 : ¬ g = b := fun e => hne e.symm
                              simpa [Value.ownBlock] using h2)
theorem set_size (w : World) (a : Addr) (v : Value) : (w.setCell a v).heap.size = w.heap.size := by
  cases w; simp [World.setCell]
theorem alloc_size (w : World) (o : Obj) : (w.alloc o).heap.size = w.heap.size + 1 := by simp
/-- A row that is younger than the cursor is kept by what writes the cursor alone. -/
theorem own_kept {T : TypeId} {w w' : World} {base g n c k : Nat} {l : List T3} (h : OwnT T w base (.slice (some ⟨g, 0, none⟩) n c) l) (hg : w.grownBy w' (some k)) (hk : k < base) : OwnT T w' base (.slice (some ⟨g, 0, none⟩) n c) l :=
  World.ownsRow.kept h hg (by right; have h1 := (h.lt g rfl).1; have h2 : ¬ g = k := by omega
                              simpa [Value.ownBlock] using h2)
/-- One more, onto a row of one's own. -/
theorem push_slider {w : World} {base g c : Nat} {l : List T3} {s : T3} (ho : OwnT 33 w base (.slice (some ⟨g, 0, none⟩) l.length c) l) (hl : l.length ≤ 1000) (hb : base ≤ w.heap.size) :
    ∃ g2 cap w', (∀ ty, (Builtin.append_ #[24, 24] ty #[.slice (some ⟨g, 0, none⟩) l.length c, .slice (some ⟨w.heap.size, 0, none⟩) 1 1]).run Try.prog (w.alloc (.cells #[.int .i64 s.1, .int .i64 s.2.1, .int .i64 s.2.2] 33)) = .ok (.slice (some ⟨g2, 0, none⟩) (l.length + 1) cap) w') ∧
      OwnT 33 w' base (.slice (some ⟨g2, 0, none⟩) (l.length + 1) cap) (l ++ [s]) ∧ (w.alloc (.cells #[.int .i64 s.1, .int .i64 s.2.1, .int .i64 s.2.2] 33)).grownBy w' (some g) := by
  obtain ⟨i0, hi, hz0, hz1, hz2⟩ := info_parts SlR.info_box
  have ho2 := ho.below (alloc_below w (.cells #[.int .i64 s.1, .int .i64 s.2.1, .int .i64 s.2.2] 33))
  have h1 := fun ty => run_append_lies (P := Try.prog) (w.alloc (.cells #[.int .i64 s.1, .int .i64 s.2.1, .int .i64 s.2.2] 33)) 24 ty base 33 i0 _ 3 24 Try.underlying24 hi hz0 hz1 hz2 rfl (by decide) _ l.length (bcells l) ho2 ⟨w.heap.size, 0, none⟩ 1 1 (bcell s) rfl (World.news_of_block (cs := #[.int .i64 s.1, .int .i64 s.2.1, .int .i64 s.2.2]) (t := 33) (fr := (0, 0)) (heap_alloc_new _ _)) (by simp [bcell, Value.oneCell']) (by omega) (by unfold maxLen; omega) (by omega) (by simp; omega) _ rfl
  obtain ⟨g2, cap, w', hr, hown, hg, _, _⟩ := h1 0
  refine ⟨g2, cap, w', fun ty => ?_, ?_, hg⟩
  · rw [← hr]; rfl
  · show World.ownsRow _ _ _ _ _ _ _
    rw [bcells_append, bcells_one, List.length_append]; exact hown
/-- One more, onto a row of one's own. -/
theorem push_link {w : World} {base g c : Nat} {l : List T3} {s : T3} (ho : OwnT 35 w base (.slice (some ⟨g, 0, none⟩) l.length c) l) (hl : l.length ≤ 1000) (hb : base ≤ w.heap.size) :
    ∃ g2 cap w', (∀ ty, (Builtin.append_ #[25, 25] ty #[.slice (some ⟨g, 0, none⟩) l.length c, .slice (some ⟨w.heap.size, 0, none⟩) 1 1]).run Try.prog (w.alloc (.cells #[.int .i64 s.1, .int .i64 s.2.1, .int .i64 s.2.2] 35)) = .ok (.slice (some ⟨g2, 0, none⟩) (l.length + 1) cap) w') ∧
      OwnT 35 w' base (.slice (some ⟨g2, 0, none⟩) (l.length + 1) cap) (l ++ [s]) ∧ (w.alloc (.cells #[.int .i64 s.1, .int .i64 s.2.1, .int .i64 s.2.2] 35)).grownBy w' (some g) := by
  obtain ⟨i0, hi, hz0, hz1, hz2⟩ := info_parts LkR.info_box
  have ho2 := ho.below (alloc_below w (.cells #[.int .i64 s.1, .int .i64 s.2.1, .int .i64 s.2.2] 35))
  have h1 := fun ty => run_append_lies (P := Try.prog) (w.alloc (.cells #[.int .i64 s.1, .int .i64 s.2.1, .int .i64 s.2.2] 35)) 25 ty base 35 i0 _ 3 24 Try.underlying25 hi hz0 hz1 hz2 rfl (by decide) _ l.length (bcells l) ho2 ⟨w.heap.size, 0, none⟩ 1 1 (bcell s) rfl (World.news_of_block (cs := #[.int .i64 s.1, .int .i64 s.2.1, .int .i64 s.2.2]) (t := 35) (fr := (0, 0)) (heap_alloc_new _ _)) (by simp [bcell, Value.oneCell']) (by omega) (by unfold maxLen; omega) (by omega) (by simp; omega) _ rfl
  obtain ⟨g2, cap, w', hr, hown, hg, _, _⟩ := h1 0
  refine ⟨g2, cap, w', fun ty => ?_, ?_, hg⟩
  · rw [← hr]; rfl
  · show World.ownsRow _ _ _ _ _ _ _
    rw [bcells_append, bcells_one, List.length_append]; exact hown

set_option maxRecDepth 100000 in
set_option maxHeartbeats 1000000 in
theorem slist_get (k : Nat) (ca : Option Addr) (cl cc : Nat) (w : World) (hc : Cur w k ca cl cc) {Q : Ending → World → Prop}
    (h : ∀ (g cap : Nat) (l : List T3) (w' : World), 1 ≤ l.length → l.length ≤ 6 → (∀ s ∈ l, okS s = true) → OwnT 33 w' w.heap.size (.slice (some ⟨g, 0, none⟩) l.length cap) l → Cur w' k ca cl cc → w.grownBy w' (some k) → Q (.returned (.slice (some ⟨g, 0, none⟩) l.length cap)) w') :
    Calls Try.prog 35 #[.pointer (some ⟨k, 0, none⟩)] w Q := by
  have H := Lib.hid h
  clear h
  have hk := hc.lt
  have HK := Lib.hid hk
  have HC := Lib.hid (hc.alloc (.cells #[] 33))
  have HG := Lib.hid (World.grownBy_alloc w (.cells #[] 33) (some k))
  have HO := Lib.hid (show OwnT 33 (w.alloc (.cells #[] 33)) w.heap.size (.slice (some ⟨w.heap.size, 0, none⟩) 0 0) [] from
    ⟨by simp [bcells], .inr ⟨w.heap.size, 0, #[], rfl, Nat.le_refl _, heap_alloc_new w _, Nat.le_refl _, Nat.zero_le _, rfl, rfl⟩⟩)
  clear hc hk
  go_enter Try.func35, Try.ntmps35
  go_wp2_with fail
  refine below_get k ca cl cc 6 (by decide) _ HC.out ?_
  intro d w1 d0 d1 hc1 g1
  have HO := Lib.hid (own_kept HO.out g1 HK.out)
  have HG := Lib.hid (grownBy_trans HG.out g1)
  have HC := Lib.hid hc1
  clear hc1 g1
  obtain ⟨D, rfl⟩ := Int.eq_ofNat_of_zero_le d0
  obtain ⟨N, hN⟩ : ∃ N, D + 1 = N := ⟨_, rfl⟩
  have e0 : IntKind.i64.wrap (1 + (D : Int)) = (N : Int) := by rw [IntKind.wrap_i64]; omega
  have hN1 : 1 ≤ N := by omega
  have hN6 : N ≤ 6 := by omega
  clear d0 d1 hN
  go_wp2_with fail
  go_loopw [3, 5] (fun v i wr => ∃ (g cap : Nat) (l : List T3), l.length ≤ N ∧ i = .int .i64 (l.length : Int) ∧ v = .slice (some ⟨g, 0, none⟩) l.length cap ∧ Hid (∀ s ∈ l, okS s = true) ∧ Hid (OwnT 33 wr w.heap.size (.slice (some ⟨g, 0, none⟩) l.length cap) l) ∧ Hid (Cur wr k ca cl cc) ∧ Hid (w.grownBy wr (some k))) (fun _ i _ => N - (intOf i).toNat)
  case atStart => exact ⟨_, 0, [], Nat.zero_le _, rfl, rfl, Lib.hid (fun s hs => by simp at hs), HO, HC, HG⟩
  case round =>
    clear HO HC HG
    obtain ⟨g, cap, l, hl, rfl, rfl, HOK, HO, HC, HG⟩ := hrel
    by_cases hlt : l.length < N
    · have hl0 : (0 : Int) ≤ (l.length : Int) := Int.natCast_nonneg _
      have hl1 : (l.length : Int) < (N : Int) := by omega
      go_wp2_with fail
      refine sl_get k ca cl cc _ HC.out ?_
      intro x y z w2 hok hc2 g2
      have HO := Lib.hid (own_kept HO.out g2 HK.out)
      have HG := Lib.hid (grownBy_trans HG.out g2)
      have HOK2 := Lib.hid (show ∀ s ∈ l ++ [(x, y, z)], okS s = true from fun s hs => by
        rcases List.mem_append.1 hs with h1 | h1
        · exact HOK.out s h1
        · have : s = (x, y, z) := by simpa using h1
          rw [this]; exact hok)
      have HS := Lib.hid (show w.heap.size ≤ w2.heap.size from HG.out.size)
      have hb := alloc_below w2 (.cells #[.int .i64 x, .int .i64 y, .int .i64 z] 33)
      obtain ⟨m0, m1, m2⟩ := var_at (VarT.new (T := 33) w2 (x, y, z))
      have hc3 := hc2.alloc (.cells #[.int .i64 x, .int .i64 y, .int .i64 z] 33)
      obtain ⟨g2', cap2, w4, hrun, ho4, hg4⟩ := push_slider (s := (x, y, z)) (HO.out.below hb) (by omega) (by rw [alloc_size]; have := HS.out; omega)
      rw [alloc_size] at hrun
      have HRUN := Lib.hid hrun
      have HO4 := Lib.hid ho4
      have hgk : some k ≠ some g := by have h1 := (HO.out.lt g rfl).1; have := HK.out; simp; omega
      have HC4 := Lib.hid ((hc3.alloc _).kept hg4 hgk (fun b hb' => by have h1 := (HO.out.lt g rfl).1; have := HK.out; simp; omega))
      have HG4 := Lib.hid (grown_new (grownBy_trans (grownBy_trans HG.out (World.grownBy_alloc w2 (.cells #[.int .i64 x, .int .i64 y, .int .i64 z] 33) (some k))) (World.grownBy_alloc _ (.cells #[.int .i64 x, .int .i64 y, .int .i64 z] 33) (some k))) hg4 (HO.out.lt g rfl).1)
      clear hok hc2 g2 hb hc3 hrun ho4 hg4 hgk
      go_wp2_with (at_builtin; refine Lib.wpList_append_run _ rfl _ _ _ _ rfl _ _ rfl rfl _ _ (HRUN.out _) ?_)
      go_roundw
      case rel => exact ⟨g2', cap2, l ++ [(x, y, z)], by simp; omega, by simp, by simp, HOK2, by simpa using HO4, HC4, HG4⟩
      case measure => simp [intOf]; omega
    · have hnl : (N : Int) ≤ (l.length : Int) := by omega
      have hx : decide ((l.length : Int) < (N : Int)) = false := decide_eq_false (by omega)
      have hy : decide (l.length < N) = false := decide_eq_false (by omega)
      go_wp2
      exact H.out g cap l _ (by omega) (by omega) HOK.out HO.out HC.out HG.out

set_option maxRecDepth 100000 in
set_option maxHeartbeats 600000 in
theorem slinks_get (k : Nat) (ca : Option Addr) (cl cc N : Nat) (hN1 : 1 ≤ N) (hN6 : N ≤ 6) (w : World) (hc : Cur w k ca cl cc) {Q : Ending → World → Prop}
    (h : ∀ (g cap : Nat) (l : List T3) (w' : World), l.length ≤ 5 → OwnT 35 w' w.heap.size (.slice (some ⟨g, 0, none⟩) l.length cap) l → Cur w' k ca cl cc → w.grownBy w' (some k) → Q (.returned (.slice (some ⟨g, 0, none⟩) l.length cap)) w') :
    Calls Try.prog 36 #[.pointer (some ⟨k, 0, none⟩), .int .i64 (N : Int)] w Q := by
  have H := Lib.hid h
  clear h
  have hk := hc.lt
  have HK := Lib.hid hk
  have HC := Lib.hid (hc.alloc (.cells #[] 35))
  have HG := Lib.hid (World.grownBy_alloc w (.cells #[] 35) (some k))
  have HO := Lib.hid (show OwnT 35 (w.alloc (.cells #[] 35)) w.heap.size (.slice (some ⟨w.heap.size, 0, none⟩) 0 0) [] from
    ⟨by simp [bcells], .inr ⟨w.heap.size, 0, #[], rfl, Nat.le_refl _, heap_alloc_new w _, Nat.le_refl _, Nat.zero_le _, rfl, rfl⟩⟩)
  clear hc hk
  obtain ⟨nn, hnn⟩ : ∃ nn, (N : Int) - 1 = nn := ⟨_, rfl⟩
  have e1 : IntKind.i64.wrap ((N : Int) - 1) = nn := by rw [hnn, IntKind.wrap_i64]; omega
  have HNN := Lib.hid hnn
  have hnn9 : nn ≤ 5 := by omega
  clear hnn
  go_enter Try.func36, Try.ntmps36
  go_wp2_with fail
  refine below_get k ca cl cc 6 (by decide) _ HC.out ?_
  intro d w1 d0 d1 hc1 g1
  have HO := Lib.hid (own_kept HO.out g1 HK.out)
  have HC := Lib.hid hc1
  have HG := Lib.hid (grownBy_trans HG.out g1)
  clear hc1 g1
  go_wp2_with fail
  go_loopw [5, 6] (fun v i wr => ∃ (g cap : Nat) (l : List T3) (M : Int), (l.length : Int) + M ≤ 5 ∧ 0 ≤ M ∧ i = .int .i64 M ∧ v = .slice (some ⟨g, 0, none⟩) l.length cap ∧ Hid (OwnT 35 wr w.heap.size (.slice (some ⟨g, 0, none⟩) l.length cap) l) ∧ Hid (Cur wr k ca cl cc) ∧ Hid (w.grownBy wr (some k))) (fun _ i _ => (intOf i).toNat)
  case atStart => exact ⟨_, 0, [], d, by simp; omega, d0, rfl, rfl, HO, HC, HG⟩
  case round =>
    clear HO HC HG d0 d1
    obtain ⟨g, cap, l, M, hl, hM0, rfl, rfl, HO, HC, HG⟩ := hrel
    by_cases hM : 0 < M
    · have hMx : decide (0 < M) = true := decide_eq_true hM
      have hM5 : M ≤ 5 := by omega
      by_cases hn : 1 < (N : Int)
      · have hnx : decide (1 < (N : Int)) = true := decide_eq_true hn
        have ha0 : 0 < nn := by have := HNN.out; omega
        go_wp2_with fail
        refine below_get k ca cl cc nn (by omega) _ HC.out ?_
        intro a w2 a0 a1 hc2 g2
        have HO := Lib.hid (own_kept HO.out g2 HK.out)
        have HC := Lib.hid hc2
        have HG := Lib.hid (grownBy_trans HG.out g2)
        clear hc2 g2
        obtain ⟨b, hb⟩ : ∃ b, nn - a = b := ⟨_, rfl⟩
        have e2 : IntKind.i64.wrap (nn - a) = b := by rw [hb, IntKind.wrap_i64]; omega
        have hb0 : 0 < b := by omega
        have hb9 : b ≤ 6 := by omega
        obtain ⟨p, hp⟩ : ∃ p, a + 1 = p := ⟨_, rfl⟩
        have e3 : IntKind.i64.wrap (a + 1) = p := by rw [hp, IntKind.wrap_i64]; omega
        have hp0 : 0 ≤ p := by omega
        have hp9 : p ≤ 10 := by omega
        clear hb hp
        go_wp2_with fail
        refine below_get k ca cl cc b (by assumption) _ HC.out ?_
        intro e w3 e0 e1 hc3 g3
        have HO := Lib.hid (own_kept HO.out g3 HK.out)
        have HC := Lib.hid hc3
        have HG := Lib.hid (grownBy_trans HG.out g3)
        clear hc3 g3
        obtain ⟨y, hy⟩ : ∃ y, p + e = y := ⟨_, rfl⟩
        have e4 : IntKind.i64.wrap (p + e) = y := by rw [hy, IntKind.wrap_i64]; omega
        clear hy
        go_wp2_with fail
        refine below_get k ca cl cc 2 (by decide) _ HC.out ?_
        intro f w4 f0 f1 hc4 g4
        have HO := Lib.hid (own_kept HO.out g4 HK.out)
        have HC := Lib.hid hc4
        have HG := Lib.hid (grownBy_trans HG.out g4)
        clear hc4 g4
        obtain ⟨f2, hf2⟩ : ∃ f2, 2 * f = f2 := ⟨_, rfl⟩
        have e5 : IntKind.i64.wrap (2 * f) = f2 := by rw [hf2, IntKind.wrap_i64]; omega
        obtain ⟨z, hz⟩ : ∃ z, f2 - 1 = z := ⟨_, rfl⟩
        have e6 : IntKind.i64.wrap (f2 - 1) = z := by rw [hz, IntKind.wrap_i64]; omega
        clear hf2 hz
        have HV := Lib.hid (VarT.new (T := 35) w4 (a, y, z))
        obtain ⟨B, hB⟩ : ∃ B, w4.heap.size = B := ⟨_, rfl⟩
        have HBK := Lib.hid (show B ≠ k from by have := HC.out.lt; omega)
        have HBL := Lib.hid (show k < B from by have := HC.out.lt; omega)
        have HBG := Lib.hid (show B ≠ g from by have := (HO.out.lt g rfl).2; omega)
        have HBW := Lib.hid (show w.heap.size ≤ B from by have := HG.out.size; omega)
        have HO := Lib.hid (HO.out.below (alloc_below w4 (.cells #[.int .i64 a, .int .i64 y, .int .i64 z] 35)))
        have HC := Lib.hid (HC.out.alloc (.cells #[.int .i64 a, .int .i64 y, .int .i64 z] 35))
        have HG := Lib.hid (grownBy_trans HG.out (World.grownBy_alloc w4 (.cells #[.int .i64 a, .int .i64 y, .int .i64 z] 35) (some k)))
        rw [hB] at HV
        go_wp2_with fail
        clear hB
        refine once_get k ca cl cc 15 (by decide) _ HC.out ?_
        intro b5 w5 hc5 g5
        have HO := Lib.hid (own_kept HO.out g5 HK.out)
        have HC := Lib.hid hc5
        have HG := Lib.hid (grownBy_trans HG.out g5)
        have HV := Lib.hid (HV.out.grown g5 (by have := HBK.out; simpa using this))
        clear hc5 g5
        cases b5 with
        | false =>
          go_wp2_with fail
          refine once_get k ca cl cc 15 (by decide) _ HC.out ?_
          intro b6 w6 hc6 g6
          have HO := Lib.hid (own_kept HO.out g6 HK.out)
          have HC := Lib.hid hc6
          have HG := Lib.hid (grownBy_trans HG.out g6)
          have HV := Lib.hid (HV.out.grown g6 (by have := HBK.out; simpa using this))
          clear hc6 g6
          cases b6 with
          | false =>
            obtain ⟨q0, q1, q2⟩ := var_at HV.out
            have HS := Lib.hid (show w.heap.size ≤ w6.heap.size from HG.out.size)
            obtain ⟨g2', cap2, w9, hrun, ho4, hg4⟩ := push_link (s := (a, y, z)) HO.out (by omega) HS.out
            have HRUN := Lib.hid hrun
            have HO4 := Lib.hid ho4
            have hgk : some k ≠ some g := by have h1 := (HO.out.lt g rfl).1; have := HK.out; simp; omega
            have HC4 := Lib.hid ((HC.out.alloc _).kept hg4 hgk (fun b hb' => by have h1 := (HO.out.lt g rfl).1; have := HK.out; simp; omega))
            have HG4 := Lib.hid (grown_new (grownBy_trans HG.out (World.grownBy_alloc w6 (.cells #[.int .i64 a, .int .i64 y, .int .i64 z] 35) (some k))) hg4 (HO.out.lt g rfl).1)
            clear hrun ho4 hg4 hgk
            go_wp2_with (at_builtin; refine Lib.wpList_append_run _ rfl _ _ _ _ rfl _ _ rfl rfl _ _ (HRUN.out _) ?_)
            go_roundw
            case rel => exact ⟨g2', cap2, l ++ [(a, y, z)], M - 1, by rw [List.length_append, List.length_singleton]; omega, by omega, by first | rfl | go_num, by simp, by simpa using HO4, HC4, HG4⟩
            case measure => simp [intOf]; omega
          | true =>
            obtain ⟨q0, q1, q2⟩ := var_at HV.out
            have f0 := HV.out.free 0
            have f1 := HV.out.free 1
            have f2 := HV.out.free 2
            have HO := Lib.hid (own_off HO.out (grown_set w6 B 0 (.int .i64 y)) HBG.out)
            have HC := Lib.hid (HC.out.kept (grownBy_setCell w6 B 0 (.int .i64 y)) (by have := HBK.out; simp; omega) (fun b hb' => by have := HBL.out; simp; omega))
            have HG := Lib.hid (grown_new HG.out (grownBy_setCell w6 B 0 (.int .i64 y)) HBW.out)
            have HV := Lib.hid (var_put0 HV.out y)
            have HO := Lib.hid (own_off HO.out (grown_set (w6.setCell ⟨B, 0, none⟩ (.int .i64 y)) B 1 (.int .i64 a)) HBG.out)
            have HC := Lib.hid (HC.out.kept (grownBy_setCell (w6.setCell ⟨B, 0, none⟩ (.int .i64 y)) B 1 (.int .i64 a)) (by have := HBK.out; simp; omega) (fun b hb' => by have := HBL.out; simp; omega))
            have HG := Lib.hid (grown_new HG.out (grownBy_setCell (w6.setCell ⟨B, 0, none⟩ (.int .i64 y)) B 1 (.int .i64 a)) HBW.out)
            have HV := Lib.hid (var_put1 HV.out a)
            have HO := Lib.hid (own_off HO.out (grown_set ((w6.setCell ⟨B, 0, none⟩ (.int .i64 y)).setCell ⟨B, 1, none⟩ (.int .i64 a)) B 2 (.int .i64 z)) HBG.out)
            have HC := Lib.hid (HC.out.kept (grownBy_setCell ((w6.setCell ⟨B, 0, none⟩ (.int .i64 y)).setCell ⟨B, 1, none⟩ (.int .i64 a)) B 2 (.int .i64 z)) (by have := HBK.out; simp; omega) (fun b hb' => by have := HBL.out; simp; omega))
            have HG := Lib.hid (grown_new HG.out (grownBy_setCell ((w6.setCell ⟨B, 0, none⟩ (.int .i64 y)).setCell ⟨B, 1, none⟩ (.int .i64 a)) B 2 (.int .i64 z)) HBW.out)
            have HV := Lib.hid (var_put2 HV.out z)
            obtain ⟨r0, r1, r2⟩ := var_at HV.out
            have HS := Lib.hid (show w.heap.size ≤ (((w6.setCell ⟨B, 0, none⟩ (.int .i64 y)).setCell ⟨B, 1, none⟩ (.int .i64 a)).setCell ⟨B, 2, none⟩ (.int .i64 z)).heap.size from HG.out.size)
            obtain ⟨g2', cap2, w9, hrun, ho4, hg4⟩ := push_link (s := (y, a, z)) HO.out (by omega) HS.out
            simp only [set_size] at hrun
            have HRUN := Lib.hid hrun
            have HO4 := Lib.hid ho4
            have hgk : some k ≠ some g := by have h1 := (HO.out.lt g rfl).1; have := HK.out; simp; omega
            have HC4 := Lib.hid ((HC.out.alloc _).kept hg4 hgk (fun b hb' => by have h1 := (HO.out.lt g rfl).1; have := HK.out; simp; omega))
            have HG4 := Lib.hid (grown_new (grownBy_trans HG.out (World.grownBy_alloc (((w6.setCell ⟨B, 0, none⟩ (.int .i64 y)).setCell ⟨B, 1, none⟩ (.int .i64 a)).setCell ⟨B, 2, none⟩ (.int .i64 z)) (.cells #[.int .i64 y, .int .i64 a, .int .i64 z] 35) (some k))) hg4 (HO.out.lt g rfl).1)
            clear hrun ho4 hg4 hgk
            go_wp2_with (at_builtin; refine Lib.wpList_append_run _ rfl _ _ _ _ rfl _ _ rfl rfl _ _ (HRUN.out _) ?_)
            go_roundw
            case rel => exact ⟨g2', cap2, l ++ [(y, a, z)], M - 1, by rw [List.length_append, List.length_singleton]; omega, by omega, by first | rfl | go_num, by simp, by simpa using HO4, HC4, HG4⟩
            case measure => simp [intOf]; omega
        | true =>
          go_wp2_with fail
          refine below_get k ca cl cc 4 (by decide) _ HC.out ?_
          intro c w6 c0 c1 hc6 g6
          have HO := Lib.hid (own_kept HO.out g6 HK.out)
          have HC := Lib.hid hc6
          have HG := Lib.hid (grownBy_trans HG.out g6)
          have HV := Lib.hid (HV.out.grown g6 (by have := HBK.out; simpa using this))
          clear hc6 g6
          obtain ⟨z2, hz2⟩ : ∃ z2, c - 1 = z2 := ⟨_, rfl⟩
          have e7 : IntKind.i64.wrap (c - 1) = z2 := by rw [hz2, IntKind.wrap_i64]; omega
          clear hz2
          obtain ⟨q0, q1, q2⟩ := var_at HV.out
          have f2' := HV.out.free 2
          have HO2 := Lib.hid (own_off HO.out (grown_set w6 B 2 (.int .i64 z2)) HBG.out)
          have HC2 := Lib.hid (HC.out.kept (grownBy_setCell w6 B 2 (.int .i64 z2)) (by have := HBK.out; simp; omega) (fun b hb' => by have := HBL.out; simp; omega))
          have HG2 := Lib.hid (grown_new HG.out (grownBy_setCell w6 B 2 (.int .i64 z2)) HBW.out)
          have HV2 := Lib.hid (var_put2 HV.out z2)
          have HO := HO2
          have HC := HC2
          have HG := HG2
          have HV := HV2
          go_wp2_with fail
          refine once_get k ca cl cc 15 (by decide) _ HC.out ?_
          intro b7 w7 hc7 g7
          have HO := Lib.hid (own_kept HO.out g7 HK.out)
          have HC := Lib.hid hc7
          have HG := Lib.hid (grownBy_trans HG.out g7)
          have HV := Lib.hid (HV.out.grown g7 (by have := HBK.out; simpa using this))
          clear hc7 g7
          cases b7 with
          | false =>
            obtain ⟨q0, q1, q2⟩ := var_at HV.out
            have HS := Lib.hid (show w.heap.size ≤ w7.heap.size from HG.out.size)
            obtain ⟨g2', cap2, w9, hrun, ho4, hg4⟩ := push_link (s := (a, y, z2)) HO.out (by omega) HS.out
            have HRUN := Lib.hid hrun
            have HO4 := Lib.hid ho4
            have hgk : some k ≠ some g := by have h1 := (HO.out.lt g rfl).1; have := HK.out; simp; omega
            have HC4 := Lib.hid ((HC.out.alloc _).kept hg4 hgk (fun b hb' => by have h1 := (HO.out.lt g rfl).1; have := HK.out; simp; omega))
            have HG4 := Lib.hid (grown_new (grownBy_trans HG.out (World.grownBy_alloc w7 (.cells #[.int .i64 a, .int .i64 y, .int .i64 z2] 35) (some k))) hg4 (HO.out.lt g rfl).1)
            clear hrun ho4 hg4 hgk
            go_wp2_with (at_builtin; refine Lib.wpList_append_run _ rfl _ _ _ _ rfl _ _ rfl rfl _ _ (HRUN.out _) ?_)
            go_roundw
            case rel => exact ⟨g2', cap2, l ++ [(a, y, z2)], M - 1, by rw [List.length_append, List.length_singleton]; omega, by omega, by first | rfl | go_num, by simp, by simpa using HO4, HC4, HG4⟩
            case measure => simp [intOf]; omega
          | true =>
            obtain ⟨q0, q1, q2⟩ := var_at HV.out
            have f0 := HV.out.free 0
            have f1 := HV.out.free 1
            have f2 := HV.out.free 2
            have HO := Lib.hid (own_off HO.out (grown_set w7 B 0 (.int .i64 y)) HBG.out)
            have HC := Lib.hid (HC.out.kept (grownBy_setCell w7 B 0 (.int .i64 y)) (by have := HBK.out; simp; omega) (fun b hb' => by have := HBL.out; simp; omega))
            have HG := Lib.hid (grown_new HG.out (grownBy_setCell w7 B 0 (.int .i64 y)) HBW.out)
            have HV := Lib.hid (var_put0 HV.out y)
            have HO := Lib.hid (own_off HO.out (grown_set (w7.setCell ⟨B, 0, none⟩ (.int .i64 y)) B 1 (.int .i64 a)) HBG.out)
            have HC := Lib.hid (HC.out.kept (grownBy_setCell (w7.setCell ⟨B, 0, none⟩ (.int .i64 y)) B 1 (.int .i64 a)) (by have := HBK.out; simp; omega) (fun b hb' => by have := HBL.out; simp; omega))
            have HG := Lib.hid (grown_new HG.out (grownBy_setCell (w7.setCell ⟨B, 0, none⟩ (.int .i64 y)) B 1 (.int .i64 a)) HBW.out)
            have HV := Lib.hid (var_put1 HV.out a)
            have HO := Lib.hid (own_off HO.out (grown_set ((w7.setCell ⟨B, 0, none⟩ (.int .i64 y)).setCell ⟨B, 1, none⟩ (.int .i64 a)) B 2 (.int .i64 z2)) HBG.out)
            have HC := Lib.hid (HC.out.kept (grownBy_setCell ((w7.setCell ⟨B, 0, none⟩ (.int .i64 y)).setCell ⟨B, 1, none⟩ (.int .i64 a)) B 2 (.int .i64 z2)) (by have := HBK.out; simp; omega) (fun b hb' => by have := HBL.out; simp; omega))
            have HG := Lib.hid (grown_new HG.out (grownBy_setCell ((w7.setCell ⟨B, 0, none⟩ (.int .i64 y)).setCell ⟨B, 1, none⟩ (.int .i64 a)) B 2 (.int .i64 z2)) HBW.out)
            have HV := Lib.hid (var_put2 HV.out z2)
            obtain ⟨r0, r1, r2⟩ := var_at HV.out
            have HS := Lib.hid (show w.heap.size ≤ (((w7.setCell ⟨B, 0, none⟩ (.int .i64 y)).setCell ⟨B, 1, none⟩ (.int .i64 a)).setCell ⟨B, 2, none⟩ (.int .i64 z2)).heap.size from HG.out.size)
            obtain ⟨g2', cap2, w9, hrun, ho4, hg4⟩ := push_link (s := (y, a, z2)) HO.out (by omega) HS.out
            simp only [set_size] at hrun
            have HRUN := Lib.hid hrun
            have HO4 := Lib.hid ho4
            have hgk : some k ≠ some g := by have h1 := (HO.out.lt g rfl).1; have := HK.out; simp; omega
            have HC4 := Lib.hid ((HC.out.alloc _).kept hg4 hgk (fun b hb' => by have h1 := (HO.out.lt g rfl).1; have := HK.out; simp; omega))
            have HG4 := Lib.hid (grown_new (grownBy_trans HG.out (World.grownBy_alloc (((w7.setCell ⟨B, 0, none⟩ (.int .i64 y)).setCell ⟨B, 1, none⟩ (.int .i64 a)).setCell ⟨B, 2, none⟩ (.int .i64 z2)) (.cells #[.int .i64 y, .int .i64 a, .int .i64 z2] 35) (some k))) hg4 (HO.out.lt g rfl).1)
            clear hrun ho4 hg4 hgk
            go_wp2_with (at_builtin; refine Lib.wpList_append_run _ rfl _ _ _ _ rfl _ _ rfl rfl _ _ (HRUN.out _) ?_)
            go_roundw
            case rel => exact ⟨g2', cap2, l ++ [(y, a, z2)], M - 1, by rw [List.length_append, List.length_singleton]; omega, by omega, by first | rfl | go_num, by simp, by simpa using HO4, HC4, HG4⟩
            case measure => simp [intOf]; omega
      · have hnx : decide (1 < (N : Int)) = false := decide_eq_false hn
        have hny : decide (1 < N) = false := decide_eq_false (by omega)
        go_wp2
        exact H.out g cap l _ (by omega) HO.out HC.out HG.out
    · have hMx : decide (0 < M) = false := decide_eq_false hM
      go_wp2
      exact H.out g cap l _ (by omega) HO.out HC.out HG.out
end Go.Proofs.Ytmjknjgfcngacaa.Slide

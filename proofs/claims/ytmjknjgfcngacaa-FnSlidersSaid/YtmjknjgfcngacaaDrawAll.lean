/- What spec.DrawPullAll and spec.DrawSliders draw (printed by wip/gen_slidedraw3.py). -/
import Derived.Test.YtmjknjgfcngacaaDrawLinks
namespace Go.Proofs.Ytmjknjgfcngacaa.Slide
open Go.ChangeShapes Go.WideShapes Go.ChangeAt Go.RowKit Go.Sort
open Go.Proofs.Ytmjknjgfcngacaa.Tri
open Go.Proofs.Ytmjknjgfcngacaa.Draw (Cur below_get once_get pickInt_get new_get heap_new RowIn grownBy_setCell grownBy_trans below_of_grown)
open Go.Proofs.Ytmjknjgfcngacaa.Ints (grown_below grown_set grown_trans heap_set_at drewN_below)
set_option linter.unusedVariables false

/-- What is drawn behind a cursor: two rows, of sliders and of links. -/
structure Two (w : World) (k : Nat) (ca : Option Addr) (cl cc g g2 n c m c2 : Nat) (L ls : List T3) (w' : World) : Prop where
  cur : Cur w' k ca cl cc
  bel : Below w.heap.size w w'
  sl : OwnT 33 w' w.heap.size (.slice (some ⟨g, 0, none⟩) n c) L
  lk : OwnT 35 w' w.heap.size (.slice (some ⟨g2, 0, none⟩) m c2) ls
  kb : w.heap.size ≤ k
  kg : k < g
  gg : g < g2
variable {w w' w2 : World} {k cl cc g g2 n c m c2 : Nat} {ca : Option Addr} {L ls : List T3}
theorem Two.next (h : Two w k ca cl cc g g2 n c m c2 L ls w') (hc : Cur w2 k ca cl cc) (hg : w'.grownBy w2 (some k)) : Two w k ca cl cc g g2 n c m c2 L ls w2 :=
  ⟨hc, below_of_grown h.bel hg h.kb h.cur.lt, own_off h.sl hg (by have := h.kg; omega), own_off h.lk hg (by have := h.kg; have := h.gg; omega), h.kb, h.kg, h.gg⟩
theorem Two.alloc (h : Two w k ca cl cc g g2 n c m c2 L ls w') (o : Obj) : Two w k ca cl cc g g2 n c m c2 L ls (w'.alloc o) :=
  ⟨h.cur.alloc o, h.bel.trans ((alloc_below w' o).mono h.bel.size), h.sl.below (alloc_below w' o), h.lk.below (alloc_below w' o), h.kb, h.kg, h.gg⟩

theorem Two.put (h : Two w k ca cl cc g g2 n c m c2 L ls w') (hn : 0 < L.length) (x y z : Int) : Two w k ca cl cc g g2 n c m c2 (L.set 0 (x, y, z)) ls (setB w' g 0 x y z) :=
  ⟨h.cur.kept (grown_setB w' g 0 x y z) (by have := h.kg; simp; omega) (fun b hb => by have := h.kg; simp; omega),
   below_of_grown h.bel (grown_setB w' g 0 x y z) (by have := h.kg; have := h.kb; omega) (h.sl.lt g rfl).2,
   h.sl.set x y z hn, own_off h.lk (grown_setB w' g 0 x y z) (by have := h.gg; omega), h.kb, h.kg, h.gg⟩


set_option maxRecDepth 100000 in
set_option maxHeartbeats 1000000 in
theorem drawAll_get (ca : Option Addr) (cl cc : Nat) (w : World) (hm : cl ≤ maxLen) (hr : RowIn w ca cl) {Q : Ending → World → Prop}
    (h : ∀ (g cap : Nat) (L : List T3) (g2 cap2 : Nat) (ls : List T3) (k q : Int) (w' : World) (n : Nat), L.length = n → 1 ≤ n → n ≤ 6 → ls.length ≤ 5 → -1 ≤ k → k ≤ (n : Int) → -101 ≤ q → q ≤ 101 → Below w.heap.size w w' → OwnT 33 w' w.heap.size (.slice (some ⟨g, 0, none⟩) n cap) L → OwnT 35 w' w.heap.size (.slice (some ⟨g2, 0, none⟩) ls.length cap2) ls → g < g2 → Q (.returned (.tuple #[.slice (some ⟨g, 0, none⟩) n cap, .slice (some ⟨g2, 0, none⟩) ls.length cap2, .int .i64 k, .int .i64 q])) w') :
    Calls Try.prog 10 #[.slice ca cl cc] w Q := by
  have H := Lib.hid h; clear h
  have HR := Lib.hid hr; clear hr
  go_enter Try.func10, Try.ntmps10
  go_wp2_with fail
  refine new_get ca cl cc _ hm HR.out ?_
  intro k w1 hk hk1 hc1 hb1
  have HB := Lib.hid hb1
  clear hb1 hm
  go_wp2_with fail
  refine slist_get k ca cl cc _ hc1 ?_
  intro g cap L w2 hN1 hN6 hok ho2 hc2 g2'
  have HB := Lib.hid (below_of_grown HB.out g2' hk hk1)
  have hkg : k < g := by have := (ho2.lt g rfl).1; omega
  have HO := Lib.hid ho2
  clear hok ho2 g2' hc1
  obtain ⟨N, hN⟩ : ∃ N, L.length = N := ⟨_, rfl⟩
  have HN := Lib.hid hN
  rw [hN] at hN1 hN6 HO ⊢
  clear hN
  go_wp2_with fail
  refine slinks_get k ca cl cc N hN1 hN6 _ hc2 ?_
  intro g2 cap2 ls w3 hm ho3 hc3 g3
  have hgg : g < g2 := by have := (HO.out.lt g rfl).2; have := (ho3.lt g2 rfl).1; omega
  have HT := Lib.hid (show Two w k ca cl cc g g2 N cap ls.length cap2 L ls w3 from ⟨hc3, below_of_grown HB.out g3 hk hc2.lt, (own_off HO.out g3 (by omega)).mono (by omega), ho3.mono HB.out.size, hk, hkg, hgg⟩)
  have HL := Lib.hid hgg
  have HL0 := Lib.hid (show 0 < L.length by have := HN.out; omega)
  clear HB HO ho3 hc3 g3 hc2 hkg hgg hk1 hk
  obtain ⟨n2, hn2⟩ : ∃ n2, (N : Int) + 2 = n2 := ⟨_, rfl⟩
  have e1 : IntKind.i64.wrap ((N : Int) + 2) = n2 := by rw [hn2, IntKind.wrap_i64]; omega
  have hN0 : 0 < N := by omega
  go_wp2_with fail
  refine once_get k ca cl cc 12 (by decide) _ HT.out.cur ?_
  intro b w4 hc4 g4
  have HT := Lib.hid (HT.out.next hc4 g4)
  clear hc4 g4
  cases b with
  | false =>
    go_wp2_with fail
    refine below_get k ca cl cc n2 (by omega) _ HT.out.cur ?_
    intro d w5 d0 d1 hc5 g5
    have HT := Lib.hid (HT.out.next hc5 g5)
    clear hc5 g5
    obtain ⟨kk, hkk⟩ : ∃ kk, d - 1 = kk := ⟨_, rfl⟩
    have e2 : IntKind.i64.wrap (d - 1) = kk := by rw [hkk, IntKind.wrap_i64]; omega
    have hk0 : -1 ≤ kk := by omega
    have hk1 : kk ≤ (N : Int) := by omega
    clear hkk
    go_wp2_with fail
    have hk2 := HT.out.cur.lt
    have HT := Lib.hid (HT.out.alloc (.cells #[.int .i64 0, .int .i64 1, .int .i64 (-2), .int .i64 5, .int .i64 (-7), .int .i64 100, .int .i64 101, .int .i64 (-101)] 3))
    refine pickInt_get k ca cl cc _ 8 [0, 1, (-2), 5, (-7), 100, 101, (-101)] _ _ (fun x => -101 ≤ x ∧ x ≤ 101) (by intro x hx; simp at hx; omega) rfl (by decide) (by decide) _ HT.out.cur (heap_new _ _) (by have := hk2; omega) ?_
    intro q w6 hq hc6 g6
    have HT := Lib.hid (HT.out.next hc6 g6)
    clear hc6 g6
    go_wp2
    refine bodyPost_ret (v := .tuple #[.slice (some ⟨g, 0, none⟩) N cap, .slice (some ⟨g2, 0, none⟩) ls.length cap2, .int .i64 kk, .int .i64 q]) (by simp [results, Try.results10, go_sem]) rfl ?_
    exact H.out g cap L g2 cap2 ls kk q _ N (by simp [HN.out]) hN1 hN6 hm hk0 hk1 hq.1 hq.2 HT.out.bel HT.out.sl HT.out.lk HL.out
  | true =>
    go_wp2_with fail
    refine sa_get k ca cl cc _ HT.out.cur ?_
    intro x y z w5 hc5 g5
    have HT := Lib.hid (HT.out.next hc5 g5)
    clear hc5 g5
    have f0 := HT.out.sl.free 0
    have f1 := HT.out.sl.free 1
    have f2 := HT.out.sl.free 2
    obtain ⟨p0, p1, p2⟩ := HT.out.sl.cell (j := 0) HL0.out
    simp only [Nat.zero_mul, Nat.zero_add] at p0 p1 p2
    have HT := Lib.hid (HT.out.put HL0.out x y z)
    simp only [setB, Nat.zero_mul, Nat.zero_add] at HT
    go_wp2_with fail
    refine below_get k ca cl cc n2 (by omega) _ HT.out.cur ?_
    intro d w6 d0 d1 hc6 g6
    have HT := Lib.hid (HT.out.next hc6 g6)
    clear hc6 g6
    obtain ⟨kk, hkk⟩ : ∃ kk, d - 1 = kk := ⟨_, rfl⟩
    have e2 : IntKind.i64.wrap (d - 1) = kk := by rw [hkk, IntKind.wrap_i64]; omega
    have hk0 : -1 ≤ kk := by omega
    have hk1 : kk ≤ (N : Int) := by omega
    clear hkk
    go_wp2_with fail
    have hk2 := HT.out.cur.lt
    have HT := Lib.hid (HT.out.alloc (.cells #[.int .i64 0, .int .i64 1, .int .i64 (-2), .int .i64 5, .int .i64 (-7), .int .i64 100, .int .i64 101, .int .i64 (-101)] 3))
    refine pickInt_get k ca cl cc _ 8 [0, 1, (-2), 5, (-7), 100, 101, (-101)] _ _ (fun x => -101 ≤ x ∧ x ≤ 101) (by intro x hx; simp at hx; omega) rfl (by decide) (by decide) _ HT.out.cur (heap_new _ _) (by have := hk2; omega) ?_
    intro q w7 hq hc7 g7
    have HT := Lib.hid (HT.out.next hc7 g7)
    clear hc7 g7
    go_wp2
    refine bodyPost_ret (v := .tuple #[.slice (some ⟨g, 0, none⟩) N cap, .slice (some ⟨g2, 0, none⟩) ls.length cap2, .int .i64 kk, .int .i64 q]) (by simp [results, Try.results10, go_sem]) rfl ?_
    exact H.out g cap (L.set 0 (x, y, z)) g2 cap2 ls kk q _ N (by simp [HN.out]) hN1 hN6 hm hk0 hk1 hq.1 hq.2 HT.out.bel HT.out.sl HT.out.lk HL.out

set_option maxRecDepth 100000 in
set_option maxHeartbeats 1000000 in
theorem drawSliders_get (ca : Option Addr) (cl cc : Nat) (w : World) (hm : cl ≤ maxLen) (hr : RowIn w ca cl) {Q : Ending → World → Prop}
    (h : ∀ (g cap : Nat) (L : List T3) (w' : World) (n : Nat), L.length = n → 1 ≤ n → n ≤ 6 → (∀ s ∈ L, okS s = true) → Below w.heap.size w w' → OwnT 33 w' w.heap.size (.slice (some ⟨g, 0, none⟩) n cap) L → Q (.returned (.slice (some ⟨g, 0, none⟩) n cap)) w') :
    Calls Try.prog 15 #[.slice ca cl cc] w Q := by
  have H := Lib.hid h; clear h
  have HR := Lib.hid hr; clear hr
  go_enter Try.func15, Try.ntmps15
  go_wp2_with fail
  refine new_get ca cl cc _ hm HR.out ?_
  intro k w1 hk hk1 hc1 hb1
  have HB := Lib.hid hb1
  clear hb1 hm
  go_wp2_with fail
  refine slist_get k ca cl cc _ hc1 ?_
  intro g cap L w2 hN1 hN6 hok ho2 hc2 g2'
  have HB := Lib.hid (below_of_grown HB.out g2' hk hk1)
  have HO := Lib.hid (ho2.mono (show w.heap.size ≤ w1.heap.size by omega))
  have HOK := Lib.hid hok
  clear hok ho2 g2' hc1
  go_wp2
  exact H.out g cap L _ L.length rfl hN1 hN6 HOK.out HB.out HO.out
end Go.Proofs.Ytmjknjgfcngacaa.Slide

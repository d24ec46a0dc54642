/- What spec.DrawCards returns: two cards of one frame. -/
import Derived.Test.YtnkcmilhchidiaaDrawCard2
import Derived.Test.YtnkcmilhchidiaaCardCopy3
import Derived.Test.YtnkcmilhchidiaaOnce
import Derived.Deep.RegionHeld3
namespace Go.Proofs.Ytnkcmilhchidiaa.Card
open Go.ChangeShapes Go.WideShapes Go.ChangeAt Go.RowKit
open Go.Proofs.Ytnkcmilhchidiaa.Strip Go.Proofs.Ytnkcmilhchidiaa.Strs Go.Proofs.Ytnkcmilhchidiaa.Draw
set_option linter.unusedVariables false

/-- Where the draw of two cards stands: the cursor k, the results' variables g0 and g1, the cards' variables g5 and g6, the rows of both. -/
structure Two (w : World) (k g0 g1 g5 g6 B : Nat) (d f : Int) (a : Option Addr) (n c : Nat) (l : List ByteArray) (a2 : Option Addr) (c2 : Nat) (l2 : List ByteArray) (ca : Option Addr) (cl cc : Nat) (wr : World) : Prop where
  num : w.heap.size ≤ k ∧ k < B ∧ w.heap.size ≤ g0 ∧ g0 < B ∧ w.heap.size ≤ g1 ∧ g1 < B ∧ w.heap.size ≤ g5 ∧ g5 < B ∧ w.heap.size ≤ g6
  apart : k ≠ g0 ∧ k ≠ g1 ∧ k ≠ g5 ∧ k ≠ g6 ∧ g0 ≠ g1 ∧ g0 ≠ g5 ∧ g0 ≠ g6 ∧ g1 ≠ g5 ∧ g1 ≠ g6 ∧ g5 ≠ g6
  bel : Below w.heap.size w wr
  cur : Cur wr k ca cl cc
  v0 : Var wr g0 0 0 (.slice none 0 0)
  v1 : Var wr g1 0 0 (.slice none 0 0)
  v5 : Var wr g5 d f (.slice a n c)
  v6 : Var wr g6 d f (.slice a2 n c2)
  own : Own wr w.heap.size (.slice a n c) l
  old : ∀ b, (Value.slice a n c).ownBlock = some b → b < B ∧ b ≠ k
  own2 : Own wr B (.slice a2 n c2) l2

section
variable {w wr w' : World} {k g0 g1 g5 g6 B : Nat} {d f : Int} {a : Option Addr} {n c : Nat} {l : List ByteArray} {a2 : Option Addr} {c2 : Nat} {l2 : List ByteArray} {ca : Option Addr} {cl cc : Nat}

/-- Something was drawn. -/
theorem Two.draw (h : Two w k g0 g1 g5 g6 B d f a n c l a2 c2 l2 ca cl cc wr) (hc : Cur w' k ca cl cc) (g : wr.grownBy w' (some k)) : Two w k g0 g1 g5 g6 B d f a n c l a2 c2 l2 ca cl cc w' := by
  have hn := h.num
  have hp := h.apart
  refine ⟨h.num, h.apart, below_of_grown h.bel g hn.1 h.cur.lt, hc, h.v0.grown g (by simp; omega), h.v1.grown g (by simp; omega), h.v5.grown g (by simp; omega), h.v6.grown g (by simp; omega),
    World.ownsRow.kept h.own g (.inr fun e => (h.old k e).2 rfl), h.old, World.ownsRow.kept h.own2 g (.inr fun e => ?_)⟩
  have := (h.own2.lt k e).1
  omega
/-- Nothing that stood was written. -/
theorem Two.still (h : Two w k g0 g1 g5 g6 B d f a n c l a2 c2 l2 ca cl cc wr) (hb : Below wr.heap.size wr w') : Two w k g0 g1 g5 g6 B d f a n c l a2 c2 l2 ca cl cc w' :=
  ⟨h.num, h.apart, h.bel.trans (hb.mono h.bel.size), h.cur.kept (grown_below hb none) (by simp) (by simp), h.v0.below hb, h.v1.below hb, h.v5.below hb, h.v6.below hb, h.own.below hb, h.old, h.own2.below hb⟩
/-- A strip of the second card was exchanged. -/
theorem Two.store {g j : Nat} {s : ByteArray} (h : Two w k g0 g1 g5 g6 B d f a n c l (some ⟨g, 0, none⟩) c2 l2 ca cl cc wr) (hj : j < l2.length) : Two w k g0 g1 g5 g6 B d f a n c l (some ⟨g, 0, none⟩) c2 (l2.set j s) ca cl cc (wr.setCell ⟨g, j, none⟩ (.string s)) := by
  have hn := h.num
  have hg := (h.own2.lt g rfl).1
  have h6 : g ≠ g6 := by have := ne_var h.own2 h.v6; simpa [Value.ownBlock] using this
  refine ⟨h.num, h.apart, h.bel.setCell (by show w.heap.size ≤ g; omega) _, h.cur.kept (grown_set wr g j (.string s)) (by simp; omega) (fun b hb => by simp; omega), h.v0.other (by omega), h.v1.other (by omega), h.v5.other (by omega), h.v6.other (by omega),
    World.ownsRow.kept h.own (grown_set wr g j (.string s)) (.inr fun e => ?_), h.old, Own.set s h.own2 hj⟩
  have := (h.old g e).1
  omega
/-- The results' variables are written, in this order or the other, and both cards are handed over. -/
theorem Two.endA (h : Two w k g0 g1 g5 g6 B d f a n c l a2 c2 l2 ca cl cc wr) :
    ∃ Z, Z = Card.set3 (Card.set3 wr g0 d f (.slice a n c)) g1 d f (.slice a2 n c2) ∧ Var Z g0 d f (.slice a n c) ∧ Var Z g1 d f (.slice a2 n c2) ∧ Below w.heap.size w Z ∧ Own Z w.heap.size (.slice a n c) l ∧ Own Z w.heap.size (.slice a2 n c2) l2 := by
  have hn := h.num
  have hp := h.apart
  have v01 := h.v0.set3 d f (.slice a n c)
  have v11 := h.v1.other3 (d2 := d) (f2 := f) (u := .slice a n c) (Ne.symm hp.2.2.2.2.1)
  exact ⟨_, rfl, v01.other3 hp.2.2.2.2.1, v11.set3 _ _ _, below_set3 (below_set3 h.bel (by omega)) (by omega), Own.aside3 (Own.aside3 h.own h.v0) v11, (Own.aside3 (Own.aside3 h.own2 h.v0) v11).mono (by omega)⟩
theorem Two.endB (h : Two w k g0 g1 g5 g6 B d f a n c l a2 c2 l2 ca cl cc wr) :
    ∃ Z, Z = Card.set3 (Card.set3 wr g1 d f (.slice a2 n c2)) g0 d f (.slice a n c) ∧ Var Z g0 d f (.slice a n c) ∧ Var Z g1 d f (.slice a2 n c2) ∧ Below w.heap.size w Z ∧ Own Z w.heap.size (.slice a n c) l ∧ Own Z w.heap.size (.slice a2 n c2) l2 := by
  have hn := h.num
  have hp := h.apart
  have v11 := h.v1.set3 d f (.slice a2 n c2)
  have v01 := h.v0.other3 (d2 := d) (f2 := f) (u := .slice a2 n c2) hp.2.2.2.2.1
  exact ⟨_, rfl, v01.set3 _ _ _, v11.other3 (Ne.symm hp.2.2.2.2.1), below_set3 (below_set3 h.bel (by omega)) (by omega), Own.aside3 (Own.aside3 h.own h.v1) v01, (Own.aside3 (Own.aside3 h.own2 h.v1) v01).mono (by omega)⟩
end

theorem set_good {d f : Int} {l : List ByteArray} {j n : Nat} {s : ByteArray} (h : l.length = n ∧ ∀ s ∈ l, goodB d f s = true) (hs : goodB d f s = true) : (l.set j s).length = n ∧ ∀ t ∈ l.set j s, goodB d f t = true := by
  refine ⟨by rw [List.length_set]; exact h.1, fun t ht => ?_⟩
  rcases List.mem_or_eq_of_mem_set ht with h1 | h1
  · exact h.2 t h1
  · rw [h1]; exact hs

set_option maxRecDepth 100000 in
set_option maxHeartbeats 4000000 in
theorem drawCards_get (ca : Option Addr) (cl cc : Nat) (w : World) (hm : cl ≤ maxLen) (hr : RowIn w ca cl) {Q : Ending → World → Prop}
    (h : ∀ (d f : Int) (n : Nat) (a : Option Addr) (c : Nat) (l : List ByteArray) (a2 : Option Addr) (c2 : Nat) (l2 : List ByteArray) (w' : World), d ≤ 4 → f ≤ 4 → n ≤ 6 → l.length = n → l2.length = n → cardB d f l = true → cardB d f l2 = true → Below w.heap.size w w' → Own w' w.heap.size (.slice a n c) l → Own w' w.heap.size (.slice a2 n c2) l2 →
      Q (.returned (.tuple #[.agg #[.int .i64 d, .int .i64 f, .slice a n c], .agg #[.int .i64 d, .int .i64 f, .slice a2 n c2]])) w') :
    Calls Try.prog 15 #[.slice ca cl cc] w Q := by
  have H := Lib.hid h; clear h
  have hba : Below w.heap.size w ((w.alloc (.cells #[.int .i64 0, .int .i64 0, .slice none 0 0] 30)).alloc (.cells #[.int .i64 0, .int .i64 0, .slice none 0 0] 30)) := ((Below.refl _ _).alloc (Nat.le_refl _) _).alloc (by simp) _
  have hr0 : RowIn ((w.alloc (.cells #[.int .i64 0, .int .i64 0, .slice none 0 0] 30)).alloc (.cells #[.int .i64 0, .int .i64 0, .slice none 0 0] 30)) ca cl := by
    intro j hj
    obtain ⟨b, off, e, hlt, x, h0, h1, hx⟩ := hr j hj
    exact ⟨b, off, e, by simp; omega, x, h0, h1, (grown_below hba none).cell hx (by simp)⟩
  have HR := Lib.hid hr0
  have hv0 := (Var.new w 0 0 (.slice none 0 0)).below (alloc_below _ (.cells #[.int .i64 0, .int .i64 0, .slice none 0 0] 30))
  have hv1 := Var.new (w.alloc (.cells #[.int .i64 0, .int .i64 0, .slice none 0 0] 30)) 0 0 (.slice none 0 0)
  rw [show (w.alloc (.cells #[.int .i64 0, .int .i64 0, .slice none 0 0] 30)).heap.size = w.heap.size + 1 by simp] at hv1
  have hsz : ((w.alloc (.cells #[.int .i64 0, .int .i64 0, .slice none 0 0] 30)).alloc (.cells #[.int .i64 0, .int .i64 0, .slice none 0 0] 30)).heap.size = w.heap.size + 2 := by simp
  have HV0 := Lib.hid hv0
  have HV1 := Lib.hid hv1
  have HB := Lib.hid hba
  have HS := Lib.hid hsz
  clear hr hr0 hv0 hv1 hba hsz
  go_enter Try.func15, Try.ntmps15
  go_wp2_with fail
  generalize ((w.alloc (.cells #[.int .i64 0, .int .i64 0, .slice none 0 0] 30)).alloc (.cells #[.int .i64 0, .int .i64 0, .slice none 0 0] 30)) = W at *
  refine new_get ca cl cc _ hm HR.out ?_
  intro k w1 hk hk1 hc1 hb1
  have HV0 := Lib.hid (HV0.out.below hb1)
  have HV1 := Lib.hid (HV1.out.below hb1)
  have HB1 := Lib.hid (HB.out.trans (hb1.mono HB.out.size))
  have hk2 : w.heap.size + 2 ≤ k := by have := HS.out; omega
  clear hb1 hk HB HR HS
  go_wp2_with fail
  refine card_get k ca cl cc _ hk1 hc1 ?_
  intro d f a c l w2 hd hf hl hcb hc2 g2 ho2
  obtain ⟨n, hn⟩ : ∃ n, l.length = n := ⟨_, rfl⟩
  rw [hn] at hl ho2 ⊢
  have h1n : 1 ≤ n := by rw [← hn]; exact (cardB_iff.1 hcb).2.1
  have HV0 := Lib.hid (HV0.out.grown g2 (by simp; omega))
  have HV1 := Lib.hid (HV1.out.grown g2 (by simp; omega))
  have HB2 := Lib.hid (HB1.out.grown g2 (by have := HB1.out.size; omega) (fun j e => by cases e; omega))
  have hs2 : w1.heap.size ≤ w2.heap.size := g2.size
  have HC2 := Lib.hid hc2
  have HO2 := Lib.hid ho2
  have HCB := Lib.hid hcb
  have HN := Lib.hid hn
  clear g2 hc1 hc2 ho2 hcb hn HB1
  have hx5 := alloc_below w2 (.cells #[.int .i64 d, .int .i64 f, .slice a n c] 30)
  have hv5 := Var.new w2 d f (.slice a n c)
  have hs5 : (w2.alloc (.cells #[.int .i64 d, .int .i64 f, .slice a n c] 30)).heap.size = w2.heap.size + 1 := by simp
  obtain ⟨q0, q1, q2⟩ := hv5.cells
  go_wp2_with fail
  clear q0 q1 q2
  have HV0 := Lib.hid (HV0.out.below hx5)
  have HV1 := Lib.hid (HV1.out.below hx5)
  have HV5 := Lib.hid hv5
  have HB5 := Lib.hid (HB2.out.trans (hx5.mono HB2.out.size))
  have HC5 := Lib.hid (HC2.out.alloc (.cells #[.int .i64 d, .int .i64 f, .slice a n c] 30))
  have HO5 := Lib.hid (HO2.out.below hx5)
  have HX := Lib.hid (HO2.out.lt)
  clear hx5 hv5 HB2 HC2 HO2
  generalize (w2.alloc (.cells #[.int .i64 d, .int .i64 f, .slice a n c] 30)) = W5 at *
  refine (copy_spec d f w1.heap.size n c a l _ (by omega) HO5.out).mono ?_
  rintro e w3 ⟨a2, c2, rfl, hb3, ho3⟩
  rw [HN.out] at ho3 ⊢
  obtain ⟨g, rfl⟩ : ∃ g, a2 = some ⟨g, 0, none⟩ := by
    rcases ho3.shape with ⟨_, _, h0⟩ | h
    · have h1 := HN.out
      rw [h0] at h1
      simp at h1
      omega
    · exact h
  have hx6 := alloc_below w3 (.cells #[.int .i64 d, .int .i64 f, .slice (some ⟨g, 0, none⟩) n c2] 30)
  have hv6 := Var.new w3 d f (.slice (some ⟨g, 0, none⟩) n c2)
  have hs3 := hb3.size
  have HTW := Lib.hid (show Two w k w.heap.size (w.heap.size + 1) w2.heap.size w3.heap.size W5.heap.size d f a n c l (some ⟨g, 0, none⟩) c2 l ca cl cc (w3.alloc (.cells #[.int .i64 d, .int .i64 f, .slice (some ⟨g, 0, none⟩) n c2] 30)) from
    ⟨by omega, by omega, (HB5.out.trans (hb3.mono HB5.out.size)).trans (hx6.mono (by have := HB5.out.size; omega)), (HC5.out.kept (grown_below hb3 none) (by simp) (by simp)).alloc _, (HV0.out.below hb3).below hx6, (HV1.out.below hb3).below hx6, (HV5.out.below hb3).below hx6, hv6, ((HO5.out.below hb3).below hx6).mono (by omega),
      fun b e => by have := HX.out b e; omega, ho3.below hx6⟩)
  clear hb3 ho3 hx6 hv6 HV0 HV1 HV5 HB5 HC5 HO5 HX
  obtain ⟨q0, q1, q2⟩ := HTW.out.v6.cells
  go_wp2_with fail
  clear q0 q1 q2
  generalize (w3.alloc (.cells #[.int .i64 d, .int .i64 f, .slice (some ⟨g, 0, none⟩) n c2] 30)) = W6 at *
  obtain ⟨g5, hg5⟩ : ∃ g5, w2.heap.size = g5 := ⟨_, rfl⟩
  obtain ⟨g6, hg6⟩ : ∃ g6, w3.heap.size = g6 := ⟨_, rfl⟩
  obtain ⟨B, hB⟩ : ∃ B, W5.heap.size = B := ⟨_, rfl⟩
  rw [hg5, hg6, hB] at HTW
  rw [hg5, hg6]
  clear hs2 hs5 hs3 hk1 hk2 hg5 hg6 hB
  go_loopw [7] (fun i wr => ∃ (j : Nat) (l2 : List ByteArray), j ≤ n ∧ i = .int .i64 (j : Int) ∧ Hid (Two w k w.heap.size (w.heap.size + 1) g5 g6 B d f a n c l (some ⟨g, 0, none⟩) c2 l2 ca cl cc wr) ∧ Hid (l2.length = n ∧ ∀ s ∈ l2, goodB d f s = true)) (fun i _ => n - (intOf i).toNat)
  case atStart => exact ⟨0, l, Nat.zero_le _, rfl, HTW, ⟨HN.out, (cardB_iff.1 HCB.out).2.2.2⟩⟩
  case round =>
    clear HTW
    obtain ⟨j, l2, hj, rfl, HT, HG⟩ := hrel
    have hj0 : (0 : Int) ≤ (j : Int) := Int.natCast_nonneg _
    obtain ⟨q0, q1, q2⟩ := HT.out.v6.cells
    by_cases hlt : j < n
    · have hj1 : (j : Int) < (n : Int) := by omega
      have hjl : j < l2.length := by rw [HG.out.1]; exact hlt
      go_wp2_with fail
      clear q0 q1 q2
      refine once_get k ca cl cc 2 (by omega) _ HT.out.cur ?_
      intro x w4 hc4 g4
      have HT4 := Lib.hid (HT.out.draw hc4 g4)
      clear hc4 g4 HT
      have HTD := Lib.hid (HT4.out.still (w' := w4.drew) (Below.refl _ _).drew)
      have hfr := (frame_pos (cardB_iff.1 HCB.out).1)
      obtain ⟨d1, d8, f1', f8⟩ := hfr
      cases x with
      | false =>
        go_wp2
        go_roundw
        case rel => exact ⟨j + 1, l2, by omega, by go_num, HT4, HG⟩
        case measure => simp [intOf]; omega
      | true =>
        go_wp2_with fail
        obtain ⟨q0, q1, q2⟩ := HT4.out.v6.cells
        have hgb := (HT4.out.own2.lt g rfl).1
        have hg6 : g ≠ g6 := by have h := ne_var HT4.out.own2 HT4.out.v6; simpa [Value.ownBlock] using h
        have HG6 := Lib.hid hg6
        have K0 := Lib.hid (show w4.drew.cell? ⟨g6, 0, none⟩ = some (.int .i64 d) ∧ w4.drew.cell? ⟨g6, 1, none⟩ = some (.int .i64 f) ∧ w4.drew.cell? ⟨g6, 2, none⟩ = some (.slice (some ⟨g, 0, none⟩) n c2) from ⟨q0, q1, q2⟩)
        clear hg6 hgb
        go_region_held3 (fun w' => w'.cell? ⟨g6, 0, none⟩ = some (.int .i64 d) ∧ w'.cell? ⟨g6, 1, none⟩ = some (.int .i64 f) ∧ w'.cell? ⟨g6, 2, none⟩ = some (.slice (some ⟨g, 0, none⟩) n c2)) (first | with_reducible exact K0.out | with_reducible exact K1.out | with_reducible exact K2.out) ((go_at_call 35; refine draw_int k ca cl cc d f (by omega) (by omega) (by omega) (by omega) _ HTD.out.cur ?_; intro s w5 h1 h2 h3 hc5 g5'; have HT5 := Lib.hid (HTD.out.draw hc5 g5'); have HGS := Lib.hid (good_of h1 h2 h3 (frame_mk d1 d8 f1' f8)); have K1 := Lib.hid HT5.out.v6.cells; have q3 := HT5.out.own2.cell hjl; have q4 := HT5.out.own2.free j; have K2 := Lib.hid (HT5.out.v6.other (j := j) (u := .string ⟨s.toArray⟩) (Ne.symm HG6.out)).cells; clear h1 h2 h3 hc5 g5'))
        all_goals
          go_wp2
          go_roundw
          case rel => exact ⟨j + 1, l2.set j ⟨s.toArray⟩, by omega, by go_num, Lib.hid (HT5.out.store hjl), Lib.hid (set_good HG.out HGS.out)⟩
          case measure => simp [intOf]; omega
    · obtain rfl : j = n := by omega
      have HC2B := Lib.hid (show cardB d f l2 = true from cardB_iff.2 ⟨(cardB_iff.1 HCB.out).1, by rw [HG.out.1]; omega, by rw [HG.out.1]; omega, HG.out.2⟩)
      obtain ⟨ZA, hZA, za0, za1, za2, za3, za4⟩ := HT.out.endA
      unfold Card.set3 at hZA
      have hp := HT.out.apart
      have n1 : w.heap.size ≠ g5 := by omega
      have n2 : w.heap.size ≠ g6 := by omega
      have n3 : w.heap.size + 1 ≠ g5 := by omega
      have n4 : w.heap.size + 1 ≠ g6 := by omega
      have n5 : g5 ≠ g6 := by omega
      obtain ⟨p0, p1, p2⟩ := HT.out.v0.cells
      obtain ⟨r0, r1, r2⟩ := HT.out.v1.cells
      obtain ⟨s0, s1, s2⟩ := HT.out.v5.cells
      have f00 := HT.out.v0.free 0
      have f01 := HT.out.v0.free 1
      have f02 := HT.out.v0.free 2
      have f10 := HT.out.v1.free 0
      have f11 := HT.out.v1.free 1
      have f12 := HT.out.v1.free 2
      have HZA := Lib.hid hZA
      have HPA := Lib.hid (show Var ZA w.heap.size d f (.slice a j c) ∧ Var ZA (w.heap.size + 1) d f (.slice (some ⟨g, 0, none⟩) j c2) ∧ Below w.heap.size w ZA ∧ Own ZA w.heap.size (.slice a j c) l ∧ Own ZA w.heap.size (.slice (some ⟨g, 0, none⟩) j c2) l2 from ⟨za0, za1, za2, za3, za4⟩)
      clear hp hZA za0 za1 za2 za3 za4
      go_wp2_with fail
      go_region
      all_goals
        rw [← HZA.out]
        clear HZA p0 p1 p2 r0 r1 r2 s0 s1 s2 q0 q1 q2 f00 f01 f02 f10 f11 f12 n1 n2 n3 n4 n5
        obtain ⟨y0, y1, y2⟩ := HPA.out.1.cells
        obtain ⟨z0, z1, z2⟩ := HPA.out.2.1.cells
        go_wp2
        refine bodyPost_ret (v := .tuple #[.agg #[.int .i64 d, .int .i64 f, .slice a j c], .agg #[.int .i64 d, .int .i64 f, .slice (some ⟨g, 0, none⟩) j c2]]) (by simp [results, Try.results15, go_sem, y0, y1, y2, z0, z1, z2]) rfl ?_
        exact H.out d f j a c l _ c2 l2 _ hd hf hl HN.out HG.out.1 HCB.out HC2B.out HPA.out.2.2.1.drew HPA.out.2.2.2.1 HPA.out.2.2.2.2
end Go.Proofs.Ytnkcmilhchidiaa.Card

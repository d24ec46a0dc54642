/- What the law of chapter 12 asks, as facts on cards. Pure mathematics. -/
import Derived.Test.YtoampghmikamlaaRoom
import Derived.Test.YtoampghmikamlaaSymmDef
import Derived.Test.YtoampghmikamlaaTurnSpec
namespace Go.Proofs.Ytoampghmikamlaa.Turn
open Go.ChangeShapes Go.WideShapes Go.ChangeAt Go.RowKit
open Go.Proofs.Ytoampghmikamlaa.Strip Go.Proofs.Ytoampghmikamlaa.Strs Go.Proofs.Ytoampghmikamlaa.Card Go.Proofs.Ytoampghmikamlaa.Kerf Go.Proofs.Ytoampghmikamlaa.Order
set_option linter.unusedVariables false

theorem frame_swap {d f : Int} (h : frameB d f = true) : frameB f d = true := by
  unfold frameB at h ⊢
  simp only [decide_eq_true_eq] at h ⊢
  omega
theorem good_turn {d f : Int} {s : ByteArray} (hf : frameB d f = true) (h : goodB d f s = true) : goodB f d (turnS s) = true := by
  have hs := good_strip hf h
  have ht := strip_turn hs
  unfold goodB numV at h ⊢
  rw [turnS_list, ht]
  rw [hs] at h
  simp only [if_true, decide_eq_true_eq] at h ⊢
  rw [turn_yes hs, cnt_turn_f, cnt_turn_d (stripB_ok hs)]
  exact ⟨h.2, h.1⟩
theorem card_turn {d f : Int} {l : List ByteArray} (h : cardB d f l = true) : cardB f d (turnC l) = true := by
  obtain ⟨h1, h2, h3, h4⟩ := cardB_iff.1 h
  refine cardB_iff.2 ⟨frame_swap h1, by rw [turnC_length]; exact h2, by rw [turnC_length]; exact h3, fun s hs => ?_⟩
  obtain ⟨x, hx, rfl⟩ := List.mem_map.1 hs
  exact good_turn h1 (h4 x hx)
theorem card_strips {d f : Int} {l : List ByteArray} (h : cardB d f l = true) : ∀ s ∈ l, stripB s.data.toList = true := fun s hs => good_strip (cardB_iff.1 h).1 ((cardB_iff.1 h).2.2.2 s hs)
theorem card_same {d f : Int} {l : List ByteArray} (h : cardB d f l = true) {s t : ByteArray} (hs : s ∈ l) (ht : t ∈ l) : sameB s.data.toList t.data.toList = true :=
  (good_mix (up := true) (cardB_iff.1 h).1 ((cardB_iff.1 h).2.2.2 s hs) ((cardB_iff.1 h).2.2.2 t ht)).1
theorem size_of_strip {s : ByteArray} (h : stripB s.data.toList = true) : s.size ≤ 16 := size_small h
theorem sizes_of {d f : Int} {l : List ByteArray} (h : cardB d f l = true) : ∀ s ∈ l, s.size ≤ 1048576 := fun s hs => by
  have := size_of_strip (card_strips h s hs)
  omega
theorem volI_in {d f : Int} {l : List ByteArray} (h : cardB d f l = true) : -2560 ≤ volI d f l ∧ volI d f l ≤ 2560 := by
  unfold volI
  rw [if_pos h]
  have h2 := sumL_in 256 (by omega) (l := roomsL l) (fun x hx => by
    obtain ⟨s, hs, rfl⟩ := List.mem_map.1 hx
    exact room_in (card_strips h s hs))
  have h3 : (roomsL l).length = l.length := by unfold roomsL; rw [List.length_map]
  rw [h3] at h2
  have h4 := (cardB_iff.1 h).2.2.1
  omega

theorem turnC_turnC {l : List ByteArray} (h : ∀ s ∈ l, stripB s.data.toList = true) : turnC (turnC l) = l := by
  unfold turnC
  rw [List.map_map]
  exact (List.map_congr_left fun s hs => turnS_turnS (h s hs)).trans (List.map_id _)
theorem rooms_turn {l : List ByteArray} (h : ∀ s ∈ l, stripB s.data.toList = true) : roomsL (turnC l) = roomsL l := by
  unfold roomsL turnC
  rw [List.map_map]
  exact List.map_congr_left fun s hs => room_turn (h s hs)
theorem vol_turn {d f : Int} {l : List ByteArray} (h : cardB d f l = true) : volI f d (turnC l) = volI d f l := by
  unfold volI
  rw [if_pos h, if_pos (card_turn h), rooms_turn (card_strips h)]

theorem room_up {a b : List UInt8} (h : sameB a b = true) : roomI a ≤ roomI (mixL true a b) := by
  have e := room_diff (mix_same (up := true) h)
  have hs := sumN_le (n := a.length) (f := fun k => (ff a k : Int)) (g := fun k => (ff (mixL true a b) k : Int)) (fun k hk => by
    rw [ff_mix h k (by omega)]
    unfold mf pick
    simp only [if_true]
    omega)
  omega
theorem rooms_up : ∀ {l m : List ByteArray}, l.length = m.length → (∀ s ∈ l, ∀ t ∈ m, sameB s.data.toList t.data.toList = true) → sumL (roomsL l) ≤ sumL (roomsL (List.zipWith (mixS true) l m))
  | [], [], _, _ => Int.le_refl _
  | [], _ :: _, h, _ => by simp at h
  | _ :: _, [], h, _ => by simp at h
  | s :: l, t :: m, h, hh => by
    have ih := rooms_up (l := l) (m := m) (by simpa using h) (fun x hx y hy => hh x (List.mem_cons_of_mem _ hx) y (List.mem_cons_of_mem _ hy))
    have h1 := room_up (hh s (List.mem_cons_self ..) t (List.mem_cons_self ..))
    rw [List.zipWith_cons_cons]
    show roomI s.data.toList + sumL (roomsL l) ≤ roomI (mixL true s.data.toList t.data.toList) + sumL (roomsL (List.zipWith (mixS true) l m))
    omega
theorem symL_at {l : List ByteArray} (i : Nat) (h : i < l.length) (h' : i < (symL l).length) : (symL l)[i] = mixS true l[i] l[l.length - 1 - i] := by
  have e : (symL l)[i] = (List.zipWith (mixS true) l l.reverse)[i]'(by rw [List.length_zipWith, List.length_reverse]; omega) := rfl
  rw [e, List.getElem_zipWith, List.getElem_reverse]
theorem card_symL {d f : Int} {l : List ByteArray} (h : cardB d f l = true) : cardB d f (symL l) = true := by
  obtain ⟨h1, h2, h3, h4⟩ := cardB_iff.1 h
  refine cardB_iff.2 ⟨h1, by rw [symL_length]; exact h2, by rw [symL_length]; exact h3, fun s hs => ?_⟩
  obtain ⟨k, hk, rfl⟩ := List.mem_iff_getElem.1 hs
  have hk' : k < l.length := by rw [symL_length] at hk; exact hk
  rw [symL_at k hk' hk]
  exact (good_mix h1 (h4 _ (List.getElem_mem _)) (h4 _ (List.getElem_mem _))).2
theorem vol_symL {d f : Int} {l : List ByteArray} (h : cardB d f l = true) : volI d f l ≤ volI d f (symL l) := by
  unfold volI
  rw [if_pos h, if_pos (card_symL h)]
  exact rooms_up (by rw [List.length_reverse]) fun s hs t ht => card_same h hs (List.mem_reverse.1 ht)

theorem mixS_comm {s t : ByteArray} (h : sameB s.data.toList t.data.toList = true) : mixS true t s = mixS true s t := of_list (by rw [mixS_list, mixS_list, mix_comm h])
theorem mixS_self {s : ByteArray} (h : stripB s.data.toList = true) : mixS true s s = s := of_list (by
  rw [mixS_list]
  exact (upper_is (Order.same_self h)).2 (above_iff.2 ⟨Order.same_self h, fun _ _ => Nat.le_refl _⟩))
theorem symL_symm {d f : Int} {l : List ByteArray} (h : cardB d f l = true) : (symL l).reverse = symL l := by
  refine List.ext_getElem (by rw [List.length_reverse]) fun i h1 h2 => ?_
  have hi : i < l.length := by rw [symL_length] at h2; exact h2
  rw [List.getElem_reverse, symL_at i hi h2]
  have e : (symL l).length - 1 - i = l.length - 1 - i := by rw [symL_length]
  have e2 := symL_at (l := l) (l.length - 1 - i) (by omega) (by rw [symL_length]; omega)
  have e3 : l.length - 1 - (l.length - 1 - i) = i := by omega
  simp only [e, e2, e3]
  exact mixS_comm (card_same h (List.getElem_mem _) (List.getElem_mem _))
theorem symB_symL {d f : Int} {l : List ByteArray} (h : cardB d f l = true) : symB d f (symL l) = true := by
  unfold symB
  rw [card_symL h, symL_symm h]
  simp
theorem symm_iff {d f : Int} {l : List ByteArray} (h : cardB d f l = true) : l.reverse = l ↔ l = symL l := by
  constructor
  · intro e
    unfold symL mixM
    rw [e]
    refine List.ext_getElem (by rw [List.length_zipWith, Nat.min_self]) fun i h1 h2 => ?_
    rw [List.getElem_zipWith, mixS_self (card_strips h _ (List.getElem_mem _))]
  · intro e
    have ha : ∀ i (hi : i < l.length), aboveB l[i].data.toList l[l.length - 1 - i].data.toList = true := fun i hi => by
      have hs := card_same h (List.getElem_mem hi) (List.getElem_mem (show l.length - 1 - i < l.length by omega))
      refine (upper_is hs).1 ?_
      rw [← mixS_list, ← symL_at i hi (by rw [symL_length]; exact hi)]
      have e4 : ∀ (m : List ByteArray) (hm : i < m.length), l = m → m[i] = l[i] := fun m hm e => by subst e; rfl
      rw [e4 (symL l) (by rw [symL_length]; exact hi) e]
    refine List.ext_getElem (by rw [List.length_reverse]) fun i h1 h2 => ?_
    rw [List.getElem_reverse]
    have hj : l.length - 1 - i < l.length := by omega
    have a1 := above_iff.1 (ha i h2)
    have a2 := ha (l.length - 1 - i) hj
    have e3 : l.length - 1 - (l.length - 1 - i) = i := by omega
    simp only [e3] at a2
    have a3 := above_iff.1 a2
    have hl := (same_facts a1.1).2.2.2.2
    exact of_list (eq_of_ff a3.1 fun k hk => Nat.le_antisymm (a1.2 k (by omega)) (a3.2 k hk))
theorem symm_cmp {d f : Int} {l : List ByteArray} (h : cardB d f l = true) : sameC d f l d f (symL l) = symB d f l := by
  unfold sameC symB
  rw [h, Bool.true_and, Bool.eq_iff_iff, decide_eq_true_eq, decide_eq_true_eq, symm_iff h]
  exact ⟨fun h => h.2.2, fun h => ⟨rfl, rfl, h⟩⟩
theorem turn_mirror (l : List ByteArray) : turnC l.reverse = (turnC l).reverse := by unfold turnC; rw [List.map_reverse]

/-- What the law asks of a card. -/
structure Sides (d f : Int) (n : Nat) (l t m y mt : List ByteArray) (vy vc : Int) (sy : Bool) : Prop where
  t1 : turnC l = t
  m1 : l.reverse = m
  y1 : symL l = y
  ct : cardB f d t = true
  cm : cardB d f m = true
  cy : cardB d f y = true
  nl : l.length = n
  nt : t.length = n
  nm : m.length = n
  ny : y.length = n
  nx : mt.length = n
  tt : turnC t = l
  mm : m.reverse = l
  mt1 : t.reverse = mt
  tm1 : turnC m = mt
  sy1 : symB d f y = true
  sy2 : symB d f l = sy
  sy3 : sameC d f l d f y = sy
  vy1 : volI d f y = vy
  vc1 : volI d f l = vc
  vt1 : volI f d t = vc
  le : vc ≤ vy
  zl : ∀ s ∈ l, s.size ≤ 1048576
  zt : ∀ s ∈ t, s.size ≤ 1048576
  zm : ∀ s ∈ m, s.size ≤ 1048576
  zy : ∀ s ∈ y, s.size ≤ 1048576
  bnd : -2560 ≤ vy ∧ vy ≤ 2560 ∧ -2560 ≤ vc ∧ vc ≤ 2560
theorem sides_of {d f : Int} {n : Nat} {l : List ByteArray} (h : cardB d f l = true) (hn : l.length = n) : ∃ t m y mt vy vc sy, Sides d f n l t m y mt vy vc sy := by
  have i1 := volI_in h
  have i2 := volI_in (card_symL h)
  exact ⟨turnC l, l.reverse, symL l, turnC l.reverse, volI d f (symL l), volI d f l, symB d f l, {
    t1 := rfl, m1 := rfl, y1 := rfl, ct := card_turn h, cm := card_reverse h, cy := card_symL h, nl := hn
    nt := (turnC_length l).trans hn, nm := (List.length_reverse ..).trans hn, ny := (symL_length l).trans hn, nx := (turnC_length _).trans ((List.length_reverse ..).trans hn)
    tt := turnC_turnC (card_strips h), mm := List.reverse_reverse l, mt1 := (turn_mirror l).symm, tm1 := rfl
    sy1 := symB_symL h, sy2 := rfl, sy3 := symm_cmp h, vy1 := rfl, vc1 := rfl, vt1 := vol_turn h, le := vol_symL h
    zl := sizes_of h, zt := sizes_of (card_turn h), zm := sizes_of (card_reverse h), zy := sizes_of (card_symL h), bnd := ⟨i2.1, i2.2, i1.1, i1.2⟩ }⟩

/-- What it asks of a strip. -/
theorem strip_law {s : ByteArray} (h : stripB s.data.toList = true) : turnS (turnS s) = s ∧ roomI (turnS s).data.toList = roomI s.data.toList ∧ ((turnS s).toList == s.toList) = balB s.data.toList ∧ (turnS s).size ≤ 16 ∧ s.size ≤ 16 :=
  ⟨turnS_turnS h, by rw [turnS_list, room_turn h], by rw [list_beq, bal_text h], Nat.le_trans (turnS_size s) (size_of_strip h), size_of_strip h⟩
theorem two_law {s p : ByteArray} (h : sameB s.data.toList p.data.toList = true) : aboveB (turnS s).data.toList (turnS p).data.toList = aboveB s.data.toList p.data.toList := by
  rw [turnS_list, turnS_list, above_turn h]
end Go.Proofs.Ytoampghmikamlaa.Turn

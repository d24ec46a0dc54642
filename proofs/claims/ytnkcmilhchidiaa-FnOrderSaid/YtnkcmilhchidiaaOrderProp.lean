/- What laws.FnOrder returns: true at every draw. -/
import Derived.Test.YtnkcmilhchidiaaOrderImpl
import Derived.Test.YtnkcmilhchidiaaOrderUcImpl
import Derived.Test.YtnkcmilhchidiaaOrderLcImpl
import Derived.Test.YtnkcmilhchidiaaRoom
import Derived.Test.YtnkcmilhchidiaaDrawTwo
import Derived.Test.YtnkcmilhchidiaaDrawThree
import Derived.Test.YtnkcmilhchidiaaBig
import Derived.Lib.QuietBelow
namespace Go.Proofs.Ytnkcmilhchidiaa.Order
open Go.ChangeShapes Go.WideShapes Go.ChangeAt Go.RowKit Go.Sort
open Go.Proofs.Ytnkcmilhchidiaa.Strip Go.Proofs.Ytnkcmilhchidiaa.Strs Go.Proofs.Ytnkcmilhchidiaa.Card Go.Proofs.Ytnkcmilhchidiaa.Kerf Go.Proofs.Ytnkcmilhchidiaa.Draw
set_option linter.unusedVariables false

theorem mix_eq {up : Bool} {s t u : ByteArray} (h : mixL up s.data.toList t.data.toList = u.data.toList) : mixS up s t = u := of_list h
theorem gave_both {up : Bool} {w w' : World} {d f : Int} {l m : List ByteArray} {e : Ending} (hbo : bothB d f l d f m = true) (h : BothPost up w d f l d f m e w') : Gave2 w d f (mixM up l m) true e w' := by
  unfold BothPost bothD bothF bothL at h
  rw [if_pos hbo, if_pos hbo, if_pos hbo, hbo] at h
  exact h
/-- What the law asks of three strips. -/
structure Laws (r s t U L A B1 B2 : ByteArray) (p q z b1 b2 cb : Bool) (ru rl rs rt ar : Int) : Prop where
  u1 : mixS true s t = U
  l1 : mixS false s t = L
  a1 : aboveB U.data.toList s.data.toList = true
  a2 : aboveB U.data.toList t.data.toList = true
  a3 : aboveB s.data.toList L.data.toList = true
  a4 : aboveB t.data.toList L.data.toList = true
  u2 : mixS true t s = U
  l2 : mixS false t s = L
  u3 : mixS true s L = s
  l3 : mixS false s U = s
  l4 : mixS false r U = A
  l5 : mixS false r s = B1
  l6 : mixS false r t = B2
  u4 : mixS true B1 B2 = A
  p1 : aboveB r.data.toList s.data.toList = p
  q1 : aboveB r.data.toList t.data.toList = q
  z1 : aboveB r.data.toList U.data.toList = z
  pq : (p && q && !z) = false
  c1 : compB s.data.toList U.data.toList = true
  c2 : compB s.data.toList t.data.toList = cb
  e1 : (U.toList == s.toList) = b1
  e2 : (U.toList == t.toList) = b2
  cc : cb = (b1 || b2)
  r1 : roomI U.data.toList = ru
  r2 : roomI L.data.toList = rl
  r3 : roomI s.data.toList = rs
  r4 : roomI t.data.toList = rt
  r5 : areaI s.data.toList t.data.toList = ar
  su : ru + rl = rs + rt
  df : ru - rl = ar
  b : -256 ≤ ru ∧ ru ≤ 256 ∧ -256 ≤ rl ∧ rl ≤ 256 ∧ -256 ≤ rs ∧ rs ≤ 256 ∧ -256 ≤ rt ∧ rt ≤ 256
  zU : U.size ≤ 1048576
  zL : L.size ≤ 1048576
  zA : A.size ≤ 1048576
  zB : B1.size ≤ 1048576
  zC : B2.size ≤ 1048576
theorem laws_of {r s t : ByteArray} (h : sameB r.data.toList s.data.toList = true) (h' : sameB s.data.toList t.data.toList = true) :
    ∃ U L A B1 B2 p q z b1 b2 cb ru rl rs rt ar, Laws r s t U L A B1 B2 p q z b1 b2 cb ru rl rs rt ar := by
  have hrt := same_chain h h'
  have zs : s.size ≤ 16 := size_small (same_facts h').1
  have zr : r.size ≤ 16 := size_small (same_facts h).1
  have zt : t.size ≤ 16 := size_small (same_facts h').2.1
  have su := (same_facts (mix_same (up := true) h')).2.1
  have sl := (same_facts (mix_same (up := false) h')).2.1
  have i1 := room_in su
  have i2 := room_in sl
  have i3 := room_in (same_facts h').1
  have i4 := room_in (same_facts h').2.1
  refine ⟨mixS true s t, mixS false s t, mixS false r (mixS true s t), mixS false r s, mixS false r t, _, _, _, _, _, _, _, _, _, _, _, {
    u1 := rfl, l1 := rfl, a1 := up_above h', a2 := up_above2 h', a3 := low_below h', a4 := low_below2 h', u2 := mix_eq (mix_comm h'), l2 := mix_eq (mix_comm h')
    u3 := mix_eq (absorb h' true), l3 := mix_eq (absorb h' false), l4 := rfl, l5 := rfl, l6 := rfl, u4 := mix_eq (distrib h h').symm
    p1 := rfl, q1 := rfl, z1 := rfl, pq := above_law h', c1 := ?_, c2 := rfl, e1 := rfl, e2 := rfl, cc := ?_, r1 := rfl, r2 := rfl, r3 := rfl, r4 := rfl, r5 := rfl
    su := room_both h', df := room_area h', b := ⟨i1.1, i1.2, i2.1, i2.2, i3.1, i3.2, i4.1, i4.2⟩
    zU := ?_, zL := ?_, zA := ?_, zB := ?_, zC := ?_ }⟩
  · unfold compB
    rw [mixS_list, up_above h']
    simp
  · unfold compB
    rw [comparable_is h', list_beq, list_beq]
    congr 1
    · rw [Bool.eq_iff_iff, decide_eq_true_eq, decide_eq_true_eq]
      exact ⟨fun e => of_list e, fun e => by rw [← mixS_list, e]⟩
    · rw [Bool.eq_iff_iff, decide_eq_true_eq, decide_eq_true_eq]
      exact ⟨fun e => of_list e, fun e => by rw [← mixS_list, e]⟩
  all_goals
    refine Nat.le_trans (mixS_size _ _ _) ?_
    omega

/-- .. and of two cards. -/
structure Vols (d f : Int) (n : Nat) (lb lc lx ly : List ByteArray) (vx vy vb vc : Int) : Prop where
  hx : mixM true lb lc = lx
  hy : mixM false lb lc = ly
  x1 : volI d f lx = vx
  y1 : volI d f ly = vy
  b1 : volI d f lb = vb
  c1 : volI d f lc = vc
  su : vx + vy = vb + vc
  nx : lx.length = n
  ny : ly.length = n
  zb : ∀ s ∈ lb, s.size ≤ 1048576
  zc : ∀ s ∈ lc, s.size ≤ 1048576
  zx : ∀ s ∈ lx, s.size ≤ 1048576
  zy : ∀ s ∈ ly, s.size ≤ 1048576
  b : -2560 ≤ vx ∧ vx ≤ 2560 ∧ -2560 ≤ vy ∧ vy ≤ 2560 ∧ -2560 ≤ vb ∧ vb ≤ 2560 ∧ -2560 ≤ vc ∧ vc ≤ 2560
theorem card_small {d f : Int} {l : List ByteArray} (h : cardB d f l = true) : ∀ s ∈ l, s.size ≤ 1048576 := fun s hs => by
  have h1 := (cardB_iff.1 h)
  have := size_small (good_strip h1.1 (h1.2.2.2 s hs))
  omega
theorem vol_in {d f : Int} {l : List ByteArray} (h : cardB d f l = true) : -2560 ≤ volI d f l ∧ volI d f l ≤ 2560 := by
  have h1 := (cardB_iff.1 h)
  unfold volI
  rw [if_pos h]
  have h2 := sumL_in 256 (by omega) (l := roomsL l) (fun x hx => by
    obtain ⟨s, hs, rfl⟩ := List.mem_map.1 hx
    exact room_in (good_strip h1.1 (h1.2.2.2 s hs)))
  have h3 : (roomsL l).length = l.length := by unfold roomsL; rw [List.length_map]
  rw [h3] at h2
  have h4 := h1.2.2.1
  omega
theorem vols_of {d f : Int} {n : Nat} {lb lc : List ByteArray} (hb : cardB d f lb = true) (hc : cardB d f lc = true) (nb : lb.length = n) (nc : lc.length = n) : ∃ lx ly vx vy vb vc, Vols d f n lb lc lx ly vx vy vb vc := by
  have b1 := cardB_iff.1 hb
  have c1 := cardB_iff.1 hc
  have hrb := rooms_both (d := d) (f := f) (l := lb) (m := lc) b1.1 (by omega) b1.2.2.2 c1.2.2.2
  have hm : ∀ up, cardB d f (mixM up lb lc) = true := fun up => cardB_iff.2 ⟨b1.1, by rw [mixM_length up (by omega)]; exact b1.2.1, by rw [mixM_length up (by omega)]; exact b1.2.2.1, hrb.1 up⟩
  have i1 := vol_in (hm true)
  have i2 := vol_in (hm false)
  have i3 := vol_in hb
  have i4 := vol_in hc
  refine ⟨mixM true lb lc, mixM false lb lc, _, _, _, _, { hx := rfl, hy := rfl, x1 := rfl, y1 := rfl, b1 := rfl, c1 := rfl, su := ?_, nx := (mixM_length true (by omega)).trans nb, ny := (mixM_length false (by omega)).trans nb, zb := card_small hb, zc := card_small hc, zx := card_small (hm true), zy := card_small (hm false), b := ⟨i1.1, i1.2, i2.1, i2.2, i3.1, i3.2, i4.1, i4.2⟩ }⟩
  have h1 := hrb.2
  unfold volI
  rw [if_pos (hm true), if_pos (hm false), if_pos hb, if_pos hc]
  exact h1
theorem rowIn_below {w w' : World} {ca : Option Addr} {cl : Nat} (h : RowIn w ca cl) (hb : Below w.heap.size w w') : RowIn w' ca cl := by
  intro j hj
  obtain ⟨b, off, e, hlt, x, h0, h1, hx⟩ := h j hj
  exact ⟨b, off, e, by have := hb.size; omega, x, h0, h1, (grown_below hb none).cell hx (by simp)⟩
end Go.Proofs.Ytnkcmilhchidiaa.Order

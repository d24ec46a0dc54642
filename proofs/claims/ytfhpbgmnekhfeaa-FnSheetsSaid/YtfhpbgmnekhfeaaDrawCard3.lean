/- What spec.DrawCard returns. -/
import Derived.Test.YtfhpbgmnekhfeaaDrawCard2
namespace Go.Proofs.Ytfhpbgmnekhfeaa.Card
open Go.ChangeShapes Go.WideShapes Go.ChangeAt Go.RowKit
open Go.Proofs.Ytfhpbgmnekhfeaa.Strip Go.Proofs.Ytfhpbgmnekhfeaa.Strs Go.Proofs.Ytfhpbgmnekhfeaa.Draw
set_option linter.unusedVariables false

set_option maxRecDepth 100000 in
theorem drawCard_get (ca : Option Addr) (cl cc : Nat) (w : World) (hm : cl ≤ maxLen) (hr : RowIn w ca cl) {Q : Ending → World → Prop}
    (h : ∀ (d f : Int) (a : Option Addr) (c : Nat) (l : List ByteArray) (w' : World), d ≤ 4 → f ≤ 4 → l.length ≤ 6 → cardB d f l = true → Below w.heap.size w w' → Own w' w.heap.size (.slice a l.length c) l →
      Q (.returned (.agg #[.int .i64 d, .int .i64 f, .slice a l.length c])) w') :
    Calls Try.prog 10 #[.slice ca cl cc] w Q := by
  have H := Lib.hid h; clear h
  have hr0 : RowIn (w.alloc (.cells #[.int .i64 0, .int .i64 0, .slice none 0 0] 26)) ca cl := by
    intro j hj
    obtain ⟨b, off, e, hlt, x, h0, h1, hx⟩ := hr j hj
    exact ⟨b, off, e, by simp; omega, x, h0, h1, (World.grownBy_alloc w _ none).cell hx (by simp)⟩
  have HR := Lib.hid hr0; clear hr hr0
  go_enter Try.func10, Try.ntmps10
  go_wp2_with fail
  refine new_get ca cl cc _ hm HR.out ?_
  intro k w1 hk hk1 hc1 hb1
  have hv1 := (Var.new w 0 0 (.slice none 0 0)).below hb1
  have hbw : Below w.heap.size w w1 := ((Below.refl w.heap.size w).alloc (Nat.le_refl _) _).trans (hb1.mono (by simp))
  have hsz : w.heap.size + 1 ≤ w1.heap.size := by have := hb1.size; simpa using this
  have hk2 : w.heap.size + 1 ≤ k := by simpa using hk
  have HV := Lib.hid hv1
  have HB := Lib.hid hbw
  clear hb1 hv1 hbw hk
  go_wp2_with fail
  refine card_get k ca cl cc _ hk1 hc1 ?_
  intro d f a c l w2 hd hf hl hcb hc2 g2 ho2
  have HV2 := Lib.hid (HV.out.grown g2 (by simp; omega))
  have HB2 := Lib.hid (HB.out.grown g2 (by omega) (fun j e => by cases e; omega))
  have HO2 := Lib.hid ho2
  clear g2 ho2 hc1 hc2 HV HB
  obtain ⟨n, hn⟩ : ∃ n, l.length = n := ⟨_, rfl⟩
  have hx : ∃ Z, Z = Card.set3 w2 w.heap.size d f (.slice a n c) ∧ Var Z w.heap.size d f (.slice a n c) ∧ Below w.heap.size w Z ∧ Own Z w.heap.size (.slice a n c) l := ⟨_, rfl, by
    have := gave_last (d := d) (f := f) HB2.out HV2.out (Nat.le_refl _) HO2.out (by omega)
    rw [hn] at this
    exact ⟨this.1, this.2.1, this.2.2.mono (by omega)⟩⟩
  obtain ⟨Z, hZ, hz1, hz2, hz3⟩ := hx
  unfold Card.set3 at hZ
  obtain ⟨p0, p1, p2⟩ := HV2.out.cells
  have f0 := HV2.out.free 0
  have f1 := HV2.out.free 1
  have f2 := HV2.out.free 2
  have HZZ := Lib.hid hZ
  have HZ1 := Lib.hid hz1
  have HZ2 := Lib.hid hz2
  have HZ3 := Lib.hid hz3
  have HN := Lib.hid hn
  have HCB := Lib.hid hcb
  have HL := Lib.hid hl
  rw [hn]
  clear hZ hz1 hz2 hz3 hn hcb hl HO2
  go_wp2_with fail
  rw [← HZZ.out]
  clear HZZ p0 p1 p2 f0 f1 f2
  obtain ⟨z0, z1, z2⟩ := HZ1.out.cells
  have hbp : ∀ m : Nat, l.length = m → m = n → Q (.returned (.agg #[.int .i64 d, .int .i64 f, .slice a m c])) Z := by
    intro m e1 e2
    subst e1
    have h3 := HZ3.out
    rw [← e2] at h3
    exact H.out d f a c l Z hd hf HL.out HCB.out HZ2.out h3
  refine bodyPost_ret (v := .agg #[.int .i64 d, .int .i64 f, .slice a n c]) (by simp [results, Try.results10, go_sem, z0, z1, z2]) rfl ?_
  exact hbp n HN.out rfl
end Go.Proofs.Ytfhpbgmnekhfeaa.Card

/- What spec.CutStrip returns. -/
import Derived.Test.YtofljefeimmabaaCutImpl
import Derived.Test.YtofljefeimmabaaAppAny
namespace Go.Proofs.Ytofljefeimmabaa.Card
open Go.ChangeShapes Go.WideShapes Go.ChangeAt Go.RowKit
open Go.Proofs.Ytofljefeimmabaa.Strip Go.Proofs.Ytofljefeimmabaa.Strs
set_option linter.unusedVariables false

def cutN (l : List ByteArray) (k : Nat) : List ByteArray := l.take k ++ l.drop (k + 1)
theorem cutN_length (l : List ByteArray) (k : Nat) (h : k < l.length) : (cutN l k).length = l.length - 1 := by
  unfold cutN
  rw [List.length_append, List.length_take, List.length_drop]; omega
theorem cutN_card {d f : Int} {l : List ByteArray} (h : cardB d f l = true) (k : Nat) (hk : k < l.length) (h1 : l.length ≠ 1) : cardB d f (cutN l k) = true := by
  obtain ⟨h2, h3, h4, h5⟩ := cardB_iff.1 h
  refine cardB_iff.2 ⟨h2, by rw [cutN_length l k hk]; omega, by rw [cutN_length l k hk]; omega, fun s hs => ?_⟩
  unfold cutN at hs
  rcases List.mem_append.1 hs with h6 | h6
  · exact h5 s (List.mem_of_mem_take h6)
  · exact h5 s (List.mem_of_mem_drop h6)

theorem made_own (W : World) (base : Nat) (hb : base ≤ W.heap.size) : Own (W.alloc (.cells #[] 9)).drew base (.slice (some ⟨W.heap.size, 0, none⟩) 0 0) [] :=
  World.ownsRow_made (base := base) (e := 9) (size := 1) W #[] 0 hb (by unfold maxLen; omega) rfl

set_option maxRecDepth 100000 in
set_option maxHeartbeats 2000000 in
theorem cutSpec_good (d f : Int) (base n c g k : Nat) (l : List ByteArray) (w : World) (hn : n ≤ 1048576) (h : Own w base (.slice (some ⟨g, 0, none⟩) n c) l) (hz : ∀ s ∈ l, s.size ≤ 1048576) (hcard : cardB d f l = true) (hk : k < n) (h1 : n ≠ 1)
    (sp : Option Addr) (hsp : (if c = k + 1 then (some ⟨g, 0, none⟩ : Option Addr) else some ⟨g, k + 1, none⟩) = sp) :
    Calls Try.prog 31 #[.agg #[.int .i64 d, .int .i64 f, .slice (some ⟨g, 0, none⟩) n c], .int .i64 (k : Int)] w (Gave2 w d f (cutN l k) true) := by
  have hln : n = l.length := h.row2.1
  have hnc : n ≤ c := by
    obtain ⟨_, q1 | ⟨g', cap', cur, e, _, _, hnc, _⟩⟩ := h
    · cases q1.1
    · cases e; rw [hln]; exact hnc
  have hcm : c ≤ maxLen := by
    obtain ⟨_, q1 | ⟨g', cap', cur, e, _, _, _, hcm, _⟩⟩ := h
    · cases q1.1
    · cases e; exact hcm
  unfold maxLen at hcm
  obtain ⟨W, hW, hv1, hv2, hb, hs0⟩ := begin2 w d f (.slice (some ⟨g, 0, none⟩) n c)
  have hoW : Own W base (.slice (some ⟨g, 0, none⟩) n c) l := by rw [hW]; exact (h.below (alloc_below _ _)).below (alloc_below _ _)
  have hcl := cutN_length l k (by omega)
  have HN := Lib.hid hln
  have HOA := Lib.hid h
  have HOW := Lib.hid hoW
  have HV1 := Lib.hid hv1
  have HV2 := Lib.hid hv2
  have HB := Lib.hid hb
  have HS := Lib.hid hs0
  have HZ := Lib.hid hz
  have HW := Lib.hid hW
  have hd : decide (0 ≤ (k : Int) ∧ (k : Int) ≤ (n : Int) - 1) = true := decide_eq_true (by omega)
  have hn1 : (1 : Int) ≤ (n : Int) := by omega
  have hne1 : ((n : Int) == 1) = false := by simp; omega
  have hk0 : (0 : Int) ≤ (k : Int) := Int.natCast_nonneg _
  have hk1 : (k : Int) < (n : Int) := by omega
  have hk2 : (k : Int) + 1 ≤ (n : Int) := by omega
  have hk3 : (n : Int) ≤ (c : Int) := by omega
  have hk4 : (c : Int) ≤ 9223372036854775807 := by omega
  have s1 : IntKind.i64.wrap ((k : Int) + 1) = (k : Int) + 1 := by rw [IntKind.wrap_i64]; omega
  have s3 : ((k : Int) + 1).toNat = k + 1 := by omega
  have s4 : (0 : Int) ≤ (k : Int) + 1 := by omega
  have s5 : (k : Int) ≤ (n : Int) := by omega
  have s6 : (k : Int) ≤ (c : Int) := by omega
  have s7 : k ≤ c := by omega
  have s8 : (k : Int) + 1 ≤ (c : Int) := by omega
  -- the second append's source
  have HSP := Lib.hid (show ∀ w1 : World, Below w.heap.size w w1 → (∀ ad, sp = some ad → ∀ j u, (scells (l.drop (k + 1)))[j]? = some u → w1.cell? (ad.add j) = some u) ∧ (sp = none → n - (k + 1) = 0) from fun w1 hb => by
    have hr := (h.below hb).row2.2
    subst hsp
    split
    · rename_i hc
      have : l.drop (k + 1) = [] := List.drop_eq_nil_of_le (by omega)
      rw [this]
      exact ⟨src_none, fun e => by cases e⟩
    · exact ⟨src_drop hr (k + 1), fun e => by cases e⟩)
  have HLEN := Lib.hid (show k + (n - (k + 1)) = (cutN l k).length by rw [hcl]; omega)
  have HKN := Lib.hid hk
  have hcutdef : cutN l k = l.take k ++ l.drop (k + 1) := rfl
  have HCD := Lib.hid hcutdef
  generalize cutN l k = l2 at *
  clear hv1 hv2 hb hs0 hz hW hoW h hln hcl hcutdef
  go_enter Try.func31, Try.ntmps31
  go_wp2_with fail
  rw [← HW.out]
  clear HW
  have HNE := Lib.hid (show w.heap.size + 1 < W.heap.size ∧ w.heap.size < W.heap.size by have := HS.out; omega)
  obtain ⟨k0, k1, k2⟩ := HV1.out.cells
  go_wp2_with fail
  clear k0 k1 k2
  refine (ok_spec d f (some ⟨g, 0, none⟩) n c l _ HN.out.symm hn HZ.out HOW.out.row2.2).mono ?_
  rintro e w3 ⟨rfl, hb3⟩
  have HV1 := Lib.hid (HV1.out.below hb3)
  have HV2 := Lib.hid (HV2.out.below hb3)
  have HB3 := Lib.hid (HB.out.trans (hb3.mono HB.out.size))
  clear hb3 HB HOW
  rw [hcard]
  obtain ⟨k0, k1, k2⟩ := HV1.out.cells
  go_wp2_with fail
  refine (in_at (k : Int) 0 ((n : Int) - 1) _).mono ?_
  rintro e w4 ⟨rfl, rfl⟩
  rw [hd]
  clear hd
  go_wp2_with fail
  have S0 : w3.cell? ⟨w.heap.size, 0, none⟩ = some (.int .i64 d) ∧ w3.cell? ⟨w.heap.size, 1, none⟩ = some (.int .i64 f) ∧ w3.cell? ⟨w.heap.size, 2, none⟩ = some (.slice (some ⟨g, 0, none⟩) n c) := ⟨k0, k1, k2⟩
  have hx := alloc_below w3 (.cells #[] 9)
  have hbx := HB3.out.trans (hx.mono HB3.out.size)
  have HX := Lib.hid (show Below w.heap.size w (w3.alloc (.cells #[] 9)).drew from hbx.drew)
  have HX1 := Lib.hid (show Var (w3.alloc (.cells #[] 9)).drew w.heap.size d f (.slice (some ⟨g, 0, none⟩) n c) from HV1.out.below hx.drew)
  have HX2 := Lib.hid (show Var (w3.alloc (.cells #[] 9)).drew (w.heap.size + 1) 0 0 (.slice none 0 0) from HV2.out.below hx.drew)
  have HXO := Lib.hid (made_own w3 w.heap.size HB3.out.size)
  have HA1 := Lib.hid (append_any (n1 := k) (c := c) (m := k) (ms := l.take k) (sp := some ⟨g, 0, none⟩) (by omega) HXO.out (by rw [List.length_take]; have := HN.out; omega) (src_take (HOA.out.below hbx).row2.2 k) (fun e => by cases e) (by omega) hbx.size)
  have HA2 := Lib.hid (fun (w1 : World) (g1 p1 : Nat) (ho : Own w1 w.heap.size (.slice (some ⟨g1, 0, none⟩) k p1) (l.take k)) (hb : Below w.heap.size w w1) => append_any (c := c - (k + 1)) HLEN.out ho (by rw [List.length_drop]; have := HN.out; omega) (HSP.out w1 hb).1 (HSP.out w1 hb).2 (by omega) hb.size)
  obtain ⟨q0, q1, q2⟩ := HX1.out.cells
  clear hx hbx k0 k1 k2
  go_region_held3 (fun w' => w'.cell? ⟨w.heap.size, 0, none⟩ = some (.int .i64 d) ∧ w'.cell? ⟨w.heap.size, 1, none⟩ = some (.int .i64 f) ∧ w'.cell? ⟨w.heap.size, 2, none⟩ = some (.slice (some ⟨g, 0, none⟩) n c))
    (first | exact S0 | exact drew3 S0 | exact ⟨q0, q1, q2⟩ | exact ⟨r0, r1, r2⟩ | exact ⟨u0, u1, u2⟩ | exact HK3.out | assumption)
    ((first | (obtain ⟨g1, p1, w5, hr1, ho1, hg1, hat1⟩ := HA1.out; refine step_append_run rfl (.tmp 30) (.tmp 34) _ _ rfl _ _ (by rfl) (by rfl) hr1 ?_; have H51 := Lib.hid (HX1.out.written HXO.out hg1); have H52 := Lib.hid (HX2.out.written HXO.out hg1); have H5B := Lib.hid (HXO.out.write_below HX.out (Nat.le_refl _) HX.out.size hg1); have H5O := Lib.hid ho1; obtain ⟨r0, r1, r2⟩ := H51.out.cells; clear hr1 ho1 hg1 hat1) | (obtain ⟨g2, p2, w6, hr2, ho2, hg2, hat2⟩ := HA2.out w5 g1 p1 H5O.out H5B.out; refine step_append_run rfl (.tmp 35) (.tmp 40) _ _ rfl _ _ (by rfl) (by rfl) hr2 ?_; have H61 := Lib.hid (H51.out.written H5O.out hg2); have H62 := Lib.hid (H52.out.written H5O.out hg2); have H6B := Lib.hid (H5O.out.write_below H5B.out (Nat.le_refl _) H5B.out.size hg2); have H6O := Lib.hid ho2; obtain ⟨u0, u1, u2⟩ := H61.out.cells; obtain ⟨v0, v1, v2⟩ := H62.out.cells; have f0 := H62.out.free 0; have f1 := H62.out.free 1; have f2 := H62.out.free 2; have hk3 := (Var.other3 (d2 := d) (f2 := f) (u := .slice (some ⟨g2, 0, none⟩) l2.length p2) H61.out (show w.heap.size ≠ w.heap.size + 1 by omega)).cells; unfold set3 at hk3; have HK3 := Lib.hid hk3; clear hr2 ho2 hg2 hat2 hk3)))
  rw [← HCD.out] at H6O
  have hx : ∃ Z, Z = Card.set3 w6 (w.heap.size + 1) d f (.slice (some ⟨g2, 0, none⟩) l2.length p2) ∧ Var Z (w.heap.size + 1) d f (.slice (some ⟨g2, 0, none⟩) l2.length p2) ∧ Below w.heap.size w Z ∧ Own Z w.heap.size (.slice (some ⟨g2, 0, none⟩) l2.length p2) l2 := ⟨_, rfl, gave_last H6B.out H62.out (by omega) H6O.out (Nat.le_refl _)⟩
  obtain ⟨Z, hZ, hz1, hz2, hz3⟩ := hx
  unfold set3 at hZ
  have HZZ := Lib.hid hZ
  have HZ1 := Lib.hid hz1
  have HZ2 := Lib.hid hz2
  have HZ3 := Lib.hid hz3
  clear hZ hz1 hz2 hz3
  go_wp2
  rw [← HZZ.out]
  clear HZZ q0 q1 q2 r0 r1 r2 u0 u1 u2 v0 v1 v2 f0 f1 f2
  obtain ⟨z0, z1, z2⟩ := HZ1.out.cells
  refine bodyPost_ret (v := .tuple #[.agg #[.int .i64 d, .int .i64 f, .slice (some ⟨g2, 0, none⟩) l2.length p2], .bool true]) (by simp [results, Try.results31, go_sem, z0, z1, z2]) rfl ?_
  exact ⟨_, p2, rfl, HZ2.out, HZ3.out⟩
end Go.Proofs.Ytofljefeimmabaa.Card

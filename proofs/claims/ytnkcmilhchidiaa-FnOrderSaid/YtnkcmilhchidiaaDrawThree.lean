/- What spec.DrawThree returns: three strips of one frame. -/
import Derived.Test.YtnkcmilhchidiaaDrawStrip
import Derived.Test.YtnkcmilhchidiaaStripSpec2
namespace Go.Proofs.Ytnkcmilhchidiaa.Draw
open Go.ChangeShapes Go.WideShapes Go.ChangeAt Go.RowKit
open Go.Proofs.Ytnkcmilhchidiaa.Strip
set_option linter.unusedVariables false

theorem drawThree_get (ca : Option Addr) (cl cc : Nat) (w : World) (hm : cl ≤ maxLen) (hr : RowIn w ca cl) {Q : Ending → World → Prop}
    (h : ∀ (r s t : ByteArray) (w' : World), sameB r.data.toList s.data.toList = true → sameB s.data.toList t.data.toList = true → cnt 100 s.data.toList ≤ 5 → cnt 102 s.data.toList ≤ 5 → Below w.heap.size w w' → Q (.returned (.tuple #[.string r, .string s, .string t])) w') :
    Calls Try.prog 11 #[.slice ca cl cc] w Q := by
  have H := Lib.hid h; clear h
  go_enter Try.func11, Try.ntmps11
  go_wp2_with fail
  refine new_get ca cl cc w hm hr ?_
  intro k w1 hk hk1 hc1 hb1
  have HB := Lib.hid hb1; clear hb1
  go_wp2_with fail
  refine strip_get k ca cl cc _ hc1 ?_
  intro l w2 h1 h2 h3 h4 h5 hc2 g2
  have HG := Lib.hid g2
  have HC := Lib.hid hc2
  clear g2 hc2 hc1
  have hst : stripB l = true := by
    unfold stripB frameB
    rw [h1]
    simp
    omega
  obtain ⟨s, hs⟩ : ∃ s : ByteArray, (⟨l.toArray⟩ : ByteArray) = s := ⟨_, rfl⟩
  have hsl : s.data.toList = l := by rw [← hs]
  rw [hs]
  have hlen := cnt_sum l h1
  have hsz : s.size = l.length := by rw [← hsl]; simp
  have hn1 : numV 100 s.data.toList = (cnt 100 l : Int) := by unfold numV; rw [hsl, hst]; rfl
  have hn2 : numV 102 s.data.toList = (cnt 102 l : Int) := by unfold numV; rw [hsl, hst]; rfl
  have HD := Lib.hid (fun w => down_spec s w (by omega))
  have HF := Lib.hid (fun w => forward_spec s w (by omega))
  rw [hn1] at HD
  rw [hn2] at HF
  have HST := Lib.hid hst
  have HSL := Lib.hid hsl
  have h31 : (cnt 100 l : Int) ≤ 5 := by omega
  have h51 : (cnt 102 l : Int) ≤ 5 := by omega
  clear hn1 hn2 hst hs hsl h1 h2 h4 hlen hsz
  go_wp2_with fail
  refine (HD.out _).mono ?_
  rintro e w' ⟨rfl, rfl⟩
  go_wp2_with fail
  refine (HF.out _).mono ?_
  rintro e w' ⟨rfl, rfl⟩
  go_wp2_with fail
  refine draw_int k ca cl cc _ _ (by omega) (by omega) (by omega) (by omega) _ HC.out ?_
  intro l2 w3 a1 a2 a3 hc3 g3
  have HG3 := Lib.hid (grownBy_trans HG.out g3)
  have HC3 := Lib.hid hc3
  clear g3 hc3 HC
  have hst2 : stripB l2 = true := by
    have h := HST.out
    unfold stripB frameB at h ⊢
    rw [a1]
    simp only [Bool.and_eq_true, decide_eq_true_eq] at h ⊢
    have := h.2
    refine ⟨trivial, ?_⟩
    omega
  obtain ⟨t, ht⟩ : ∃ t : ByteArray, (⟨l2.toArray⟩ : ByteArray) = t := ⟨_, rfl⟩
  have htl : t.data.toList = l2 := by rw [← ht]
  rw [ht]
  have HT := Lib.hid (show stripB t.data.toList = true ∧ cnt 100 t.data.toList = cnt 100 l ∧ cnt 102 t.data.toList = cnt 102 l from ⟨by rw [htl]; exact hst2, by rw [htl]; omega, by rw [htl]; omega⟩)
  clear hst2 ht htl a1 a2 a3
  go_wp2_with fail
  refine (HD.out _).mono ?_
  rintro e w' ⟨rfl, rfl⟩
  go_wp2_with fail
  refine (HF.out _).mono ?_
  rintro e w' ⟨rfl, rfl⟩
  go_wp2_with fail
  refine draw_int k ca cl cc _ _ (by omega) (by omega) (by omega) (by omega) _ HC3.out ?_
  intro l3 w4 a1 a2 a3 hc4 g4
  have HG4 := Lib.hid (grownBy_trans HG3.out g4)
  clear g4 hc4 HC3
  have hst3 : stripB l3 = true := by
    have h := HST.out
    unfold stripB frameB at h ⊢
    rw [a1]
    simp only [Bool.and_eq_true, decide_eq_true_eq] at h ⊢
    have := h.2
    refine ⟨trivial, ?_⟩
    omega
  obtain ⟨u, hu⟩ : ∃ u : ByteArray, (⟨l3.toArray⟩ : ByteArray) = u := ⟨_, rfl⟩
  have hul : u.data.toList = l3 := by rw [← hu]
  rw [hu]
  have HU := Lib.hid (show stripB u.data.toList = true ∧ cnt 100 u.data.toList = cnt 100 l ∧ cnt 102 u.data.toList = cnt 102 l from ⟨by rw [hul]; exact hst3, by rw [hul]; omega, by rw [hul]; omega⟩)
  clear hst3 hu hul a1 a2 a3
  have HFIN := Lib.hid (show sameB s.data.toList t.data.toList = true ∧ sameB t.data.toList u.data.toList = true ∧ cnt 100 t.data.toList ≤ 5 ∧ cnt 102 t.data.toList ≤ 5 from by
    obtain ⟨t1, t2, t3⟩ := HT.out
    obtain ⟨u1, u2, u3⟩ := HU.out
    have s1 := HST.out
    rw [← HSL.out] at s1 t2 t3 u2 u3 h31 h51
    refine ⟨?_, ?_, by omega, by omega⟩
    · unfold sameB; rw [s1, t1, decide_eq_true t2.symm, decide_eq_true t3.symm]; rfl
    · unfold sameB; rw [t1, u1, decide_eq_true (t2.trans u2.symm), decide_eq_true (t3.trans u3.symm)]; rfl)
  clear h31 h51
  go_wp2
  go_ret3
  exact H.out s t u _ HFIN.out.1 HFIN.out.2.1 HFIN.out.2.2.1 HFIN.out.2.2.2 (below_of_grown HB.out HG4.out hk hk1)
end Go.Proofs.Ytnkcmilhchidiaa.Draw

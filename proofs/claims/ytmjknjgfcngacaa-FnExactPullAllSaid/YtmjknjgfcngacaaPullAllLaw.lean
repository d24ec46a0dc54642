/- The walk of the law FnExactPullAll (printed by wip/gen_allaw.py). -/
import Derived.Test.YtmjknjgfcngacaaLinkRow
import Derived.Test.YtmjknjgfcngacaaSlideAll
import Derived.Test.YtmjknjgfcngacaaSlideAllSpec
namespace Go.Proofs.Ytmjknjgfcngacaa.Slide
open Go.ChangeShapes Go.WideShapes Go.ChangeAt Go.RowKit Go.Sort
open Go.Proofs.Ytmjknjgfcngacaa.Tri
set_option linter.unusedVariables false

theorem mark_sliders (n : Nat) (hn : n ≤ 1048576) (base g cap : Nat) (l : List T3) (hl : l.length = n) (w : World) (h : OwnT 33 w base (.slice (some ⟨g, 0, none⟩) n cap) l) :
    Calls Try.prog 30 #[.slice (some ⟨g, 0, none⟩) n cap, .int .i64 1] w fun e w' => e = .returned (.int .i64 (1 + 3 * (n : Int))) ∧ OwnT 33 w' base (.slice (some ⟨g, 0, none⟩) n cap) (marks3 1 n) ∧ w.grownBy w' (some g) := by
  subst hl
  exact SlR.mark_boxes 1 (by decide) (by decide) base (some ⟨g, 0, none⟩) cap l hn w h
theorem mark_links (n m : Nat) (hn : n ≤ 1048576) (hm : m ≤ 1048576) (base g cap : Nat) (l : List T3) (hl : l.length = m) (w : World) (h : OwnT 35 w base (.slice (some ⟨g, 0, none⟩) m cap) l) :
    Calls Try.prog 31 #[.slice (some ⟨g, 0, none⟩) m cap, .int .i64 (1 + 3 * (n : Int))] w fun e w' => e = .returned (.int .i64 (1 + 3 * (n : Int) + 3 * (m : Int))) ∧ OwnT 35 w' base (.slice (some ⟨g, 0, none⟩) m cap) (marks3 (1 + 3 * (n : Int)) m) ∧ w.grownBy w' (some g) := by
  subst hl
  exact LkR.mark_boxes (1 + 3 * (n : Int)) (by omega) (by omega) base (some ⟨g, 0, none⟩) cap l hm w h

set_option maxRecDepth 100000 in
set_option maxHeartbeats 4000000 in
theorem exactPullAll (a : Option Addr) (c : Nat) (L : List T3) (al : Option Addr) (cl : Nat) (ls : List T3) (k q : Int) (w : World) (hm : L.length ≤ maxLen) (hr : ARow3 w a L) (hm2 : ls.length ≤ maxLen) (hr2 : ARow3 w al ls) :
    Calls Try.prog 7 #[.slice a L.length c, .slice al ls.length cl, .int .i64 k, .int .i64 q] w fun e w' => e = .returned (.bool true) ∧ Below w.heap.size w w' := by
  have HX := Lib.hid hm
  have HX2 := Lib.hid hm2
  have HR := Lib.hid hr
  have HRL := Lib.hid hr2
  clear hm hr hm2 hr2
  obtain ⟨n, hn⟩ : ∃ n, L.length = n := ⟨_, rfl⟩
  obtain ⟨m, hmm⟩ : ∃ m, ls.length = m := ⟨_, rfl⟩
  have HN := Lib.hid hn
  have HM := Lib.hid hmm
  rw [hn] at HX ⊢
  rw [hmm] at HX2 ⊢
  clear hn hmm
  have HB := Lib.hid (Below.refl w.heap.size w)
  have HSZ := Lib.hid (fun w' => SlR.sz_boxes 1048576 (by decide) (by decide) a n c HX.out w')
  have hdm : decide ((-1 : Int) < 0) = true := rfl
  by_cases hbig : (1048576 : Int) - (n : Int) < 0
  · rw [if_pos hbig] at HSZ
    go_enter Try.func7, Try.ntmps7
    go_wp2_with fail
    refine (HSZ.out _).mono ?_
    rintro e w' ⟨rfl, hb⟩
    have HB := Lib.hid hb
    clear hb
    go_wp2
    go_ret
    exact ⟨rfl, HB.out⟩
  · rw [if_neg hbig] at HSZ
    have hd : decide ((1048576 : Int) - (n : Int) < 0) = false := decide_eq_false hbig
    have HSZ2 := Lib.hid (fun w' => LkR.sz_boxes (1048576 - (n : Int)) (by omega) (by omega) al m cl HX2.out w')
    by_cases hbig2 : (1048576 : Int) - (n : Int) - (m : Int) < 0
    · rw [if_pos hbig2] at HSZ2
      go_enter Try.func7, Try.ntmps7
      go_wp2_with fail
      refine (HSZ.out _).mono ?_
      rintro e w' ⟨rfl, hb⟩
      have HB := Lib.hid hb
      clear hb
      go_wp2_with fail
      refine (HSZ2.out _).mono ?_
      rintro e w2 ⟨rfl, hb⟩
      have HB := Lib.hid (HB.out.trans (hb.mono HB.out.size))
      clear hb
      go_wp2
      go_ret
      exact ⟨rfl, HB.out⟩
    · rw [if_neg hbig2] at HSZ2
      have hd2 : decide ((1048576 : Int) - (n : Int) - (m : Int) < 0) = false := decide_eq_false hbig2
      have hn1 : n ≤ 1048576 := by omega
      have hm1 : m ≤ 1048576 := by omega
      have HTS := Lib.hid (fun w' h => SlR.to_boxes a c L w' (by have := HN.out; omega) h)
      rw [HN.out] at HTS
      have HTL := Lib.hid (fun w' h => LkR.to_boxes al cl ls w' (by have := HM.out; omega) h)
      rw [HM.out] at HTL
      have HSP := Lib.hid (fun ad c' al' cl' w' h h2 => all_spec k q ad n c' m cl' al' L ls w' HN.out hn1 h HM.out hm1 h2)
      have HIM := Lib.hid (fun ad c' al' cl' w' h h2 h3 => all_impl k q ad n c' m cl' al' L ls w' HN.out hn1 h HM.out hm1 h2 h3)
      have HPN := Lib.hid (pullL_length L ls k q)
      rw [HN.out] at HPN
      obtain ⟨P, hP⟩ : ∃ P, pullL L ls k q = P := ⟨_, rfl⟩
      obtain ⟨b, hb⟩ : ∃ b, pullB L ls k q = b := ⟨_, rfl⟩
      rw [hP, hb] at HSP HIM
      rw [hP] at HPN
      clear hP hb hbig hbig2
      have hne : (b != b) = false := by simp
      have HEP := Lib.hid (fun a1 c1 a2 c2 w' h1 h2 => SlR.eq_boxes n c1 c2 a1 a2 P HPN.out HX.out w' h1 h2)
      have HEL := Lib.hid (fun a1 c1 a2 c2 w' h1 h2 => SlR.eq_boxes n c1 c2 a1 a2 L HN.out HX.out w' h1 h2)
      have HEK := Lib.hid (fun a1 c1 a2 c2 w' h1 h2 => LkR.eq_boxes m c1 c2 a1 a2 ls HM.out HX2.out w' h1 h2)
      have HMS := Lib.hid (mark_sliders n hn1)
      have HML := Lib.hid (mark_links n m hn1 hm1)
      have HHE := Lib.hid (fun a' cap w' h => SlR.held_boxes 1 (by decide) (by decide) a' n cap hn1 w' h)
      have e1 : decide (1 + 3 * (n : Int) + 3 * (m : Int) < 0) = false := decide_eq_false (by omega)
      have e2 : decide (1 + 3 * (n : Int) < 0) = false := decide_eq_false (by omega)
      have e3 : ((1 + 3 * (n : Int)) != (1 + 3 * (n : Int))) = false := by simp
      go_enter Try.func7, Try.ntmps7
      go_wp2_with fail
      refine (HSZ.out _).mono ?_
      rintro e w1 ⟨rfl, hb⟩
      have HB := Lib.hid (HB.out.trans (hb.mono HB.out.size))
      have s1 : w.heap.size ≤ w1.heap.size := hb.size
      clear hb
      go_wp2_with fail
      refine (HSZ2.out _).mono ?_
      rintro e w2 ⟨rfl, hb⟩
      have HB := Lib.hid (HB.out.trans (hb.mono HB.out.size))
      have s2 : w1.heap.size ≤ w2.heap.size := hb.size
      clear hb
      go_wp2_with fail
      refine (HTS.out _ (HR.out.below HB.out)).mono ?_
      rintro e w3 ⟨gA, rfl, hb, ho⟩
      have HB := Lib.hid (HB.out.trans (hb.mono HB.out.size))
      have s3 : w2.heap.size ≤ w3.heap.size := hb.size
      have A := Lib.hid ho
      have nA := ho.lt gA rfl
      clear ho
      clear hb
      go_wp2_with fail
      refine (HTL.out _ (HRL.out.below HB.out)).mono ?_
      rintro e w4 ⟨gB, rfl, hb, ho⟩
      have HB := Lib.hid (HB.out.trans (hb.mono HB.out.size))
      have s4 : w3.heap.size ≤ w4.heap.size := hb.size
      have A := Lib.hid (A.out.below hb)
      have B := Lib.hid ho
      have nB := ho.lt gB rfl
      clear ho
      clear hb
      go_wp2_with fail
      refine (HSP.out _ _ _ _ _ A.out.row2.2 B.out.row2.2).mono ?_
      rintro e w5 ⟨gC, cC, rfl, hb, ho⟩
      have HB := Lib.hid (HB.out.trans (hb.mono HB.out.size))
      have s5 : w4.heap.size ≤ w5.heap.size := hb.size
      have A := Lib.hid (A.out.below hb)
      have B := Lib.hid (B.out.below hb)
      have C := Lib.hid ho
      have nC := ho.lt gC rfl
      clear ho
      clear hb
      clear A B
      go_wp2_with fail
      refine (HTS.out _ (HR.out.below HB.out)).mono ?_
      rintro e w6 ⟨gX, rfl, hb, ho⟩
      have HB := Lib.hid (HB.out.trans (hb.mono HB.out.size))
      have s6 : w5.heap.size ≤ w6.heap.size := hb.size
      have C := Lib.hid (C.out.below hb)
      have X := Lib.hid ho
      have nX := ho.lt gX rfl
      clear ho
      clear hb
      go_wp2_with fail
      refine (HTL.out _ (HRL.out.below HB.out)).mono ?_
      rintro e w7 ⟨gY, rfl, hb, ho⟩
      have HB := Lib.hid (HB.out.trans (hb.mono HB.out.size))
      have s7 : w6.heap.size ≤ w7.heap.size := hb.size
      have C := Lib.hid (C.out.below hb)
      have X := Lib.hid (X.out.below hb)
      have Y := Lib.hid ho
      have nY := ho.lt gY rfl
      clear ho
      clear hb
      go_wp2_with fail
      refine (HIM.out _ _ _ _ _ X.out.row2.2 Y.out.row2.2 (fun x e => by cases e; show gY < _; omega)).mono ?_
      rintro e w8 ⟨gG, cG, rfl, hb, ho⟩
      have HB := Lib.hid (HB.out.trans (hb.mono HB.out.size))
      have s8 : w7.heap.size ≤ w8.heap.size := hb.size
      have C := Lib.hid (C.out.below hb)
      have X := Lib.hid (X.out.below hb)
      have Y := Lib.hid (Y.out.below hb)
      have G := Lib.hid ho
      have nG := ho.lt gG rfl
      clear ho
      clear hb
      go_wp2_with fail
      refine (HEP.out _ _ _ _ _ G.out.row2.2 C.out.row2.2).mono ?_
      rintro e w9 ⟨rfl, hb⟩
      have HB := Lib.hid (HB.out.trans (hb.mono HB.out.size))
      have s9 : w8.heap.size ≤ w9.heap.size := hb.size
      have C := Lib.hid (C.out.below hb)
      have X := Lib.hid (X.out.below hb)
      have Y := Lib.hid (Y.out.below hb)
      have G := Lib.hid (G.out.below hb)
      clear hb
      go_wp2_with fail
      refine (HTS.out _ (HR.out.below HB.out)).mono ?_
      rintro e w10 ⟨gZ, rfl, hb, ho⟩
      have HB := Lib.hid (HB.out.trans (hb.mono HB.out.size))
      have s10 : w9.heap.size ≤ w10.heap.size := hb.size
      have C := Lib.hid (C.out.below hb)
      have X := Lib.hid (X.out.below hb)
      have Y := Lib.hid (Y.out.below hb)
      have G := Lib.hid (G.out.below hb)
      have Z := Lib.hid ho
      have nZ := ho.lt gZ rfl
      clear ho
      clear hb
      go_wp2_with fail
      refine (HEL.out _ _ _ _ _ X.out.row2.2 Z.out.row2.2).mono ?_
      rintro e w11 ⟨rfl, hb⟩
      have HB := Lib.hid (HB.out.trans (hb.mono HB.out.size))
      have s11 : w10.heap.size ≤ w11.heap.size := hb.size
      have C := Lib.hid (C.out.below hb)
      have X := Lib.hid (X.out.below hb)
      have Y := Lib.hid (Y.out.below hb)
      have G := Lib.hid (G.out.below hb)
      have Z := Lib.hid (Z.out.below hb)
      clear hb
      clear Z
      go_wp2_with fail
      refine (HTL.out _ (HRL.out.below HB.out)).mono ?_
      rintro e w12 ⟨gZ, rfl, hb, ho⟩
      have HB := Lib.hid (HB.out.trans (hb.mono HB.out.size))
      have s12 : w11.heap.size ≤ w12.heap.size := hb.size
      have C := Lib.hid (C.out.below hb)
      have X := Lib.hid (X.out.below hb)
      have Y := Lib.hid (Y.out.below hb)
      have G := Lib.hid (G.out.below hb)
      have Z := Lib.hid ho
      have nZ := ho.lt gZ rfl
      clear ho
      clear hb
      go_wp2_with fail
      refine (HEK.out _ _ _ _ _ Y.out.row2.2 Z.out.row2.2).mono ?_
      rintro e w13 ⟨rfl, hb⟩
      have HB := Lib.hid (HB.out.trans (hb.mono HB.out.size))
      have s13 : w12.heap.size ≤ w13.heap.size := hb.size
      have C := Lib.hid (C.out.below hb)
      have X := Lib.hid (X.out.below hb)
      have Y := Lib.hid (Y.out.below hb)
      have G := Lib.hid (G.out.below hb)
      have Z := Lib.hid (Z.out.below hb)
      clear hb
      clear Z
      go_wp2_with fail
      refine (HMS.out _ _ _ L HN.out _ X.out).mono ?_
      rintro e w14 ⟨rfl, ho, hg⟩
      have s14 : w13.heap.size ≤ w14.heap.size := hg.size
      have C := Lib.hid (own_other C.out hg (by omega))
      have Y := Lib.hid (own_other Y.out hg (by omega))
      have G := Lib.hid (own_other G.out hg (by omega))
      have HB := Lib.hid (HB.out.grown hg HB.out.size (fun t e => by cases e; omega))
      clear ho hg
      go_wp2_with fail
      refine (HML.out _ _ _ ls HM.out _ Y.out).mono ?_
      rintro e w15 ⟨rfl, ho, hg⟩
      have s15 : w14.heap.size ≤ w15.heap.size := hg.size
      have C := Lib.hid (own_other C.out hg (by omega))
      have G := Lib.hid (own_other G.out hg (by omega))
      have HB := Lib.hid (HB.out.grown hg HB.out.size (fun t e => by cases e; omega))
      clear ho hg
      go_wp2_with fail
      refine (HEP.out _ _ _ _ _ G.out.row2.2 C.out.row2.2).mono ?_
      rintro e w16 ⟨rfl, hb⟩
      have HB := Lib.hid (HB.out.trans (hb.mono HB.out.size))
      have s16 : w15.heap.size ≤ w16.heap.size := hb.size
      have C := Lib.hid (C.out.below hb)
      have G := Lib.hid (G.out.below hb)
      clear hb
      go_wp2_with fail
      refine (HMS.out _ _ _ P HPN.out _ G.out).mono ?_
      rintro e w17 ⟨rfl, ho, hg⟩
      have s17 : w16.heap.size ≤ w17.heap.size := hg.size
      have C := Lib.hid (own_other C.out hg (by omega))
      have HB := Lib.hid (HB.out.grown hg HB.out.size (fun t e => by cases e; omega))
      have G := Lib.hid ho
      clear ho hg
      go_wp2_with fail
      refine (HHE.out _ _ _ G.out.row2.2).mono ?_
      rintro e w18 ⟨rfl, hb⟩
      have HB := Lib.hid (HB.out.trans (hb.mono HB.out.size))
      have s18 : w17.heap.size ≤ w18.heap.size := hb.size
      have C := Lib.hid (C.out.below hb)
      have G := Lib.hid (G.out.below hb)
      clear hb
      go_wp2_with fail
      refine (HTS.out _ (HR.out.below HB.out)).mono ?_
      rintro e w19 ⟨gX, rfl, hb, ho⟩
      have HB := Lib.hid (HB.out.trans (hb.mono HB.out.size))
      have s19 : w18.heap.size ≤ w19.heap.size := hb.size
      have C := Lib.hid (C.out.below hb)
      have G := Lib.hid (G.out.below hb)
      have X := Lib.hid ho
      have nX := ho.lt gX rfl
      clear ho
      clear hb
      go_wp2_with fail
      refine (HTL.out _ (HRL.out.below HB.out)).mono ?_
      rintro e w20 ⟨gY, rfl, hb, ho⟩
      have HB := Lib.hid (HB.out.trans (hb.mono HB.out.size))
      have s20 : w19.heap.size ≤ w20.heap.size := hb.size
      have C := Lib.hid (C.out.below hb)
      have G := Lib.hid (G.out.below hb)
      have X := Lib.hid (X.out.below hb)
      have Y := Lib.hid ho
      have nY := ho.lt gY rfl
      clear ho
      clear hb
      go_wp2_with fail
      refine (HIM.out _ _ _ _ _ X.out.row2.2 Y.out.row2.2 (fun x e => by cases e; show gY < _; omega)).mono ?_
      rintro e w21 ⟨gH, cH, rfl, hb, ho⟩
      have HB := Lib.hid (HB.out.trans (hb.mono HB.out.size))
      have s21 : w20.heap.size ≤ w21.heap.size := hb.size
      have C := Lib.hid (C.out.below hb)
      have G := Lib.hid (G.out.below hb)
      have X := Lib.hid (X.out.below hb)
      have Y := Lib.hid (Y.out.below hb)
      have H := Lib.hid ho
      have nH := ho.lt gH rfl
      clear ho
      clear hb
      clear X Y
      go_wp2_with fail
      refine (HEP.out _ _ _ _ _ H.out.row2.2 C.out.row2.2).mono ?_
      rintro e w22 ⟨rfl, hb⟩
      have HB := Lib.hid (HB.out.trans (hb.mono HB.out.size))
      have s22 : w21.heap.size ≤ w22.heap.size := hb.size
      have C := Lib.hid (C.out.below hb)
      have G := Lib.hid (G.out.below hb)
      have H := Lib.hid (H.out.below hb)
      clear hb
      go_wp2_with fail
      refine (HHE.out _ _ _ G.out.row2.2).mono ?_
      rintro e w23 ⟨rfl, hb⟩
      have HB := Lib.hid (HB.out.trans (hb.mono HB.out.size))
      have s23 : w22.heap.size ≤ w23.heap.size := hb.size
      have C := Lib.hid (C.out.below hb)
      have G := Lib.hid (G.out.below hb)
      have H := Lib.hid (H.out.below hb)
      clear hb
      go_wp2
      go_ret
      exact ⟨rfl, HB.out⟩
end Go.Proofs.Ytmjknjgfcngacaa.Slide

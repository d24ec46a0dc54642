/- What the model of chapter 7 returns: CutsBetween, l07Heights, AreaBetween. -/
import Derived.Test.YtefeajnlogbilaaKerfMath
import Derived.Test.YtefeajnlogbilaaCornerSpec
namespace Go.Proofs.Ytefeajnlogbilaa.Kerf
open Go.ChangeShapes Go.WideShapes Go.ChangeAt Go.RowKit
open Go.Proofs.Ytefeajnlogbilaa.Strip Go.Proofs.Ytefeajnlogbilaa.Ints Go.Proofs.Ytefeajnlogbilaa.Corner
set_option linter.unusedVariables false

theorem cuts_no {a b : List UInt8} (h : sameB a b = false) : cutsL a b = [] := by unfold cutsL; rw [h]; rfl
theorem cuts_yes {a b : List UInt8} (h : sameB a b = true) : cutsL a b = cutN a b a.length := by unfold cutsL; rw [h]; rfl
theorem list_at (s : ByteArray) (k : Nat) (h : k < s.size) : s.data.toList.getD k 0 = s[k] := by
  have hl : k < s.data.toList.length := by simpa using h
  simp only [List.getD, List.getElem?_eq_getElem hl, Option.getD_some]
  rfl
theorem num_eq {a b : Nat} (h : a = b) : ((a : Int) != (b : Int)) = false := by subst h; simp
theorem num_ne {a b : Nat} (h : a ≠ b) : ((a : Int) != (b : Int)) = true := by
  simp only [bne_iff_ne, ne_eq, Int.natCast_inj]
  exact h
theorem cut_is (s t : ByteArray) (k : Nat) (h : k < s.size) (h' : k < t.size) : cutB s.data.toList t.data.toList k = !(decide (s[k] = t[k]) && decide (ff s.data.toList k = ff t.data.toList k)) := by
  unfold cutB; rw [list_at s k h, list_at t k h']
theorem ff_next (s : ByteArray) (k : Nat) (h : k < s.size) : ff s.data.toList (k + 1) = ff s.data.toList k + (if s[k] = 102 then 1 else 0) := by
  rw [ff_succ _ _ (by simpa using h), list_at s k h]

theorem cuts_short (a b : List UInt8) : (cutsL a b).length ≤ 1000000 := by
  cases h : sameB a b with
  | false => rw [cuts_no h]; simp
  | true =>
    rw [cuts_yes h]
    have h1 := cutN_le a b a.length
    have h2 := strip_size (same_facts h).1
    omega

set_option maxRecDepth 100000 in
set_option maxHeartbeats 4000000 in
theorem cuts_spec (s t : ByteArray) (w : World) (hm : s.size ≤ 1048576) (hm' : t.size ≤ 1048576) :
    Calls Try.prog 32 #[.string s, .string t] w (PostRow w (cutsL s.data.toList t.data.toList)) := by
  obtain ⟨i0, hi, hz0, hz1, hz2⟩ := info_parts info_int
  have hsl : s.data.toList.length = s.size := by simp
  have HSL := Lib.hid hsl; clear hsl
  have hsm := fun w => same_spec s t w hm hm'
  cases hst : sameB s.data.toList t.data.toList with
  | false =>
    rw [hst] at hsm
    have HSM := Lib.hid hsm; clear hsm
    rw [cuts_no hst]
    go_enter Try.func32, Try.ntmps32
    go_wp2_with fail
    refine wp_loop_rounds 1 ?_
    rw [rounds_succ]
    by_cases h1 : 0 < s.size
    · go_wp2_with fail
      refine (HSM.out _).mono ?_
      rintro e w' ⟨rfl, rfl⟩
      go_wp2
      go_ret
      exact ⟨_, rfl, (Below.refl _ _).alloc (Nat.le_refl _) _, World.ownsRow_made w #[] 0 (Nat.le_refl _) (by unfold maxLen; omega) rfl⟩
    · go_wp2
      go_ret
      exact ⟨_, rfl, (Below.refl _ _).alloc (Nat.le_refl _) _, World.ownsRow_made w #[] 0 (Nat.le_refl _) (by unfold maxLen; omega) rfl⟩
  | true =>
    rw [hst] at hsm
    have HSM := Lib.hid hsm; clear hsm
    obtain ⟨hs1, hs2, _, _, hs5⟩ := same_facts hst
    have hsz := strip_size hs1
    rw [HSL.out] at hsz
    have htz : t.size = s.size := by
      have : t.data.toList.length = t.size := by simp
      rw [← this, ← hs5, HSL.out]
    rw [cuts_yes hst, HSL.out]
    have HS1 := Lib.hid (stripB_ok hs1)
    have HS2 := Lib.hid (stripB_ok hs2)
    have HTZ := Lib.hid htz
    clear hs1 hs2 hs5
    obtain ⟨n, hn⟩ : ∃ n, n = s.size := ⟨_, rfl⟩
    go_enter Try.func32, Try.ntmps32
    go_wp2_with fail
    go_loopw [5, 6, 7, 8] (fun v x y i wr => ∃ k : Nat, k ≤ s.size ∧ i = .int .i64 (k : Int) ∧ x = .int .i64 (ff s.data.toList k : Int) ∧ y = .int .i64 (ff t.data.toList k : Int) ∧ Hid (Own wr w.heap.size v (cutN s.data.toList t.data.toList k)) ∧ Hid (Below w.heap.size w wr)) (fun _ _ _ i _ => s.size - (intOf i).toNat)
    case atStart => exact ⟨0, by omega, rfl, by rw [ff_zero]; rfl, by rw [ff_zero]; rfl, World.ownsRow_made w #[] 0 (Nat.le_refl _) (by unfold maxLen; omega) rfl, (Below.refl _ _).alloc (Nat.le_refl _) _⟩
    case round =>
      obtain ⟨k, hk, rfl, rfl, rfl, HO, HB⟩ := hrel
      have hks := HB.out.size
      have HS := Lib.hid hks; clear hks
      have hle := cutN_le s.data.toList t.data.toList k
      have hf1 := ff_le s.data.toList k
      have hf2 := ff_le t.data.toList k
      by_cases hlt : k < s.size
      · have hlt2 : k < t.size := by omega
        have hk0 : (0 : Int) ≤ (k : Int) := Int.natCast_nonneg _
        have hk1 : (k : Int) < (s.size : Int) := by omega
        have hk2 : (k : Int) < (t.size : Int) := by omega
        have HO2 : ∀ q, Hid (Own (wr.drewN q) w.heap.size u5 (cutN s.data.toList t.data.toList k)) := fun q => Lib.hid (HO.out.below (drewN_below wr q))
        have HB2 : ∀ q, Hid (Below w.heap.size w (wr.drewN q)) := fun q => Lib.hid (HB.out.trans ((drewN_below wr q).mono HS.out))
        have HC := Lib.hid (cut_is s t k hlt hlt2)
        have HF1 := Lib.hid (ff_next s k hlt)
        have HF2 := Lib.hid (ff_next t k hlt2)
        have o1 := ok_at HS1.out k (by rw [HSL.out]; exact hlt)
        have o2 := ok_at HS2.out k (by have := HTZ.out; simp; omega)
        rw [list_at s k hlt] at o1
        rw [list_at t k hlt2] at o2
        clear htz hn hsz
        generalize hfa : ff s.data.toList k = fa at *
        generalize hfb : ff t.data.toList k = fb at *
        clear hfa hfb
        rcases o1 with o1 | o1 <;> rcases o2 with o2 | o2
        · by_cases hf : fa = fb
          · have hd : ((s[k].toNat : Int) != (t[k].toNat : Int)) = false := bytes_eq _ _ (by rw [o1, o2])
            have hd2 : ((fa : Int) != (fb : Int)) = false := num_eq hf
            have b1 : ((s[k].toNat : Int) == 102) = false := byte_ne _ 102 (by rw [o1]; decide)
            have b2 : ((t[k].toNat : Int) == 102) = false := byte_ne _ 102 (by rw [o2]; decide)
            have hcut : cutB s.data.toList t.data.toList k = false := by rw [HC.out, o1, o2, decide_eq_true hf]; rfl
            have e1 : ff s.data.toList (k + 1) = fa := by rw [HF1.out, if_neg (by rw [o1]; decide)]; rfl
            have e2 : ff t.data.toList (k + 1) = fb := by rw [HF2.out, if_neg (by rw [o2]; decide)]; rfl
            have HE1 := Lib.hid e1
            have HE2 := Lib.hid e2
            have HN := Lib.hid (cutN_no hcut)
            clear o1 o2 hcut e1 e2 hf
            go_wp2_with fail
            refine (HSM.out _).mono ?_
            rintro e w' ⟨rfl, rfl⟩
            go_wp2_with fail
            go_quiet (fail)
            go_wp2
            refine ⟨⟨k + 1, by omega, by go_num, by rw [HE1.out], by rw [HE2.out], ?_, HB2 _⟩, by simp [intOf]; omega⟩
            rw [HN.out]; exact HO2 _
          · have hd : ((s[k].toNat : Int) != (t[k].toNat : Int)) = false := bytes_eq _ _ (by rw [o1, o2])
            have hd2 : ((fa : Int) != (fb : Int)) = true := num_ne hf
            have b1 : ((s[k].toNat : Int) == 102) = false := byte_ne _ 102 (by rw [o1]; decide)
            have b2 : ((t[k].toNat : Int) == 102) = false := byte_ne _ 102 (by rw [o2]; decide)
            have hcut : cutB s.data.toList t.data.toList k = true := by rw [HC.out, o1, o2, decide_eq_false hf]; rfl
            have e1 : ff s.data.toList (k + 1) = fa := by rw [HF1.out, if_neg (by rw [o1]; decide)]; rfl
            have e2 : ff t.data.toList (k + 1) = fb := by rw [HF2.out, if_neg (by rw [o2]; decide)]; rfl
            have HE1 := Lib.hid e1
            have HE2 := Lib.hid e2
            have HN := Lib.hid (cutN_yes hcut)
            clear o1 o2 hcut e1 e2 hf
            go_wp2_with fail
            refine (HSM.out _).mono ?_
            rintro e w' ⟨rfl, rfl⟩
            go_wp2_with fail
            go_quiet (fail)
            go_wp2_with (at_builtin; refine wpList_append_own _ rfl _ _ 37 rfl w.heap.size 3 i0 _ 1 8 Try.underlying37 hi hz0 hz1 hz2 rfl (by decide) u5 (cutN s.data.toList t.data.toList k).length (icells (cutN s.data.toList t.data.toList k)) rfl ((HO2 _).out.alloc _) ⟨wr.heap.size, 0, none⟩ 1 1 [.int .i64 (k : Int)] rfl rfl (World.news_of_block (cs := #[.int .i64 (k : Int)]) (t := 3) (fr := (0, 0)) (heap_alloc_new _ _)) (by simp [Value.oneCell']) (by unfold maxLen; omega) (by omega) (by have := HS.out; simp; omega) ?_)
            intro v1 w1 hown1 hgrow _
            have HB3 := Lib.hid (((HB2 _).out.alloc HS.out _).grown hgrow (by have := HS.out; simp; omega) (fun t e => ((HO2 0).out.lt t e).1))
            have HO3 : Hid (Own w1 w.heap.size v1 (cutN s.data.toList t.data.toList (k + 1))) := by
              show World.ownsRow _ _ _ _ _ _ _
              rw [HN.out, icells_snoc, List.length_append]; exact hown1
            clear hown1 hgrow
            go_wp2
            go_roundw
            case rel => exact ⟨k + 1, by omega, by go_num, by rw [HE1.out], by rw [HE2.out], HO3, HB3⟩
            case measure => simp [intOf]; omega
        · have hd : ((s[k].toNat : Int) != (t[k].toNat : Int)) = true := bytes_ne _ _ (by rw [o1, o2]; decide)
          have b1 : ((s[k].toNat : Int) == 102) = false := byte_ne _ 102 (by rw [o1]; decide)
          have b2 : ((t[k].toNat : Int) == 102) = true := byte_eq _ 102 o2
          have hcut : cutB s.data.toList t.data.toList k = true := by rw [HC.out, o1, o2]; rfl
          have e1 : ff s.data.toList (k + 1) = fa := by rw [HF1.out, if_neg (by rw [o1]; decide)]; rfl
          have e2 : ff t.data.toList (k + 1) = fb + 1 := by rw [HF2.out, if_pos o2]
          have HE1 := Lib.hid e1
          have HE2 := Lib.hid e2
          have HN := Lib.hid (cutN_yes hcut)
          clear o1 o2 hcut e1 e2
          go_wp2_with fail
          refine (HSM.out _).mono ?_
          rintro e w' ⟨rfl, rfl⟩
          go_wp2_with fail
          go_quiet (fail)
          go_wp2_with (at_builtin; refine wpList_append_own _ rfl _ _ 37 rfl w.heap.size 3 i0 _ 1 8 Try.underlying37 hi hz0 hz1 hz2 rfl (by decide) u5 (cutN s.data.toList t.data.toList k).length (icells (cutN s.data.toList t.data.toList k)) rfl ((HO2 _).out.alloc _) ⟨wr.heap.size, 0, none⟩ 1 1 [.int .i64 (k : Int)] rfl rfl (World.news_of_block (cs := #[.int .i64 (k : Int)]) (t := 3) (fr := (0, 0)) (heap_alloc_new _ _)) (by simp [Value.oneCell']) (by unfold maxLen; omega) (by omega) (by have := HS.out; simp; omega) ?_)
          intro v1 w1 hown1 hgrow _
          have HB3 := Lib.hid (((HB2 _).out.alloc HS.out _).grown hgrow (by have := HS.out; simp; omega) (fun t e => ((HO2 0).out.lt t e).1))
          have HO3 : Hid (Own w1 w.heap.size v1 (cutN s.data.toList t.data.toList (k + 1))) := by
            show World.ownsRow _ _ _ _ _ _ _
            rw [HN.out, icells_snoc, List.length_append]; exact hown1
          clear hown1 hgrow
          go_wp2
          go_roundw
          case rel => exact ⟨k + 1, by omega, by go_num, by rw [HE1.out], by rw [HE2.out]; go_num, HO3, HB3⟩
          case measure => simp [intOf]; omega
        · have hd : ((s[k].toNat : Int) != (t[k].toNat : Int)) = true := bytes_ne _ _ (by rw [o1, o2]; decide)
          have b1 : ((s[k].toNat : Int) == 102) = true := byte_eq _ 102 o1
          have b2 : ((t[k].toNat : Int) == 102) = false := byte_ne _ 102 (by rw [o2]; decide)
          have hcut : cutB s.data.toList t.data.toList k = true := by rw [HC.out, o1, o2]; rfl
          have e1 : ff s.data.toList (k + 1) = fa + 1 := by rw [HF1.out, if_pos o1]
          have e2 : ff t.data.toList (k + 1) = fb := by rw [HF2.out, if_neg (by rw [o2]; decide)]; rfl
          have HE1 := Lib.hid e1
          have HE2 := Lib.hid e2
          have HN := Lib.hid (cutN_yes hcut)
          clear o1 o2 hcut e1 e2
          go_wp2_with fail
          refine (HSM.out _).mono ?_
          rintro e w' ⟨rfl, rfl⟩
          go_wp2_with fail
          go_quiet (fail)
          go_wp2_with (at_builtin; refine wpList_append_own _ rfl _ _ 37 rfl w.heap.size 3 i0 _ 1 8 Try.underlying37 hi hz0 hz1 hz2 rfl (by decide) u5 (cutN s.data.toList t.data.toList k).length (icells (cutN s.data.toList t.data.toList k)) rfl ((HO2 _).out.alloc _) ⟨wr.heap.size, 0, none⟩ 1 1 [.int .i64 (k : Int)] rfl rfl (World.news_of_block (cs := #[.int .i64 (k : Int)]) (t := 3) (fr := (0, 0)) (heap_alloc_new _ _)) (by simp [Value.oneCell']) (by unfold maxLen; omega) (by omega) (by have := HS.out; simp; omega) ?_)
          intro v1 w1 hown1 hgrow _
          have HB3 := Lib.hid (((HB2 _).out.alloc HS.out _).grown hgrow (by have := HS.out; simp; omega) (fun t e => ((HO2 0).out.lt t e).1))
          have HO3 : Hid (Own w1 w.heap.size v1 (cutN s.data.toList t.data.toList (k + 1))) := by
            show World.ownsRow _ _ _ _ _ _ _
            rw [HN.out, icells_snoc, List.length_append]; exact hown1
          clear hown1 hgrow
          go_wp2
          go_roundw
          case rel => exact ⟨k + 1, by omega, by go_num, by rw [HE1.out]; go_num, by rw [HE2.out], HO3, HB3⟩
          case measure => simp [intOf]; omega
        · by_cases hf : fa = fb
          · have hd : ((s[k].toNat : Int) != (t[k].toNat : Int)) = false := bytes_eq _ _ (by rw [o1, o2])
            have hd2 : ((fa : Int) != (fb : Int)) = false := num_eq hf
            have b1 : ((s[k].toNat : Int) == 102) = true := byte_eq _ 102 o1
            have b2 : ((t[k].toNat : Int) == 102) = true := byte_eq _ 102 o2
            have hcut : cutB s.data.toList t.data.toList k = false := by rw [HC.out, o1, o2, decide_eq_true hf]; rfl
            have e1 : ff s.data.toList (k + 1) = fa + 1 := by rw [HF1.out, if_pos o1]
            have e2 : ff t.data.toList (k + 1) = fb + 1 := by rw [HF2.out, if_pos o2]
            have HE1 := Lib.hid e1
            have HE2 := Lib.hid e2
            have HN := Lib.hid (cutN_no hcut)
            clear o1 o2 hcut e1 e2 hf
            go_wp2_with fail
            refine (HSM.out _).mono ?_
            rintro e w' ⟨rfl, rfl⟩
            go_wp2_with fail
            go_quiet (fail)
            go_wp2
            refine ⟨⟨k + 1, by omega, by go_num, by rw [HE1.out]; go_num, by rw [HE2.out]; go_num, ?_, HB2 _⟩, by simp [intOf]; omega⟩
            rw [HN.out]; exact HO2 _
          · have hd : ((s[k].toNat : Int) != (t[k].toNat : Int)) = false := bytes_eq _ _ (by rw [o1, o2])
            have hd2 : ((fa : Int) != (fb : Int)) = true := num_ne hf
            have b1 : ((s[k].toNat : Int) == 102) = true := byte_eq _ 102 o1
            have b2 : ((t[k].toNat : Int) == 102) = true := byte_eq _ 102 o2
            have hcut : cutB s.data.toList t.data.toList k = true := by rw [HC.out, o1, o2, decide_eq_false hf]; rfl
            have e1 : ff s.data.toList (k + 1) = fa + 1 := by rw [HF1.out, if_pos o1]
            have e2 : ff t.data.toList (k + 1) = fb + 1 := by rw [HF2.out, if_pos o2]
            have HE1 := Lib.hid e1
            have HE2 := Lib.hid e2
            have HN := Lib.hid (cutN_yes hcut)
            clear o1 o2 hcut e1 e2 hf
            go_wp2_with fail
            refine (HSM.out _).mono ?_
            rintro e w' ⟨rfl, rfl⟩
            go_wp2_with fail
            go_quiet (fail)
            go_wp2_with (at_builtin; refine wpList_append_own _ rfl _ _ 37 rfl w.heap.size 3 i0 _ 1 8 Try.underlying37 hi hz0 hz1 hz2 rfl (by decide) u5 (cutN s.data.toList t.data.toList k).length (icells (cutN s.data.toList t.data.toList k)) rfl ((HO2 _).out.alloc _) ⟨wr.heap.size, 0, none⟩ 1 1 [.int .i64 (k : Int)] rfl rfl (World.news_of_block (cs := #[.int .i64 (k : Int)]) (t := 3) (fr := (0, 0)) (heap_alloc_new _ _)) (by simp [Value.oneCell']) (by unfold maxLen; omega) (by omega) (by have := HS.out; simp; omega) ?_)
            intro v1 w1 hown1 hgrow _
            have HB3 := Lib.hid (((HB2 _).out.alloc HS.out _).grown hgrow (by have := HS.out; simp; omega) (fun t e => ((HO2 0).out.lt t e).1))
            have HO3 : Hid (Own w1 w.heap.size v1 (cutN s.data.toList t.data.toList (k + 1))) := by
              show World.ownsRow _ _ _ _ _ _ _
              rw [HN.out, icells_snoc, List.length_append]; exact hown1
            clear hown1 hgrow
            go_wp2
            go_roundw
            case rel => exact ⟨k + 1, by omega, by go_num, by rw [HE1.out]; go_num, by rw [HE2.out]; go_num, HO3, HB3⟩
            case measure => simp [intOf]; omega
      · obtain rfl : k = s.size := by omega
        go_wp2
        go_ret
        exact ⟨_, rfl, HB.out, HO.out⟩
end Go.Proofs.Ytefeajnlogbilaa.Kerf

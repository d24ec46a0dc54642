/- What the program of chapter 10 returns: RaisesOf, raisesBelow. -/
import Derived.Test.YtekmladindlmoaaFlipImpl
import Derived.Test.YtekmladindlmoaaOrderImpl
import Derived.Test.YtekmladindlmoaaFlipWay
namespace Go.Proofs.Ytekmladindlmoaa.Flip
open Go.ChangeShapes Go.WideShapes Go.ChangeAt Go.RowKit
open Go.Proofs.Ytekmladindlmoaa.Strip Go.Proofs.Ytekmladindlmoaa.Ints Go.Proofs.Ytekmladindlmoaa.Corner Go.Proofs.Ytekmladindlmoaa.Kerf Go.Proofs.Ytekmladindlmoaa.Order
set_option linter.unusedVariables false

theorem filter_yes {p : Int → Bool} {cs : List Int} {k : Nat} (h : k < cs.length) (hp : p cs[k] = true) : (cs.take (k + 1)).filter p = (cs.take k).filter p ++ [cs[k]] := by
  rw [List.take_succ_eq_append_getElem h, List.filter_append]; simp [hp]
theorem filter_no {p : Int → Bool} {cs : List Int} {k : Nat} (h : k < cs.length) (hp : p cs[k] = false) : (cs.take (k + 1)).filter p = (cs.take k).filter p := by
  rw [List.take_succ_eq_append_getElem h, List.filter_append]; simp [hp]
theorem filter_len (p : Int → Bool) (cs : List Int) (k : Nat) : ((cs.take k).filter p).length ≤ cs.length :=
  Nat.le_trans (List.length_filter_le _ _) (by rw [List.length_take]; omega)

/-- Valleys are the corners that can be raised. -/
theorem raises_are (l : List UInt8) : (cornersL l).filter (fun x => cornerB 100 l x) = raisesL l := by
  cases h : stripB l with
  | false => rw [corners_no h]; unfold raisesL; rw [valleys_not h]; rfl
  | true =>
    rw [corners_yes h]
    unfold turns raisesL valleysN
    rw [List.filter_map, List.filter_filter]
    congr 1
    apply List.filter_congr
    intro k hk
    show (cornerB 100 l (k : Int) && turn l k) = cornerB 100 l (k : Int)
    unfold cornerB
    rw [Int.toNat_natCast]
    cases turn l k <;> simp
theorem corners_in (l : List UInt8) : (cornersL l).length ≤ 16 ∧ ∀ x ∈ cornersL l, 0 ≤ x ∧ x ≤ 16 := by
  cases h : stripB l with
  | false => rw [corners_no h]; simp
  | true =>
    rw [corners_yes h]
    have h2 := (strip_size h).2
    refine ⟨by have := turns_le l l.length; omega, fun x hx => ?_⟩
    obtain ⟨k, rfl, hk, _⟩ := (turns_mem _ _ _).1 hx
    omega
theorem raises_in (l : List UInt8) : (raisesL l).length ≤ 16 ∧ ∀ x ∈ raisesL l, 0 ≤ x ∧ x ≤ 16 := by
  rw [← raises_are]
  obtain ⟨h1, h2⟩ := corners_in l
  exact ⟨Nat.le_trans (List.length_filter_le _ _) h1, fun x hx => h2 x (List.mem_filter.1 hx).1⟩

/-- What raisesBelow returns. -/
def nextsI (l t : List UInt8) : List Int := (nexts l t).map fun (k : Nat) => (k : Int)
theorem nexts_are (s t : ByteArray) : (raisesL s.data.toList).filter (fun x => aboveB t.data.toList (raiseS s x).data.toList) = nextsI s.data.toList t.data.toList := by
  unfold raisesL valleysN nextsI nexts
  rw [List.filter_map, List.filter_filter]
  congr 1
  apply List.filter_congr
  intro k hk
  show (aboveB t.data.toList (raiseS s (k : Int)).data.toList && cornerB 100 s.data.toList (k : Int)) = nextB s.data.toList t.data.toList k
  unfold nextB raiseS
  cases h : cornerB 100 s.data.toList (k : Int) with
  | false => simp
  | true => simp

set_option maxRecDepth 100000 in
theorem raises_impl (s : ByteArray) (w : World) (hm : s.size ≤ 1048576) :
    Calls Try.prog 90 #[.string s] w (PostRow w (raisesL s.data.toList)) := by
  obtain ⟨i0, hi, hz0, hz1, hz2⟩ := info_parts info_int
  rw [← raises_are]
  obtain ⟨hcl, hcx⟩ := corners_in s.data.toList
  have HC := Lib.hid (fun w => corners_impl s w hm)
  have HP := Lib.hid (fun (x : Int) w (h : 0 ≤ x ∧ x ≤ 16) => can_impl s x w hm (by omega) (by omega))
  generalize cornersL s.data.toList = cs at *
  generalize cornerB 100 s.data.toList = p at *
  have HCX := Lib.hid hcx; clear hcx
  go_enter Try.func90, Try.ntmps90
  go_wp2_with fail
  refine (HC.out _).mono ?_
  rintro e w2 ⟨vc, rfl, hbw, ho⟩
  have HBW := Lib.hid hbw
  have HOC := Lib.hid ho
  clear ho hbw
  obtain ⟨a, cap, rfl, _, _⟩ := HOC.out.row
  go_wp2_with fail
  go_loopw [3, 9] (fun v i wr => ∃ k : Nat, k ≤ cs.length ∧ i = .int .i64 (k : Int) ∧ Hid (Own wr w.heap.size v ((cs.take k).filter p)) ∧ Hid (Own wr w.heap.size (.slice a cs.length cap) cs) ∧ Hid (Apart v (.slice a cs.length cap)) ∧ Hid (Below w.heap.size w wr)) (fun _ i _ => cs.length - (intOf i).toNat)
  case atStart => exact ⟨0, Nat.zero_le _, rfl, Own.nil _ _, HOC, (fun b _ e => by cases e), HBW⟩
  case round =>
    obtain ⟨k, hk, rfl, HO, HC2, HAP, HB⟩ := hrel
    have HS := Lib.hid HB.out.size
    have hle := filter_len p cs k
    by_cases hlt : k < cs.length
    · have hk0 : (0 : Int) ≤ (k : Int) := Int.natCast_nonneg _
      have hk1 : (k : Int) < (cs.length : Int) := by omega
      have hin := HCX.out cs[k] (List.getElem_mem hlt)
      obtain ⟨a', c', e, hrow, _⟩ := HC2.out.row
      cases e
      obtain ⟨g, rfl, hgs, hcell⟩ := hrow k hlt
      clear hrow
      cases hp : p cs[k] with
      | false =>
        have HF := Lib.hid (filter_no hlt hp)
        generalize cs[k] = c at *
        go_wp2_with fail
        refine (HP.out c _ hin).mono ?_
        rintro e w3 ⟨rfl, hb3⟩
        have HO3 := Lib.hid (HO.out.below hb3)
        have HC3 := Lib.hid (HC2.out.below hb3)
        have HB3 := Lib.hid (HB.out.trans (hb3.mono HS.out))
        clear hb3 hcell hgs
        rw [hp]
        go_wp2
        go_roundw
        case rel => exact ⟨k + 1, by omega, by go_num, by rw [HF.out]; exact HO3, HC3, HAP, HB3⟩
        case measure => simp [intOf]; omega
      | true =>
        have HF := Lib.hid (filter_yes hlt hp)
        generalize cs[k] = c at *
        go_wp2_with fail
        refine (HP.out c _ hin).mono ?_
        rintro e w3 ⟨rfl, hb3⟩
        have HO3 := Lib.hid (HO.out.below hb3)
        have HC3 := Lib.hid (HC2.out.below hb3)
        have HB3 := Lib.hid (HB.out.trans (hb3.mono HS.out))
        have HS3 := Lib.hid HB3.out.size
        clear hb3 hcell hgs
        rw [hp]
        generalize (cs.take k).filter p = done at *
        go_wp2_with (at_builtin; refine wpList_append_lies _ rfl _ _ 65 rfl w.heap.size 3 i0 _ 1 8 Try.underlying65 hi hz0 hz1 hz2 rfl (by decide) u3 done.length (icells done) rfl (HO3.out.alloc _) ⟨w3.heap.size, 0, none⟩ 1 1 [.int .i64 c] rfl rfl (World.news_of_block (cs := #[.int .i64 c]) (t := 3) (fr := (0, 0)) (heap_alloc_new _ _)) (by simp [Value.oneCell']) (by decide) (by unfold maxLen; omega) (by omega) (by have := HS3.out; simp; omega) _ rfl ?_)
        intro g2 cap2 w4 hown2 hgrow2 hg2 hlt2
        have hal : Own (w3.alloc (.cells #[.int .i64 c] 3)) w.heap.size (.slice (some ⟨g, 0, none⟩) cs.length cap) cs := HC3.out.alloc _
        have HB4 := Lib.hid ((HB3.out.alloc HS3.out _).grown hgrow2 (by have := HS3.out; simp; omega) (fun t e => (HO3.out.lt t e).1))
        have HC4 := Lib.hid (hal.apart2 HAP.out hgrow2)
        have HA4 := Lib.hid (Apart.grown (n := done.length + 1) (cap := cap2) (H := w3.heap.size + 1) hal (by simp) HAP.out hg2)
        have HO4 : Hid (Own w4 w.heap.size (.slice (some ⟨g2, 0, none⟩) (done.length + 1) cap2) ((cs.take (k + 1)).filter p)) := by
          show World.ownsRow _ _ _ _ _ _ _
          rw [HF.out, icells_snoc, List.length_append]; exact hown2
        clear hown2 hgrow2 hal hg2 hlt2
        go_wp2
        go_roundw
        case rel => exact ⟨k + 1, by omega, by go_num, HO4, HC4, HA4, HB4⟩
        case measure => simp [intOf]; omega
    · obtain rfl : k = cs.length := by omega
      rw [List.take_length] at HO
      go_wp2
      go_ret
      exact ⟨_, rfl, HB.out, HO.out⟩

set_option maxRecDepth 100000 in
theorem below_impl (s t : ByteArray) (w : World) (hm : s.size ≤ 1048576) (hm' : t.size ≤ 1048576) :
    Calls Try.prog 70 #[.string s, .string t] w (PostRow w (nextsI s.data.toList t.data.toList)) := by
  obtain ⟨i0, hi, hz0, hz1, hz2⟩ := info_parts info_int
  rw [← nexts_are]
  obtain ⟨hcl, hcx⟩ := raises_in s.data.toList
  have HC := Lib.hid (fun w => raises_impl s w hm)
  have HR := Lib.hid (fun (x : Int) w (h : 0 ≤ x ∧ x ≤ 16) => raise_impl s x w hm (by omega) (by omega))
  have HA := Lib.hid (fun (x : Int) w => above_impl t (raiseS s x) w hm' (by rw [raise_size]; exact hm))
  generalize raisesL s.data.toList = cs at *
  obtain ⟨p, hpp⟩ : ∃ p : Int → Bool, (fun x => aboveB t.data.toList (raiseS s x).data.toList) = p := ⟨_, rfl⟩
  have hpx : ∀ x, aboveB t.data.toList (raiseS s x).data.toList = p x := fun x => by rw [← hpp]
  rw [hpp]
  have HPX := Lib.hid hpx
  clear hpp hpx
  have HCX := Lib.hid hcx; clear hcx
  go_enter Try.func70, Try.ntmps70
  go_wp2_with fail
  refine (HC.out _).mono ?_
  rintro e w2 ⟨vc, rfl, hbw, ho⟩
  have HBW := Lib.hid hbw
  have HOC := Lib.hid ho
  clear ho hbw
  obtain ⟨a, cap, rfl, _, _⟩ := HOC.out.row
  go_wp2_with fail
  go_loopw [5, 13] (fun v i wr => ∃ k : Nat, k ≤ cs.length ∧ i = .int .i64 (k : Int) ∧ Hid (Own wr w.heap.size v ((cs.take k).filter p)) ∧ Hid (Own wr w.heap.size (.slice a cs.length cap) cs) ∧ Hid (Apart v (.slice a cs.length cap)) ∧ Hid (Below w.heap.size w wr)) (fun _ i _ => cs.length - (intOf i).toNat)
  case atStart => exact ⟨0, Nat.zero_le _, rfl, Own.nil _ _, HOC, (fun b _ e => by cases e), HBW⟩
  case round =>
    obtain ⟨k, hk, rfl, HO, HC2, HAP, HB⟩ := hrel
    have HS := Lib.hid HB.out.size
    have hle := filter_len p cs k
    by_cases hlt : k < cs.length
    · have hk0 : (0 : Int) ≤ (k : Int) := Int.natCast_nonneg _
      have hk1 : (k : Int) < (cs.length : Int) := by omega
      have hin := HCX.out cs[k] (List.getElem_mem hlt)
      obtain ⟨a', c', e, hrow, _⟩ := HC2.out.row
      cases e
      obtain ⟨g, rfl, hgs, hcell⟩ := hrow k hlt
      clear hrow
      cases hp : p cs[k] with
      | false =>
        have HF := Lib.hid (filter_no hlt hp)
        generalize cs[k] = c at *
        go_wp2_with fail
        refine (HR.out c _ hin).mono ?_
        rintro e wx ⟨rfl, hbx⟩
        have HOx := Lib.hid (HO.out.below hbx)
        have HCx := Lib.hid (HC2.out.below hbx)
        have HBx := Lib.hid (HB.out.trans (hbx.mono HS.out))
        have HSx := Lib.hid HBx.out.size
        have hax := fun w => HA.out c w
        rw [HPX.out, hp] at hax
        have HAX := Lib.hid hax
        clear hbx hax
        obtain ⟨x, hx⟩ : ∃ x, raiseS s c = x := ⟨_, rfl⟩
        rw [hx] at HAX ⊢
        clear hx
        go_wp2_with fail
        refine (HAX.out _).mono ?_
        rintro e w3 ⟨rfl, hb3⟩
        have HO3 := Lib.hid (HOx.out.below hb3)
        have HC3 := Lib.hid (HCx.out.below hb3)
        have HB3 := Lib.hid (HBx.out.trans (hb3.mono HSx.out))
        clear hb3 hcell hgs
        go_wp2
        go_roundw
        case rel => exact ⟨k + 1, by omega, by go_num, by rw [HF.out]; exact HO3, HC3, HAP, HB3⟩
        case measure => simp [intOf]; omega
      | true =>
        have HF := Lib.hid (filter_yes hlt hp)
        generalize cs[k] = c at *
        go_wp2_with fail
        refine (HR.out c _ hin).mono ?_
        rintro e wx ⟨rfl, hbx⟩
        have HOx := Lib.hid (HO.out.below hbx)
        have HCx := Lib.hid (HC2.out.below hbx)
        have HBx := Lib.hid (HB.out.trans (hbx.mono HS.out))
        have HSx := Lib.hid HBx.out.size
        have hax := fun w => HA.out c w
        rw [HPX.out, hp] at hax
        have HAX := Lib.hid hax
        clear hbx hax
        obtain ⟨x, hx⟩ : ∃ x, raiseS s c = x := ⟨_, rfl⟩
        rw [hx] at HAX ⊢
        clear hx
        go_wp2_with fail
        refine (HAX.out _).mono ?_
        rintro e w3 ⟨rfl, hb3⟩
        have HO3 := Lib.hid (HOx.out.below hb3)
        have HC3 := Lib.hid (HCx.out.below hb3)
        have HB3 := Lib.hid (HBx.out.trans (hb3.mono HSx.out))
        have HS3 := Lib.hid HB3.out.size
        clear hb3 hcell hgs
        generalize (cs.take k).filter p = done at *
        go_wp2_with (at_builtin; refine wpList_append_lies _ rfl _ _ 65 rfl w.heap.size 3 i0 _ 1 8 Try.underlying65 hi hz0 hz1 hz2 rfl (by decide) u5 done.length (icells done) rfl (HO3.out.alloc _) ⟨w3.heap.size, 0, none⟩ 1 1 [.int .i64 c] rfl rfl (World.news_of_block (cs := #[.int .i64 c]) (t := 3) (fr := (0, 0)) (heap_alloc_new _ _)) (by simp [Value.oneCell']) (by decide) (by unfold maxLen; omega) (by omega) (by have := HS3.out; simp; omega) _ rfl ?_)
        intro g2 cap2 w4 hown2 hgrow2 hg2 hlt2
        have hal : Own (w3.alloc (.cells #[.int .i64 c] 3)) w.heap.size (.slice (some ⟨g, 0, none⟩) cs.length cap) cs := HC3.out.alloc _
        have HB4 := Lib.hid ((HB3.out.alloc HS3.out _).grown hgrow2 (by have := HS3.out; simp; omega) (fun t e => (HO3.out.lt t e).1))
        have HC4 := Lib.hid (hal.apart2 HAP.out hgrow2)
        have HA4 := Lib.hid (Apart.grown (n := done.length + 1) (cap := cap2) (H := w3.heap.size + 1) hal (by simp) HAP.out hg2)
        have HO4 : Hid (Own w4 w.heap.size (.slice (some ⟨g2, 0, none⟩) (done.length + 1) cap2) ((cs.take (k + 1)).filter p)) := by
          show World.ownsRow _ _ _ _ _ _ _
          rw [HF.out, icells_snoc, List.length_append]; exact hown2
        clear hown2 hgrow2 hal hg2 hlt2
        go_wp2
        go_roundw
        case rel => exact ⟨k + 1, by omega, by go_num, HO4, HC4, HA4, HB4⟩
        case measure => simp [intOf]; omega
    · obtain rfl : k = cs.length := by omega
      rw [List.take_length] at HO
      go_wp2
      go_ret
      exact ⟨_, rfl, HB.out, HO.out⟩
end Go.Proofs.Ytekmladindlmoaa.Flip

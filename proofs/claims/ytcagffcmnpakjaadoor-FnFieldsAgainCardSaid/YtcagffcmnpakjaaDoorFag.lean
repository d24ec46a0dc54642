/- The law of the fields of a line joined again: the walks. -/
import Derived.Test.YtcagffcmnpakjaaDoorDrawSplit
import Derived.Test.YtcagffcmnpakjaaDoorFieldsPlain
import Derived.Test.YtcagffcmnpakjaaDoorFmtImpl
import Derived.Test.YtcagffcmnpakjaaDoorBig
namespace Go.Proofs.YtcagffcmnpakjaaDoor.Strs
open Go.ChangeShapes Go.WideShapes Go.ChangeAt Go.RowKit Go.Proofs.YtcagffcmnpakjaaDoor.Laid Go.Proofs.YtcagffcmnpakjaaDoor.Bytes
open Go.Proofs.YtcagffcmnpakjaaDoor.Draw (RowIn rowIn_of big_at drawSplit_get)
set_option linter.unusedVariables false

theorem same_yes (n ca cb : Nat) (a b : Option Addr) (l : List ByteArray) (hl : l.length = n) (hm : n ≤ maxLen) (w : World) (ha : Row w a l) (hb : Row w b l) :
    Calls Tryd.prog 19 #[.slice a n ca, .slice b n cb] w fun e w' => e = .returned (.bool true) ∧ ∃ q, w' = w.drewN q := by
  unfold maxLen at hm
  have HL := Lib.hid hl; clear hl
  have HA := Lib.hid ha; clear ha
  have HB := Lib.hid hb; clear hb
  go_enter Tryd.func19, Tryd.ntmps19
  go_wp2_with fail
  go_loopw [5] (fun i wr => ∃ k q : Nat, k ≤ n ∧ i = .int .i64 k ∧ wr = w.drewN q) (fun i _ => n - (intOf i).toNat)
  case atStart => exact ⟨0, 0, Nat.zero_le _, rfl, rfl⟩
  case round =>
    obtain ⟨k, q, hk, rfl, rfl⟩ := hrel
    by_cases hlt : k < n
    · obtain ⟨ga, rfl, hga, hca⟩ := HA.out k (by rw [HL.out]; exact hlt)
      obtain ⟨gb, rfl, hgb, hcb⟩ := HB.out k (by rw [HL.out]; exact hlt)
      generalize l[k]'_ = x at hca hcb
      have hk0 : (0 : Int) ≤ (k : Int) := Int.natCast_nonneg _
      have hk1 : (k : Int) < (n : Int) := by omega
      go_wp2_with fail
      go_quiet (fail)
      go_wp2
      go_roundw
      case rel => exact ⟨k + 1, _, by omega, by go_num, rfl⟩
      case measure => simp [intOf]; omega
    · go_wp2
      go_ret
      exact ⟨rfl, q, rfl⟩

theorem fg_space_data : (Rows.laid_strings_asciiSpace : DataW Unit) = Lib.tabData .u8 Lib.asciiSpaceTab := by kernel_rfl
theorem fg_gSpace : Tryd.prog.globalNamed "strings.asciiSpace" = some 0 := by kernel_rfl
theorem fg_space_below {w w' : World} {B : Nat} (h : Space w) (hb : Below B w w') (hB : 0 < B) : Space w' := var?_below hb fg_gSpace hB h
theorem fg_space_lt {w : World} (h : Space w) : 0 < w.heap.size := World.block_lt_of_cell? _ _ (h.cell fg_gSpace 0 (by simp [Lib.asciiSpaceTab]))
theorem fg_space_fifth {x y z u : String × DataW Unit} {r : List (String × DataW Unit)} {w : World}
    (h : laidMet Tryd.prog (x :: y :: z :: u :: ("strings.asciiSpace", Rows.laid_strings_asciiSpace) :: r) w) : Space w := by
  have h3 := h.tail.tail.tail.tail
  rw [fg_space_data] at h3
  exact Lib.tabIs_of_head fg_gSpace (by kernel_rfl) Tryd.underlying59 Tryd.underlying5 (by kernel_rfl) (by kernel_rfl) h3

theorem minus_three : Lib.itoa (-3) = [45, 51] := by
  unfold Lib.itoa
  rw [if_pos (by omega)]
  show 45 :: Lib.decDigits 3 = _
  rw [Lib.decDigits_one (by omega)]; rfl

theorem fg_take_all (l : List ByteArray) : (scells l).toArray.toList.take l.length = scells l := List.take_of_length_le (by simp [scells])

theorem flds_get (s : ByteArray) (k : Nat) (h : k < (flds s).length) (h' : k < (Lib.fields s.data.toList).length) : (flds s)[k] = ⟨((Lib.fields s.data.toList)[k]).toArray⟩ := by simp [flds]

theorem spec_bad (s : ByteArray) (w : World) (hm : s.size ≤ 2000) (hbad : 600 < s.size ∨ ¬ Plain s ∨ 24 < (flds s).length) :
    Calls Tryd.prog 18 #[.string s] w (Post_bad s w) := by
  by_cases hl : 600 < s.size
  · exact split_spec_long s (by unfold maxLen; omega) hl w
  · by_cases hp : Plain s
    · have hn : ¬ (flds s).length ≤ 24 := by
        rcases hbad with h | h | h
        · exact absurd h hl
        · exact absurd hp h
        · omega
      refine (split_spec_plain s (by omega) hp w).mono fun e w' ⟨v, he, hb, hv⟩ => ?_
      rw [if_neg hn] at hv
      obtain ⟨a, c, rfl⟩ := hv
      rw [decide_eq_false hn] at he
      exact ⟨a, c, he, hb⟩
    · have hex : ∃ j, ∃ h : j < s.size, s[j].toNat < 32 ∨ 126 < s[j].toNat := by
        apply Classical.byContradiction
        intro hne
        apply hp
        intro i hi
        by_cases c : s[i].toNat < 32 ∨ 126 < s[i].toNat
        · exact absurd ⟨i, hi, c⟩ hne
        · omega
      obtain ⟨j, hj, hb⟩ := hex
      exact split_spec_bad s (by omega) j hj hb w

set_option maxRecDepth 100000 in
set_option maxHeartbeats 1000000 in
theorem fieldsAgain (ca : Option Addr) (cl cc : Nat) (w : World) (hm : cl ≤ maxLen) (hr : RowIn w ca cl) (hsp : Space w) (hp : Pow10 w) :
    Calls Tryd.prog 5 #[.slice ca cl cc] w fun e w' => e = .returned (.bool true) ∧ Below w.heap.size w w' := by
  have hlt := hp.lt
  have hlts := fg_space_lt hsp
  have HP := Lib.hid hp; clear hp
  have HSP := Lib.hid hsp; clear hsp
  by_cases hbig : 1048576 < cl
  · have hd : decide (1048576 < (cl : Int)) = true := by simp; omega
    go_enter Tryd.func5, Tryd.ntmps5
    go_wp2_with fail
    refine (big_at ca cl cc w hm).mono ?_
    rintro e w' ⟨rfl, rfl⟩
    rw [hd]
    go_wp2
    go_ret
    exact ⟨rfl, Below.refl _ _⟩
  · have hd : decide (1048576 < (cl : Int)) = false := by simp; omega
    go_enter Tryd.func5, Tryd.ntmps5
    go_wp2_with fail
    refine (big_at ca cl cc w hm).mono ?_
    rintro e w' ⟨rfl, rfl⟩
    rw [hd]
    clear hd hbig
    go_wp2_with fail
    refine drawSplit_get ca cl cc w hm hr ?_
    intro s w1 hs hb1
    have HB1 := Lib.hid hb1; clear hb1
    by_cases hbad : 600 < s.size ∨ ¬ Plain s ∨ 24 < (flds s).length
    · have HBAD := Lib.hid hbad; clear hbad
      go_wp2_with fail
      refine (split_impl_no s (by unfold maxLen; omega) HBAD.out w1 (fg_space_below HSP.out HB1.out hlts)).mono ?_
      rintro e w2 ⟨rfl, hb2⟩
      have HB2 := Lib.hid (HB1.out.trans (hb2.mono HB1.out.size)); clear hb2
      go_wp2_with fail
      refine (spec_bad s w2 hs HBAD.out).mono ?_
      rintro e w3 ⟨a, c, rfl, hb3⟩
      have HB3 := Lib.hid (HB2.out.trans (hb3.mono HB2.out.size)); clear hb3
      go_wp2_with fail
      refine (fmt_impl (-3) (by omega) (by omega) w3 (HP.out.below HB3.out hlt)).mono ?_
      rintro e w4 ⟨rfl, hb4⟩
      have HB4 := Lib.hid (HB3.out.trans (hb4.mono HB3.out.size)); clear hb4
      rw [minus_three]
      go_wp2
      go_ret
      exact ⟨rfl, HB4.out⟩
    · have hs600 : s.size ≤ 600 := by omega
      have hpl : Plain s := Classical.byContradiction fun h => hbad (.inr (.inl h))
      have hn : (flds s).length ≤ 24 := by omega
      clear hbad
      have HPL := Lib.hid hpl; clear hpl
      go_wp2_with fail
      refine (split_impl_yes s hs600 HPL.out hn w1 (fg_space_below HSP.out HB1.out hlts)).mono ?_
      rintro e w2 ⟨rfl, rfl⟩
      have hb2 : Below w.heap.size w (w1.alloc (.cells (scells (flds s)).toArray 9 (0, 0))) := HB1.out.alloc HB1.out.size _
      have HB2 := Lib.hid hb2; clear hb2
      have hg2 : (w1.alloc (.cells (scells (flds s)).toArray 9 (0, 0))).heap[w1.heap.size]? = some (.cells (scells (flds s)).toArray 9 (0, 0)) := heap_alloc_new w1 _
      have hrow : Row (w1.alloc (.cells (scells (flds s)).toArray 9 (0, 0))) (some ⟨w1.heap.size, 0, none⟩) (flds s) := Row.of_block hg2 (fg_take_all _)
      have HR := Lib.hid hrow; clear hrow hg2
      generalize w1.heap.size = A at *
      generalize (w1.alloc (.cells (scells (flds s)).toArray 9 (0, 0))) = w2 at *
      go_wp2_with fail
      refine (split_spec_plain s hs600 HPL.out w2).mono ?_
      rintro e w3 ⟨v, rfl, hb3, _⟩
      rw [decide_eq_true hn]
      have HB3 := Lib.hid (HB2.out.trans (hb3.mono HB2.out.size))
      have HR3 := Lib.hid (HR.out.below hb3)
      clear hb3 HR
      have hfl : (flds s).length = (Lib.fields s.data.toList).length := flds_length s
      have HFL := Lib.hid hfl; clear hfl
      go_wp2_with fail
      go_loop [8, 9] (fun vs vi => ∃ (k : Nat) (sb : ByteArray), k ≤ (flds s).length ∧ vi = .int .i64 k ∧ vs = .string sb ∧ (sb.size : Int) ≤ 601 * (k : Int) ∧ Hid (sb = ⟨(joinL ((Lib.fields s.data.toList).take k)).toArray⟩)) (fun _ vi => (flds s).length - (intOf vi).toNat)
      case atStart => exact ⟨0, ⟨#[]⟩, Nat.zero_le _, rfl, rfl, (by have h : (⟨#[]⟩ : ByteArray).size = 0 := rfl; rw [h]; omega), rfl⟩
      case round =>
        obtain ⟨k, sb, hk, rfl, rfl, hsz, hsb⟩ := hrel
        by_cases hlt2 : k < (flds s).length
        · have hk0 : (0 : Int) ≤ (k : Int) := Int.natCast_nonneg _
          have hk1 : (k : Int) < ((flds s).length : Int) := by omega
          obtain ⟨g, hg, hgs, hc⟩ := HR3.out k hlt2
          obtain rfl : A = g := by cases hg; rfl
          clear hg
          have hkf : k < (Lib.fields s.data.toList).length := by rw [← HFL.out]; exact hlt2
          have hge := flds_get s k hlt2 hkf
          obtain ⟨f1, f2, f3⟩ := fields_parts s.data.toList _ (List.getElem_mem hkf)
          have hxs : (((flds s)[k]).size : Int) ≤ 600 := by
            rw [hge]
            have e1 : (⟨((Lib.fields s.data.toList)[k]).toArray⟩ : ByteArray).size = ((Lib.fields s.data.toList)[k]).length := by
              show ((Lib.fields s.data.toList)[k]).toArray.size = _
              simp
            have e2 : s.data.toList.length = s.size := by simp
            rw [e1]; omega
          have hnew : sb ++ (flds s)[k] ++ ⟨#[32]⟩ = ⟨(joinL ((Lib.fields s.data.toList).take (k + 1))).toArray⟩ := by
            rw [hsb.out, hge, join_snoc _ k hkf, ← cat_lists, ← cat_lists]
          have HNEW := Lib.hid hnew; clear hnew hge f1 f2 f3 hsb
          generalize (flds s)[k] = x at *
          have h32 : (⟨#[32]⟩ : ByteArray).size = 1 := rfl
          have hsn : ((sb ++ x ++ ⟨#[32]⟩ : ByteArray).size : Int) ≤ 601 * ((k + 1 : Nat) : Int) := by
            rw [ByteArray.size_append, ByteArray.size_append, h32]; omega
          have HSN := Lib.hid hsn; clear hsn h32
          go_wp2
          exact ⟨⟨k + 1, _, by omega, by go_num, rfl, HSN.out, HNEW⟩, by simp [intOf]; omega⟩
        · have hkn : k = (Lib.fields s.data.toList).length := by rw [← HFL.out]; omega
          have hj : sb = ⟨(joinL (Lib.fields s.data.toList)).toArray⟩ := by
            rw [hsb.out, List.take_of_length_le (by omega)]
          have hpj : Plain sb := by rw [hj]; exact join_plain HPL.out
          have hfj : flds sb = flds s := by
            have e : sb.data.toList = joinL (Lib.fields s.data.toList) := by rw [hj]
            unfold flds
            rw [e, fields_again]
          have HPJ := Lib.hid hpj; clear hpj
          have HFJ := Lib.hid hfj; clear hfj hj hkn hsb
          have hsz2 : (sb.size : Int) ≤ 20000 := by omega
          clear hsz
          by_cases hlong : (600 : Int) < (sb.size : Int)
          · go_wp2_with fail
            refine (split_impl_no sb (by unfold maxLen; omega) (.inl (by omega)) w3 (fg_space_below HSP.out HB3.out hlts)).mono ?_
            rintro e w4 ⟨rfl, hb4⟩
            have HB4 := Lib.hid (HB3.out.trans (hb4.mono HB3.out.size)); clear hb4
            go_wp2
            go_ret
            exact ⟨rfl, HB4.out⟩
          · have hlong' : decide ((600 : Int) < (sb.size : Int)) = false := by simpa using hlong
            go_wp2_with fail
            have hyes := split_impl_yes sb (by omega) HPJ.out (by rw [HFJ.out]; exact hn) w3 (fg_space_below HSP.out HB3.out hlts)
            rw [HFJ.out] at hyes
            refine hyes.mono ?_
            rintro e w4 ⟨rfl, rfl⟩
            have hb4 : Below w.heap.size w (w3.alloc (.cells (scells (flds s)).toArray 9 (0, 0))) := HB3.out.alloc HB3.out.size _
            have HB4 := Lib.hid hb4; clear hb4
            have hg4 : (w3.alloc (.cells (scells (flds s)).toArray 9 (0, 0))).heap[w3.heap.size]? = some (.cells (scells (flds s)).toArray 9 (0, 0)) := heap_alloc_new w3 _
            have hrow : Row (w3.alloc (.cells (scells (flds s)).toArray 9 (0, 0))) (some ⟨w3.heap.size, 0, none⟩) (flds s) := Row.of_block hg4 (fg_take_all _)
            have HR4 := Lib.hid hrow; clear hrow hg4
            have HR5 := Lib.hid (HR3.out.below ((Below.refl _ _).alloc (Nat.le_refl _) (.cells (scells (flds s)).toArray 9 (0, 0))))
            generalize w3.heap.size = A4 at *
            generalize (w3.alloc (.cells (scells (flds s)).toArray 9 (0, 0))) = w4 at *
            go_wp2_with fail
            refine (same_yes (flds s).length (flds s).length (flds s).length (some ⟨A, 0, none⟩) (some ⟨A4, 0, none⟩) (flds s) rfl (by unfold maxLen; omega) w4 HR5.out HR4.out).mono ?_
            rintro e w5 ⟨rfl, q, rfl⟩
            go_wp2
            go_ret
            exact ⟨rfl, HB4.out.trans ⟨rfl, rfl, rfl, Nat.le_refl _, fun _ _ => rfl⟩⟩
end Go.Proofs.YtcagffcmnpakjaaDoor.Strs

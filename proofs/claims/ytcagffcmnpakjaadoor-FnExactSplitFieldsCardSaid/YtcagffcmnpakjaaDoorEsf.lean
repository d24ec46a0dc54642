/- The law of spec.SplitFields and impl.SplitFields: the walks. -/
import Derived.Test.YtcagffcmnpakjaaDoorSplitSpec
import Derived.Test.YtcagffcmnpakjaaDoorMark
namespace Go.Proofs.YtcagffcmnpakjaaDoor.Strs
open Go.ChangeShapes Go.WideShapes Go.ChangeAt Go.RowKit Go.Proofs.YtcagffcmnpakjaaDoor.Laid
set_option linter.unusedVariables false

theorem space_data : (Rows.laid_strings_asciiSpace : DataW Unit) = Lib.tabData .u8 Lib.asciiSpaceTab := by kernel_rfl
theorem gSpace : Tryd.prog.globalNamed "strings.asciiSpace" = some 0 := by kernel_rfl
theorem space_below {w w' : World} {B : Nat} (h : Space w) (hb : Below B w w') (hB : 0 < B) : Space w' := var?_below hb gSpace hB h
theorem space_lt {w : World} (h : Space w) : 0 < w.heap.size := World.block_lt_of_cell? _ _ (h.cell gSpace 0 (by simp [Lib.asciiSpaceTab]))
theorem space_second {x : String × DataW Unit} {r : List (String × DataW Unit)} {w : World}
    (h : laidMet Tryd.prog (x :: ("strings.asciiSpace", Rows.laid_strings_asciiSpace) :: r) w) : Space w := by
  have h3 := h.tail
  rw [space_data] at h3
  exact Lib.tabIs_of_head gSpace (by kernel_rfl) Tryd.underlying59 Tryd.underlying5 (by kernel_rfl) (by kernel_rfl) h3

theorem mark_one (g n cap : Nat) (hn : n ≤ 1000000) (hnc : n ≤ cap) (cur : Array Value) (w : World) (hg : w.heap[g]? = some (.cells cur 9 (0, 0))) (hcs : cur.size = cap) :
    Calls Tryd.prog 23 #[.slice (some ⟨g, 0, none⟩) n cap, .int .i64 1] w fun e w' => e = .returned (.int .i64 (1 + (n : Int))) ∧ Marked w' g cap n 1 cur ∧ w.grownBy w' (some g) := by
  have h := mark_row g n cap 1 (by omega) (by omega) hn hnc cur w hg hcs
  rw [show ((1 + n : Nat) : Int) = 1 + (n : Int) from by omega] at h
  exact h

theorem held_one (a : Option Addr) (n cap : Nat) (hn : n ≤ 1000000) (w : World) (hr : Row w a (marks 1 n)) :
    Calls Tryd.prog 24 #[.slice a n cap, .int .i64 1] w fun e w' => e = .returned (.int .i64 (1 + (n : Int))) ∧ Below w.heap.size w w' := by
  have h := held_row a n cap 1 (by omega) (by omega) hn w hr
  rw [show ((1 + n : Nat) : Int) = 1 + (n : Int) from by omega] at h
  exact h

theorem take_all (l : List ByteArray) : (scells l).toArray.toList.take l.length = scells l := List.take_of_length_le (by simp [scells])

theorem row_nil (w : World) (a : Option Addr) : Row w a [] := fun j hj => by simp at hj

theorem marked_row {w : World} {g cap n k : Nat} {cur : Array Value} (h : Marked w g cap n k cur) : Row w (some ⟨g, 0, none⟩) (marks k n) := by
  obtain ⟨c, hc, _, ht⟩ := h
  exact Row.of_block hc (by rw [marks_length]; exact ht)

theorem drewN_below (w : World) (q : Nat) : Below w.heap.size w (w.drewN q) := ⟨rfl, rfl, rfl, Nat.le_refl _, fun _ _ => rfl⟩

/-- A rejected line: the model returned an empty slice and false. -/
theorem esf_rest_bad (s : ByteArray) (w : World) (hm : s.size ≤ 1048576) (hsp : Space w)
    (hspec : Calls Tryd.prog 18 #[.string s] w (Post_bad s w)) (hbad : 600 < s.size ∨ ¬ Plain s ∨ 24 < (flds s).length) :
    Calls Tryd.prog 8 #[.string s] w fun e w' => e = .returned (.bool true) ∧ Below w.heap.size w w' := by
  have hlt := space_lt hsp
  have HSP := Lib.hid hsp; clear hsp
  have HSPEC := Lib.hid hspec; clear hspec
  have HBAD := Lib.hid hbad; clear hbad
  have hmm : s.size ≤ maxLen := by unfold maxLen; omega
  go_enter Tryd.func8, Tryd.ntmps8
  go_wp2_with fail
  refine HSPEC.out.mono ?_
  rintro e w1 ⟨a, c, rfl, hb1⟩
  have HB1 := Lib.hid hb1; clear hb1
  go_wp2_with fail
  refine (split_impl_no s hmm HBAD.out w1 (space_below HSP.out HB1.out hlt)).mono ?_
  rintro e w2 ⟨rfl, hb2⟩
  have HB2 := Lib.hid (HB1.out.trans (hb2.mono HB1.out.size)); clear hb2
  go_wp2_with fail
  refine (eq_yes 0 0 c none a [] rfl (by unfold maxLen; omega) w2 (row_nil _ _) (row_nil _ _)).mono ?_
  rintro e w3 ⟨rfl, q, rfl⟩
  have HB3 := Lib.hid (HB2.out.trans ((drewN_below w2 q).mono HB2.out.size))
  generalize w2.drewN q = w3 at *
  go_wp2_with fail
  refine (mark_nil 1 w3 none 0).mono ?_
  rintro e w4 ⟨rfl, rfl⟩
  go_wp2_with fail
  refine (held_one none 0 0 (by omega) w3 (row_nil _ _)).mono ?_
  rintro e w4 ⟨rfl, hb4⟩
  have HB4 := Lib.hid (HB3.out.trans (hb4.mono HB3.out.size)); clear hb4
  go_wp2_with fail
  refine (split_impl_no s hmm HBAD.out w4 (space_below HSP.out HB4.out hlt)).mono ?_
  rintro e w5 ⟨rfl, hb5⟩
  have HB5 := Lib.hid (HB4.out.trans (hb5.mono HB4.out.size)); clear hb5
  go_wp2_with fail
  refine (eq_yes 0 0 c none a [] rfl (by unfold maxLen; omega) w5 (row_nil _ _) (row_nil _ _)).mono ?_
  rintro e w6 ⟨rfl, q2, rfl⟩
  have HB6 := Lib.hid (HB5.out.trans ((drewN_below w5 q2).mono HB5.out.size))
  generalize w5.drewN q2 = w6 at *
  go_wp2_with fail
  refine (held_one none 0 0 (by omega) w6 (row_nil _ _)).mono ?_
  rintro e w7 ⟨rfl, hb7⟩
  have HB7 := Lib.hid (HB6.out.trans (hb7.mono HB6.out.size)); clear hb7
  go_wp2
  go_ret
  exact ⟨rfl, HB7.out⟩

/-- An accepted line. -/
theorem esf_rest_good (s : ByteArray) (w : World) (hm : s.size ≤ 600) (hpl : Plain s) (hn : (flds s).length ≤ 24) (hsp : Space w) :
    Calls Tryd.prog 8 #[.string s] w fun e w' => e = .returned (.bool true) ∧ Below w.heap.size w w' := by
  have hlt := space_lt hsp
  have HSP := Lib.hid hsp; clear hsp
  have HPL := Lib.hid hpl; clear hpl
  go_enter Tryd.func8, Tryd.ntmps8
  go_wp2_with fail
  refine (split_spec_plain s hm HPL.out w).mono ?_
  rintro e w1 ⟨v, rfl, hb1, hv⟩
  rw [if_pos hn] at hv
  rw [decide_eq_true hn]
  obtain ⟨a, cap, rfl, _⟩ := Row.of_owns hv
  have HO1 := Lib.hid hv; clear hv
  have HB1 := Lib.hid hb1; clear hb1
  go_wp2_with fail
  refine (split_impl_yes s hm HPL.out hn w1 (space_below HSP.out HB1.out hlt)).mono ?_
  rintro e w2 ⟨rfl, rfl⟩
  have hs1 := HB1.out.size
  have hb2 : Below w.heap.size w (w1.alloc (.cells (scells (flds s)).toArray 9 (0, 0))) := HB1.out.alloc hs1 _
  have HB2 := Lib.hid hb2; clear hb2
  have ho2 : (w1.alloc (.cells (scells (flds s)).toArray 9 (0, 0))).ownsRow w.heap.size 9 1 (.slice a (flds s).length cap) (flds s).length (scells (flds s)) := HO1.out.alloc _
  have HO2 := Lib.hid ho2; clear ho2
  have hg2 : (w1.alloc (.cells (scells (flds s)).toArray 9 (0, 0))).heap[w1.heap.size]? = some (.cells (scells (flds s)).toArray 9 (0, 0)) := heap_alloc_new w1 _
  have HG2 := Lib.hid hg2; clear hg2
  have hne : ∀ b, (Value.slice a (flds s).length cap).ownBlock = some b → b < w1.heap.size := fun b e => (HO1.out.lt b e).2
  have HNE := Lib.hid hne; clear hne
  have hsz2 : w1.heap.size < (w1.alloc (.cells (scells (flds s)).toArray 9 (0, 0))).heap.size := by simp
  have HSZ2 := Lib.hid hsz2; clear hsz2
  generalize hA : w1.heap.size = A at *
  have HA := Lib.hid hA; clear hA
  generalize (w1.alloc (.cells (scells (flds s)).toArray 9 (0, 0))) = w2 at *
  have hn2 : (flds s).length ≤ 1000000 := by omega
  have hcs : (scells (flds s)).toArray.size = (flds s).length := by simp [scells]
  have HCS := Lib.hid hcs; clear hcs
  generalize hf : flds s = fs at *
  have HF := Lib.hid hf; clear hf
  have rowA : Row w2 (some ⟨A, 0, none⟩) fs := Row.of_block HG2.out (take_all _)
  have RA := Lib.hid rowA; clear rowA
  have rowV : Row w2 a fs := by obtain ⟨a', c', e, h⟩ := Row.of_owns HO2.out; cases e; exact h
  have RV := Lib.hid rowV; clear rowV
  go_wp2_with fail
  refine (eq_yes fs.length fs.length cap (some ⟨A, 0, none⟩) a fs rfl (by unfold maxLen; omega) w2 RA.out RV.out).mono ?_
  rintro e w3 ⟨rfl, q, rfl⟩
  have HB3 := Lib.hid (HB2.out.trans ((drewN_below w2 q).mono HB2.out.size))
  have HO3 := Lib.hid (show (w2.drewN q).ownsRow w.heap.size 9 1 (.slice a fs.length cap) fs.length (scells fs) from HO2.out)
  have HG3 := Lib.hid (show (w2.drewN q).heap[A]? = some (.cells (scells fs).toArray 9 (0, 0)) from HG2.out)
  clear HO2 HG2 RA RV HSZ2
  generalize w2.drewN q = w3 at *
  go_wp2_with fail
  refine (mark_one A fs.length fs.length hn2 (Nat.le_refl _) _ w3 HG3.out HCS.out).mono ?_
  rintro e w4 ⟨rfl, hmk, hgr⟩
  have HB4 := Lib.hid (HB3.out.grown hgr HB3.out.size (fun j e => by cases e; exact hs1))
  have HO4 := Lib.hid (HO3.out.kept hgr (by
    cases hb : (Value.slice a fs.length cap).ownBlock with
    | none => exact .inl rfl
    | some b => right; intro e; have := HNE.out b hb; cases e; omega))
  have HM4 := Lib.hid hmk; clear hmk hgr
  go_wp2_with fail
  refine (held_one (some ⟨A, 0, none⟩) fs.length fs.length hn2 w4 (marked_row HM4.out)).mono ?_
  rintro e w5 ⟨rfl, hb5⟩
  have HB5 := Lib.hid (HB4.out.trans (hb5.mono HB4.out.size))
  have HO5 := Lib.hid (HO4.out.kept (grown_below hb5 none) (by
    cases hb : (Value.slice a fs.length cap).ownBlock with
    | none => exact .inl rfl
    | some b => right; simp))
  have HM5 := Lib.hid (HM4.out.below hb5); clear hb5
  go_wp2_with fail
  have hyes := split_impl_yes s hm HPL.out (by rw [HF.out]; exact hn) w5 (space_below HSP.out HB5.out hlt)
  rw [HF.out] at hyes
  refine hyes.mono ?_
  rintro e w6 ⟨rfl, rfl⟩
  have hs5 := HB5.out.size
  have hb6 : Below w.heap.size w (w5.alloc (.cells (scells fs).toArray 9 (0, 0))) := HB5.out.alloc hs5 _
  have HB6 := Lib.hid hb6; clear hb6
  have ho6 : (w5.alloc (.cells (scells fs).toArray 9 (0, 0))).ownsRow w.heap.size 9 1 (.slice a fs.length cap) fs.length (scells fs) := HO5.out.alloc _
  have HO6 := Lib.hid ho6; clear ho6
  have hg6 : (w5.alloc (.cells (scells fs).toArray 9 (0, 0))).heap[w5.heap.size]? = some (.cells (scells fs).toArray 9 (0, 0)) := heap_alloc_new w5 _
  have HG6 := Lib.hid hg6; clear hg6
  have hm6 : Marked (w5.alloc (.cells (scells fs).toArray 9 (0, 0))) A fs.length fs.length 1 (scells fs).toArray := HM5.out.below ((Below.refl _ _).alloc (Nat.le_refl _) _)
  have HM6 := Lib.hid hm6; clear hm6
  generalize w5.heap.size = A2 at *
  generalize (w5.alloc (.cells (scells fs).toArray 9 (0, 0))) = w6 at *
  have rowA : Row w6 (some ⟨A2, 0, none⟩) fs := Row.of_block HG6.out (take_all _)
  have RA := Lib.hid rowA; clear rowA
  have rowV : Row w6 a fs := by obtain ⟨a', c', e, h⟩ := Row.of_owns HO6.out; cases e; exact h
  have RV := Lib.hid rowV; clear rowV
  go_wp2_with fail
  refine (eq_yes fs.length fs.length cap (some ⟨A2, 0, none⟩) a fs rfl (by unfold maxLen; omega) w6 RA.out RV.out).mono ?_
  rintro e w7 ⟨rfl, q2, rfl⟩
  have HB7 := Lib.hid (HB6.out.trans ((drewN_below w6 q2).mono HB6.out.size))
  have HM7 := Lib.hid (HM6.out.below (drewN_below w6 q2))
  clear HO6 HG6 RA RV
  generalize w6.drewN q2 = w7 at *
  go_wp2_with fail
  refine (held_one (some ⟨A, 0, none⟩) fs.length fs.length hn2 w7 (marked_row HM7.out)).mono ?_
  rintro e w8 ⟨rfl, hb8⟩
  have HB8 := Lib.hid (HB7.out.trans (hb8.mono HB7.out.size)); clear hb8
  go_wp2
  go_ret
  exact ⟨rfl, HB8.out⟩

theorem post_bad_of_plain {s : ByteArray} {w : World} (hn : ¬ (flds s).length ≤ 24) (h : Calls Tryd.prog 18 #[.string s] w (Post_plain s w)) : Calls Tryd.prog 18 #[.string s] w (Post_bad s w) :=
  h.mono fun e w' ⟨v, he, hb, hv⟩ => by
    rw [if_neg hn] at hv
    obtain ⟨a, c, rfl⟩ := hv
    rw [decide_eq_false hn] at he
    exact ⟨a, c, he, hb⟩

theorem exactSplit (s : ByteArray) (w : World) (hm : s.size ≤ maxLen) (hsp : Space w) :
    Calls Tryd.prog 8 #[.string s] w fun e w' => e = .returned (.bool true) ∧ Below w.heap.size w w' := by
  have hm' := hm
  unfold maxLen at hm'
  by_cases hbig : 1048576 < s.size
  · go_enter Tryd.func8, Tryd.ntmps8
    go_wp2
    go_ret
    exact ⟨rfl, Below.refl _ _⟩
  · by_cases hl : 600 < s.size
    · exact esf_rest_bad s w (by omega) hsp (split_spec_long s hm hl w) (.inl hl)
    · by_cases hp : Plain s
      · by_cases hn : (flds s).length ≤ 24
        · exact esf_rest_good s w (by omega) hp hn hsp
        · exact esf_rest_bad s w (by omega) hsp (post_bad_of_plain hn (split_spec_plain s (by omega) hp w)) (.inr (.inr (by omega)))
      · have hex : ∃ j, ∃ h : j < s.size, s[j].toNat < 32 ∨ 126 < s[j].toNat := by
          apply Classical.byContradiction
          intro hne
          apply hp
          intro i hi
          by_cases c : s[i].toNat < 32 ∨ 126 < s[i].toNat
          · exact absurd ⟨i, hi, c⟩ hne
          · omega
        obtain ⟨j, hj, hb⟩ := hex
        exact esf_rest_bad s w (by omega) hsp (split_spec_bad s (by omega) j hj hb w) (.inr (.inl hp))
end Go.Proofs.YtcagffcmnpakjaaDoor.Strs

/- What the program of chapter 3 returns: CornersOf, IsMountain, IsValley, CountFolds, CountPeaks. -/
import Derived.Test.YtigakakgikcghaaStripImpl
import Derived.Test.YtigakakgikcghaaCornerSpec
import Derived.Test.YtigakakgikcghaaCornerCount
import Derived.Test.YtigakakgikcghaaKit
namespace Go.Proofs.Ytigakakgikcghaa.Corner
open Go.ChangeShapes Go.WideShapes Go.ChangeAt Go.RowKit
open Go.Proofs.Ytigakakgikcghaa.Strip Go.Proofs.Ytigakakgikcghaa.Ints
set_option linter.unusedVariables false

set_option maxRecDepth 100000 in
theorem corners_impl (s : ByteArray) (w : World) (hm : s.size ≤ 1048576) :
    Calls Try.prog 70 #[.string s] w (PostRow w (cornersL s.data.toList)) := by
  obtain ⟨i0, hi, hz0, hz1, hz2⟩ := info_parts info_int
  have hsl : s.data.toList.length = s.size := by simp
  have HSL := Lib.hid hsl; clear hsl
  cases hst : stripB s.data.toList with
  | false =>
    rw [corners_no hst]
    go_enter Try.func70, Try.ntmps70
    go_wp2_with fail
    refine (is_impl s _ hm).mono ?_
    rintro e w1 ⟨rfl, hb⟩
    have HB := Lib.hid hb; clear hb
    rw [hst]
    go_wp2
    go_ret
    exact ⟨_, rfl, HB.out, Own.nil _ _⟩
  | true =>
    have hsz := strip_size hst
    rw [HSL.out] at hsz
    rw [corners_yes hst]
    go_enter Try.func70, Try.ntmps70
    go_wp2_with fail
    refine (is_impl s _ hm).mono ?_
    rintro e w1 ⟨rfl, hb⟩
    have HB0 := Lib.hid hb; clear hb
    rw [hst]
    go_wp2_with fail
    go_loopw [3, 4] (fun v i wr => ∃ k : Nat, k < s.size ∧ i = .int .i64 ((k : Int) + 1) ∧ Hid (Own wr w.heap.size v (turns s.data.toList (k + 1))) ∧ Hid (Below w.heap.size w wr)) (fun _ i _ => s.size - (intOf i).toNat)
    case atStart => exact ⟨0, by omega, rfl, (by rw [turns_one]; exact Own.nil _ _), HB0⟩
    case round =>
      obtain ⟨k, hk, rfl, HO, HB⟩ := hrel
      have hks := HB.out.size
      have HS := Lib.hid hks; clear hks
      have hle := turns_le s.data.toList (k + 1)
      by_cases hlt : k + 1 < s.size
      · have hk0 : (0 : Int) ≤ (k : Int) := Int.natCast_nonneg _
        have hk1 : (k : Int) + 1 < (s.size : Int) := by omega
        have hk2 : (0 : Int) ≤ (k : Int) + 1 := by omega
        have hk3 : (0 : Int) ≤ (k : Int) + 1 - 1 := by omega
        have hk4 : (k : Int) + 1 - 1 < (s.size : Int) := by omega
        have HO2 : ∀ q, Hid (Own (wr.drewN q) w.heap.size u3 (turns s.data.toList (k + 1))) := fun q => Lib.hid (HO.out.below (drewN_below wr q))
        have HB2 : ∀ q, Hid (Below w.heap.size w (wr.drewN q)) := fun q => Lib.hid (HB.out.trans ((drewN_below wr q).mono HS.out))
        by_cases he : s[k + 1] = s[k]
        · have hd := bytes_eq _ _ he.symm
          have ht := turns_no _ _ (turn_no s k hlt he)
          have HT := Lib.hid ht; clear ht he
          go_wp2_with fail
          go_quiet (fail)
          go_wp2
          refine ⟨⟨k + 1, by omega, by go_num, ?_, HB2 _⟩, by simp [intOf]; omega⟩
          rw [HT.out]; exact HO2 _
        · have hd := bytes_ne _ _ (Ne.symm he)
          have ht := turns_yes _ _ (turn_yes s k hlt he)
          have HT := Lib.hid ht; clear ht he
          go_wp2_with fail
          go_quiet (fail)
          go_wp2_with (at_builtin; refine wpList_append_own _ rfl _ _ 50 rfl w.heap.size 3 i0 _ 1 8 Try.underlying50 hi hz0 hz1 hz2 rfl (by decide) u3 (turns s.data.toList (k + 1)).length (icells (turns s.data.toList (k + 1))) rfl ((HO2 _).out.alloc _) ⟨wr.heap.size, 0, none⟩ 1 1 [.int .i64 ((k : Int) + 1)] rfl rfl (World.news_of_block (cs := #[.int .i64 ((k : Int) + 1)]) (t := 3) (fr := (0, 0)) (heap_alloc_new _ _)) (by simp [Value.oneCell']) (by unfold maxLen; omega) (by omega) (by have := HS.out; simp; omega) ?_)
          intro v1 w1 hown1 hgrow _
          have HB3 := Lib.hid (((HB2 _).out.alloc HS.out _).grown hgrow (by have := HS.out; simp; omega) (fun t e => ((HO2 0).out.lt t e).1))
          have HO3 : Hid (Own w1 w.heap.size v1 (turns s.data.toList (k + 1 + 1))) := by
            show World.ownsRow _ _ _ _ _ _ _
            rw [HT.out, icells_snoc, List.length_append]; exact hown1
          clear hown1 hgrow
          go_wp2
          go_roundw
          case rel => exact ⟨k + 1, by omega, by go_num, HO3, HB3⟩
          case measure => simp [intOf]; omega
      · have hke : k + 1 = s.size := by omega
        rw [hke] at HO
        go_wp2
        go_ret
        exact ⟨_, rfl, HB.out, HO.out⟩

/-- slices.Contains at a row of ints. -/
theorem contains_row (a : Option Addr) (c : Nat) (cs : List Int) (x : Int) (w : World) (hr : IRow w a cs) (hn : cs.length ≤ 1048576) :
    Calls Try.prog 69 #[.slice a cs.length c, .int .i64 x] w fun e w' => e = .returned (.bool (cs.contains x)) ∧ w' = w := by
  cases cs with
  | nil => exact Try.slices_Contains_int_empty a c x w
  | cons y ys =>
    obtain ⟨g, rfl, hg, _⟩ := hr 0 (by simp)
    have h := Try.slices_Contains_int g 0 (y :: ys).length c (y :: ys) x w (Nat.le_refl _) (by omega) (fun j hj => by
      obtain ⟨g', e, _, hc⟩ := hr j hj
      cases e
      rw [Nat.zero_add, hc]; simp [List.getD, List.getElem?_eq_getElem hj])
    rw [List.take_length] at h
    exact h

theorem contains_eq (l : List UInt8) (k : Int) : (cornersL l).contains k = (stripB l && decide (1 ≤ k ∧ k < l.length) && turn l k.toNat) := by
  cases h : stripB l with
  | false => rw [corners_no h]; rfl
  | true => rw [corners_yes h, contains_turn]; simp

set_option maxRecDepth 100000 in
theorem corner_impl (s : ByteArray) (k : Int) (x : UInt8) (w : World) (hm : s.size ≤ 1048576) (hk0 : -9223372036854775808 ≤ k) (hk1 : k ≤ 9223372036854775807) :
    Calls Try.prog 59 #[.string s, .int .i64 k, .int .u8 (x.toNat : Int)] w fun e w' => e = .returned (.bool (cornerB x s.data.toList k)) ∧ Below w.heap.size w w' := by
  have hsl : s.data.toList.length = s.size := by simp
  have HSL := Lib.hid hsl; clear hsl
  have hln : (cornersL s.data.toList).length ≤ 1048576 := by
    unfold cornersL
    split
    · exact Nat.le_trans (turns_le _ _) (by rw [HSL.out]; exact hm)
    · simp
  have hce := contains_eq s.data.toList k
  have HC := Lib.hid (corners_impl s w hm)
  cases hb : (cornersL s.data.toList).contains k with
  | false =>
    have hv : cornerB x s.data.toList k = false := by unfold cornerB; rw [hb] at hce; rw [← Bool.and_assoc, ← hce]; simp
    rw [hv]
    clear hv hce
    generalize cornersL s.data.toList = cs at *
    go_enter Try.func59, Try.ntmps59
    go_wp2_with fail
    refine HC.out.mono ?_
    rintro e w1 ⟨v, rfl, hbw, ho⟩
    have HB := Lib.hid hbw; clear hbw
    obtain ⟨a, cap, rfl, hr, _⟩ := ho.row
    have HCT := Lib.hid (contains_row a cap cs k w1 hr hln)
    clear hr ho
    rw [hb] at HCT
    go_wp2_with fail
    refine HCT.out.mono ?_
    rintro e w' ⟨rfl, rfl⟩
    go_wp2
    go_ret
    exact ⟨rfl, HB.out⟩
  | true =>
    have hin : 1 ≤ k ∧ k < (s.size : Int) ∧ stripB s.data.toList = true ∧ turn s.data.toList k.toNat = true := by
      rw [hb, HSL.out] at hce
      have h2 := hce.symm
      simp only [Bool.and_eq_true, decide_eq_true_eq] at h2
      exact ⟨h2.1.2.1, h2.1.2.2, h2.1.1, h2.2⟩
    obtain ⟨h1, h2, h3, h4⟩ := hin
    obtain ⟨j, rfl⟩ : ∃ j : Nat, k = (j : Int) + 1 := ⟨(k - 1).toNat, by omega⟩
    have hj : j + 1 < s.size := by omega
    have hv : cornerB x s.data.toList ((j : Int) + 1) = (s[j] == x) := by
      rw [corner_at x s j hj h3]
      rw [show ((j : Int) + 1).toNat = j + 1 from by omega, turn_eq s j hj] at h4
      rw [h4, Bool.true_and]
    rw [hv]
    have hx := byte_beq s[j] x
    generalize (s[j] == x) = b at *
    clear hv hce h4
    generalize cornersL s.data.toList = cs at *
    have q0 : (0 : Int) ≤ (j : Int) := Int.natCast_nonneg _
    have q1 : (0 : Int) ≤ (j : Int) + 1 - 1 := by omega
    have q2 : (j : Int) + 1 - 1 < (s.size : Int) := by omega
    have q3 : (j : Int) < (s.size : Int) := by omega
    go_enter Try.func59, Try.ntmps59
    go_wp2_with fail
    refine HC.out.mono ?_
    rintro e w1 ⟨v, rfl, hbw, ho⟩
    have HB := Lib.hid hbw; clear hbw
    obtain ⟨a, cap, rfl, hr, _⟩ := ho.row
    have HCT := Lib.hid (contains_row a cap cs ((j : Int) + 1) w1 hr hln)
    clear hr ho
    rw [hb] at HCT
    go_wp2_with fail
    refine HCT.out.mono ?_
    rintro e w' ⟨rfl, rfl⟩
    go_wp2
    go_ret
    exact ⟨rfl, HB.out⟩

theorem mountain_impl (s : ByteArray) (k : Int) (w : World) (hm : s.size ≤ 1048576) (hk0 : -9223372036854775808 ≤ k) (hk1 : k ≤ 9223372036854775807) :
    Calls Try.prog 36 #[.string s, .int .i64 k] w fun e w' => e = .returned (.bool (cornerB 102 s.data.toList k)) ∧ Below w.heap.size w w' := by
  go_enter Try.func36, Try.ntmps36
  go_wp2_with fail
  refine (corner_impl s k 102 _ hm hk0 hk1).mono ?_
  rintro e w' ⟨rfl, hb⟩
  have HB := Lib.hid hb; clear hb
  go_wp2
  go_ret
  exact ⟨rfl, HB.out⟩

theorem valley_impl (s : ByteArray) (k : Int) (w : World) (hm : s.size ≤ 1048576) (hk0 : -9223372036854775808 ≤ k) (hk1 : k ≤ 9223372036854775807) :
    Calls Try.prog 39 #[.string s, .int .i64 k] w fun e w' => e = .returned (.bool (cornerB 100 s.data.toList k)) ∧ Below w.heap.size w w' := by
  go_enter Try.func39, Try.ntmps39
  go_wp2_with fail
  refine (corner_impl s k 100 _ hm hk0 hk1).mono ?_
  rintro e w' ⟨rfl, hb⟩
  have HB := Lib.hid hb; clear hb
  go_wp2
  go_ret
  exact ⟨rfl, HB.out⟩

end Go.Proofs.Ytigakakgikcghaa.Corner

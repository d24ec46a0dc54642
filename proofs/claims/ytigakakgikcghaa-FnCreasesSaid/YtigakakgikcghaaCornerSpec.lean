/- What the model of chapter 3 returns. -/
import Derived.Test.YtigakakgikcghaaStripSpec2
import Derived.Test.YtigakakgikcghaaIntRow
import Derived.Test.YtigakakgikcghaaCorner
namespace Go.Proofs.Ytigakakgikcghaa.Corner
open Go.ChangeShapes Go.WideShapes Go.ChangeAt Go.RowKit
open Go.Proofs.Ytigakakgikcghaa.Strip Go.Proofs.Ytigakakgikcghaa.Ints
set_option linter.unusedVariables false

theorem info_int : (Try.prog.info? 3).map (fun i => (i.zero, i.size, i.bytes)) = some (some (.int .i64 0), 1, 8) := by kernel_rfl

/-- It returns the ints l in memory of its own and leaves all that stood before alone. -/
def PostRow (w : World) (l : List Int) (e : Ending) (w' : World) : Prop := ∃ v, e = .returned v ∧ Below w.heap.size w w' ∧ Own w' w.heap.size v l

theorem byte_beq (a x : UInt8) : ((a.toNat : Int) == (x.toNat : Int)) = (a == x) := by
  by_cases h : a = x
  · rw [byte_eq _ _ h, h]; simp
  · rw [byte_ne _ _ h]; simp [h]
theorem turn_yes (s : ByteArray) (k : Nat) (h : k + 1 < s.size) (hn : s[k + 1] ≠ s[k]) : turn s.data.toList (k + 1) = true := by rw [turn_eq s k h]; simpa using hn
theorem turn_no (s : ByteArray) (k : Nat) (h : k + 1 < s.size) (hn : s[k + 1] = s[k]) : turn s.data.toList (k + 1) = false := by rw [turn_eq s k h]; simpa using hn
theorem bytes_eq (a b : UInt8) (h : a = b) : ((a.toNat : Int) != (b.toNat : Int)) = false := by subst h; simp
theorem bytes_ne (a b : UInt8) (h : a ≠ b) : ((a.toNat : Int) != (b.toNat : Int)) = true := by
  simp only [bne_iff_ne, ne_eq, Int.natCast_inj]
  exact fun e => h (UInt8.toNat_inj.mp e)

set_option maxRecDepth 100000 in
theorem corners_spec (s : ByteArray) (w : World) (hm : s.size ≤ 1048576) :
    Calls Try.prog 33 #[.string s] w (PostRow w (cornersL s.data.toList)) := by
  obtain ⟨i0, hi, hz0, hz1, hz2⟩ := info_parts info_int
  have hsl : s.data.toList.length = s.size := by simp
  have HSL := Lib.hid hsl; clear hsl
  cases hst : stripB s.data.toList with
  | false =>
    rw [corners_no hst]
    go_enter Try.func33, Try.ntmps33
    go_wp2_with fail
    refine wp_loop_rounds 1 ?_
    rw [rounds_succ]
    by_cases h1 : 1 < s.size
    · go_wp2_with fail
      refine (is_spec s _ hm).mono ?_
      rintro e w' ⟨rfl, rfl⟩
      rw [hst]
      go_wp2
      go_ret
      exact ⟨_, rfl, (Below.refl _ _).alloc (Nat.le_refl _) _, World.ownsRow_made w #[] 0 (Nat.le_refl _) (by unfold maxLen; omega) rfl⟩
    · go_wp2
      go_ret
      exact ⟨_, rfl, (Below.refl _ _).alloc (Nat.le_refl _) _, World.ownsRow_made w #[] 0 (Nat.le_refl _) (by unfold maxLen; omega) rfl⟩
  | true =>
    have hsz := strip_size hst
    rw [HSL.out] at hsz
    rw [corners_yes hst]
    go_enter Try.func33, Try.ntmps33
    go_wp2_with fail
    go_loopw [3, 4] (fun v i wr => ∃ k : Nat, k < s.size ∧ i = .int .i64 ((k : Int) + 1) ∧ Hid (Own wr w.heap.size v (turns s.data.toList (k + 1))) ∧ Hid (Below w.heap.size w wr)) (fun _ i _ => s.size - (intOf i).toNat)
    case atStart => exact ⟨0, by omega, rfl, (by rw [turns_one]; exact World.ownsRow_made w #[] 0 (Nat.le_refl _) (by unfold maxLen; omega) rfl), (Below.refl _ _).alloc (Nat.le_refl _) _⟩
    case round =>
      obtain ⟨k, hk, rfl, HO, HB⟩ := hrel
      have hks := HB.out.size
      have HS := Lib.hid hks; clear hks
      have hle := turns_le s.data.toList (k + 1)
      by_cases hlt : k + 1 < s.size
      · have hk0 : (0 : Int) ≤ (k : Int) := Int.natCast_nonneg _
        have hk1 : (k : Int) + 1 < (s.size : Int) := by omega
        have hk2 : (0 : Int) ≤ (k : Int) + 1 := by omega
        have hk3 : (0 : Int) ≤ (k : Int) + 1 - 1 := by omega
        have hk4 : (k : Int) + 1 - 1 < (s.size : Int) := by omega
        have HO2 : ∀ q, Hid (Own (wr.drewN q) w.heap.size u3 (turns s.data.toList (k + 1))) := fun q => Lib.hid (HO.out.below (drewN_below wr q))
        have HB2 : ∀ q, Hid (Below w.heap.size w (wr.drewN q)) := fun q => Lib.hid (HB.out.trans ((drewN_below wr q).mono HS.out))
        by_cases he : s[k + 1] = s[k]
        · have hd := bytes_eq _ _ he
          have ht := turns_no _ _ (turn_no s k hlt he)
          have HT := Lib.hid ht; clear ht he
          go_wp2_with fail
          refine (is_spec s _ hm).mono ?_
          rintro e w' ⟨rfl, rfl⟩
          rw [hst]
          go_wp2_with fail
          go_quiet (fail)
          go_wp2
          refine ⟨⟨k + 1, by omega, by go_num, ?_, HB2 _⟩, by simp [intOf]; omega⟩
          rw [HT.out]; exact HO2 _
        · have hd := bytes_ne _ _ he
          have ht := turns_yes _ _ (turn_yes s k hlt he)
          have HT := Lib.hid ht; clear ht he
          go_wp2_with fail
          refine (is_spec s _ hm).mono ?_
          rintro e w' ⟨rfl, rfl⟩
          rw [hst]
          go_wp2_with fail
          go_quiet (fail)
          go_wp2_with (at_builtin; refine wpList_append_own _ rfl _ _ 50 rfl w.heap.size 3 i0 _ 1 8 Try.underlying50 hi hz0 hz1 hz2 rfl (by decide) u3 (turns s.data.toList (k + 1)).length (icells (turns s.data.toList (k + 1))) rfl ((HO2 _).out.alloc _) ⟨wr.heap.size, 0, none⟩ 1 1 [.int .i64 ((k : Int) + 1)] rfl rfl (World.news_of_block (cs := #[.int .i64 ((k : Int) + 1)]) (t := 3) (fr := (0, 0)) (heap_alloc_new _ _)) (by simp [Value.oneCell']) (by unfold maxLen; omega) (by omega) (by have := HS.out; simp; omega) ?_)
          intro v1 w1 hown1 hgrow _
          have HB3 := Lib.hid (((HB2 _).out.alloc HS.out _).grown hgrow (by have := HS.out; simp; omega) (fun t e => ((HO2 0).out.lt t e).1))
          have HO3 : Hid (Own w1 w.heap.size v1 (turns s.data.toList (k + 1 + 1))) := by
            show World.ownsRow _ _ _ _ _ _ _
            rw [HT.out, icells_snoc, List.length_append]; exact hown1
          clear hown1 hgrow
          go_wp2
          go_roundw
          case rel => exact ⟨k + 1, by omega, by go_num, HO3, HB3⟩
          case measure => simp [intOf]; omega
      · have hke : k + 1 = s.size := by omega
        rw [hke] at HO
        go_wp2
        go_ret
        exact ⟨_, rfl, HB.out, HO.out⟩

theorem corner_no (x : UInt8) (l : List UInt8) (k : Int) (h : stripB l = false ∨ ¬ (1 ≤ k ∧ k < (l.length : Int))) : cornerB x l k = false := by
  unfold cornerB
  rcases h with h | h
  · rw [h]; rfl
  · rw [decide_eq_false h]; simp
theorem corner_at (x : UInt8) (s : ByteArray) (j : Nat) (h : j + 1 < s.size) (hs : stripB s.data.toList = true) : cornerB x s.data.toList ((j : Int) + 1) = ((s[j + 1] != s[j]) && (s[j] == x)) := by
  unfold cornerB
  have hl : s.data.toList.length = s.size := by simp
  rw [hs, hl, decide_eq_true (by omega), show ((j : Int) + 1).toNat = j + 1 from by omega, turn_eq s j h, show j + 1 - 1 = j from rfl, at_get s j (by omega)]
  simp

set_option maxRecDepth 100000 in
theorem corner_spec (s : ByteArray) (k : Int) (x : UInt8) (w : World) (hm : s.size ≤ 1048576) (hk0 : -9223372036854775808 ≤ k) (hk1 : k ≤ 9223372036854775807) :
    Calls Try.prog 58 #[.string s, .int .i64 k, .int .u8 (x.toNat : Int)] w fun e w' => e = .returned (.bool (cornerB x s.data.toList k)) ∧ Below w.heap.size w w' := by
  have hsl : s.data.toList.length = s.size := by simp
  have HSL := Lib.hid hsl; clear hsl
  have his : ∀ w : World, Calls Try.prog 31 #[.string s] w fun e w' => e = .returned (.bool (stripB s.data.toList)) ∧ w = w' := fun w => is_spec s w hm
  cases hst : stripB s.data.toList with
  | false =>
    rw [hst] at his
    have HIS := Lib.hid his; clear his
    rw [corner_no _ _ _ (.inl hst)]
    go_enter Try.func58, Try.ntmps58
    go_wp2_with fail
    go_quiet ((go_at_call 31; refine qsame (HIS.out _)))
    go_wp2
    go_ret
    exact ⟨rfl, drewN_below _ _⟩
  | true =>
    rw [hst] at his
    have HIS := Lib.hid his; clear his
    by_cases hr : 1 ≤ k ∧ k ≤ (s.size : Int) - 1
    · obtain ⟨j, rfl⟩ : ∃ j : Nat, k = (j : Int) + 1 := ⟨(k - 1).toNat, by omega⟩
      have hj : j + 1 < s.size := by omega
      have hd := decide_eq_true hr
      have hin : ∀ w : World, Calls Try.prog 42 #[.int .i64 ((j : Int) + 1), .int .i64 1, .int .i64 ((s.size : Int) - 1)] w fun e w' => e = .returned (.bool true) ∧ w = w' := fun w => by
        have h := in_at ((j : Int) + 1) 1 ((s.size : Int) - 1) w
        rw [hd] at h; exact h
      have HIN := Lib.hid hin; clear hin
      have hc := corner_at x s j hj hst
      have HC := Lib.hid hc; clear hc
      have q0 : (0 : Int) ≤ (j : Int) := Int.natCast_nonneg _
      have q1 : (j : Int) + 1 < (s.size : Int) := by omega
      have q2 : (0 : Int) ≤ (j : Int) + 1 := by omega
      have q3 : (0 : Int) ≤ (j : Int) + 1 - 1 := by omega
      have q4 : (j : Int) + 1 - 1 < (s.size : Int) := by omega
      have q5 : (j : Int) < (s.size : Int) := by omega
      by_cases he : s[j + 1] = s[j]
      · have hn := bytes_eq _ _ he
        have hv : (s[j + 1] != s[j] && s[j] == x) = false := by rw [he]; simp
        rw [HC.out, hv]
        clear he hv
        go_enter Try.func58, Try.ntmps58
        go_wp2_with fail
        go_quiet ((first | (go_at_call 31; refine qsame (HIS.out _)) | (go_at_call 42; refine qsame (HIN.out _))))
        go_wp2
        go_ret
        exact ⟨rfl, drewN_below _ _⟩
      · have hn := bytes_ne _ _ he
        have hv : (s[j + 1] != s[j] && s[j] == x) = (s[j] == x) := by simp [he]
        rw [HC.out, hv]
        clear he hv
        have hx := byte_beq s[j] x
        generalize (s[j] == x) = b at *
        go_enter Try.func58, Try.ntmps58
        go_wp2_with fail
        go_quiet ((first | (go_at_call 31; refine qsame (HIS.out _)) | (go_at_call 42; refine qsame (HIN.out _))))
        go_wp2
        go_ret
        exact ⟨rfl, drewN_below _ _⟩
    · have hd := decide_eq_false hr
      have hin : ∀ w : World, Calls Try.prog 42 #[.int .i64 k, .int .i64 1, .int .i64 ((s.size : Int) - 1)] w fun e w' => e = .returned (.bool false) ∧ w = w' := fun w => by
        have h := in_at k 1 ((s.size : Int) - 1) w
        rw [hd] at h; exact h
      have HIN := Lib.hid hin; clear hin
      rw [corner_no _ _ _ (.inr (by rw [HSL.out]; omega))]
      go_enter Try.func58, Try.ntmps58
      go_wp2_with fail
      go_quiet ((first | (go_at_call 31; refine qsame (HIS.out _)) | (go_at_call 42; refine qsame (HIN.out _))))
      go_wp2
      go_ret
      exact ⟨rfl, drewN_below _ _⟩

theorem mountain_spec (s : ByteArray) (k : Int) (w : World) (hm : s.size ≤ 1048576) (hk0 : -9223372036854775808 ≤ k) (hk1 : k ≤ 9223372036854775807) :
    Calls Try.prog 32 #[.string s, .int .i64 k] w fun e w' => e = .returned (.bool (cornerB 102 s.data.toList k)) ∧ Below w.heap.size w w' := by
  go_enter Try.func32, Try.ntmps32
  go_wp2_with fail
  refine (corner_spec s k 102 _ hm hk0 hk1).mono ?_
  rintro e w' ⟨rfl, hb⟩
  have HB := Lib.hid hb; clear hb
  go_wp2
  go_ret
  exact ⟨rfl, HB.out⟩

theorem valley_spec (s : ByteArray) (k : Int) (w : World) (hm : s.size ≤ 1048576) (hk0 : -9223372036854775808 ≤ k) (hk1 : k ≤ 9223372036854775807) :
    Calls Try.prog 62 #[.string s, .int .i64 k] w fun e w' => e = .returned (.bool (cornerB 100 s.data.toList k)) ∧ Below w.heap.size w w' := by
  go_enter Try.func62, Try.ntmps62
  go_wp2_with fail
  refine (corner_spec s k 100 _ hm hk0 hk1).mono ?_
  rintro e w' ⟨rfl, hb⟩
  have HB := Lib.hid hb; clear hb
  go_wp2
  go_ret
  exact ⟨rfl, HB.out⟩

set_option maxRecDepth 100000 in
theorem folds_spec (s : ByteArray) (w : World) (hm : s.size ≤ 1048576) :
    Calls Try.prog 14 #[.string s] w fun e w' => e = .returned (.int .i64 (foldsV s.data.toList)) ∧ Below w.heap.size w w' := by
  have hsl : s.data.toList.length = s.size := by simp
  have HSL := Lib.hid hsl; clear hsl
  cases hst : stripB s.data.toList with
  | false =>
    have hv : foldsV s.data.toList = -1 := by unfold foldsV; rw [hst]; rfl
    rw [hv]
    go_enter Try.func14, Try.ntmps14
    go_wp2_with fail
    refine (is_spec s _ hm).mono ?_
    rintro e w' ⟨rfl, rfl⟩
    rw [hst]
    go_wp2
    go_ret
    exact ⟨rfl, Below.refl _ _⟩
  | true =>
    have hz := strip_size hst
    rw [HSL.out] at hz
    obtain ⟨m, hm1⟩ : ∃ m, s.size = m + 1 := ⟨s.size - 1, by omega⟩
    have h0 : 0 < s.size := by omega
    have hl : m < s.size := by omega
    have hv : foldsV s.data.toList = ((turns s.data.toList s.size).length : Int) + one (s[0] == 102) + one (s[m] == 100) := by
      unfold foldsV
      rw [hst, if_pos rfl, HSL.out, at_get s 0 h0, show s.size - 1 = m from by omega, at_get s m hl]
      simp
    have hcl := turns_le s.data.toList s.size
    have hcs : cornersL s.data.toList = turns s.data.toList s.size := by rw [corners_yes hst, HSL.out]
    have hc := corners_spec s w hm
    rw [hcs] at hc
    have HC := Lib.hid hc; clear hc hcs
    have q1 : (0 : Int) ≤ (s.size : Int) - 1 := by omega
    have q2 : (s.size : Int) - 1 < (s.size : Int) := by omega
    have q3 : ((s.size : Int) - 1).toNat = m := by omega
    rw [hv]
    clear hv
    generalize turns s.data.toList s.size = cs at *
    cases ha : (s[0] == 102) <;> cases hb : (s[m] == 100)
    all_goals
      have ha' : ((s[0].toNat : Int) == 102) = (s[0] == 102) := byte_beq _ 102
      have hb' : ((s[m].toNat : Int) == 100) = (s[m] == 100) := byte_beq _ 100
      rw [ha] at ha'
      rw [hb] at hb'
      clear ha hb
      go_enter Try.func14, Try.ntmps14
      go_wp2_with fail
      refine (is_spec s _ hm).mono ?_
      rintro e w' ⟨rfl, rfl⟩
      rw [hst]
      go_wp2_with fail
      refine HC.out.mono ?_
      rintro e w1 ⟨v, rfl, hbw, ho⟩
      have HB := Lib.hid hbw; clear hbw
      obtain ⟨a, cap, rfl, _, _⟩ := ho.row
      clear ho
      go_wp2
      go_ret
      refine ⟨?_, HB.out⟩
      simp [one]
      try omega
end Go.Proofs.Ytigakakgikcghaa.Corner

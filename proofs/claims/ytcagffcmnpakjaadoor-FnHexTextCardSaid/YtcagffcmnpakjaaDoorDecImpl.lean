/- What impl.DecodeHex returns. -/
import Derived.Test.YtcagffcmnpakjaaDoorDecPlain
import Derived.Test.YtcagffcmnpakjaaDoorKit
import Derived.OwnWalk
import Derived.Deep.AppendLies
namespace Go.Proofs.YtcagffcmnpakjaaDoor.Bytes
open Go.ChangeShapes Go.WideShapes Go.ChangeAt Go.RowKit
set_option linter.unusedVariables false

theorem index_val : ∀ n : Fin 256, Lib.indexByte [48, 49, 50, 51, 52, 53, 54, 55, 56, 57, 97, 98, 99, 100, 101, 102] n.val.toUInt8 = valI (n.val : Int) := by decide +kernel

theorem index_at (c : Int) (h0 : 0 ≤ c) (h1 : c ≤ 255) (w : World) :
    Calls Tryd.prog 31 #[.string ⟨#[48, 49, 50, 51, 52, 53, 54, 55, 56, 57, 97, 98, 99, 100, 101, 102]⟩, .int .u8 c] w fun e w' => e = .returned (.int .i64 (valI c)) ∧ w = w' := by
  obtain ⟨n, rfl⟩ := Int.eq_ofNat_of_zero_le h0
  have h := index_val ⟨n, by omega⟩
  refine (Tryd.strings_IndexByte ⟨#[48, 49, 50, 51, 52, 53, 54, 55, 56, 57, 97, 98, 99, 100, 101, 102]⟩ n w).mono ?_
  rintro e w' ⟨rfl, rfl⟩
  rw [← h]
  exact ⟨rfl, rfl⟩


set_option maxHeartbeats 400000 in
theorem dec_impl_yes (s : ByteArray) (w : World) (hs : s.size ≤ 40000) (hev : s.size % 2 = 0) (j0 : Nat) (hg : ∀ j, j < j0 → good s j) (hj0 : 2 * j0 = s.size) :
    Calls Tryd.prog 13 #[.string s] w fun e w' => e = .returned (.tuple #[.string ⟨(outs s j0).toArray⟩, .bool true]) ∧ Below w.heap.size w w' := by
  obtain ⟨i0, hi, hz0, hz1, hz2⟩ := info_parts info_u8
  have ev : ((s.size : Int) % 2 != 0) = false := by simp; omega
  have lo : decide (40000 < (s.size : Int)) = false := by simp; omega
  have HJ := Lib.hid hj0; clear hj0
  have HE := Lib.hid hev; clear hev
  have HG := Lib.hid hg; clear hg
  obtain ⟨w1, hmk, hown1, hg1⟩ := run_make_own (P := Tryd.prog) w w.heap.size 22 5 i0 _ 1 Tryd.underlying22 hi hz0 hz1 .i64 .i64 (s.size / 2) (by rw [hz2]; omega) (by unfold maxLen; omega) (Nat.le_refl _)
  rw [show ((s.size / 2 : Nat) : Int) = (s.size : Int) / 2 from by omega] at hmk
  have HO1 := Lib.hid hown1; clear hown1
  have HG1 := Lib.hid hg1; clear hg1
  go_enter Tryd.func13, Tryd.ntmps13
  go_wp2_with fail
  clear hmk
  go_loopw [4, 5] (fun v i wr => ∃ m j : Nat, Hid (m = 2 * j) ∧ j ≤ j0 ∧ i = .int .i64 m ∧ wr.ownsRow w.heap.size 5 1 v j (bcells (outs s j)) ∧ Below w.heap.size w wr) (fun _ i _ => s.size - (intOf i).toNat)
  case atStart => exact ⟨0, 0, rfl, Nat.zero_le _, rfl, HO1.out, (Below.refl _ _).grown HG1.out (Nat.le_refl _) (by simp)⟩
  case round =>
    obtain ⟨m, j, hmj, hjj, rfl, hown, hb⟩ := hrel
    have HO := Lib.hid hown; clear hown
    have HB := Lib.hid hb; clear hb
    have hsz : w.heap.size ≤ wr.heap.size := HB.out.size
    have HS := Lib.hid hsz; clear hsz
    by_cases hlt : j < j0
    · have hgd := HG.out j hlt
      have hn := outs_succ s j hgd
      have hm1 : m < s.size := by have := hmj.out; have := HJ.out; omega
      have hm2 : m + 1 < s.size := by have := hmj.out; have := HJ.out; have := HE.out; omega
      have hk0 : (0 : Int) ≤ (m : Int) := Int.natCast_nonneg _
      have hk1 : (m : Int) < (s.size : Int) := by omega
      have hk2 : (m : Int) + 1 < (s.size : Int) := by omega
      have hb1 := bt_bd s (2 * j)
      have hb2 := bt_bd s (2 * j + 1)
      have hx : (s[m].toNat : Int) = bt s (2 * j) := by rw [bt_at, hmj.out]
      have hy : (s[m + 1].toNat : Int) = bt s (2 * j + 1) := by rw [bt_at, hmj.out]
      have hvx := valI_bd (bt s (2 * j))
      have hvy := valI_bd (bt s (2 * j + 1))
      obtain ⟨g1, g2⟩ := hgd
      have HN := Lib.hid hn; clear hn
      generalize bt s (2 * j) = x at *
      generalize bt s (2 * j + 1) = y at *
      obtain ⟨p, hp⟩ : ∃ p, valI x = p := ⟨_, rfl⟩
      obtain ⟨q, hq⟩ : ∃ q, valI y = q := ⟨_, rfl⟩
      rw [hp] at g1 hvx HN
      rw [hq] at g2 hvy HN
      have n1 : decide (p < 0) = false := by simp; omega
      have n2 : decide (q < 0) = false := by simp; omega
      have n1' : ¬ p < 0 := by omega
      have n2' : ¬ q < 0 := by omega
      have hor := or16 p q g1 hvx.2 g2 hvy.2
      have HP := Lib.hid hp; clear hp
      have HQ := Lib.hid hq; clear hq
      go_wp2_with fail
      refine (index_at x hb1.1 hb1.2 _).mono ?_
      rintro e w' ⟨rfl, rfl⟩
      rw [HP.out]
      go_wp2_with fail
      refine (index_at y hb2.1 hb2.2 _).mono ?_
      rintro e w' ⟨rfl, rfl⟩
      rw [HQ.out]
      go_wp2_with (at_builtin; refine wpList_append_own _ rfl _ _ 22 rfl w.heap.size 5 i0 _ 1 1 Tryd.underlying22 hi hz0 hz1 hz2 rfl (by decide) u4 j (bcells (outs s j)) rfl (HO.out.alloc _) ⟨wr.heap.size, 0, none⟩ 1 1 [.int .u8 (16 * p + q)] rfl rfl ?c1 ?c2 ?c3 ?c4 ?c5 ?_)
      case c1 => exact World.news_of_block (cs := #[.int .u8 (16 * p + q)]) (t := 5) (fr := (0, 0)) (heap_alloc_new wr _)
      case c2 => simp [Value.oneCell']
      case c3 => have := HJ.out; unfold maxLen; omega
      case c4 => have := HJ.out; omega
      case c5 => have := HS.out; simp; omega
      intro v1 w1 hown1 hgrow _
      have HB2 := Lib.hid ((HB.out.alloc HS.out _).grown hgrow (by have := HS.out; simp; omega) (fun t e => (HO.out.lt t e).1))
      have HO2 := Lib.hid hown1
      clear hown1 hgrow
      go_wp2
      go_roundw
      case rel => exact ⟨m + 2, j + 1, by show m + 2 = 2 * (j + 1); have := hmj.out; omega, by omega, by go_num, by rw [HN.out]; exact HO2.out, HB2.out⟩
      case measure => simp [intOf]; omega
    · have hjj' : j = j0 := by omega
      subst hjj'
      have hconv := run_string_owned HO.out
      have hms : m = s.size := by rw [hmj.out]; exact HJ.out
      have hmn : ¬ (m : Int) < (s.size : Int) := by omega
      clear hms
      go_wp2
      go_ret2
      exact ⟨rfl, HB.out⟩

set_option maxHeartbeats 400000 in
theorem dec_impl_no (s : ByteArray) (w : World) (hs : s.size ≤ 40000) (hev : s.size % 2 = 0) (j0 : Nat) (hg : ∀ j, j < j0 → good s j) (hj0 : 2 * j0 < s.size) (hbad : ¬ good s j0) :
    Calls Tryd.prog 13 #[.string s] w fun e w' => e = .returned (.tuple #[.string ⟨#[]⟩, .bool false]) ∧ Below w.heap.size w w' := by
  obtain ⟨i0, hi, hz0, hz1, hz2⟩ := info_parts info_u8
  have ev : ((s.size : Int) % 2 != 0) = false := by simp; omega
  have lo : decide (40000 < (s.size : Int)) = false := by simp; omega
  have HJ := Lib.hid hj0; clear hj0
  have HE := Lib.hid hev; clear hev
  have HG := Lib.hid hg; clear hg
  obtain ⟨w1, hmk, hown1, hg1⟩ := run_make_own (P := Tryd.prog) w w.heap.size 22 5 i0 _ 1 Tryd.underlying22 hi hz0 hz1 .i64 .i64 (s.size / 2) (by rw [hz2]; omega) (by unfold maxLen; omega) (Nat.le_refl _)
  rw [show ((s.size / 2 : Nat) : Int) = (s.size : Int) / 2 from by omega] at hmk
  have HO1 := Lib.hid hown1; clear hown1
  have HG1 := Lib.hid hg1; clear hg1
  go_enter Tryd.func13, Tryd.ntmps13
  go_wp2_with fail
  clear hmk
  go_loopw [4, 5] (fun v i wr => ∃ m j : Nat, Hid (m = 2 * j) ∧ j ≤ j0 ∧ i = .int .i64 m ∧ wr.ownsRow w.heap.size 5 1 v j (bcells (outs s j)) ∧ Below w.heap.size w wr) (fun _ i _ => s.size - (intOf i).toNat)
  case atStart => exact ⟨0, 0, rfl, Nat.zero_le _, rfl, HO1.out, (Below.refl _ _).grown HG1.out (Nat.le_refl _) (by simp)⟩
  case round =>
    obtain ⟨m, j, hmj, hjj, rfl, hown, hb⟩ := hrel
    have HO := Lib.hid hown; clear hown
    have HB := Lib.hid hb; clear hb
    have hsz : w.heap.size ≤ wr.heap.size := HB.out.size
    have HS := Lib.hid hsz; clear hsz
    by_cases hlt : j < j0
    · have hgd := HG.out j hlt
      have hn := outs_succ s j hgd
      have hm1 : m < s.size := by have := hmj.out; have := HJ.out; omega
      have hm2 : m + 1 < s.size := by have := hmj.out; have := HJ.out; have := HE.out; omega
      have hk0 : (0 : Int) ≤ (m : Int) := Int.natCast_nonneg _
      have hk1 : (m : Int) < (s.size : Int) := by omega
      have hk2 : (m : Int) + 1 < (s.size : Int) := by omega
      have hb1 := bt_bd s (2 * j)
      have hb2 := bt_bd s (2 * j + 1)
      have hx : (s[m].toNat : Int) = bt s (2 * j) := by rw [bt_at, hmj.out]
      have hy : (s[m + 1].toNat : Int) = bt s (2 * j + 1) := by rw [bt_at, hmj.out]
      have hvx := valI_bd (bt s (2 * j))
      have hvy := valI_bd (bt s (2 * j + 1))
      obtain ⟨g1, g2⟩ := hgd
      have HN := Lib.hid hn; clear hn
      generalize bt s (2 * j) = x at *
      generalize bt s (2 * j + 1) = y at *
      obtain ⟨p, hp⟩ : ∃ p, valI x = p := ⟨_, rfl⟩
      obtain ⟨q, hq⟩ : ∃ q, valI y = q := ⟨_, rfl⟩
      rw [hp] at g1 hvx HN
      rw [hq] at g2 hvy HN
      have n1 : decide (p < 0) = false := by simp; omega
      have n2 : decide (q < 0) = false := by simp; omega
      have n1' : ¬ p < 0 := by omega
      have n2' : ¬ q < 0 := by omega
      have hor := or16 p q g1 hvx.2 g2 hvy.2
      have HP := Lib.hid hp; clear hp
      have HQ := Lib.hid hq; clear hq
      go_wp2_with fail
      refine (index_at x hb1.1 hb1.2 _).mono ?_
      rintro e w' ⟨rfl, rfl⟩
      rw [HP.out]
      go_wp2_with fail
      refine (index_at y hb2.1 hb2.2 _).mono ?_
      rintro e w' ⟨rfl, rfl⟩
      rw [HQ.out]
      go_wp2_with (at_builtin; refine wpList_append_own _ rfl _ _ 22 rfl w.heap.size 5 i0 _ 1 1 Tryd.underlying22 hi hz0 hz1 hz2 rfl (by decide) u4 j (bcells (outs s j)) rfl (HO.out.alloc _) ⟨wr.heap.size, 0, none⟩ 1 1 [.int .u8 (16 * p + q)] rfl rfl ?c1 ?c2 ?c3 ?c4 ?c5 ?_)
      case c1 => exact World.news_of_block (cs := #[.int .u8 (16 * p + q)]) (t := 5) (fr := (0, 0)) (heap_alloc_new wr _)
      case c2 => simp [Value.oneCell']
      case c3 => have := HJ.out; unfold maxLen; omega
      case c4 => have := HJ.out; omega
      case c5 => have := HS.out; simp; omega
      intro v1 w1 hown1 hgrow _
      have HB2 := Lib.hid ((HB.out.alloc HS.out _).grown hgrow (by have := HS.out; simp; omega) (fun t e => (HO.out.lt t e).1))
      have HO2 := Lib.hid hown1
      clear hown1 hgrow
      go_wp2
      go_roundw
      case rel => exact ⟨m + 2, j + 1, by show m + 2 = 2 * (j + 1); have := hmj.out; omega, by omega, by go_num, by rw [HN.out]; exact HO2.out, HB2.out⟩
      case measure => simp [intOf]; omega
    · have hjj' : j = j0 := by omega
      subst hjj'
      have hm1 : m < s.size := by have := hmj.out; have := HJ.out; omega
      have hm2 : m + 1 < s.size := by have := hmj.out; have := HJ.out; have := HE.out; omega
      have hk0 : (0 : Int) ≤ (m : Int) := Int.natCast_nonneg _
      have hk1 : (m : Int) < (s.size : Int) := by omega
      have hk2 : (m : Int) + 1 < (s.size : Int) := by omega
      have hb1 := bt_bd s (2 * j)
      have hb2 := bt_bd s (2 * j + 1)
      have hx : (s[m].toNat : Int) = bt s (2 * j) := by rw [bt_at, hmj.out]
      have hy : (s[m + 1].toNat : Int) = bt s (2 * j + 1) := by rw [bt_at, hmj.out]
      have hvx := valI_bd (bt s (2 * j))
      have hvy := valI_bd (bt s (2 * j + 1))
      have hnb := hbad
      clear hbad
      unfold good at hnb
      have HNB := Lib.hid hnb; clear hnb
      generalize bt s (2 * j) = x at *
      generalize bt s (2 * j + 1) = y at *
      obtain ⟨p, hp⟩ : ∃ p, valI x = p := ⟨_, rfl⟩
      obtain ⟨q, hq⟩ : ∃ q, valI y = q := ⟨_, rfl⟩
      have HP := Lib.hid hp; clear hp
      have HQ := Lib.hid hq; clear hq
      rw [HP.out] at hvx HNB
      rw [HQ.out] at hvy HNB
      by_cases n1 : p < 0
      · go_wp2_with fail
        refine (index_at x hb1.1 hb1.2 _).mono ?_
        rintro e w' ⟨rfl, rfl⟩
        rw [HP.out]
        go_wp2_with fail
        refine (index_at y hb2.1 hb2.2 _).mono ?_
        rintro e w' ⟨rfl, rfl⟩
        rw [HQ.out]
        go_wp2
        go_ret2
        exact ⟨rfl, HB.out⟩
      · have n2 : q < 0 := by have := HNB.out; omega
        have n1' : decide (p < 0) = false := by simpa using n1
        go_wp2_with fail
        refine (index_at x hb1.1 hb1.2 _).mono ?_
        rintro e w' ⟨rfl, rfl⟩
        rw [HP.out]
        go_wp2_with fail
        refine (index_at y hb2.1 hb2.2 _).mono ?_
        rintro e w' ⟨rfl, rfl⟩
        rw [HQ.out]
        go_wp2
        go_ret2
        exact ⟨rfl, HB.out⟩

theorem dec_impl_bad (s : ByteArray) (w : World) (hm : s.size ≤ maxLen) (h : 40000 < s.size ∨ s.size % 2 = 1) :
    Calls Tryd.prog 13 #[.string s] w fun e w' => e = .returned (.tuple #[.string ⟨#[]⟩, .bool false]) ∧ w = w' := by
  unfold maxLen at hm
  by_cases ho : s.size % 2 = 1
  · have ev : ((s.size : Int) % 2 != 0) = true := by simp; omega
    have HO := Lib.hid ho; clear ho
    by_cases hl : 40000 < s.size
    · have lo : decide (40000 < (s.size : Int)) = true := by simp; omega
      clear h
      go_enter Tryd.func13, Tryd.ntmps13
      go_wp2
      go_ret2
      exact ⟨rfl, rfl⟩
    · have lo : decide (40000 < (s.size : Int)) = false := by simp; omega
      clear h
      go_enter Tryd.func13, Tryd.ntmps13
      go_wp2
      go_ret2
      exact ⟨rfl, rfl⟩
  · have ev : ((s.size : Int) % 2 != 0) = false := by simp; omega
    have hl : 40000 < s.size := by omega
    have lo : decide (40000 < (s.size : Int)) = true := by simp; omega
    clear h ho
    go_enter Tryd.func13, Tryd.ntmps13
    go_wp2
    go_ret2
    exact ⟨rfl, rfl⟩
end Go.Proofs.YtcagffcmnpakjaaDoor.Bytes

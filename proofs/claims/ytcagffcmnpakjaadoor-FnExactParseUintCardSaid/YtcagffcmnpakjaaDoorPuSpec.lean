/- What spec.ParseUint returns. -/
import Derived.Test.YtcagffcmnpakjaaDoorDecimal
import Derived.Test.YtcagffcmnpakjaaDoorFmtSpec
namespace Go.Proofs.YtcagffcmnpakjaaDoor.Bytes
open Go.ChangeShapes Go.WideShapes Go.ChangeAt Go.RowKit Go.Proofs.YtcagffcmnpakjaaDoor.Decimal
set_option linter.unusedVariables false

theorem byte_digit {s : ByteArray} {k u : Nat} (hk : k < s.size) (h : Lib.decFrom 0 (s.data.toList.take k) = some u) (h0 : 48 ≤ s[k].toNat) (h1 : s[k].toNat ≤ 57) :
    Lib.decFrom 0 (s.data.toList.take (k + 1)) = some (u * 10 + (s[k].toNat - 48)) := by
  refine Lib.decFrom_take s.data.toList k 0 u s[k] (s[k].toNat - 48) h ?_ (by unfold Lib.digitVal; rw [if_pos ⟨h0, h1⟩])
  have hk' : k < s.data.size := hk
  rw [List.getElem?_eq_getElem (by simpa using hk')]
  rfl

theorem digit_in {s : ByteArray} {k n : Nat} (hk : k < s.size) (h : Lib.decFrom 0 s.data.toList = some n) : 48 ≤ s[k].toNat ∧ s[k].toNat ≤ 57 := by
  have hk' : k < s.data.size := hk
  obtain ⟨d, hd⟩ := Lib.digit_of_decFrom s.data.toList 0 n h k s[k] (by rw [List.getElem?_eq_getElem (by simpa using hk')]; rfl)
  unfold Lib.digitVal at hd
  split at hd
  · assumption
  · cases hd

theorem take_bd {l : List UInt8} {k u : Nat} (h : Lib.decFrom 0 (l.take k) = some u) (hl : l.length ≤ 10) : u < 10000000000 :=
  decFrom_bd h (by have := List.length_take_le k l; simp; omega)

/-- The text of a number is not the given one: as bytes. -/
theorem text_ne {s : ByteArray} {l : List UInt8} (h : l ≠ s.data.toList) : (l == s.toList) = false := by
  rw [beq_eq_false_iff_ne, Go.ByteArray.toList_eq]
  exact h

theorem pu_spec_long (s : ByteArray) (w : World) (h : 10 < s.size) (hm : s.size ≤ maxLen) :
    Calls Tryd.prog 21 #[.string s] w fun e w' => e = .returned (.tuple #[.int .i64 0, .bool false]) ∧ Below w.heap.size w w' := by
  unfold maxLen at hm
  go_enter Tryd.func21, Tryd.ntmps21
  go_wp2
  go_ret2
  exact ⟨rfl, Below.refl _ _⟩

set_option maxHeartbeats 400000 in
theorem pu_spec_yes (s : ByteArray) (w : World) (hs : s.size ≤ 10) (n : Nat) (hpu : PU s.data.toList n) :
    Calls Tryd.prog 21 #[.string s] w fun e w' => e = .returned (.tuple #[.int .i64 (n : Int), .bool true]) ∧ Below w.heap.size w w' := by
  have hsl : s.data.toList.length ≤ 10 := by have : s.data.size ≤ 10 := hs; simpa using this
  have HSL := Lib.hid hsl; clear hsl
  have HPU := Lib.hid hpu; clear hpu
  go_enter Tryd.func21, Tryd.ntmps21
  go_wp2_with fail
  go_loopw [4, 5] (fun v i wr => ∃ k u : Nat, k ≤ s.size ∧ u < 10000000000 ∧ i = .int .i64 k ∧ v = .int .i64 u ∧ Hid (Lib.decFrom 0 (s.data.toList.take k) = some u) ∧ wr = w) (fun _ i _ => s.size - (intOf i).toNat)
  case atStart => exact ⟨0, 0, Nat.zero_le _, by omega, rfl, rfl, rfl, rfl⟩
  case round =>
    obtain ⟨k, u, hk, hu, rfl, rfl, hd, rfl⟩ := hrel
    by_cases hlt : k < s.size
    · have hk0 : (0 : Int) ≤ (k : Int) := Int.natCast_nonneg _
      have hk1 : (k : Int) < (s.size : Int) := by omega
      have hdg := digit_in hlt HPU.out.value
      have d0 : (48 : Int) ≤ (s[k].toNat : Int) := by omega
      have d1 : (s[k].toNat : Int) ≤ 57 := by omega
      have hn := byte_digit hlt hd.out hdg.1 hdg.2
      have HN := Lib.hid hn; clear hn
      clear hdg
      have n1 : decide ((s[k].toNat : Int) < 48) = false := by simp; omega
      go_wp2
      refine ⟨⟨k + 1, u * 10 + (s[k].toNat - 48), by omega, take_bd HN.out HSL.out, by go_num, ?_, HN.out, trivial⟩, by simp [intOf]; omega⟩
      congr 1; omega
    · have hks : k = s.size := by omega
      have hall : Lib.decFrom 0 s.data.toList = some u := by
        have := hd.out
        rwa [List.take_of_length_le (by simp [hks])] at this
      have HALL := Lib.hid hall; clear hall hks hd
      obtain rfl : n = u := by have := HALL.out.symm.trans HPU.out.value; simpa using this.symm
      have hle : (n : Int) ≤ 1000000000 := by have := HPU.out.1; omega
      have hgt : decide ((1000000000 : Int) < (n : Int)) = false := by simp; omega
      go_wp2_with fail
      refine (fmt_spec (n : Int) (by omega) (by omega) _).mono ?_
      rintro e w1 ⟨rfl, hb1⟩
      have HB1 := Lib.hid hb1; clear hb1
      rw [HPU.out.itoa]
      have hsm : (⟨s.data.toList.toArray⟩ : ByteArray) = s := rfl
      rw [hsm]; clear hsm
      go_wp2
      go_ret2
      exact ⟨rfl, HB1.out⟩

set_option maxHeartbeats 400000 in
theorem pu_spec_no (s : ByteArray) (w : World) (hs : s.size ≤ 10) (hno : ∀ n, ¬ PU s.data.toList n) :
    Calls Tryd.prog 21 #[.string s] w fun e w' => e = .returned (.tuple #[.int .i64 0, .bool false]) ∧ Below w.heap.size w w' := by
  have hsl : s.data.toList.length ≤ 10 := by have : s.data.size ≤ 10 := hs; simpa using this
  have HSL := Lib.hid hsl; clear hsl
  have HNO := Lib.hid hno; clear hno
  go_enter Tryd.func21, Tryd.ntmps21
  go_wp2_with fail
  go_loopw [4, 5] (fun v i wr => ∃ k u : Nat, k ≤ s.size ∧ u < 10000000000 ∧ i = .int .i64 k ∧ v = .int .i64 u ∧ Hid (Lib.decFrom 0 (s.data.toList.take k) = some u) ∧ wr = w) (fun _ i _ => s.size - (intOf i).toNat)
  case atStart => exact ⟨0, 0, Nat.zero_le _, by omega, rfl, rfl, rfl, rfl⟩
  case round =>
    obtain ⟨k, u, hk, hu, rfl, rfl, hd, rfl⟩ := hrel
    by_cases hlt : k < s.size
    · have hk0 : (0 : Int) ≤ (k : Int) := Int.natCast_nonneg _
      have hk1 : (k : Int) < (s.size : Int) := by omega
      have hc0 : (0 : Int) ≤ (s[k].toNat : Int) := Int.natCast_nonneg _
      by_cases d0 : (s[k].toNat : Int) < 48
      · go_wp2
        go_ret2
        exact ⟨rfl, Below.refl _ _⟩
      · have n1 : decide ((s[k].toNat : Int) < 48) = false := by simpa using d0
        by_cases d1 : (57 : Int) < (s[k].toNat : Int)
        · go_wp2
          go_ret2
          exact ⟨rfl, Below.refl _ _⟩
        · have hn := byte_digit hlt hd.out (by omega) (by omega)
          have HN := Lib.hid hn; clear hn
          have d0' : (48 : Int) ≤ (s[k].toNat : Int) := by omega
          have d1' : (s[k].toNat : Int) ≤ 57 := by omega
          go_wp2
          refine ⟨⟨k + 1, u * 10 + (s[k].toNat - 48), by omega, take_bd HN.out HSL.out, by go_num, ?_, HN.out, trivial⟩, by simp [intOf]; omega⟩
          congr 1; omega
    · have hks : k = s.size := by omega
      have hall : Lib.decFrom 0 s.data.toList = some u := by
        have := hd.out
        rwa [List.take_of_length_le (by simp [hks])] at this
      have HALL := Lib.hid hall; clear hall hks hd
      by_cases hgt : (1000000000 : Int) < (u : Int)
      · go_wp2
        go_ret2
        exact ⟨rfl, Below.refl _ _⟩
      · have hgt' : decide ((1000000000 : Int) < (u : Int)) = false := by simpa using hgt
        have hne : Lib.itoa (u : Int) ≠ s.data.toList := fun e => HNO.out u ⟨by omega, by rw [← e, Lib.itoa_nonneg]⟩
        have hbe := text_ne hne
        have HBE := Lib.hid hbe; clear hbe hne
        go_wp2_with fail
        refine (fmt_spec (u : Int) (by omega) (by omega) _).mono ?_
        rintro e w1 ⟨rfl, hb1⟩
        have HB1 := Lib.hid hb1; clear hb1
        have hbe := HBE.out
        go_wp2
        go_ret2
        exact ⟨rfl, HB1.out⟩
end Go.Proofs.YtcagffcmnpakjaaDoor.Bytes

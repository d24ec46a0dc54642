/- What impl.ParseUint returns. -/
import Derived.Test.YtcagffcmnpakjaaDoorDecimal
import Derived.Test.YtcagffcmnpakjaaDoorFmtImpl
import Derived.Test.YtcagffcmnpakjaaDoorBytes
import Derived.Lib.AtoiErrMem
namespace Go.Proofs.YtcagffcmnpakjaaDoor.Bytes
open Go.ChangeShapes Go.WideShapes Go.ChangeAt Go.RowKit Go.Proofs.YtcagffcmnpakjaaDoor.Decimal Go.Proofs.YtcagffcmnpakjaaDoor.Laid
open Go.Proofs
set_option linter.unusedVariables false

/-- How strconv.Atoi ends: a number and no error; or some number and an error. -/
def AtoiPost (s : ByteArray) (w : World) (e : Ending) (w' : World) : Prop :=
  Below w.heap.size w w' ∧ ((∃ v, Lib.atoiAll s.data.toList = .ok v ∧ e = .returned (.tuple #[.int .i64 v, .nilIface])) ∨
    ((∀ v, Lib.atoiAll s.data.toList ≠ .ok v) ∧ ∃ x N, e = .returned (.tuple #[.int .i64 x, .iface 66 (.pointer (some ⟨N, 0, none⟩))])))

theorem atoi_any (s : ByteArray) (hs : s.size ≤ 281474976710656) (w : World) (h : Sent w) : Calls Tryd.prog 33 #[.string s] w (AtoiPost s w) := by
  obtain ⟨⟨t1, p1, e1⟩, ⟨t2, p2, e2⟩⟩ := h
  cases hr : Lib.atoiAll s.data.toList
  · refine (Tryd.strconv_Atoi_ok s (by omega) _ hr w).mono ?_
    rintro e w' ⟨rfl, hw⟩
    refine ⟨?_, .inl ⟨_, hr, rfl⟩⟩
    rcases hw with rfl | ⟨t, rfl⟩
    · exact Below.refl _ _
    · exact Lib.bytesWorld_below _ _ _
  · refine (Any.strconv_Atoi_syntax_var Tryd.laysC172 s hs hr t2 p2 w e2).mono ?_
    rintro e w' ⟨N, rfl, _, _, hb⟩
    exact ⟨hb, .inr ⟨fun v e => (by rw [hr] at e; cases e), _, _, rfl⟩⟩
  · refine (Any.strconv_Atoi_range_var Tryd.laysC172 s hs hr t1 p1 w e1).mono ?_
    rintro e w' ⟨N, rfl, _, _, hb⟩
    exact ⟨hb, .inr ⟨fun v e => (by rw [hr] at e; cases e), _, _, rfl⟩⟩

theorem text_ne_impl {s : ByteArray} {l : List UInt8} (h : l ≠ s.data.toList) : (l == s.toList) = false := by
  rw [beq_eq_false_iff_ne, Go.ByteArray.toList_eq]
  exact h

theorem pu_impl_yes (s : ByteArray) (n : Nat) (hpu : PU s.data.toList n) (w : World) (hp : Pow10 w) (hse : Sent w) :
    Calls Tryd.prog 15 #[.string s] w fun e w' => e = .returned (.tuple #[.int .i64 (n : Int), .bool true]) ∧ Below w.heap.size w w' := by
  have hlt := hp.lt
  have hsz : s.size ≤ 10 := by
    have h1 := hpu.len
    have e : s.data.toList.length = s.size := by simp
    omega
  have hle : (n : Int) ≤ 1000000000 := by have := hpu.1; omega
  have HP := Lib.hid hp; clear hp
  have HS := Lib.hid hse; clear hse
  have HPU := Lib.hid hpu; clear hpu
  have hgt : decide ((1000000000 : Int) < (n : Int)) = false := by simp; omega
  have hlo : decide ((n : Int) < 0) = false := by simp
  go_enter Tryd.func15, Tryd.ntmps15
  go_wp2_with fail
  refine (atoi_any s (by omega) w HS.out).mono ?_
  rintro e w1 ⟨hb1, ⟨v, hv, rfl⟩ | ⟨hv, _⟩⟩
  · obtain rfl : v = (n : Int) := by rw [HPU.out.atoi] at hv; cases hv; rfl
    have HP1 := Lib.hid (HP.out.below hb1 hlt)
    have HB1 := Lib.hid hb1; clear hb1 hv
    go_wp2_with fail
    refine (fmt_impl (n : Int) (by omega) (by omega) w1 HP1.out).mono ?_
    rintro e w2 ⟨rfl, hb2⟩
    have HB2 := Lib.hid (HB1.out.trans (hb2.mono HB1.out.size)); clear hb2
    rw [HPU.out.itoa]
    have hsm : (⟨s.data.toList.toArray⟩ : ByteArray) = s := rfl
    rw [hsm]; clear hsm
    go_wp2
    go_ret2
    exact ⟨rfl, HB2.out⟩
  · exact absurd HPU.out.atoi (hv _)

theorem pu_impl_no (s : ByteArray) (hs : s.size ≤ 281474976710656) (hno : ∀ n, ¬ PU s.data.toList n) (w : World) (hp : Pow10 w) (hse : Sent w) :
    Calls Tryd.prog 15 #[.string s] w fun e w' => e = .returned (.tuple #[.int .i64 0, .bool false]) ∧ Below w.heap.size w w' := by
  have hlt := hp.lt
  have HP := Lib.hid hp; clear hp
  have HS := Lib.hid hse; clear hse
  have HNO := Lib.hid hno; clear hno
  go_enter Tryd.func15, Tryd.ntmps15
  go_wp2_with fail
  refine (atoi_any s hs w HS.out).mono ?_
  rintro e w1 ⟨hb1, ⟨v, hv, rfl⟩ | ⟨hv, x, N, rfl⟩⟩
  · have HP1 := Lib.hid (HP.out.below hb1 hlt)
    have HB1 := Lib.hid hb1; clear hb1 hv
    by_cases hlo : v < 0
    · go_wp2
      go_ret2
      exact ⟨rfl, HB1.out⟩
    · have hlo' : decide (v < 0) = false := by simpa using hlo
      by_cases hgt : (1000000000 : Int) < v
      · go_wp2
        go_ret2
        exact ⟨rfl, HB1.out⟩
      · have hgt' : decide ((1000000000 : Int) < v) = false := by simpa using hgt
        have hne : Lib.itoa v ≠ s.data.toList := fun e => HNO.out v.toNat ⟨by omega, by rw [← e, ← Lib.itoa_nonneg, show ((v.toNat : Nat) : Int) = v from by omega]⟩
        have hbe := text_ne_impl hne
        have HBE := Lib.hid hbe; clear hbe hne
        go_wp2_with fail
        refine (fmt_impl v (by omega) (by omega) w1 HP1.out).mono ?_
        rintro e w2 ⟨rfl, hb2⟩
        have HB2 := Lib.hid (HB1.out.trans (hb2.mono HB1.out.size)); clear hb2
        have hbe := HBE.out
        go_wp2
        go_ret2
        exact ⟨rfl, HB2.out⟩
  · have HB1 := Lib.hid hb1; clear hb1 hv
    go_wp2
    go_ret2
    exact ⟨rfl, HB1.out⟩
end Go.Proofs.YtcagffcmnpakjaaDoor.Bytes

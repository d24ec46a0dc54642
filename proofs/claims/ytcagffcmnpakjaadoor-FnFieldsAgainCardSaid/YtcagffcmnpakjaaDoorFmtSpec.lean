/- What spec.FormatInt returns: the decimal numeral. -/
import Derived.Test.YtcagffcmnpakjaaDoorFigure
import Derived.Lib.ItoaNum
import Derived.Lib.ItoaMem
namespace Go.Proofs.YtcagffcmnpakjaaDoor.Bytes
open Go.ChangeShapes Go.WideShapes Go.ChangeAt Go.RowKit
set_option linter.unusedVariables false

/-- After some rounds: m is left of n, and l holds the digits that were taken. -/
def FmtRel (n m : Int) (l : List UInt8) : Prop :=
  ∃ u : Nat, m = (if n < 0 then -(u : Int) else (u : Int)) ∧ u ≤ n.natAbs ∧ (if u = 0 then [] else Lib.decDigits u) ++ l = Lib.decDigits n.natAbs

theorem FmtRel.start (n : Int) (h : n ≠ 0) : FmtRel n n [] := by
  refine ⟨n.natAbs, ?_, Nat.le_refl _, ?_⟩
  · split <;> omega
  · rw [if_neg (by omega)]; simp

theorem FmtRel.stop {n : Int} {l : List UInt8} (h : FmtRel n 0 l) : l = Lib.decDigits n.natAbs := by
  obtain ⟨u, e, _, h⟩ := h
  have : u = 0 := by revert e; split <;> omega
  subst this
  simpa using h

theorem FmtRel.round {n m : Int} {l : List UInt8} (h : FmtRel n m l) (u : Nat) (hm : m = (if n < 0 then -(u : Int) else (u : Int))) (h0 : u ≠ 0) : FmtRel n (if n < 0 then -((u / 10 : Nat) : Int) else ((u / 10 : Nat) : Int)) (digU (u % 10) :: l) := by
  obtain ⟨v, e, hle, h⟩ := h
  have : v = u := by rw [hm] at e; revert e; split <;> omega
  subst this
  rw [if_neg h0] at h
  have hd : digU (v % 10) = UInt8.ofNat (48 + v % 10) := by unfold digU; rw [if_pos (by omega)]
  refine ⟨v / 10, rfl, by omega, ?_⟩
  rw [← h, hd]
  by_cases h10 : v < 10
  · have e1 : v / 10 = 0 := by omega
    have e2 : v % 10 = v := by omega
    rw [e1, e2, if_pos rfl, Lib.decDigits, dif_pos h10]; rfl
  · rw [if_neg (by omega)]
    conv => rhs; rw [Lib.decDigits, dif_neg h10]
    simp

theorem nDigits_le : ∀ (k u : Nat), u < 10 ^ (k + 1) → Lib.nDigits u ≤ k + 1
  | 0, u, h => by rw [Lib.nDigits_small (by simpa using h)]; omega
  | k + 1, u, h => by
    by_cases h10 : u < 10
    · rw [Lib.nDigits_small h10]; omega
    · rw [Lib.nDigits_big h10]
      have := nDigits_le k (u / 10) (by rw [Nat.pow_succ] at h; omega)
      omega

theorem itoa_length (n : Int) (h0 : -9223372036854775808 ≤ n) (h1 : n ≤ 9223372036854775807) : (Lib.decDigits n.natAbs).length ≤ 20 := by
  rw [Lib.decDigits_length]
  exact nDigits_le 19 _ (by simp only [Nat.reduceAdd, Nat.reducePow]; omega)

theorem FmtRel.short {n m : Int} {l : List UInt8} (h : FmtRel n m l) (h0 : -9223372036854775808 ≤ n) (h1 : n ≤ 9223372036854775807) : l.length ≤ 20 := by
  obtain ⟨u, _, _, h⟩ := h
  have := itoa_length n h0 h1
  rw [← h] at this
  simp at this
  omega

theorem cat_one (x : UInt8) (l : List UInt8) : (⟨#[x]⟩ : ByteArray) ++ ⟨l.toArray⟩ = ⟨(x :: l).toArray⟩ := by
  apply ByteArray.ext
  simp [ByteArray.data_append]

theorem run_one (x : UInt8) (w : World) :
    (Go.convert 22 9 (.slice (some ⟨w.heap.size, 0, none⟩) 1 1)).run Tryd.prog (w.alloc (.cells #[.int .u8 (x.toNat : Int)] 5)) = .ok (.string ⟨#[x]⟩) (w.alloc (.cells #[.int .u8 (x.toNat : Int)] 5)) := by
  refine run_convert_bytes_back (P := Tryd.prog) _ 22 9 5 ⟨w.heap.size, 0, none⟩ 1 [x] Tryd.underlying22 Tryd.underlying5 Tryd.underlying9 ?_
  intro j hj
  have h0 : j = 0 := by simpa using hj
  subst h0
  simp [Addr.add]

set_option maxRecDepth 100000 in
theorem fmt_spec (n : Int) (h0 : -9223372036854775808 ≤ n) (h1 : n ≤ 9223372036854775807) (w : World) :
    Calls Tryd.prog 20 #[.int .i64 n] w fun e w' => e = .returned (.string ⟨(Lib.itoa n).toArray⟩) ∧ Below w.heap.size w w' := by
  by_cases hz : n = 0
  · subst hz
    have e : Lib.itoa 0 = [48] := by
      unfold Lib.itoa
      rw [if_neg (by omega)]
      show Lib.decDigits 0 = _
      rw [Lib.decDigits_one (by omega)]; rfl
    rw [e]
    go_enter Tryd.func20, Tryd.ntmps20
    go_wp2
    go_ret
    exact ⟨rfl, Below.refl _ _⟩
  · have hb : (n == 0) = false := by simpa using hz
    have ST := Lib.hid (FmtRel.start n hz)
    by_cases hneg : n < 0
    · have hn0 : decide (n < 0) = true := by simpa using hneg
      have hna : -((n.natAbs : Nat) : Int) = n := by omega
      go_enter Tryd.func20, Tryd.ntmps20
      go_wp2_with fail
      go_loopw [0, 4, 5] (fun v s d wr => ∃ (u : Nat) (l : List UInt8), n ≤ -(u : Int) ∧ v = .int .i64 (-(u : Int)) ∧ s = .string ⟨l.toArray⟩ ∧ Hid (FmtRel n (-(u : Int)) l) ∧ Below w.heap.size w wr) (fun v _ _ _ => (intOf v).natAbs)
      case atStart => exact ⟨n.natAbs, [], by omega, by rw [hna], rfl, by rw [hna]; exact ST.out, Below.refl _ _⟩
      case round =>
        obtain ⟨u, l, hun, rfl, rfl, hrel, hbw⟩ := hrel
        have HB := Lib.hid hbw; clear hbw
        have hl20 := hrel.out.short h0 h1
        by_cases hu : u = 0
        · subst hu
          have hl := FmtRel.stop (by simpa using hrel.out)
          have hi : Lib.itoa n = 45 :: l := by unfold Lib.itoa; rw [if_pos hneg, hl]
          have HI := Lib.hid hi; clear hi hl hrel
          go_wp2
          go_ret
          exact ⟨by rw [HI.out, ← cat_one]; rfl, HB.out⟩
        · have hu1 : 0 < u := by omega
          have hub : ((-(u : Int)) != 0) = true := by simp; omega
          have hstep := FmtRel.round hrel.out u (by rw [if_pos hneg]) hu
          rw [if_pos hneg] at hstep
          have HSTEP := Lib.hid hstep; clear hstep hrel
          have hdig : digI ((u : Int) % 10) = ((digU (u % 10)).toNat : Int) := by unfold digI; rw [show ((u : Int) % 10).toNat = u % 10 from by omega]
          have HD := Lib.hid hdig; clear hdig hu
          by_cases hr : 0 < (u : Int) % 10
          · go_wp2_with fail
            refine (figure_get _ (by omega) (by omega) _).mono ?_
            rintro e w' ⟨rfl, rfl⟩
            rw [HD.out]
            have hone := run_one (digU (u % 10)) wr
            generalize digU (u % 10) = x at *
            go_wp2_with fail
            go_roundw
            case rel => exact ⟨u / 10, x :: l, by omega, by go_num, by rw [cat_one], HSTEP, (HB.out.alloc HB.out.size _)⟩
            case measure => simp [intOf]; omega
          · have hr0 : -((u : Int) % 10) = (u : Int) % 10 := by omega
            have HR := Lib.hid hr0; clear hr0
            go_wp2_with fail
            rw [HR.out]
            refine (figure_get _ (by omega) (by omega) _).mono ?_
            rintro e w' ⟨rfl, rfl⟩
            rw [HD.out]
            have hone := run_one (digU (u % 10)) wr
            generalize digU (u % 10) = x at *
            go_wp2_with fail
            go_roundw
            case rel => exact ⟨u / 10, x :: l, by omega, by go_num, by rw [cat_one], HSTEP, (HB.out.alloc HB.out.size _)⟩
            case measure => simp [intOf]; omega
    · have hn0 : decide (n < 0) = false := by simpa using hneg
      have hge : 0 ≤ n := by omega
      have hna : ((n.natAbs : Nat) : Int) = n := by omega
      go_enter Tryd.func20, Tryd.ntmps20
      go_wp2_with fail
      go_loopw [0, 4, 5] (fun v s d wr => ∃ (u : Nat) (l : List UInt8), (u : Int) ≤ n ∧ v = .int .i64 (u : Int) ∧ s = .string ⟨l.toArray⟩ ∧ Hid (FmtRel n (u : Int) l) ∧ Below w.heap.size w wr) (fun v _ _ _ => (intOf v).natAbs)
      case atStart => exact ⟨n.natAbs, [], by omega, by rw [hna], rfl, by rw [hna]; exact ST.out, Below.refl _ _⟩
      case round =>
        obtain ⟨u, l, hun, rfl, rfl, hrel, hbw⟩ := hrel
        have HB := Lib.hid hbw; clear hbw
        have hl20 := hrel.out.short h0 h1
        by_cases hu : u = 0
        · subst hu
          have hl := FmtRel.stop (by simpa using hrel.out)
          have hi : Lib.itoa n = l := by unfold Lib.itoa; rw [if_neg (by omega), hl, show n.natAbs = n.toNat from by omega]
          have HI := Lib.hid hi; clear hi hl hrel
          go_wp2
          go_ret
          exact ⟨by rw [HI.out]; rfl, HB.out⟩
        · have hu1 : 0 < u := by omega
          have hub : ((u : Int) != 0) = true := by simp; omega
          have hstep := FmtRel.round hrel.out u (by rw [if_neg (by omega)]) hu
          rw [if_neg (by omega)] at hstep
          have HSTEP := Lib.hid hstep; clear hstep hrel
          have hdig : digI ((u : Int) % 10) = ((digU (u % 10)).toNat : Int) := by unfold digI; rw [show ((u : Int) % 10).toNat = u % 10 from by omega]
          have HD := Lib.hid hdig; clear hdig hu
          go_wp2_with fail
          refine (figure_get _ (by omega) (by omega) _).mono ?_
          rintro e w' ⟨rfl, rfl⟩
          rw [HD.out]
          have hone := run_one (digU (u % 10)) wr
          generalize digU (u % 10) = x at *
          go_wp2_with fail
          go_roundw
          case rel => exact ⟨u / 10, x :: l, by omega, by go_num, by rw [cat_one], HSTEP, (HB.out.alloc HB.out.size _)⟩
          case measure => simp [intOf]; omega
end Go.Proofs.YtcagffcmnpakjaaDoor.Bytes

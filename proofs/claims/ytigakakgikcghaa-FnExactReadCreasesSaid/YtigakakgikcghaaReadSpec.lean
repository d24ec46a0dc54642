/- What the model of chapter 15 returns: ReadCreases. -/
import Derived.Test.YtigakakgikcghaaReadDef
import Derived.Test.YtigakakgikcghaaCreaseSpec
namespace Go.Proofs.Ytigakakgikcghaa.Crease
open Go.ChangeShapes Go.WideShapes Go.ChangeAt Go.RowKit
open Go.Proofs.Ytigakakgikcghaa.Strip Go.Proofs.Ytigakakgikcghaa.Corner Go.Proofs.Ytigakakgikcghaa.Strs Go.Proofs.Ytigakakgikcghaa.Card
set_option linter.unusedVariables false

theorem first_letter (t : ByteArray) (h : 0 < t.size) : firstV t.data.toList = (t[0] == 118) := by
  unfold firstV
  rw [at_get t 0 h]
  rw [Bool.eq_iff_iff]
  simp

set_option maxRecDepth 100000 in
set_option maxHeartbeats 4000000 in
theorem read_spec2 (t : ByteArray) (d f : Int) (w : World) (ht : t.size ≤ 1048576) :
    Calls Try.prog 23 #[.string t, .int .i64 d, .int .i64 f] w fun e w' => e = .returned (.string (readV t d f)) ∧ Below w.heap.size w w' := by
  cases hf : frameB d f with
  | false =>
    rw [readV_no (by rw [hf]; rintro ⟨h, _⟩; cases h)]
    go_enter Try.func23, Try.ntmps23
    go_wp2_with fail
    refine (frame_spec d f _).mono ?_
    rintro e w1 ⟨rfl, rfl⟩
    rw [hf]
    go_wp2
    go_ret
    exact ⟨rfl, Below.refl _ _⟩
  | true =>
    obtain ⟨d0, d1, f0, f1⟩ := frame_in hf
    by_cases hs : (t.size : Int) = d + f + 1
    · have hq : ((t.size : Int) != d + f + 1) = false := by simpa using hs
      obtain ⟨n, hn⟩ : ∃ n, t.size = n + 1 := ⟨t.size - 1, by omega⟩
      have hnd : (n : Int) = d + f := by omega
      have h0 : 0 < t.size := by omega
      have hz0 : (0 : Int) < (t.size : Int) := by omega
      have HV := Lib.hid (readV_spec hf n hn hs)
      have hfl := first_letter t h0
      have hby : ((t[0].toNat : Int) == 118) = (t[0] == 118) := byte_beq _ 118
      rw [← hfl] at hby
      have HPN := Lib.hid (fun k (h : k + 1 < t.size) => bit_next (firstV t.data.toList) t k h)
      generalize firstV t.data.toList = b0 at *
      have HF := Lib.hid hf
      have HN := Lib.hid hn
      have HND := Lib.hid hnd
      have hn17 : n ≤ 16 := by omega
      have hn2 : 2 ≤ n := by omega
      have HL0 := Lib.hid (show (⟨#[letter b0]⟩ : ByteArray) = if b0 = true then ⟨#[102]⟩ else ⟨#[100]⟩ by cases b0 <;> rfl)
      cases hb0 : b0
      all_goals
        rw [hb0] at hby
        have HB0 := Lib.hid hb0
        clear hb0
        go_enter Try.func23, Try.ntmps23
        go_wp2_with fail
        refine (frame_spec d f _).mono ?_
        rintro e w1 ⟨rfl, rfl⟩
        rw [HF.out]
        clear hf hs hn hnd hfl
        go_wp2_with fail
        go_loopw [7, 8, 9] (fun x s i wr => ∃ k : Nat, ∃ y : UInt8, k ≤ n ∧ i = .int .i64 ((k : Int) + 1) ∧ s = .string ⟨(wS b0 t.data.toList k).toArray⟩ ∧ x = .string ⟨#[y]⟩ ∧ (y = 100 ∨ y = 102) ∧ Hid (k < n → letter (bitF b0 t.data.toList k) = y) ∧ wr = w) (fun _ _ i _ => n + 1 - (intOf i).toNat)
        case atStart => first | exact ⟨0, 100, Nat.zero_le _, rfl, rfl, rfl, .inl rfl, Lib.hid (fun _ => by rw [HB0.out]; rfl), rfl⟩ | exact ⟨0, 102, Nat.zero_le _, rfl, rfl, rfl, .inr rfl, Lib.hid (fun _ => by rw [HB0.out]; rfl), rfl⟩
        case round =>
          obtain ⟨k, y, hk, rfl, rfl, rfl, hy, HY, rfl⟩ := hrel
          have hk0 : (0 : Int) ≤ (k : Int) := Int.natCast_nonneg _
          by_cases hlt : k < n
          · have hkt : (k : Int) + 1 < (t.size : Int) := by have := HN.out; omega
            have hkt2 : k + 1 < t.size := by have := HN.out; omega
            have HYY := Lib.hid (HY.out hlt)
            have HW := Lib.hid (show (⟨(wS b0 t.data.toList k).toArray⟩ : ByteArray) ++ ⟨#[y]⟩ = ⟨(wS b0 t.data.toList (k + 1)).toArray⟩ by rw [← HYY.out]; exact wS_next b0 t.data.toList k)
            have hz := wS_size b0 t.data.toList k
            have hz1 := one_size y
            have hsn : (t.size : Int) - 1 = (n : Int) := by have := HN.out; omega
            have HSN := Lib.hid hsn
            by_cases hl1 : k + 1 < n
            · have hg : (k : Int) + 1 < (t.size : Int) - 1 := by omega
              have hg2 : decide ((k : Int) + 1 < (t.size : Int) - 1) = true := decide_eq_true hg
              have hkk : (0 : Int) ≤ (k : Int) + 1 := by omega
              have HP := HPN.out k hkt2
              clear hsn
              by_cases he : t[k + 1] = 46
              · have hb : ((t[k + 1].toNat : Int) != 46) = false := bytes_eq _ 46 he
                have HNX := Lib.hid (show letter (bitF b0 t.data.toList (k + 1)) = y by rw [HP, he]; exact HYY.out)
                clear he HP
                go_wp2
                go_roundw
                case rel => exact ⟨k + 1, y, by omega, by go_num, congrArg Value.string HW.out, rfl, hy, fun _ => HNX.out, trivial⟩
                case measure => simp [intOf]; omega
              · have hb : ((t[k + 1].toNat : Int) != 46) = true := bytes_ne _ 46 he
                have HNX := Lib.hid (show letter (bitF b0 t.data.toList (k + 1)) = letter (!(bitF b0 t.data.toList k)) by rw [HP]; unfold flipB; rw [if_neg he])
                clear he HP
                rcases hy with rfl | rfl
                · have HNY := Lib.hid (show letter (bitF b0 t.data.toList (k + 1)) = 102 by
                    rw [HNX.out]
                    have h := HYY.out
                    cases hbb : bitF b0 t.data.toList k with
                    | false => rfl
                    | true => rw [hbb] at h; exact absurd h (by decide))
                  go_wp2
                  go_roundw
                  case rel => exact ⟨k + 1, 102, by omega, by go_num, congrArg Value.string HW.out, rfl, .inr rfl, fun _ => HNY.out, trivial⟩
                  case measure => simp [intOf]; omega
                · have HNY := Lib.hid (show letter (bitF b0 t.data.toList (k + 1)) = 100 by
                    rw [HNX.out]
                    have h := HYY.out
                    cases hbb : bitF b0 t.data.toList k with
                    | true => rfl
                    | false => rw [hbb] at h; exact absurd h (by decide))
                  go_wp2
                  go_roundw
                  case rel => exact ⟨k + 1, 100, by omega, by go_num, congrArg Value.string HW.out, rfl, .inl rfl, fun _ => HNY.out, trivial⟩
                  case measure => simp [intOf]; omega
            · have hg : ¬ (k : Int) + 1 < (t.size : Int) - 1 := by omega
              have hg2 : decide ((k : Int) + 1 < (t.size : Int) - 1) = false := decide_eq_false hg
              clear hsn
              go_wp2
              go_roundw
              case rel => exact ⟨k + 1, y, by omega, by go_num, congrArg Value.string HW.out, rfl, hy, fun h => absurd h hl1, trivial⟩
              case measure => simp [intOf]; omega
          · obtain rfl : k = n := by omega
            have hkt : ¬ (k : Int) + 1 < (t.size : Int) := by have := HN.out; omega
            have hz := wS_size b0 t.data.toList k
            have hsz : (⟨(wS b0 t.data.toList k).toArray⟩ : ByteArray).size ≤ 1048576 := by omega
            have HD := Lib.hid (fun w' : World => down_spec ⟨(wS b0 t.data.toList k).toArray⟩ w' hsz)
            have HFW := Lib.hid (fun w' : World => forward_spec ⟨(wS b0 t.data.toList k).toArray⟩ w' hsz)
            have HTX := Lib.hid (fun w' : World => text_spec ⟨(wS b0 t.data.toList k).toArray⟩ w' hsz (by omega))
            rw [show (⟨(wS b0 t.data.toList k).toArray⟩ : ByteArray).data.toList = wS b0 t.data.toList k from rfl] at HD HFW HTX
            generalize numV 100 (wS b0 t.data.toList k) = X at *
            generalize numV 102 (wS b0 t.data.toList k) = Y at *
            generalize (⟨(txt (wS b0 t.data.toList k)).toArray⟩ : ByteArray) = Z at *
            generalize (⟨(wS b0 t.data.toList k).toArray⟩ : ByteArray) = s at *
            clear hlt hz hsz hy HY
            by_cases hX : X = d
            · have x1 : (X != d) = false := by simpa using hX
              by_cases hY : Y = f
              · have y1 : (Y != f) = false := by simpa using hY
                by_cases hZ : Z = t
                · have HE := Lib.hid (show readV t d f = s by rw [HV.out, if_pos ⟨hX, hY, hZ⟩])
                  have h1 : (Z.toList == t.toList) = true := by rw [list_beq, decide_eq_true hZ]
                  have h2 : (Z.toList != t.toList) = false := by rw [bne, h1]; rfl
                  clear hX hY hZ
                  go_wp2_with fail
                  refine (HD.out _).mono ?_
                  rintro e w2 ⟨rfl, rfl⟩
                  go_wp2_with fail
                  refine (HFW.out _).mono ?_
                  rintro e w2 ⟨rfl, rfl⟩
                  go_wp2_with fail
                  refine (HTX.out _).mono ?_
                  rintro e w2 ⟨rfl, hb⟩
                  have HB := Lib.hid hb
                  go_wp2
                  go_ret
                  exact ⟨by rw [HE.out]; rfl, HB.out⟩
                · have HE := Lib.hid (show readV t d f = ⟨#[]⟩ by rw [HV.out, if_neg (fun a => hZ a.2.2)])
                  have h1 : (Z.toList == t.toList) = false := by rw [list_beq, decide_eq_false hZ]
                  have h2 : (Z.toList != t.toList) = true := by rw [bne, h1]; rfl
                  clear hX hY hZ
                  go_wp2_with fail
                  refine (HD.out _).mono ?_
                  rintro e w2 ⟨rfl, rfl⟩
                  go_wp2_with fail
                  refine (HFW.out _).mono ?_
                  rintro e w2 ⟨rfl, rfl⟩
                  go_wp2_with fail
                  refine (HTX.out _).mono ?_
                  rintro e w2 ⟨rfl, hb⟩
                  have HB := Lib.hid hb
                  go_wp2
                  go_ret
                  exact ⟨by rw [HE.out]; rfl, HB.out⟩
              · have y1 : (Y != f) = true := by simpa using hY
                have HE := Lib.hid (show readV t d f = ⟨#[]⟩ by rw [HV.out, if_neg (fun a => hY a.2.1)])
                clear hX hY
                go_wp2_with fail
                refine (HD.out _).mono ?_
                rintro e w2 ⟨rfl, rfl⟩
                go_wp2_with fail
                refine (HFW.out _).mono ?_
                rintro e w2 ⟨rfl, rfl⟩
                go_wp2
                go_ret
                exact ⟨by rw [HE.out]; rfl, Below.refl _ _⟩
            · have x1 : (X != d) = true := by simpa using hX
              have HE := Lib.hid (show readV t d f = ⟨#[]⟩ by rw [HV.out, if_neg (fun a => hX a.1)])
              clear hX
              go_wp2_with fail
              refine (HD.out _).mono ?_
              rintro e w2 ⟨rfl, rfl⟩
              go_wp2
              go_ret
              exact ⟨by rw [HE.out]; rfl, Below.refl _ _⟩
    · have hq : ((t.size : Int) != d + f + 1) = true := by simpa using hs
      rw [readV_no (by rintro ⟨_, h⟩; exact hs h)]
      go_enter Try.func23, Try.ntmps23
      go_wp2_with fail
      refine (frame_spec d f _).mono ?_
      rintro e w1 ⟨rfl, rfl⟩
      rw [hf]
      clear hf hs
      go_wp2
      go_ret
      exact ⟨rfl, Below.refl _ _⟩
end Go.Proofs.Ytigakakgikcghaa.Crease

/- What the program of chapter 15 returns: ReadCreases. -/
import Derived.Test.YtigakakgikcghaaReadDef
import Derived.Test.YtigakakgikcghaaCreaseText
namespace Go.Proofs.Ytigakakgikcghaa.Crease
open Go.ChangeShapes Go.WideShapes Go.ChangeAt Go.RowKit
open Go.Proofs.Ytigakakgikcghaa.Strip Go.Proofs.Ytigakakgikcghaa.Corner Go.Proofs.Ytigakakgikcghaa.Strs Go.Proofs.Ytigakakgikcghaa.Card
set_option linter.unusedVariables false

theorem other_letter (b : Bool) (w : World) : Calls Try.prog 35 #[.string ⟨#[letter b]⟩] w fun e w' => e = .returned (.string ⟨#[letter (!b)]⟩) ∧ w = w' := by
  cases b
  all_goals
    unfold letter
    go_enter Try.func35, Try.ntmps35
    go_wp2
    all_goals
      go_ret
      exact ⟨rfl, rfl⟩

set_option maxRecDepth 100000 in
set_option maxHeartbeats 4000000 in
theorem read_impl (t : ByteArray) (d f : Int) (w : World) (ht : t.size ≤ 1048576) :
    Calls Try.prog 15 #[.string t, .int .i64 d, .int .i64 f] w fun e w' => e = .returned (.string (readV t d f)) ∧ Below w.heap.size w w' := by
  cases hf : frameB d f with
  | false =>
    rw [readV_no (by rw [hf]; rintro ⟨h, _⟩; cases h)]
    go_enter Try.func15, Try.ntmps15
    go_wp2_with fail
    refine (frame_impl d f _).mono ?_
    rintro e w1 ⟨rfl, rfl⟩
    rw [hf]
    go_wp2
    go_ret
    exact ⟨rfl, Below.refl _ _⟩
  | true =>
    obtain ⟨d0, d1, f0, f1⟩ := frame_in hf
    by_cases hs : (t.size : Int) = d + f + 1
    · have hq : ((t.size : Int) != d + f + 1) = false := by simpa using hs
      obtain ⟨n, hn⟩ : ∃ n, t.size = n + 1 := ⟨t.size - 1, by omega⟩
      have hnd : (n : Int) = d + f := by omega
      have HV := Lib.hid (readV_impl hf n hn hs)
      have HPN := Lib.hid (fun k (h : k < t.size) => pre_next t k h)
      have HF := Lib.hid hf
      have HN := Lib.hid hn
      have HND := Lib.hid hnd
      have hn17 : n ≤ 16 := by omega
      go_enter Try.func15, Try.ntmps15
      go_wp2_with fail
      refine (frame_impl d f _).mono ?_
      rintro e w1 ⟨rfl, rfl⟩
      rw [hf]
      clear hf hs hn hnd
      go_wp2_with fail
      rw [← HND.out]
      go_loopw [7, 8, 26] (fun s x i wr => ∃ k : Nat, k ≤ n ∧ i = .int .i64 (k : Int) ∧ s = .string ⟨(wI t.data.toList k).toArray⟩ ∧ x = .string ⟨#[letter (preF t.data.toList k)]⟩ ∧ wr = w) (fun _ _ i _ => n - (intOf i).toNat)
      case atStart => exact ⟨0, Nat.zero_le _, rfl, rfl, rfl, rfl⟩
      case round =>
        obtain ⟨k, hk, rfl, rfl, rfl, rfl⟩ := hrel
        have hk0 : (0 : Int) ≤ (k : Int) := Int.natCast_nonneg _
        by_cases hlt : k < n
        · have hk1 : (k : Int) < (n : Int) := by omega
          have hkt : k < t.size := by have := HN.out; omega
          have hkt1 : (k : Int) < (t.size : Int) := by omega
          have HW := Lib.hid (wI_next t.data.toList k)
          have hz := wI_size t.data.toList k
          have HP := HPN.out k hkt
          by_cases he : t[k] = 46
          · have hb : ((t[k].toNat : Int) != 46) = false := bytes_eq _ 46 he
            rw [he] at HP
            have HP2 := Lib.hid (show preF t.data.toList (k + 1) = preF t.data.toList k from HP)
            rw [HP2.out] at HW
            have hz1 := one_size (letter (preF t.data.toList k))
            clear he HP
            go_wp2
            go_roundw
            case rel => exact ⟨k + 1, by omega, by go_num, congrArg Value.string HW.out, by rw [HP2.out], trivial⟩
            case measure => simp [intOf]; omega
          · have hb : ((t[k].toNat : Int) != 46) = true := bytes_ne _ 46 he
            have HP2 := Lib.hid (show preF t.data.toList (k + 1) = !(preF t.data.toList k) by rw [HP]; unfold flipB; rw [if_neg he])
            rw [HP2.out] at HW
            have hz1 := one_size (letter (!(preF t.data.toList k)))
            clear he HP
            go_wp2_with fail
            refine (other_letter _ _).mono ?_
            rintro e w2 ⟨rfl, rfl⟩
            go_wp2
            go_roundw
            case rel => exact ⟨k + 1, by omega, by go_num, congrArg Value.string HW.out, by rw [HP2.out], trivial⟩
            case measure => simp [intOf]; omega
        · obtain rfl : k = n := by omega
          have hz := wI_size t.data.toList k
          have HT := Lib.hid (fun (w' : World) (a : Option Addr) (h : Row w' a [⟨(wI t.data.toList k).toArray⟩]) => text_impl d f a 1 1 [⟨(wI t.data.toList k).toArray⟩] 0 w' rfl (by decide) (fun s hs => by rw [List.mem_singleton.1 hs, wI_size]; omega) h)
          generalize (⟨(wI t.data.toList k).toArray⟩ : ByteArray) = s at *
          generalize hx : textV (stripN d f [s] 0) = x at *
          have HO := Lib.hid (Own.lit (w := wr) (base := wr.heap.size) [s] rfl (Nat.le_refl _) (show 1 ≤ maxLen by unfold maxLen; omega))
          have HB := Lib.hid (alloc_below wr (.cells #[.string s] 9))
          clear hlt hz hx
          by_cases he : x = t
          · have HE := Lib.hid (show readV t d f = s by rw [HV.out, if_pos he])
            have h1 : (x.toList == t.toList) = true := by rw [list_beq, decide_eq_true he]
            have h2 : (x.toList != t.toList) = false := by rw [bne, h1]; rfl
            clear he
            go_wp2_with fail
            refine (HT.out _ _ HO.out.row2.2).mono ?_
            rintro e w2 ⟨rfl, hb⟩
            have HB2 := Lib.hid (HB.out.trans (hb.mono HB.out.size))
            go_wp2
            go_ret
            exact ⟨by rw [HE.out]; rfl, HB2.out⟩
          · have HE := Lib.hid (show readV t d f = ⟨#[]⟩ by rw [HV.out, if_neg he])
            have h1 : (x.toList == t.toList) = false := by rw [list_beq, decide_eq_false he]
            have h2 : (x.toList != t.toList) = true := by rw [bne, h1]; rfl
            clear he
            go_wp2_with fail
            refine (HT.out _ _ HO.out.row2.2).mono ?_
            rintro e w2 ⟨rfl, hb⟩
            have HB2 := Lib.hid (HB.out.trans (hb.mono HB.out.size))
            go_wp2
            go_ret
            exact ⟨by rw [HE.out]; rfl, HB2.out⟩
    · have hq : ((t.size : Int) != d + f + 1) = true := by simpa using hs
      rw [readV_no (by rintro ⟨_, h⟩; exact hs h)]
      go_enter Try.func15, Try.ntmps15
      go_wp2_with fail
      refine (frame_impl d f _).mono ?_
      rintro e w1 ⟨rfl, rfl⟩
      rw [hf]
      clear hf hs
      go_wp2
      go_ret
      exact ⟨rfl, Below.refl _ _⟩
end Go.Proofs.Ytigakakgikcghaa.Crease

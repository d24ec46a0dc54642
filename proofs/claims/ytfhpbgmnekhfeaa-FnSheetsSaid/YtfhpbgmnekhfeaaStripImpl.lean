/- What the program of chapter 2 returns: countSteps, stripSteps, IsStrip, DownOf, ForwardOf, SameFrame, StripAt. -/
import Derived.Test.YtfhpbgmnekhfeaaStripSpec2
namespace Go.Proofs.Ytfhpbgmnekhfeaa.Strip
open Go.ChangeShapes Go.WideShapes Go.ChangeAt Go.RowKit
set_option linter.unusedVariables false

/-- What countSteps returns. -/
def stepsV (l : List UInt8) : Value :=
  if okL l = true then .tuple #[.int .i64 (cnt 100 l), .int .i64 (cnt 102 l), .bool true] else .tuple #[.int .i64 0, .int .i64 0, .bool false]

theorem below_iter (w : World) (s : ByteArray) (pos : Nat) : Below w.heap.size w (w.iter s pos) := (Below.refl _ _).alloc (Nat.le_refl _) _

set_option maxRecDepth 100000 in
theorem count_impl (s : ByteArray) (w : World) (hm : s.size ≤ 1048576) :
    Calls Try.prog 59 #[.string s] w fun e w' => e = .returned (stepsV s.data.toList) ∧ Below w.heap.size w w' := by
  go_enter Try.func59, Try.ntmps59
  go_wp2_with fail
  go_loopw [5, 6] (fun d f w' => ∃ k : Nat, k ≤ s.size ∧ w' = w.iter s k ∧ d = .int .i64 (cnt 100 (s.data.toList.take k) : Int) ∧ f = .int .i64 (cnt 102 (s.data.toList.take k) : Int) ∧ Hid (okL (s.data.toList.take k) = true)) (fun _ _ w' => s.size - w'.iterPos w.heap.size)
  case atStart => exact ⟨0, Nat.zero_le _, rfl, by simp [cnt], by simp [cnt], Lib.hid rfl⟩
  case round =>
    obtain ⟨k, hk, rfl, rfl, rfl, hok⟩ := hrel
    have hc := cnt_le 100 (s.data.toList.take k)
    have hc1 : cnt 100 (s.data.toList.take k) ≤ 1048576 := by simp at hc; omega
    have hd := cnt_le 102 (s.data.toList.take k)
    have hd1 : cnt 102 (s.data.toList.take k) ≤ 1048576 := by simp at hd; omega
    clear hc hd
    by_cases hlt : k < s.size
    · have h1 := cnt_snoc 100 (s.data.toList.take k) s[k]
      have h2 := cnt_snoc 102 (s.data.toList.take k) s[k]
      have h3 := okL_snoc (s.data.toList.take k) s[k]
      rw [← take_snoc s k hlt] at h1 h2 h3
      have H1 := Lib.hid h1; clear h1
      have H2 := Lib.hid h2; clear h2
      have H3 := Lib.hid h3; clear h3
      by_cases ha : (s[k]'hlt).toNat < 128
      · have hnx : ∀ ty, (Instr.next (.pointer (some ⟨w.heap.size, 0, none⟩)) true ty).run Try.prog (w.iter s k) = _ := fun ty => run_next_ascii w s k ty hlt ha
        by_cases he : s[k] = 100
        · have hb : ((s[k].toNat : Int) == 100) = true := byte_eq _ 100 he
          have hn : ¬ s[k] = 102 := by rw [he]; decide
          go_wp2
          go_roundw
          case rel =>
            refine ⟨k + 1, by omega, rfl, ?_, ?_, Lib.hid ?_⟩
            · rw [H1.out, if_pos he]; go_num
            · rw [H2.out, if_neg hn]; go_num
            · rw [H3.out, hok.out, he]; rfl
          case measure => simp; omega
        · have hb : ((s[k].toNat : Int) == 100) = false := byte_ne _ 100 he
          by_cases hf : s[k] = 102
          · have hb2 : ((s[k].toNat : Int) == 102) = true := byte_eq _ 102 hf
            go_wp2
            go_roundw
            case rel =>
              refine ⟨k + 1, by omega, rfl, ?_, ?_, Lib.hid ?_⟩
              · rw [H1.out, if_neg he]; go_num
              · rw [H2.out, if_pos hf]; go_num
              · rw [H3.out, hok.out, hf]; rfl
            case measure => simp; omega
          · have hb2 : ((s[k].toNat : Int) == 102) = false := byte_ne _ 102 hf
            have hz := okL_bad s k hlt he hf
            have HZ := Lib.hid hz; clear hz
            go_wp2
            go_ret3
            unfold stepsV
            rw [HZ.out]
            exact ⟨rfl, below_iter _ _ _⟩
      · have hnx : ∀ ty, (Instr.next (.pointer (some ⟨w.heap.size, 0, none⟩)) true ty).run Try.prog (w.iter s k) = _ := fun ty => run_next_any w s k ty hlt
        have hhi := (decode_high s k hlt (by omega)).1
        have he : ¬ s[k] = 100 := by intro e; rw [e] at ha; exact ha (by decide)
        have hf : ¬ s[k] = 102 := by intro e; rw [e] at ha; exact ha (by decide)
        have hz := okL_bad s k hlt he hf
        have HZ := Lib.hid hz; clear hz
        obtain ⟨r, hr⟩ : ∃ r, (Utf8.decode s k).1 = r := ⟨_, rfl⟩
        rw [hr] at hnx hhi
        have hb : ((r : Int) == 100) = false := by simp; omega
        have hb2 : ((r : Int) == 102) = false := by simp; omega
        go_wp2
        go_ret3
        unfold stepsV
        rw [HZ.out]
        exact ⟨rfl, below_iter _ _ _⟩
    · have hnx : ∀ ty, (Instr.next (.pointer (some ⟨w.heap.size, 0, none⟩)) true ty).run Try.prog (w.iter s k) = _ := fun ty => run_next_end w s k ty hlt
      have hks : s.data.toList.take k = s.data.toList := List.take_of_length_le (by simp; omega)
      rw [hks] at hc1 hd1 hok ⊢
      have hv : stepsV s.data.toList = .tuple #[.int .i64 (cnt 100 s.data.toList), .int .i64 (cnt 102 s.data.toList), .bool true] := by unfold stepsV; rw [hok.out]; rfl
      have HV := Lib.hid hv; clear hv
      go_wp2
      go_ret3
      rw [HV.out]
      exact ⟨rfl, below_iter _ _ _⟩

/-- What stripSteps returns. -/
def stripV (l : List UInt8) : Value :=
  if stripB l = true then .tuple #[.int .i64 (cnt 100 l), .int .i64 (cnt 102 l), .bool true] else .tuple #[.int .i64 0, .int .i64 0, .bool false]

theorem strip_impl (s : ByteArray) (w : World) (hm : s.size ≤ 1048576) :
    Calls Try.prog 58 #[.string s] w fun e w' => e = .returned (stripV s.data.toList) ∧ Below w.heap.size w w' := by
  cases hk : okL s.data.toList with
  | false =>
    have h1 : stepsV s.data.toList = .tuple #[.int .i64 0, .int .i64 0, .bool false] := by unfold stepsV; rw [hk]; rfl
    have h2 : stripV s.data.toList = .tuple #[.int .i64 0, .int .i64 0, .bool false] := by unfold stripV; rw [strip_bad s hk]; rfl
    rw [h2]
    go_enter Try.func58, Try.ntmps58
    go_wp2_with fail
    refine (count_impl s _ hm).mono ?_
    rintro e w1 ⟨rfl, hb⟩
    have HB := Lib.hid hb; clear hb
    rw [h1]
    go_wp2
    go_ret3
    exact ⟨rfl, HB.out⟩
  | true =>
    have h1 : stepsV s.data.toList = .tuple #[.int .i64 (cnt 100 s.data.toList), .int .i64 (cnt 102 s.data.toList), .bool true] := by unfold stepsV; rw [hk]; rfl
    have hz : stripB s.data.toList = frameB (cnt 100 s.data.toList) (cnt 102 s.data.toList) := by unfold stripB; rw [hk]; exact Bool.true_and _
    cases hf : frameB (cnt 100 s.data.toList) (cnt 102 s.data.toList) with
    | false =>
      have h2 : stripV s.data.toList = .tuple #[.int .i64 0, .int .i64 0, .bool false] := by unfold stripV; rw [hz, hf]; rfl
      rw [h2]
      go_enter Try.func58, Try.ntmps58
      go_wp2_with fail
      refine (count_impl s _ hm).mono ?_
      rintro e w1 ⟨rfl, hb⟩
      have HB := Lib.hid hb; clear hb
      rw [h1]
      go_wp2_with fail
      refine (frame_impl _ _ _).mono ?_
      rintro e w' ⟨rfl, rfl⟩
      rw [hf]
      go_wp2
      go_ret3
      exact ⟨rfl, HB.out⟩
    | true =>
      have h2 : stripV s.data.toList = .tuple #[.int .i64 (cnt 100 s.data.toList), .int .i64 (cnt 102 s.data.toList), .bool true] := by unfold stripV; rw [hz, hf]; rfl
      rw [h2]
      go_enter Try.func58, Try.ntmps58
      go_wp2_with fail
      refine (count_impl s _ hm).mono ?_
      rintro e w1 ⟨rfl, hb⟩
      have HB := Lib.hid hb; clear hb
      rw [h1]
      go_wp2_with fail
      refine (frame_impl _ _ _).mono ?_
      rintro e w' ⟨rfl, rfl⟩
      rw [hf]
      go_wp2
      go_ret3
      exact ⟨rfl, HB.out⟩

theorem stripV_eq (l : List UInt8) : stripV l = .tuple #[.int .i64 (numV 100 l), .int .i64 (numV 102 l), .bool (stripB l)] := by
  unfold stripV numV
  cases h : stripB l <;> simp

theorem down_impl (s : ByteArray) (w : World) (hm : s.size ≤ 1048576) :
    Calls Try.prog 54 #[.string s] w fun e w' => e = .returned (.int .i64 (numV 100 s.data.toList)) ∧ Below w.heap.size w w' := by
  go_enter Try.func54, Try.ntmps54
  go_wp2_with fail
  refine (strip_impl s _ hm).mono ?_
  rintro e w1 ⟨rfl, hb⟩
  have HB := Lib.hid hb; clear hb
  rw [stripV_eq]
  go_wp2
  go_ret
  exact ⟨rfl, HB.out⟩

theorem forward_impl (s : ByteArray) (w : World) (hm : s.size ≤ 1048576) :
    Calls Try.prog 55 #[.string s] w fun e w' => e = .returned (.int .i64 (numV 102 s.data.toList)) ∧ Below w.heap.size w w' := by
  go_enter Try.func55, Try.ntmps55
  go_wp2_with fail
  refine (strip_impl s _ hm).mono ?_
  rintro e w1 ⟨rfl, hb⟩
  have HB := Lib.hid hb; clear hb
  rw [stripV_eq]
  go_wp2
  go_ret
  exact ⟨rfl, HB.out⟩
end Go.Proofs.Ytfhpbgmnekhfeaa.Strip

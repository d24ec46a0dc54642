/- What the program of chapter 15 returns: CountCreases. -/
import Derived.Test.YtigakakgikcghaaCreaseText
namespace Go.Proofs.Ytigakakgikcghaa.Crease
open Go.ChangeShapes Go.WideShapes Go.ChangeAt Go.RowKit
open Go.Proofs.Ytigakakgikcghaa.Strip Go.Proofs.Ytigakakgikcghaa.Ints Go.Proofs.Ytigakakgikcghaa.Corner Go.Proofs.Ytigakakgikcghaa.Strs Go.Proofs.Ytigakakgikcghaa.Card
set_option linter.unusedVariables false

theorem count_sign (s : ByteArray) (x : UInt8) (w : World) :
    Calls Try.prog 29 #[.string s, .string ⟨#[x]⟩] w fun e w' => e = .returned (.int .i64 (cnt x s.data.toList : Nat)) ∧ w = w' :=
  (Try.strings_Count_one s x w).mono fun _ _ ⟨a, b⟩ => ⟨a, b.symm⟩

set_option maxRecDepth 100000 in
set_option maxHeartbeats 4000000 in
theorem cnt_impl (d f : Int) (a : Option Addr) (m c : Nat) (l : List ByteArray) (w : World) (hl : l.length = m) (hm : m ≤ 1048576) (hz : ∀ s ∈ l, s.size ≤ 1048576) (hr : Row w a l) :
    Calls Try.prog 11 #[.agg #[.int .i64 d, .int .i64 f, .slice a m c]] w fun e w' => e = .returned (.tuple #[.int .i64 (totV 109 d f l), .int .i64 (totV 118 d f l)]) ∧ Below w.heap.size w w' := by
  have HBa := Lib.hid (alloc_below w (.cells #[.int .i64 d, .int .i64 f, .slice a m c] 26))
  have HVa := Lib.hid (Var.new w d f (.slice a m c))
  have HR0 := Lib.hid hr
  have HR := Lib.hid (hr.below HBa.out)
  have HOK := Lib.hid (fun (w' : World) (h : Row w' a l) => ok_impl d f a m c l w' hl hm hz h)
  have HTE := Lib.hid (fun (k : Int) (w' : World) (h : Row w' a l) => text_impl d f a m c l k w' hl hm hz h)
  have HL := Lib.hid hl
  unfold totV
  cases hb : cardB d f l with
  | false =>
    rw [hb] at HOK
    simp only [Bool.false_eq_true, if_false]
    clear hr hb hz hl
    go_enter Try.func11, Try.ntmps11
    go_wp2_with fail
    refine (HOK.out _ HR.out).mono ?_
    rintro e w1 ⟨rfl, hb1⟩
    have HBb := Lib.hid (HBa.out.trans (hb1.mono HBa.out.size))
    clear hb1
    go_wp2
    go_ret2
    exact ⟨rfl, HBb.out⟩
  | true =>
    rw [hb] at HOK
    obtain ⟨f1, f2, f3, f4, f5, f6⟩ := frame_of hb
    rw [hl] at f5 f6
    have HTI := Lib.hid (fun x k (hk : k ≤ m) => tot_in hb x k (by rw [hl]; exact hk))
    have HTX := Lib.hid (fun (k : Nat) (hk : k < l.length) => show textV (stripN d f l (k : Nat)) = ⟨(txt l[k].data.toList).toArray⟩ by
      rw [stripN_yes hb k hk]
      unfold textV
      rw [if_neg (by have := (strip_of hb l[k] (List.getElem_mem _)).low; omega)])
    simp only [if_true]
    rw [hl]
    clear hr hb hz hl
    go_enter Try.func11, Try.ntmps11
    go_wp2_with fail
    refine (HOK.out _ HR.out).mono ?_
    rintro e w1 ⟨rfl, hb1⟩
    have HBb := Lib.hid (HBa.out.trans (hb1.mono HBa.out.size))
    have HVb := Lib.hid (HVa.out.below hb1)
    clear hb1
    obtain ⟨k0, k1, k2⟩ := HVb.out.cells
    go_wp2_with fail
    clear k0 k1 k2
    go_loopw [4, 5, 14] (fun x y i wr => ∃ k : Nat, k ≤ m ∧ i = .int .i64 (k : Int) ∧ x = .int .i64 (tot 109 l k : Nat) ∧ y = .int .i64 (tot 118 l k : Nat) ∧ Hid (Var wr w.heap.size d f (.slice a m c)) ∧ Hid (Below w.heap.size w wr)) (fun _ _ i _ => m - (intOf i).toNat)
    case atStart => exact ⟨0, Nat.zero_le _, rfl, rfl, rfl, HVb, HBb⟩
    case round =>
      clear HVb HBb
      obtain ⟨k, hk, rfl, rfl, rfl, HV, HB⟩ := hrel
      obtain ⟨k0, k1, k2⟩ := HV.out.cells
      have t0 := HTI.out 109 k hk
      have t1 := HTI.out 118 k hk
      have hk0 : (0 : Int) ≤ (k : Int) := Int.natCast_nonneg _
      by_cases hlt : k < m
      · have hk1 : (k : Int) < (m : Int) := by omega
        have hkl : k < l.length := by rw [HL.out]; exact hlt
        have u0 := HTI.out 109 (k + 1) (by omega)
        have u1 := HTI.out 118 (k + 1) (by omega)
        rw [tot_succ 109 l k hkl] at u0
        rw [tot_succ 118 l k hkl] at u1
        have S1 := Lib.hid (tot_succ 109 l k hkl)
        have S2 := Lib.hid (tot_succ 118 l k hkl)
        have HT := Lib.hid (fun (w' : World) (h : Row w' a l) => HTE.out (k : Int) w' h)
        rw [HTX.out k hkl] at HT
        generalize hT : txt l[k].data.toList = T at *
        have HC1 := Lib.hid (fun w' : World => show Calls Try.prog 29 #[.string ⟨T.toArray⟩, .string ⟨#[109]⟩] w' fun e w'' => e = .returned (.int .i64 (cnt 109 T : Nat)) ∧ w' = w'' from count_sign ⟨T.toArray⟩ 109 w')
        have HC2 := Lib.hid (fun w' : World => show Calls Try.prog 29 #[.string ⟨T.toArray⟩, .string ⟨#[118]⟩] w' fun e w'' => e = .returned (.int .i64 (cnt 118 T : Nat)) ∧ w' = w'' from count_sign ⟨T.toArray⟩ 118 w')
        generalize cnt 109 T = A at *
        generalize cnt 118 T = B at *
        generalize tot 109 l k = M at *
        generalize tot 118 l k = V at *
        clear hT
        go_wp2_with fail
        refine (HT.out _ (HR0.out.below HB.out)).mono ?_
        rintro e w2 ⟨rfl, hb⟩
        have HV2 := Lib.hid (HV.out.below hb)
        have HB2 := Lib.hid (HB.out.trans (hb.mono HB.out.size))
        clear hb k0 k1 k2 HV HB
        go_wp2_with fail
        refine (HC1.out _).mono ?_
        rintro e w3 ⟨rfl, rfl⟩
        go_wp2_with fail
        refine (HC2.out _).mono ?_
        rintro e w3 ⟨rfl, rfl⟩
        go_wp2
        go_roundw
        case rel => exact ⟨k + 1, by omega, by go_num, by rw [S1.out]; go_num, by rw [S2.out]; go_num, HV2, HB2⟩
        case measure => simp [intOf]; omega
      · obtain rfl : k = m := by omega
        go_wp2
        go_ret2
        exact ⟨rfl, HB.out⟩
end Go.Proofs.Ytigakakgikcghaa.Crease

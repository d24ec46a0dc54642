/- What the model of chapter 10 returns: RaisesOf. -/
import Derived.Test.YtbfbjolggilfoaaFlipSpec
namespace Go.Proofs.Ytbfbjolggilfoaa.Flip
open Go.ChangeShapes Go.WideShapes Go.ChangeAt Go.RowKit
open Go.Proofs.Ytbfbjolggilfoaa.Strip Go.Proofs.Ytbfbjolggilfoaa.Ints Go.Proofs.Ytbfbjolggilfoaa.Corner Go.Proofs.Ytbfbjolggilfoaa.Kerf Go.Proofs.Ytbfbjolggilfoaa.Order
set_option linter.unusedVariables false

theorem valleys_one (l : List UInt8) : valleysN l 1 = [] := by
  have h : cornerB 100 l ((0 : Nat) : Int) = false := corner_no _ _ _ (.inr (by omega))
  rw [valleys_no h]; rfl
theorem valleys_zero (l : List UInt8) : valleysN l 0 = [] := rfl
theorem valleys_len (l : List UInt8) (n : Nat) : (valleysN l n).length ≤ n := by
  unfold valleysN
  rw [List.length_map]
  exact Nat.le_trans (List.length_filter_le _ _) (by simp)

set_option maxRecDepth 100000 in
theorem raises_spec (s : ByteArray) (w : World) (hm : s.size ≤ 1048576) :
    Calls Try.prog 28 #[.string s] w (PostRow w (raisesL s.data.toList)) := by
  obtain ⟨i0, hi, hz0, hz1, hz2⟩ := info_parts info_int
  have hsl : s.data.toList.length = s.size := by simp
  have hr : raisesL s.data.toList = valleysN s.data.toList s.size := by unfold raisesL; rw [hsl]
  have HE := Lib.hid hr; clear hr
  have HN := Lib.hid (fun (v : Value) (n : Nat) => by
    have h : s.size ≤ 1 → valleysN s.data.toList s.size = [] := fun h => by
      rcases Nat.lt_or_eq_of_le h with h | h
      · rw [show s.size = 0 by omega]; rfl
      · rw [h]; exact valleys_one _
    exact h)
  clear hsl
  go_enter Try.func28, Try.ntmps28
  go_wp2_with fail
  go_loopw [3, 4] (fun v i wr => ∃ k : Nat, 1 ≤ k ∧ (k ≤ s.size ∨ s.size ≤ 1 ∧ k = 1) ∧ i = .int .i64 (k : Int) ∧ Hid (Own wr w.heap.size v (valleysN s.data.toList k)) ∧ Hid (Below w.heap.size w wr)) (fun _ i _ => s.size - (intOf i).toNat)
  case atStart => exact ⟨1, Nat.le_refl _, by omega, rfl, (by rw [valleys_one]; exact World.ownsRow_made w #[] 0 (Nat.le_refl _) (by unfold maxLen; omega) rfl), (Below.refl _ _).alloc (Nat.le_refl _) _⟩
  case round =>
    obtain ⟨k, h1, hk, rfl, HO, HB⟩ := hrel
    have HS := Lib.hid HB.out.size
    have hle := valleys_len s.data.toList k
    by_cases hlt : k < s.size
    · have hk0 : (0 : Int) ≤ (k : Int) := Int.natCast_nonneg _
      have hk1 : (k : Int) < (s.size : Int) := by omega
      cases hc : cornerB 100 s.data.toList (k : Int) with
      | false =>
        have HT := Lib.hid (valleys_no hc)
        go_wp2_with fail
        refine (valley_spec s _ _ hm (by omega) (by omega)).mono ?_
        rintro e w' ⟨rfl, hb⟩
        have HO2 := Lib.hid (HO.out.below hb)
        have HB2 := Lib.hid (HB.out.trans (hb.mono HS.out))
        clear hb
        rw [hc]
        go_wp2
        go_roundw
        case rel => exact ⟨k + 1, by omega, .inl (by omega), by go_num, by rw [HT.out]; exact HO2, HB2⟩
        case measure => simp [intOf]; omega
      | true =>
        have HT := Lib.hid (valleys_yes hc)
        go_wp2_with fail
        refine (valley_spec s _ _ hm (by omega) (by omega)).mono ?_
        rintro e w2 ⟨rfl, hb⟩
        have HO2 := Lib.hid (HO.out.below hb)
        have HB2 := Lib.hid (HB.out.trans (hb.mono HS.out))
        have HS2 := Lib.hid HB2.out.size
        clear hb
        rw [hc]
        go_wp2_with (at_builtin; refine wpList_append_own _ rfl _ _ 26 rfl w.heap.size 3 i0 _ 1 8 Try.underlying26 hi hz0 hz1 hz2 rfl (by decide) u3 (valleysN s.data.toList k).length (icells (valleysN s.data.toList k)) rfl (HO2.out.alloc _) ⟨w2.heap.size, 0, none⟩ 1 1 [.int .i64 (k : Int)] rfl rfl (World.news_of_block (cs := #[.int .i64 (k : Int)]) (t := 3) (fr := (0, 0)) (heap_alloc_new _ _)) (by simp [Value.oneCell']) (by unfold maxLen; omega) (by omega) (by have := HS2.out; simp; omega) ?_)
        intro v1 w1 hown1 hgrow _
        have HB3 := Lib.hid ((HB2.out.alloc HS2.out _).grown hgrow (by have := HS2.out; simp; omega) (fun t e => (HO2.out.lt t e).1))
        have HO3 : Hid (Own w1 w.heap.size v1 (valleysN s.data.toList (k + 1))) := by
          show World.ownsRow _ _ _ _ _ _ _
          rw [HT.out, icells_snoc, List.length_append]; exact hown1
        clear hown1 hgrow
        go_wp2
        go_roundw
        case rel => exact ⟨k + 1, by omega, .inl (by omega), by go_num, HO3, HB3⟩
        case measure => simp [intOf]; omega
    · have hle : ¬ (k : Int) < (s.size : Int) := by omega
      have hfin : valleysN s.data.toList k = raisesL s.data.toList := by
        rw [HE.out]
        rcases hk with hk | ⟨hk, rfl⟩
        · rw [show k = s.size by omega]
        · rw [HN.out u3 0 hk, valleys_one]
      rw [hfin] at HO
      go_wp2
      go_ret
      exact ⟨_, rfl, HB.out, HO.out⟩
end Go.Proofs.Ytbfbjolggilfoaa.Flip

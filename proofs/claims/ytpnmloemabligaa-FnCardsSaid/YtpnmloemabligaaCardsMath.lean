/- What is put into a card can be cut out again; what is exchanged twice is as before. -/
import Derived.Test.YtpnmloemabligaaDrawCard3
import Derived.Test.YtpnmloemabligaaPutImpl
import Derived.Test.YtpnmloemabligaaCutImpl
import Derived.Test.YtpnmloemabligaaWithImpl
import Derived.Test.YtpnmloemabligaaPlainImpl
import Derived.Test.YtpnmloemabligaaCardSame2
namespace Go.Proofs.Ytpnmloemabligaa.Card
open Go.Proofs.Ytpnmloemabligaa.Strip Go.Proofs.Ytpnmloemabligaa.Strs
set_option linter.unusedVariables false

theorem good_size {d f : Int} {s : ByteArray} (h : goodB d f s = true) (hd : frameB d f = true) : s.size ≤ 16 := by
  have hp := frame_pos hd
  unfold goodB numV at h
  simp only [decide_eq_true_eq] at h
  have hok : stripB s.data.toList = true := by
    by_cases h1 : stripB s.data.toList = true
    · exact h1
    · rw [if_neg h1, if_neg h1] at h; omega
  rw [if_pos hok, if_pos hok] at h
  have := cnt_sum _ (stripB_ok hok)
  simp at this
  omega

theorem card_small {d f : Int} {l : List ByteArray} (h : cardB d f l = true) : ∀ s ∈ l, s.size ≤ 1048576 := fun s hs => by
  have := good_size ((cardB_iff.1 h).2.2.2 s hs) (cardB_iff.1 h).1
  omega

section
variable {d f : Int} {l : List ByteArray} {s : ByteArray} {k : Nat}
theorem putIn_card (h : cardB d f l = true) (hl : l.length ≤ 6) (hs : goodB d f s = true) (hk : k ≤ l.length) : cardB d f (putIn l k s) = true := by
  obtain ⟨h1, h2, h3, h4⟩ := cardB_iff.1 h
  refine cardB_iff.2 ⟨h1, by rw [putIn_length _ _ _ hk]; omega, by rw [putIn_length _ _ _ hk]; omega, fun t ht => ?_⟩
  unfold putIn at ht
  rcases List.mem_append.1 ht with h5 | h5
  · exact h4 t (List.mem_of_mem_take h5)
  · rcases List.mem_cons.1 h5 with rfl | h6
    · exact hs
    · exact h4 t (List.mem_of_mem_drop h6)
theorem put_is (h : cardB d f l = true) (hl : l.length ≤ 6) (hs : goodB d f s = true) (hk : k ≤ l.length) : putB d f l k s = true ∧ putL d f l k s = putIn l k s := by
  have e : putB d f l (k : Int) s = true := by
    unfold putB
    rw [h, decide_eq_true (show (0 : Int) ≤ (k : Int) ∧ (k : Int) ≤ (l.length : Int) by omega), show ((k : Int)).toNat = k from Int.toNat_natCast k, putIn_card h hl hs hk]
    rfl
  exact ⟨e, by unfold putL; rw [if_pos e, show ((k : Int)).toNat = k from Int.toNat_natCast k]⟩
theorem cut_put (hk : k ≤ l.length) : (putIn l k s).take k ++ (putIn l k s).drop (k + 1) = l := by
  unfold putIn
  have hl : (l.take k).length = k := by rw [List.length_take]; omega
  rw [List.take_append_of_le_length (by omega), List.take_of_length_le (by omega), List.drop_append, hl, List.drop_eq_nil_of_le (by omega), show k + 1 - k = 1 by omega]
  simp
theorem cut_is (h : cardB d f l = true) (hl : l.length ≤ 6) (hs : goodB d f s = true) (hk : k ≤ l.length) : cutB d f (putIn l k s) k = true ∧ cutL d f (putIn l k s) k = l := by
  have e : cutB d f (putIn l k s) (k : Int) = true := by
    unfold cutB
    rw [putIn_card h hl hs hk, decide_eq_true (show (0 : Int) ≤ (k : Int) ∧ (k : Int) < ((putIn l k s).length : Int) by rw [putIn_length _ _ _ hk]; omega), show ((k : Int)).toNat = k from Int.toNat_natCast k, cut_put hk, h]
    rfl
  exact ⟨e, by unfold cutL; rw [if_pos e, show ((k : Int)).toNat = k from Int.toNat_natCast k, cut_put hk]⟩
theorem set_card (h : cardB d f l = true) (hs : goodB d f s = true) : cardB d f (l.set k s) = true := by
  obtain ⟨h1, h2, h3, h4⟩ := cardB_iff.1 h
  refine cardB_iff.2 ⟨h1, by simpa using h2, by simpa using h3, fun t ht => ?_⟩
  rcases List.mem_or_eq_of_mem_set ht with h5 | rfl
  · exact h4 t h5
  · exact hs
theorem with_is (h : cardB d f l = true) (hs : goodB d f s = true) (hk : k < l.length) : withB d f l k s = true ∧ withL d f l k s = l.set k s := by
  have e : withB d f l (k : Int) s = true := by
    unfold withB
    rw [h, decide_eq_true (show (0 : Int) ≤ (k : Int) ∧ (k : Int) < (l.length : Int) by omega), show ((k : Int)).toNat = k from Int.toNat_natCast k, set_card h hs]
    rfl
  exact ⟨e, by unfold withL; rw [if_pos e, show ((k : Int)).toNat = k from Int.toNat_natCast k]⟩
theorem back_is (h : cardB d f l = true) (hs : goodB d f s = true) (hk : k < l.length) : withB d f (l.set k s) k l[k] = true ∧ withL d f (l.set k s) k l[k] = l := by
  have h2 := with_is (set_card (k := k) h hs) ((cardB_iff.1 h).2.2.2 l[k] (List.getElem_mem hk)) (k := k) (by simpa using hk)
  refine ⟨h2.1, ?_⟩
  rw [h2.2, List.set_set, List.set_getElem_self]
theorem plain3 (h : frameB d f = true) : plainB d f 3 = true ∧ (plainL d f 3).length = 3 := by
  have hg := flat_good h
  have e : plainB d f 3 = true := by
    unfold plainB
    have h3 : cardB d f (List.replicate 3 (flatS d f)) = true := cardB_iff.2 ⟨h, by simp, by simp, fun t ht => by
      rw [List.eq_of_mem_replicate ht]; exact hg⟩
    exact Bool.and_eq_true _ _ |>.mpr ⟨by decide, h3⟩
  refine ⟨e, ?_⟩
  unfold plainL
  rw [if_pos e]
  simp
end
end Go.Proofs.Ytpnmloemabligaa.Card

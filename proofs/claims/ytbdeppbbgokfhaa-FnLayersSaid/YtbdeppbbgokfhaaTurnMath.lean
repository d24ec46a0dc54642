/- CARDS FROM OTHER SIDES: strips whose other page lies flat, rows in the opposite order, balanced strips, symmetric cards. Pure mathematics. -/
import Derived.Test.YtbdeppbbgokfhaaOrderMath
namespace Go.Proofs.Ytbdeppbbgokfhaa.Turn
open Go.Proofs.Ytbdeppbbgokfhaa.Strip Go.Proofs.Ytbdeppbbgokfhaa.Kerf Go.Proofs.Ytbdeppbbgokfhaa.Order
set_option linter.unusedVariables false

/-- The other letter. -/
def turnB (b : UInt8) : UInt8 := if b = 100 then 102 else 100
def turnN (l : List UInt8) : List UInt8 := l.reverse.map turnB
/-- What TurnStrip returns. -/
def turnL (l : List UInt8) : List UInt8 := if stripB l = true then turnN l else []
def turnS (s : ByteArray) : ByteArray := ⟨(turnL s.data.toList).toArray⟩
theorem turnS_list (s : ByteArray) : (turnS s).data.toList = turnL s.data.toList := rfl
theorem turn_yes {l : List UInt8} (h : stripB l = true) : turnL l = turnN l := by unfold turnL; rw [if_pos h]
theorem turn_no {l : List UInt8} (h : stripB l = false) : turnL l = [] := by unfold turnL; rw [if_neg (by rw [h]; simp)]
theorem turnN_length (l : List UInt8) : (turnN l).length = l.length := by unfold turnN; simp
theorem turnL_le (l : List UInt8) : (turnL l).length ≤ l.length := by
  unfold turnL
  split
  · rw [turnN_length]; exact Nat.le_refl _
  · exact Nat.zero_le _
theorem turnS_size (s : ByteArray) : (turnS s).size ≤ s.size := by
  have h := turnL_le s.data.toList
  have e : s.data.toList.length = s.size := by simp
  show (turnL s.data.toList).toArray.size ≤ _
  rw [List.size_toArray]
  omega
theorem turnN_ok (l : List UInt8) : okL (turnN l) = true := by
  unfold okL turnN
  rw [List.all_eq_true]
  intro x hx
  obtain ⟨b, _, rfl⟩ := List.mem_map.1 hx
  unfold turnB
  split <;> rfl
/-- What is appended for each letter, from behind. -/
theorem turnN_cons (b : UInt8) (l : List UInt8) : turnN (b :: l) = turnN l ++ [turnB b] := by unfold turnN; simp
theorem turnN_append (a b : List UInt8) : turnN (a ++ b) = turnN b ++ turnN a := by unfold turnN; simp
theorem turnN_drop (l : List UInt8) (k : Nat) (h : k < l.length) : turnN (l.drop k) = turnN (l.drop (k + 1)) ++ [turnB l[k]] := by
  rw [List.drop_eq_getElem_cons h, turnN_cons]

theorem cnt_cons (x b : UInt8) (l : List UInt8) : cnt x (b :: l) = cnt x l + (if b = x then 1 else 0) := by
  unfold cnt
  rw [List.count_cons]
  simp
theorem cnt_app (x : UInt8) (a b : List UInt8) : cnt x (a ++ b) = cnt x a + cnt x b := by unfold cnt; rw [List.count_append]
theorem cnt_turn_f (l : List UInt8) : cnt 102 (turnN l) = cnt 100 l := by
  induction l with
  | nil => rfl
  | cons b l ih =>
    rw [turnN_cons, cnt_snoc, ih, cnt_cons]
    congr 1
    unfold turnB
    by_cases h : b = 100
    · rw [if_pos h, if_pos h]; rfl
    · rw [if_neg h, if_neg h]; rfl
theorem cnt_turn_d {l : List UInt8} (h : okL l = true) : cnt 100 (turnN l) = cnt 102 l := by
  have h1 := cnt_sum _ (turnN_ok l)
  have h2 := cnt_sum _ h
  rw [turnN_length, cnt_turn_f] at h1
  omega
theorem strip_turn {l : List UInt8} (h : stripB l = true) : stripB (turnL l) = true := by
  rw [turn_yes h]
  have h1 := stripB_frame h
  unfold stripB
  rw [turnN_ok, cnt_turn_f, cnt_turn_d (stripB_ok h), Bool.true_and]
  unfold frameB at h1 ⊢
  simp only [decide_eq_true_eq] at h1 ⊢
  omega
theorem turnB_turnB {b : UInt8} (h : b = 100 ∨ b = 102) : turnB (turnB b) = b := by rcases h with rfl | rfl <;> rfl
theorem turnN_turnN : ∀ {l : List UInt8}, okL l = true → turnN (turnN l) = l
  | [], _ => rfl
  | b :: l, h => by
    unfold okL at h
    simp only [List.all_cons, Bool.and_eq_true] at h
    have ih := turnN_turnN (l := l) (by unfold okL; exact h.2)
    rw [turnN_cons, turnN_append, ih]
    have hb : b = 100 ∨ b = 102 := by simpa using h.1
    show turnN [turnB b] ++ l = b :: l
    show [turnB (turnB b)] ++ l = b :: l
    rw [turnB_turnB hb]; rfl
theorem turn_turn {l : List UInt8} (h : stripB l = true) : turnL (turnL l) = l := by
  rw [turn_yes (strip_turn h), turn_yes h, turnN_turnN (stripB_ok h)]
theorem turnS_turnS {s : ByteArray} (h : stripB s.data.toList = true) : turnS (turnS s) = s := of_list (by rw [turnS_list, turnS_list, turn_turn h])

/-- Letters f among the first steps of the turned strip. -/
theorem ff_turn {l : List UInt8} (hok : okL l = true) (k : Nat) (hk : k ≤ l.length) : ff (turnN l) k + (l.length - k) = cnt 100 l + ff l (l.length - k) := by
  have e : l = l.take (l.length - k) ++ l.drop (l.length - k) := (List.take_append_drop _ _).symm
  have h1 : ff (turnN l) k = cnt 100 (l.drop (l.length - k)) := by
    have hl : (turnN (l.drop (l.length - k))).length = k := by rw [turnN_length, List.length_drop]; omega
    unfold ff
    rw [show turnN l = turnN (l.drop (l.length - k)) ++ turnN (l.take (l.length - k)) by rw [← turnN_append, List.take_append_drop]]
    rw [List.take_left' hl, cnt_turn_f]
  have h2 : cnt 100 l = cnt 100 (l.take (l.length - k)) + cnt 100 (l.drop (l.length - k)) := by
    rw [← cnt_app, List.take_append_drop]
  have h3 := dd_eq hok (l.length - k) (by omega)
  omega

theorem sumN_back (g : Nat → Int) : ∀ n, sumN n (fun k => g (n - k)) = sumN n g + g n - g 0
  | 0 => by show (0 : Int) = 0 + g 0 - g 0; omega
  | n + 1 => by
    have ih := sumN_back g n
    have e := sumN_shift n (fun k => g (n + 1 - k))
    have e2 : (fun k => g (n + 1 - (k + 1))) = fun k => g (n - k) := by funext k; rw [Nat.add_sub_add_right]
    rw [e2] at e
    rw [e, ih]
    show g (n + 1) + _ = sumN n g + g n + g (n + 1) - g 0
    omega
theorem tri_two (n : Nat) : 2 * tri n = (n : Int) * n + n := by
  induction n with
  | zero => rfl
  | succ n ih =>
    show 2 * (tri n + (n : Int) + 1) = ((n + 1 : Nat) : Int) * ((n + 1 : Nat) : Int) + ((n + 1 : Nat) : Int)
    have e : ((n + 1 : Nat) : Int) * ((n + 1 : Nat) : Int) = (n : Int) * n + n + n + 1 := by
      rw [show ((n + 1 : Nat) : Int) = (n : Int) + 1 by omega, Int.add_mul, Int.mul_add]
      omega
    rw [e]
    omega
theorem sumN_id (n : Nat) : sumN n (fun k => (k : Int)) + n = tri n := by
  induction n with
  | zero => rfl
  | succ n ih => show sumN n (fun k => (k : Int)) + (n : Int) + ((n + 1 : Nat) : Int) = tri n + (n : Int) + 1; omega
theorem sumN_same (c : Int) (n : Nat) : sumN n (fun _ => c) = (n : Int) * c := by
  induction n with
  | zero => simp [sumN]
  | succ n ih =>
    show sumN n (fun _ => c) + c = _
    rw [ih, show ((n + 1 : Nat) : Int) = (n : Int) + 1 by omega, Int.add_mul]
    omega

/-- The room under a turned strip is the same. -/
theorem room_turn {l : List UInt8} (h : stripB l = true) : roomI (turnL l) = roomI l := by
  have hok := stripB_ok h
  have ht := strip_turn h
  have hn := cnt_sum l hok
  rw [turn_yes h] at ht ⊢
  rw [room_sum ht, room_sum h, turnN_length, cnt_turn_f, cnt_turn_d hok]
  have e1 : sumN l.length (fun k => (ff (turnN l) k : Int)) = sumN l.length (fun k => (cnt 100 l : Int) + (((ff l (l.length - k) : Nat) : Int) - ((l.length - k : Nat) : Int))) := by
    apply sumN_congr
    intro k hk
    have := ff_turn hok k (by omega)
    omega
  have e2 := sumN_add l.length (fun _ => (cnt 100 l : Int)) (fun k => ((ff l (l.length - k) : Nat) : Int) - ((l.length - k : Nat) : Int))
  have e3 := sumN_sub l.length (fun k => ((ff l (l.length - k) : Nat) : Int)) (fun k => ((l.length - k : Nat) : Int))
  have e4 := sumN_back (fun k => (ff l k : Int)) l.length
  have e5 := sumN_back (fun k => (k : Int)) l.length
  have e6 := sumN_id l.length
  have e7 := sumN_same (cnt 100 l : Int) l.length
  rw [e1, e2, e3, e4, e5, e7, ff_all l _ (Nat.le_refl _), ff_zero]
  have t1 := tri_two (cnt 100 l)
  have t2 := tri_two (cnt 102 l)
  have t3 := tri_two l.length
  rw [← hn] at e6 t3 ⊢
  generalize sumN (cnt 100 l + cnt 102 l) (fun k => (ff l k : Int)) = S
  generalize hI : sumN (cnt 100 l + cnt 102 l) (fun k => (k : Int)) = I at *
  generalize cnt 100 l = D at *
  generalize cnt 102 l = F at *
  generalize tri D = TD at *
  generalize tri F = TF at *
  generalize tri (D + F) = TN at *
  have c1 : ((D + F : Nat) : Int) = (D : Int) + F := by omega
  rw [c1] at t3 e6 ⊢
  have m1 : ((D : Int) + F) * ((D : Int) + F) = (D : Int) * D + 2 * ((D : Int) * F) + (F : Int) * F := by
    rw [Int.add_mul, Int.mul_add, Int.mul_add, Int.mul_comm (F : Int) (D : Int)]; omega
  have m2 : ((D : Int) + F) * (D : Int) = (D : Int) * D + (D : Int) * F := by rw [Int.add_mul, Int.mul_comm (F : Int) (D : Int)]
  have m3 : (D : Int) * ((F : Int) - ((D : Int) + F)) = -((D : Int) * D) := by rw [show (F : Int) - ((D : Int) + F) = -(D : Int) by omega, Int.mul_neg]
  have m4 : (F : Int) * ((D : Int) - ((D : Int) + F)) = -((F : Int) * F) := by rw [show (D : Int) - ((D : Int) + F) = -(F : Int) by omega, Int.mul_neg]
  rw [m1] at t3
  rw [m2, m3, m4]
  generalize (D : Int) * D = DD at *
  generalize (F : Int) * F = FF at *
  generalize (D : Int) * F = DF at *
  omega

theorem same_turn {a b : List UInt8} (h : sameB a b = true) : sameB (turnL a) (turnL b) = true := by
  obtain ⟨h1, h2, h3, h4, h5⟩ := same_facts h
  refine same_of (strip_turn h1) (strip_turn h2) ?_ ?_
  · rw [turn_yes h1, turn_yes h2, cnt_turn_d (stripB_ok h1), cnt_turn_d (stripB_ok h2), h4]
  · rw [turn_yes h1, turn_yes h2, cnt_turn_f, cnt_turn_f, h3]
/-- Above it stays. -/
theorem above_turn {a b : List UInt8} (h : sameB a b = true) : aboveB (turnL a) (turnL b) = aboveB a b := by
  obtain ⟨h1, h2, h3, h4, h5⟩ := same_facts h
  rw [Bool.eq_iff_iff, above_iff, above_iff]
  have hs := same_turn h
  have hl : (turnL a).length = a.length := by rw [turn_yes h1, turnN_length]
  have hk : ∀ k, k ≤ a.length → (ff (turnL b) k ≤ ff (turnL a) k ↔ ff b (a.length - k) ≤ ff a (a.length - k)) := by
    intro k hk
    have e1 := ff_turn (stripB_ok h1) k hk
    have e2 := ff_turn (stripB_ok h2) k (by omega)
    rw [turn_yes h1, turn_yes h2]
    rw [← h5] at e2
    omega
  constructor
  · rintro ⟨_, h⟩
    refine ⟨‹_›, fun k hkk => ?_⟩
    have := (hk (a.length - k) (by omega)).1 (h _ (by omega))
    rwa [show a.length - (a.length - k) = k by omega] at this
  · rintro ⟨_, h⟩
    exact ⟨hs, fun k hkk => (hk k (by omega)).2 (h _ (by omega))⟩

/-! ### balanced strips -/
/-- What IsBalanced returns. -/
def balB (l : List UInt8) : Bool := stripB l && decide (turnL l = l)
/-- What CountBalanced returns. -/
def balN (n : Int) : Int := if frameB n n = true then 2 ^ n.toNat else 0
theorem bal_text {s : ByteArray} (h : stripB s.data.toList = true) : balB s.data.toList = decide (turnS s = s) := by
  unfold balB
  rw [h, Bool.true_and, Bool.eq_iff_iff, decide_eq_true_eq, decide_eq_true_eq]
  exact ⟨fun e => of_list e, fun e => by rw [← turnS_list, e]⟩
end Go.Proofs.Ytbdeppbbgokfhaa.Turn

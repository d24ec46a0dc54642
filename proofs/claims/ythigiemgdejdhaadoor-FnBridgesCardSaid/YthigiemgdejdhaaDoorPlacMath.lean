/- The facts behind the property of chapter 4. -/
import Derived.Test.YthigiemgdejdhaaDoorPlaceMath
namespace Go.Proofs.YthigiemgdejdhaaDoor.Place
open Go.Proofs.YthigiemgdejdhaaDoor.Strip
set_option linter.unusedVariables false

theorem take_more (l : List UInt8) (k : Nat) (h : k < l.length) : l.take (k + 1) = l.take k ++ [l[k]] := by
  rw [List.take_add_one, List.getElem?_eq_getElem h]; rfl
theorem ok_get {l : List UInt8} (h : okL l = true) (k : Nat) (hk : k < l.length) : l[k] = 100 ∨ l[k] = 102 := by
  unfold okL at h
  rw [List.all_eq_true] at h
  have := h l[k] (List.getElem_mem _)
  simpa using this
theorem fw_up {l : List UInt8} (h : okL l = true) (k : Nat) (hk : k < l.length) :
    (fwAt l (k + 1) = fwAt l k + 1 ∧ upAt l (k + 1) = upAt l k) ∨ (fwAt l (k + 1) = fwAt l k ∧ upAt l (k + 1) = upAt l k - 1) := by
  unfold fwAt upAt
  rw [take_more l k hk, cnt_snoc, cnt_snoc]
  rcases ok_get h k hk with e | e
  · right; rw [e]; simp; omega
  · left; rw [e]; simp
theorem fw_zero (l : List UInt8) : fwAt l 0 = 0 := by unfold fwAt; simp [cnt]
theorem up_zero (l : List UInt8) : upAt l 0 = (cnt 100 l : Int) := by unfold upAt; simp [cnt]
theorem fw_all (l : List UInt8) : fwAt l l.length = (cnt 102 l : Int) := by unfold fwAt; rw [List.take_length]
theorem up_all (l : List UInt8) : upAt l l.length = 0 := by unfold upAt; rw [List.take_length]; omega
theorem fw_minus {l : List UInt8} (h : okL l = true) (k : Nat) (hk : k ≤ l.length) : fwAt l k - upAt l k = (k : Int) - (cnt 100 l : Int) := by
  induction k with
  | zero => rw [fw_zero, up_zero]; omega
  | succ k ih => have := ih (by omega); rcases fw_up h k (by omega) with ⟨a, b⟩ | ⟨a, b⟩ <;> omega

theorem px_0 (l : List UInt8) (k : Nat) : px l 0 k = fwAt l k + upAt l k := by unfold px fx; rw [if_pos rfl]
theorem px_1 (l : List UInt8) (k : Nat) : px l 1 k = fwAt l k := by unfold px fx; rw [if_neg (by decide), if_pos rfl]
theorem px_2 (l : List UInt8) (k : Nat) : px l 2 k = fwAt l k - upAt l k := by unfold px fx; rw [if_neg (by decide), if_neg (by decide)]
theorem fy_0 (u : Int) : fy u 0 = 0 := by unfold fy; rw [if_neg (by decide)]
theorem fy_1 (u : Int) : fy u 1 = u := by unfold fy; rw [if_pos rfl]
theorem fy_2 (u : Int) : fy u 2 = 0 := by unfold fy; rw [if_neg (by decide)]

theorem sqr_1 {a : Int} (h : a = 1 ∨ a = -1) : sqr a = 1 := by rcases h with rfl | rfl <;> rfl
theorem step_one {l : List UInt8} (hs : stripB l = true) (k : Nat) (hk : k < l.length) :
    stepV l ((k : Int) + 1) 0 = 1 ∧ stepV l ((k : Int) + 1) 1 = 1 ∧ stepV l ((k : Int) + 1) 2 = 1 := by
  have i1 : inB l ((k : Int) + 1 - 1) = true := by unfold inB; rw [hs]; simp; omega
  have i2 : inB l ((k : Int) + 1) = true := by unfold inB; rw [hs]; simp; omega
  have e1 : ((k : Int) + 1 - 1).toNat = k := by omega
  have e2 : ((k : Int) + 1).toNat = k + 1 := by omega
  have h := fw_up (stripB_ok hs) k hk
  refine ⟨?_, ?_, ?_⟩
  · unfold stepV; rw [if_pos ⟨i1, i2, rfl⟩, e1, e2, px_0, px_0, fy_0, fy_0, sqr_1 (a := _ - _) (by omega)]; rfl
  · unfold stepV; rw [if_pos ⟨i1, i2, rfl⟩, e1, e2, px_1, px_1, fy_1, fy_1]
    rcases h with ⟨a, b⟩ | ⟨a, b⟩
    · rw [a, b, show fwAt l k + 1 - fwAt l k = 1 from by omega, show upAt l k - upAt l k = 0 from by omega]; rfl
    · rw [a, b, show upAt l k - 1 - upAt l k = -1 from by omega, show fwAt l k - fwAt l k = 0 from by omega]; rfl
  · unfold stepV; rw [if_pos ⟨i1, i2, rfl⟩, e1, e2, px_2, px_2, fy_2, fy_2, sqr_1 (a := _ - _) (by omega)]; rfl

theorem reach_eq {l : List UInt8} (hs : stripB l = true) : reachV l = hiF 0 (px l 0) (l.length + 1) := by unfold reachV; rw [if_pos hs]
theorem reach_le {l : List UInt8} (hs : stripB l = true) (k : Nat) (hk : k ≤ l.length) : fwAt l k + upAt l k ≤ reachV l := by
  rw [reach_eq hs, ← px_0]; exact le_hiF _ _ (by omega)
theorem reach_max {l : List UInt8} (hs : stripB l = true) : (cnt 100 l : Int) ≤ reachV l ∧ (cnt 102 l : Int) ≤ reachV l ∧ reachV l ≤ (cnt 100 l : Int) + (cnt 102 l : Int) := by
  have h1 := reach_le hs 0 (Nat.zero_le _)
  have h2 := reach_le hs l.length (Nat.le_refl _)
  rw [fw_zero, up_zero] at h1
  rw [fw_all, up_all] at h2
  refine ⟨by omega, by omega, ?_⟩
  rw [reach_eq hs]
  refine hiF_le (by omega) _ fun k _ => ?_
  rw [px_0]
  unfold fwAt upAt
  have := cnt_take 102 l k
  omega

theorem hiF_met (a : Int) (f : Nat → Int) (n : Nat) : hiF a f n = a ∨ ∃ k, k < n ∧ hiF a f n = f k := by
  induction n with
  | zero => exact .inl rfl
  | succ n ih =>
    rw [hiF]
    by_cases h : hiF a f n ≤ f n
    · exact .inr ⟨n, by omega, by omega⟩
    · rcases ih with h1 | ⟨k, hk, h1⟩
      · exact .inl (by omega)
      · exact .inr ⟨k, by omega, by omega⟩

theorem all_of (x y : UInt8) (l : List UInt8) (h : ∀ b ∈ l, b = x ∨ b = y) (hn : cnt x l = 0) : l = List.replicate (cnt y l) y := by
  have hx : ∀ b ∈ l, b = y := by
    intro b hb
    rcases h b hb with e | e
    · exfalso; unfold cnt at hn; rw [List.count_eq_zero] at hn; rw [e] at hb; exact hn hb
    · exact e
  have h2 : l = List.replicate l.length y := List.eq_replicate_of_mem hx
  have h3 : cnt y l = l.length := by unfold cnt; rw [List.count_eq_length]; intro b hb; exact (hx b hb).symm
  rw [h3]; exact h2
theorem cnt_cat (x : UInt8) (a b : List UInt8) : cnt x (a ++ b) = cnt x a + cnt x b := by unfold cnt; exact List.count_append
theorem cnt_same (x y : UInt8) (n : Nat) : cnt x (List.replicate n y) = if y = x then n else 0 := by
  unfold cnt; rw [List.count_replicate]; simp

theorem high_of {l : List UInt8} (hs : stripB l = true) : highL (cnt 100 l) (cnt 102 l) = List.replicate (cnt 102 l) 102 ++ List.replicate (cnt 100 l) 100 := by
  unfold highL; rw [if_pos (stripB_frame hs)]; rfl
theorem reach_high {l : List UInt8} (hs : stripB l = true) : reachV l = (cnt 100 l : Int) + (cnt 102 l : Int) ↔ l = highL (cnt 100 l) (cnt 102 l) := by
  have hf := frame_of hs
  rw [high_of hs]
  constructor
  · intro h
    rw [reach_eq hs] at h
    rcases hiF_met 0 (px l 0) (l.length + 1) with h1 | ⟨k, hk, h1⟩
    · omega
    · rw [h, px_0] at h1
      have a := cnt_take 102 l k
      unfold fwAt upAt at h1
      have b : cnt 102 (l.take k) = cnt 102 l := by omega
      have c : cnt 100 (l.take k) = 0 := by omega
      have hsp : l.take k ++ l.drop k = l := List.take_append_drop k l
      have d1 : cnt 102 (l.drop k) = 0 := by have := cnt_cat 102 (l.take k) (l.drop k); rw [hsp] at this; omega
      have d2 : cnt 100 (l.drop k) = cnt 100 l := by have := cnt_cat 100 (l.take k) (l.drop k); rw [hsp] at this; omega
      have hall : ∀ b ∈ l, b = 100 ∨ b = 102 := by
        have := stripB_ok hs
        unfold okL at this
        rw [List.all_eq_true] at this
        intro b hb
        simpa using this b hb
      have e1 := all_of 100 102 (l.take k) (fun b hb => hall b (List.mem_of_mem_take hb)) c
      have e2 := all_of 102 100 (l.drop k) (fun b hb => (hall b (List.mem_of_mem_drop hb)).symm) d1
      rw [b] at e1
      rw [d2] at e2
      rw [e1, e2] at hsp
      exact hsp.symm
  · intro h
    have h1 := (reach_max hs).2.2
    have h2 := reach_le hs (cnt 102 l) (by omega)
    have ht : l.take (cnt 102 l) = List.replicate (cnt 102 l) 102 := by
      have : l.take (cnt 102 l) = (List.replicate (cnt 102 l) (102 : UInt8) ++ List.replicate (cnt 100 l) 100).take (cnt 102 l) := congrArg (List.take (cnt 102 l)) h
      rw [this, List.take_append_of_le_length (by rw [List.length_replicate]; exact Nat.le_refl _), List.take_of_length_le (by rw [List.length_replicate]; exact Nat.le_refl _)]
    unfold fwAt upAt at h2
    rw [ht, cnt_same, cnt_same, if_pos rfl, if_neg (by decide)] at h2
    omega

theorem spread_all {l : List UInt8} (hs : stripB l = true) : spreadV l = (l.length : Int) := by
  have hf := frame_of hs
  have hp : ∀ k, k ≤ l.length → px l 2 k = (k : Int) - (cnt 100 l : Int) := fun k hk => by rw [px_2, fw_minus (stripB_ok hs) k hk]
  have h0 := hp 0 (by omega)
  have a := hiF_le (a := px l 2 0) (b := (cnt 102 l : Int)) (f := px l 2) (by omega) (l.length + 1) fun k hk => by rw [hp k (by omega)]; omega
  have b := le_hiF (a := px l 2 0) (f := px l 2) (l.length + 1) l.length (by omega)
  have c := le_loF (a := px l 2 0) (b := -(cnt 100 l : Int)) (f := px l 2) (by omega) (l.length + 1) fun k hk => by rw [hp k (by omega)]; omega
  have d := loF_ge (a := px l 2 0) (f := px l 2) (l.length + 1)
  rw [hp l.length (Nat.le_refl _)] at b
  unfold spreadV
  rw [if_pos hs]
  omega
theorem inside_all {l : List UInt8} (hs : stripB l = true) (hf : cnt 100 l + cnt 102 l ≤ 40) : insideB l ((cnt 100 l : Int) + (cnt 102 l : Int)) = true := by
  have h1 := frame_of hs
  have := reach_max hs
  unfold insideB; rw [hs]; simp; omega
theorem inside_less {l : List UInt8} : insideB l (reachV l - 1) = false := by
  unfold insideB; rw [decide_eq_false (p := reachV l ≤ reachV l - 1) (by omega)]; simp
end Go.Proofs.YthigiemgdejdhaaDoor.Place

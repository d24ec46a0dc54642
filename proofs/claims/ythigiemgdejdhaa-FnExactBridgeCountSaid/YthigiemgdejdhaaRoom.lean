/- What the model of chapter 9 returns: RoomUnder, VolumeOf (for the property of chapter 8). -/
import Derived.Test.YthigiemgdejdhaaOrderMath
import Derived.Test.YthigiemgdejdhaaKerfSpec2
import Derived.Test.YthigiemgdejdhaaCardOk
namespace Go.Proofs.Ythigiemgdejdhaa.Order
open Go.ChangeShapes Go.WideShapes Go.ChangeAt Go.RowKit
open Go.Proofs.Ythigiemgdejdhaa.Strip Go.Proofs.Ythigiemgdejdhaa.Strs Go.Proofs.Ythigiemgdejdhaa.Card Go.Proofs.Ythigiemgdejdhaa.Kerf Go.Proofs.Ythigiemgdejdhaa.Corner
set_option linter.unusedVariables false

theorem sumL_in (c : Int) (hc : 0 ≤ c) {l : List Int} (h : ∀ x ∈ l, -c ≤ x ∧ x ≤ c) : -(c * l.length) ≤ sumL l ∧ sumL l ≤ c * l.length := by
  induction l with
  | nil => simp [sumL]
  | cons x l ih =>
    have h1 := ih fun y hy => h y (List.mem_cons_of_mem _ hy)
    have h2 := h x (List.mem_cons_self ..)
    have e : c * ((x :: l).length : Int) = c * (l.length : Int) + c := by
      rw [List.length_cons, Int.natCast_add, Int.mul_add]
      simp
    rw [e]
    show _ ≤ x + sumL l ∧ x + sumL l ≤ _
    omega
theorem room_in {l : List UInt8} (h : stripB l = true) : -256 ≤ roomI l ∧ roomI l ≤ 256 := by
  unfold roomI
  rw [if_pos h]
  have h1 := sumL_in 16 (by omega) (strip_in h)
  rw [hts_length] at h1
  have h2 := cnt_le 102 l
  have h3 := strip_size h
  omega

/-- The room under all strips of a card. -/
def roomsL (l : List ByteArray) : List Int := l.map fun s => roomI s.data.toList
def volI (d f : Int) (l : List ByteArray) : Int := if cardB d f l = true then sumL (roomsL l) else -1
theorem good_strip {d f : Int} {s : ByteArray} (hf : frameB d f = true) (h : goodB d f s = true) : stripB s.data.toList = true := by
  unfold goodB at h
  simp only [decide_eq_true_eq] at h
  unfold frameB at hf
  simp only [decide_eq_true_eq] at hf
  cases hs : stripB s.data.toList with
  | true => rfl
  | false =>
    have h1 := h.1
    unfold numV at h1
    rw [hs] at h1
    simp at h1
    omega

/-- The combined card is a card, and the rooms of both pairs are equal. -/
theorem good_mix {up : Bool} {d f : Int} {s t : ByteArray} (hf : frameB d f = true) (hs : goodB d f s = true) (ht : goodB d f t = true) : sameB s.data.toList t.data.toList = true ∧ goodB d f (mixS up s t) = true := by
  have h1 := good_strip hf hs
  have h2 := good_strip hf ht
  unfold goodB numV at hs ht ⊢
  rw [h1] at hs
  rw [h2] at ht
  simp only [if_true, decide_eq_true_eq] at hs ht
  have hst := same_of h1 h2 (by omega) (by omega)
  refine ⟨hst, ?_⟩
  have hm := mix_same (up := up) hst
  obtain ⟨_, m2, m3, m4, _⟩ := same_facts hm
  rw [mixS_list, m2]
  simp only [if_true, decide_eq_true_eq]
  omega
theorem rooms_both : ∀ {d f : Int} {l m : List ByteArray}, frameB d f = true → l.length = m.length → (∀ s ∈ l, goodB d f s = true) → (∀ s ∈ m, goodB d f s = true) →
    (∀ up, ∀ s ∈ List.zipWith (mixS up) l m, goodB d f s = true) ∧ sumL (roomsL (List.zipWith (mixS true) l m)) + sumL (roomsL (List.zipWith (mixS false) l m)) = sumL (roomsL l) + sumL (roomsL m)
  | d, f, [], [], _, _, _, _ => ⟨fun _ s hs => by simp at hs, rfl⟩
  | d, f, [], _ :: _, _, h, _, _ => by simp at h
  | d, f, _ :: _, [], _, h, _, _ => by simp at h
  | d, f, s :: l, t :: m, hf, h, h1, h2 => by
    have ih := rooms_both (d := d) (f := f) (l := l) (m := m) hf (by simpa using h) (fun x hx => h1 x (List.mem_cons_of_mem _ hx)) (fun x hx => h2 x (List.mem_cons_of_mem _ hx))
    have hs := h1 s (List.mem_cons_self ..)
    have ht := h2 t (List.mem_cons_self ..)
    refine ⟨fun up x hx => ?_, ?_⟩
    · rw [List.zipWith_cons_cons] at hx
      rcases List.mem_cons.1 hx with rfl | hx
      · exact (good_mix hf hs ht).2
      · exact ih.1 up x hx
    · have hr := room_both (good_mix (up := true) hf hs ht).1
      have e := ih.2
      rw [List.zipWith_cons_cons, List.zipWith_cons_cons]
      show roomI (mixL true s.data.toList t.data.toList) + _ + (roomI (mixL false s.data.toList t.data.toList) + _) = roomI s.data.toList + sumL (roomsL l) + (roomI t.data.toList + sumL (roomsL m))
      unfold roomsL at e ⊢
      omega
end Go.Proofs.Ythigiemgdejdhaa.Order

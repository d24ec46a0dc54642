/- What the model of chapter 9 returns: RoomUnder, VolumeOf (for the property of chapter 8). -/
import Derived.Test.YthigiemgdejdhaaDoorOrderMath
import Derived.Test.YthigiemgdejdhaaDoorKerfSpec2
import Derived.Test.YthigiemgdejdhaaDoorCardOk
namespace Go.Proofs.YthigiemgdejdhaaDoor.Order
open Go.ChangeShapes Go.WideShapes Go.ChangeAt Go.RowKit
open Go.Proofs.YthigiemgdejdhaaDoor.Strip Go.Proofs.YthigiemgdejdhaaDoor.Strs Go.Proofs.YthigiemgdejdhaaDoor.Card Go.Proofs.YthigiemgdejdhaaDoor.Kerf Go.Proofs.YthigiemgdejdhaaDoor.Corner
set_option linter.unusedVariables false

theorem sumL_in (c : Int) (hc : 0 ≤ c) {l : List Int} (h : ∀ x ∈ l, -c ≤ x ∧ x ≤ c) : -(c * l.length) ≤ sumL l ∧ sumL l ≤ c * l.length := by
  induction l with
  | nil => simp [sumL]
  | cons x l ih =>
    have h1 := ih fun y hy => h y (List.mem_cons_of_mem _ hy)
    have h2 := h x (List.mem_cons_self ..)
    have e : c * ((x :: l).length : Int) = c * (l.length : Int) + c := by
      rw [List.length_cons, Int.natCast_add, Int.mul_add]
      simp
    rw [e]
    show _ ≤ x + sumL l ∧ x + sumL l ≤ _
    omega
theorem room_in {l : List UInt8} (h : stripB l = true) : -256 ≤ roomI l ∧ roomI l ≤ 256 := by
  unfold roomI
  rw [if_pos h]
  have h1 := sumL_in 16 (by omega) (strip_in h)
  rw [hts_length] at h1
  have h2 := cnt_le 102 l
  have h3 := strip_size h
  omega

set_option maxRecDepth 100000 in
set_option maxHeartbeats 2000000 in
theorem room_spec (s : ByteArray) (w : World) (hm : s.size ≤ 1048576) :
    Calls Tryd.prog 18 #[.string s] w fun e w' => e = .returned (.int .i64 (roomI s.data.toList)) ∧ Below w.heap.size w w' := by
  cases hs : stripB s.data.toList with
  | false =>
    have hz : roomI s.data.toList = -1 := by unfold roomI; rw [hs]; rfl
    rw [hz]
    go_enter Tryd.func18, Tryd.ntmps18
    go_wp2_with fail
    refine (is_spec s _ hm).mono ?_
    rintro e w' ⟨rfl, rfl⟩
    rw [hs]
    go_wp2
    go_ret
    exact ⟨rfl, Below.refl _ _⟩
  | true =>
    have hz : roomI s.data.toList = sumL (hts (cnt 100 s.data.toList) s.data.toList) := by unfold roomI; rw [hs]; rfl
    have hin := strip_in hs
    have hlen : (hts (cnt 100 s.data.toList) s.data.toList).length ≤ 16 := by
      rw [hts_length]
      have h1 := cnt_le 102 s.data.toList
      have h2 := strip_size hs
      omega
    have HH := Lib.hid (fun w => heights_spec s w hm)
    rw [hz]
    clear hz
    generalize hts (cnt 100 s.data.toList) s.data.toList = h at *
    obtain ⟨n, hn⟩ : ∃ n, h.length = n := ⟨_, rfl⟩
    have HN := Lib.hid hn
    have HIN := Lib.hid hin
    rw [hn] at hlen
    clear hn hin
    go_enter Tryd.func18, Tryd.ntmps18
    go_wp2_with fail
    refine (is_spec s _ hm).mono ?_
    rintro e w' ⟨rfl, rfl⟩
    rw [hs]
    go_wp2_with fail
    refine (HH.out _).mono ?_
    rintro e w1 ⟨v, rfl, hb, ho⟩
    have HB := Lib.hid hb
    have HO := Lib.hid ho
    clear hb ho hs
    obtain ⟨a, c, rfl, hr, _⟩ := HO.out.row
    have HR := Lib.hid hr
    clear hr
    rw [HN.out]
    go_wp2_with fail
    go_loop [3, 5] (fun x i => ∃ k : Nat, k ≤ n ∧ i = .int .i64 (k : Int) ∧ x = .int .i64 (sumL (h.take k))) (fun _ i => n - (intOf i).toNat)
    case atStart => exact ⟨0, Nat.zero_le _, rfl, rfl⟩
    case round =>
      obtain ⟨k, hk, rfl, rfl⟩ := hrel
      have hp := sumL_in 16 (by omega) (l := h.take k) (fun x hx => HIN.out x (List.mem_of_mem_take hx))
      have hkl : (h.take k).length ≤ k := List.length_take_le _ _
      have hp0 : -256 ≤ sumL (h.take k) := by omega
      have hp1 : sumL (h.take k) ≤ 256 := by omega
      clear hp hkl
      by_cases hlt : k < n
      · have ja : k < h.length := by rw [HN.out]; exact hlt
        obtain ⟨ga, rfl, _, hca⟩ := HR.out k ja
        have HST := Lib.hid (sumL_take h k ja)
        obtain ⟨x0, x1⟩ := HIN.out h[k] (List.getElem_mem ja)
        generalize h[k] = x at *
        generalize sumL (h.take k) = p at *
        have hk0 : (0 : Int) ≤ (k : Int) := Int.natCast_nonneg _
        have hk1 : (k : Int) < (n : Int) := by omega
        clear ja
        go_wp2
        refine ⟨⟨k + 1, by omega, by go_num, ?_⟩, by simp [intOf]; omega⟩
        rw [HST.out]
      · obtain rfl : k = n := by omega
        have hall : h.take k = h := List.take_of_length_le (by rw [HN.out]; exact Nat.le_refl _)
        rw [hall]
        rw [hall] at hp0 hp1
        go_wp2
        go_ret
        exact ⟨rfl, HB.out⟩

/-- The room under all strips of a card. -/
def roomsL (l : List ByteArray) : List Int := l.map fun s => roomI s.data.toList
def volI (d f : Int) (l : List ByteArray) : Int := if cardB d f l = true then sumL (roomsL l) else -1
theorem good_strip {d f : Int} {s : ByteArray} (hf : frameB d f = true) (h : goodB d f s = true) : stripB s.data.toList = true := by
  unfold goodB at h
  simp only [decide_eq_true_eq] at h
  unfold frameB at hf
  simp only [decide_eq_true_eq] at hf
  cases hs : stripB s.data.toList with
  | true => rfl
  | false =>
    have h1 := h.1
    unfold numV at h1
    rw [hs] at h1
    simp at h1
    omega

/-- The combined card is a card, and the rooms of both pairs are equal. -/
theorem good_mix {up : Bool} {d f : Int} {s t : ByteArray} (hf : frameB d f = true) (hs : goodB d f s = true) (ht : goodB d f t = true) : sameB s.data.toList t.data.toList = true ∧ goodB d f (mixS up s t) = true := by
  have h1 := good_strip hf hs
  have h2 := good_strip hf ht
  unfold goodB numV at hs ht ⊢
  rw [h1] at hs
  rw [h2] at ht
  simp only [if_true, decide_eq_true_eq] at hs ht
  have hst := same_of h1 h2 (by omega) (by omega)
  refine ⟨hst, ?_⟩
  have hm := mix_same (up := up) hst
  obtain ⟨_, m2, m3, m4, _⟩ := same_facts hm
  rw [mixS_list, m2]
  simp only [if_true, decide_eq_true_eq]
  omega
theorem rooms_both : ∀ {d f : Int} {l m : List ByteArray}, frameB d f = true → l.length = m.length → (∀ s ∈ l, goodB d f s = true) → (∀ s ∈ m, goodB d f s = true) →
    (∀ up, ∀ s ∈ List.zipWith (mixS up) l m, goodB d f s = true) ∧ sumL (roomsL (List.zipWith (mixS true) l m)) + sumL (roomsL (List.zipWith (mixS false) l m)) = sumL (roomsL l) + sumL (roomsL m)
  | d, f, [], [], _, _, _, _ => ⟨fun _ s hs => by simp at hs, rfl⟩
  | d, f, [], _ :: _, _, h, _, _ => by simp at h
  | d, f, _ :: _, [], _, h, _, _ => by simp at h
  | d, f, s :: l, t :: m, hf, h, h1, h2 => by
    have ih := rooms_both (d := d) (f := f) (l := l) (m := m) hf (by simpa using h) (fun x hx => h1 x (List.mem_cons_of_mem _ hx)) (fun x hx => h2 x (List.mem_cons_of_mem _ hx))
    have hs := h1 s (List.mem_cons_self ..)
    have ht := h2 t (List.mem_cons_self ..)
    refine ⟨fun up x hx => ?_, ?_⟩
    · rw [List.zipWith_cons_cons] at hx
      rcases List.mem_cons.1 hx with rfl | hx
      · exact (good_mix hf hs ht).2
      · exact ih.1 up x hx
    · have hr := room_both (good_mix (up := true) hf hs ht).1
      have e := ih.2
      rw [List.zipWith_cons_cons, List.zipWith_cons_cons]
      show roomI (mixL true s.data.toList t.data.toList) + _ + (roomI (mixL false s.data.toList t.data.toList) + _) = roomI s.data.toList + sumL (roomsL l) + (roomI t.data.toList + sumL (roomsL m))
      unfold roomsL at e ⊢
      omega
end Go.Proofs.YthigiemgdejdhaaDoor.Order

/- What the model of chapter 9 returns: RoomUnder (for the property of chapter 10). -/
import Derived.Test.YtbfbjolggilfoaaOrderMath
import Derived.Test.YtbfbjolggilfoaaKerfSpec2
namespace Go.Proofs.Ytbfbjolggilfoaa.Order
open Go.ChangeShapes Go.WideShapes Go.ChangeAt Go.RowKit
open Go.Proofs.Ytbfbjolggilfoaa.Strip Go.Proofs.Ytbfbjolggilfoaa.Ints Go.Proofs.Ytbfbjolggilfoaa.Kerf Go.Proofs.Ytbfbjolggilfoaa.Corner
set_option linter.unusedVariables false

theorem sumL_in (c : Int) (hc : 0 ≤ c) {l : List Int} (h : ∀ x ∈ l, -c ≤ x ∧ x ≤ c) : -(c * l.length) ≤ sumL l ∧ sumL l ≤ c * l.length := by
  induction l with
  | nil => simp [sumL]
  | cons x l ih =>
    have h1 := ih fun y hy => h y (List.mem_cons_of_mem _ hy)
    have h2 := h x (List.mem_cons_self ..)
    have e : c * ((x :: l).length : Int) = c * (l.length : Int) + c := by
      rw [List.length_cons, Int.natCast_add, Int.mul_add]
      simp
    rw [e]
    show _ ≤ x + sumL l ∧ x + sumL l ≤ _
    omega
theorem room_in {l : List UInt8} (h : stripB l = true) : -256 ≤ roomI l ∧ roomI l ≤ 256 := by
  unfold roomI
  rw [if_pos h]
  have h1 := sumL_in 16 (by omega) (strip_in h)
  rw [hts_length] at h1
  have h2 := cnt_le 102 l
  have h3 := strip_size h
  omega

set_option maxRecDepth 100000 in
set_option maxHeartbeats 2000000 in
theorem room_spec (s : ByteArray) (w : World) (hm : s.size ≤ 1048576) :
    Calls Try.prog 21 #[.string s] w fun e w' => e = .returned (.int .i64 (roomI s.data.toList)) ∧ Below w.heap.size w w' := by
  cases hs : stripB s.data.toList with
  | false =>
    have hz : roomI s.data.toList = -1 := by unfold roomI; rw [hs]; rfl
    rw [hz]
    go_enter Try.func21, Try.ntmps21
    go_wp2_with fail
    refine (is_spec s _ hm).mono ?_
    rintro e w' ⟨rfl, rfl⟩
    rw [hs]
    go_wp2
    go_ret
    exact ⟨rfl, Below.refl _ _⟩
  | true =>
    have hz : roomI s.data.toList = sumL (hts (cnt 100 s.data.toList) s.data.toList) := by unfold roomI; rw [hs]; rfl
    have hin := strip_in hs
    have hlen : (hts (cnt 100 s.data.toList) s.data.toList).length ≤ 16 := by
      rw [hts_length]
      have h1 := cnt_le 102 s.data.toList
      have h2 := strip_size hs
      omega
    have HH := Lib.hid (fun w => heights_spec s w hm)
    rw [hz]
    clear hz
    generalize hts (cnt 100 s.data.toList) s.data.toList = h at *
    obtain ⟨n, hn⟩ : ∃ n, h.length = n := ⟨_, rfl⟩
    have HN := Lib.hid hn
    have HIN := Lib.hid hin
    rw [hn] at hlen
    clear hn hin
    go_enter Try.func21, Try.ntmps21
    go_wp2_with fail
    refine (is_spec s _ hm).mono ?_
    rintro e w' ⟨rfl, rfl⟩
    rw [hs]
    go_wp2_with fail
    refine (HH.out _).mono ?_
    rintro e w1 ⟨v, rfl, hb, ho⟩
    have HB := Lib.hid hb
    have HO := Lib.hid ho
    clear hb ho hs
    obtain ⟨a, c, rfl, hr, _⟩ := HO.out.row
    have HR := Lib.hid hr
    clear hr
    rw [HN.out]
    go_wp2_with fail
    go_loop [3, 5] (fun x i => ∃ k : Nat, k ≤ n ∧ i = .int .i64 (k : Int) ∧ x = .int .i64 (sumL (h.take k))) (fun _ i => n - (intOf i).toNat)
    case atStart => exact ⟨0, Nat.zero_le _, rfl, rfl⟩
    case round =>
      obtain ⟨k, hk, rfl, rfl⟩ := hrel
      have hp := sumL_in 16 (by omega) (l := h.take k) (fun x hx => HIN.out x (List.mem_of_mem_take hx))
      have hkl : (h.take k).length ≤ k := List.length_take_le _ _
      have hp0 : -256 ≤ sumL (h.take k) := by omega
      have hp1 : sumL (h.take k) ≤ 256 := by omega
      clear hp hkl
      by_cases hlt : k < n
      · have ja : k < h.length := by rw [HN.out]; exact hlt
        obtain ⟨ga, rfl, _, hca⟩ := HR.out k ja
        have HST := Lib.hid (sumL_take h k ja)
        obtain ⟨x0, x1⟩ := HIN.out h[k] (List.getElem_mem ja)
        generalize h[k] = x at *
        generalize sumL (h.take k) = p at *
        have hk0 : (0 : Int) ≤ (k : Int) := Int.natCast_nonneg _
        have hk1 : (k : Int) < (n : Int) := by omega
        clear ja
        go_wp2
        refine ⟨⟨k + 1, by omega, by go_num, ?_⟩, by simp [intOf]; omega⟩
        rw [HST.out]
      · obtain rfl : k = n := by omega
        have hall : h.take k = h := List.take_of_length_le (by rw [HN.out]; exact Nat.le_refl _)
        rw [hall]
        rw [hall] at hp0 hp1
        go_wp2
        go_ret
        exact ⟨rfl, HB.out⟩

end Go.Proofs.Ytbfbjolggilfoaa.Order

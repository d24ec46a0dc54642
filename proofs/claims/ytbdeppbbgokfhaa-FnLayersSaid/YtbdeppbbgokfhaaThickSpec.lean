/- What the model of chapter 14 returns: LayersOf, ThickestOf, FreePart. -/
import Derived.Test.YtbdeppbbgokfhaaThickMath
import Derived.Test.YtbdeppbbgokfhaaAreaRows
import Derived.Test.YtbdeppbbgokfhaaKerfSpec2
namespace Go.Proofs.Ytbdeppbbgokfhaa.Thick
open Go.ChangeShapes Go.WideShapes Go.ChangeAt Go.RowKit
open Go.Proofs.Ytbdeppbbgokfhaa.Strip Go.Proofs.Ytbdeppbbgokfhaa.Ints Go.Proofs.Ytbdeppbbgokfhaa.Corner Go.Proofs.Ytbdeppbbgokfhaa.Kerf Go.Proofs.Ytbdeppbbgokfhaa.Order Go.Proofs.Ytbdeppbbgokfhaa.Area
open Go.Proofs.Ytbdeppbbgokfhaa.Place (hiF)
set_option linter.unusedVariables false

/-- What step k does to the place, and the part that it covers. -/
theorem step_lay (s : ByteArray) (hs : stripB s.data.toList = true) (k : Nat) (h : k < s.size) :
    ∃ p : Nat, pt s.data.toList k = p ∧ p < s.size ∧ (s[k] = 100 ∧ (pl s.data.toList k : Int) = (p : Int) + 1 ∧ (pl s.data.toList (k + 1) : Int) = (p : Int) ∨ s[k] = 102 ∧ (pl s.data.toList k : Int) = (p : Int) ∧ (pl s.data.toList (k + 1) : Int) = (p : Int) + 1) := by
  have hok := stripB_ok hs
  have hk : k < s.data.toList.length := by simpa using h
  refine ⟨_, rfl, by simpa using pt_lt hok k hk, ?_⟩
  rcases ok_at hok k hk with e | e
  · have := pt_d hok k hk e
    rw [list_at s k h] at e
    exact .inl ⟨e, by omega, by omega⟩
  · have := pt_f hok k hk e
    rw [list_at s k h] at e
    exact .inr ⟨e, by omega, by omega⟩

set_option maxRecDepth 100000 in
set_option maxHeartbeats 2000000 in
theorem lay_spec (s : ByteArray) (w : World) (hm : s.size ≤ 1048576) :
    Calls Try.prog 40 #[.string s] w (PostRow w (layL s.data.toList)) := by
  cases hs : stripB s.data.toList with
  | false =>
    rw [layL_no hs]
    go_enter Try.func40, Try.ntmps40
    go_wp2_with fail
    refine (is_spec s _ hm).mono ?_
    rintro e w' ⟨rfl, rfl⟩
    rw [hs]
    go_wp2
    go_ret
    exact ⟨_, rfl, (Below.refl _ _).alloc (Nat.le_refl _) _, World.ownsRow_made w #[] 0 (Nat.le_refl _) (by unfold maxLen; omega) rfl⟩
  | true =>
    have hsl : s.data.toList.length = s.size := by simp
    rw [layL_yes hs, hsl]
    obtain ⟨z1, z2⟩ := strip_len hs
    rw [hsl] at z1 z2
    have HST := Lib.hid (step_lay s hs)
    have HSET := Lib.hid (rowK_set s.data.toList)
    have HAT := Lib.hid (rowK_at s.data.toList)
    rw [hsl] at HAT
    have HIN := Lib.hid (hits_in s.data.toList)
    have HLEN := Lib.hid (rowK_length s.data.toList)
    rw [hsl] at HLEN
    have HPZ := Lib.hid (pl_zero s.data.toList)
    have hz0 := rowK_zero s.data.toList
    rw [hsl] at hz0
    have HZ := Lib.hid hz0
    have hpi : ∀ k, k ≤ s.size → (pl s.data.toList k : Int) ≤ s.size := fun k hk => by
      have := (pl_in (stripB_ok hs) k (by rw [hsl]; exact hk)).2
      omega
    have HPI := Lib.hid hpi
    clear hz0 hsl hpi
    go_enter Try.func40, Try.ntmps40
    go_wp2_with fail
    refine (is_spec s _ hm).mono ?_
    rintro e w' ⟨rfl, rfl⟩
    rw [hs]
    clear hs
    obtain ⟨w1, hmk, ha1, hb1⟩ := make_ints w s.size (by omega)
    have hmk := hmk (s.size : Int) rfl
    rw [← HZ.out] at ha1
    have HA := Lib.hid ha1
    have HB := Lib.hid hb1
    clear ha1 hb1 HZ
    go_wp2_with fail
    refine (count_spec s 100 _ hm).mono ?_
    rintro e w' ⟨rfl, rfl⟩
    rw [← HPZ.out]
    clear hmk HPZ
    generalize hG : w.heap.size = G at *
    have HG := Lib.hid hG; clear hG
    generalize rowK s.data.toList = row at *
    generalize hits s.data.toList = hit at *
    generalize pl s.data.toList = q at *
    go_wp2_with fail
    go_loopw [4, 5] (fun x i wr => ∃ k : Nat, k ≤ s.size ∧ i = .int .i64 (k : Int) ∧ x = .int .i64 (q k : Int) ∧ Hid (ArrT wr G 3 (row k)) ∧ Hid (Below G w wr)) (fun _ i _ => s.size - (intOf i).toNat)
    case atStart => exact ⟨0, Nat.zero_le _, rfl, rfl, HA, HB⟩
    case round =>
      clear HA HB
      obtain ⟨k, hk, rfl, rfl, HA, HB⟩ := hrel
      have hk0 : (0 : Int) ≤ (k : Int) := Int.natCast_nonneg _
      by_cases hlt : k < s.size
      · have hk1 : (k : Int) < (s.size : Int) := by omega
        obtain ⟨p, hpt, hp, hL⟩ := HST.out k hlt
        have hv := HA.out.cell (HAT.out k p hp)
        have hz := HA.out.free p
        obtain ⟨v0, v1⟩ := HIN.out k p
        have ha := HA.out.set p (hit k p + 1)
        rw [HSET.out k p hpt] at ha
        have HN := Lib.hid ha
        have HB2 := Lib.hid (HB.out.setCell (p := ⟨G, p, none⟩) (Nat.le_refl _) (.int .i64 (hit k p + 1)))
        have hp0 : (0 : Int) ≤ (p : Int) := Int.natCast_nonneg _
        have hp1 : (p : Int) < (s.size : Int) := by omega
        clear ha HA HB hpt
        generalize hit k p = v at *
        rcases hL with ⟨hx, h1, h2⟩ | ⟨hx, h1, h2⟩
        · have hb : ((s[k].toNat : Int) == 100) = true := byte_eq _ 100 hx
          have H2 := Lib.hid h2
          rw [h1]
          clear hx h1 h2
          go_wp2
          go_roundw
          case rel => exact ⟨k + 1, by omega, by go_num, by rw [H2.out], HN, HB2⟩
          case measure => simp [intOf]; omega
        · have hb : ((s[k].toNat : Int) == 100) = false := byte_ne _ 100 (by rw [hx]; decide)
          have H2 := Lib.hid h2
          rw [h1]
          clear hx h1 h2
          go_wp2
          go_roundw
          case rel => exact ⟨k + 1, by omega, by go_num, by rw [H2.out], HN, HB2⟩
          case measure => simp [intOf]; omega
      · obtain rfl : k = s.size := by omega
        go_wp2
        go_ret
        have hl := HLEN.out s.size
        have h := own_of_arr (base := G) (Nat.le_refl _) (by rw [hl]; unfold maxLen; omega) HA.out
        rw [hl] at h
        exact ⟨_, rfl, by rw [HG.out]; exact HB.out, by rw [HG.out]; exact h⟩

theorem thick_from (l : List UInt8) : hiF (-1) (fun i => (layL l).getD i 0) (layL l).length = thickV l := by
  cases h : stripB l with
  | false => unfold thickV; rw [h, layL_no h]; rfl
  | true => unfold thickV; rw [if_pos h]; exact top_from (by omega) (layL_in h) _ (layL_pos h) (Nat.le_refl _)
theorem lay_small (l : List UInt8) : ∀ x ∈ layL l, 0 ≤ x ∧ x ≤ 16 := by
  cases h : stripB l with
  | false => rw [layL_no h]; simp
  | true => exact layL_in h

set_option maxRecDepth 100000 in
set_option maxHeartbeats 2000000 in
theorem thick_spec (s : ByteArray) (w : World) (hm : s.size ≤ 1048576) :
    Calls Try.prog 44 #[.string s] w fun e w' => e = .returned (.int .i64 (thickV s.data.toList)) ∧ Below w.heap.size w w' := by
  have HL := Lib.hid (fun w => lay_spec s w hm)
  have HIN := Lib.hid (lay_small s.data.toList)
  have hle := layL_le s.data.toList
  rw [← thick_from]
  generalize layL s.data.toList = r at *
  obtain ⟨n, hn⟩ : ∃ n, r.length = n := ⟨_, rfl⟩
  have HN := Lib.hid hn
  rw [hn] at hle ⊢
  clear hn
  have HST := Lib.hid (show ∀ k, hiF (-1) (fun i => r.getD i 0) (k + 1) = max (hiF (-1) (fun i => r.getD i 0) k) (r.getD k 0) from fun k => rfl)
  have HGE := Lib.hid (fun k => Place.hiF_ge (a := -1) (f := fun i => r.getD i 0) k)
  have HLE := Lib.hid (show ∀ k, k ≤ n → hiF (-1) (fun i => r.getD i 0) k ≤ 16 from fun k hk => Place.hiF_le (by omega) k fun j hj => by
    have hj2 : j < r.length := by rw [HN.out]; omega
    simp only [List.getD, List.getElem?_eq_getElem hj2, Option.getD_some]
    exact (HIN.out _ (List.getElem_mem hj2)).2)
  have h00 : hiF (-1) (fun i => r.getD i 0) 0 = -1 := rfl
  generalize hiF (-1) (fun i => r.getD i 0) = F at *
  have HF0 := Lib.hid h00
  clear h00
  go_enter Try.func44, Try.ntmps44
  go_wp2_with fail
  refine (HL.out _).mono ?_
  rintro e w1 ⟨v, rfl, hb, ho⟩
  have HB := Lib.hid hb
  obtain ⟨a, c, rfl, hr, _⟩ := ho.row
  have HR := Lib.hid hr
  rw [HN.out]
  clear hb ho hr
  go_wp2_with fail
  go_loop [3, 5] (fun x i => ∃ k : Nat, k ≤ n ∧ i = .int .i64 (k : Int) ∧ x = .int .i64 (F k)) (fun _ i => n - (intOf i).toNat)
  case atStart => exact ⟨0, Nat.zero_le _, rfl, by rw [HF0.out]⟩
  case round =>
    obtain ⟨k, hk, rfl, rfl⟩ := hrel
    have hk0 : (0 : Int) ≤ (k : Int) := Int.natCast_nonneg _
    have h0 := HGE.out k
    have h1 := HLE.out k hk
    by_cases hlt : k < n
    · have hk1 : (k : Int) < (n : Int) := by omega
      have hkl : k < r.length := by rw [HN.out]; exact hlt
      obtain ⟨g, rfl, _, hc⟩ := HR.out k hkl
      have hs := HST.out k
      rw [show r.getD k 0 = r[k] by simp [List.getD, hkl]] at hs
      have HS := Lib.hid hs
      obtain ⟨x0, x1⟩ := HIN.out r[k] (List.getElem_mem hkl)
      clear hs
      generalize r[k] = x at *
      generalize F k = m at *
      clear hkl
      go_wp2
      refine ⟨⟨k + 1, by omega, by go_num, ?_⟩, by simp [intOf]; omega⟩
      rw [HS.out]; congr 1; split <;> omega
    · obtain rfl : k = n := by omega
      go_wp2
      go_ret
      exact ⟨rfl, HB.out⟩

set_option maxRecDepth 100000 in
set_option maxHeartbeats 2000000 in
theorem free_spec (s : ByteArray) (w : World) (hm : s.size ≤ 1048576) :
    Calls Try.prog 47 #[.string s] w fun e w' => e = .returned (.int .i64 (freeV s.data.toList)) ∧ Below w.heap.size w w' := by
  unfold freeV
  cases hs : stripB s.data.toList with
  | false =>
    go_enter Try.func47, Try.ntmps47
    go_wp2_with fail
    refine (is_spec s _ hm).mono ?_
    rintro e w' ⟨rfl, rfl⟩
    rw [hs]
    go_wp2
    go_ret
    exact ⟨rfl, Below.refl _ _⟩
  | true =>
    rw [if_pos rfl]
    have HL := Lib.hid (fun w => lay_spec s w hm)
    have hle := layL_le s.data.toList
    generalize layL s.data.toList = r at *
    obtain ⟨n, hn⟩ : ∃ n, r.length = n := ⟨_, rfl⟩
    have HN := Lib.hid hn
    rw [hn] at hle ⊢
    clear hn
    have HST := Lib.hid (zerK_succ r)
    have HIN := Lib.hid (zerK_in r)
    have HF0 := Lib.hid (show zerK r 0 = 0 from rfl)
    generalize zerK r = F at *
    go_enter Try.func47, Try.ntmps47
    go_wp2_with fail
    refine (is_spec s _ hm).mono ?_
    rintro e w' ⟨rfl, rfl⟩
    rw [hs]
    clear hs
    go_wp2_with fail
    refine (HL.out _).mono ?_
    rintro e w1 ⟨v, rfl, hb, ho⟩
    have HB := Lib.hid hb
    obtain ⟨a, c, rfl, hr, _⟩ := ho.row
    have HR := Lib.hid hr
    rw [HN.out]
    clear hb ho hr
    go_wp2_with fail
    go_loop [3, 5] (fun x i => ∃ k : Nat, k ≤ n ∧ i = .int .i64 (k : Int) ∧ x = .int .i64 (F k)) (fun _ i => n - (intOf i).toNat)
    case atStart => exact ⟨0, Nat.zero_le _, rfl, by rw [HF0.out]⟩
    case round =>
      obtain ⟨k, hk, rfl, rfl⟩ := hrel
      have hk0 : (0 : Int) ≤ (k : Int) := Int.natCast_nonneg _
      obtain ⟨h0, h1⟩ := HIN.out k
      by_cases hlt : k < n
      · have hk1 : (k : Int) < (n : Int) := by omega
        have hkl : k < r.length := by rw [HN.out]; exact hlt
        obtain ⟨g, rfl, _, hc⟩ := HR.out k hkl
        have HS := Lib.hid (HST.out k hkl)
        generalize r[k] = x at *
        generalize F k = m at *
        clear hkl
        by_cases hx : x = 0
        · have hq : (x == 0) = true := by simpa using hx
          rw [if_pos hx] at HS
          clear hx
          go_wp2
          refine ⟨⟨k + 1, by omega, by go_num, ?_⟩, by simp [intOf]; omega⟩
          rw [HS.out]
        · have hq : (x == 0) = false := by simpa using hx
          rw [if_neg hx] at HS
          clear hx
          go_wp2
          refine ⟨⟨k + 1, by omega, by go_num, ?_⟩, by simp [intOf]; omega⟩
          rw [HS.out, Int.add_zero]
      · obtain rfl : k = n := by omega
        go_wp2
        go_ret
        exact ⟨rfl, HB.out⟩
end Go.Proofs.Ytbdeppbbgokfhaa.Thick

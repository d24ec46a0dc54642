/- What the program of chapter 14 returns: moveOver, LayersOf, ThickestOf, FreePart. -/
import Derived.Test.YtbdeppbbgokfhaaThickSpec
import Derived.Test.YtbdeppbbgokfhaaPlaceImpl
import Derived.OneCell
namespace Go.Proofs.Ytbdeppbbgokfhaa.Thick
open Go.ChangeShapes Go.WideShapes Go.ChangeAt Go.RowKit
open Go.Proofs.Ytbdeppbbgokfhaa.Strip Go.Proofs.Ytbdeppbbgokfhaa.Ints Go.Proofs.Ytbdeppbbgokfhaa.Corner Go.Proofs.Ytbdeppbbgokfhaa.Kerf Go.Proofs.Ytbdeppbbgokfhaa.Order Go.Proofs.Ytbdeppbbgokfhaa.Area
open Go.Proofs.Ytbdeppbbgokfhaa.Place (hiF placeV place_no place_at noV place_impl max_row)
set_option linter.unusedVariables false

/-- The block of a variable that is an int. -/
def IVar (w : World) (B : Nat) (x : Int) : Prop := w.heap[B]? = some (.cells #[.int .i64 x] 3 (0, 0))
theorem IVar.lt {w : World} {B : Nat} {x : Int} (h : IVar w B x) : B < w.heap.size := (Array.getElem?_eq_some_iff.1 h).1
theorem IVar.new (w : World) (x : Int) : IVar (w.alloc (.cells #[.int .i64 x] 3)) w.heap.size x := heap_alloc_new w _
theorem IVar.below {w w' : World} {B : Nat} {x : Int} (h : IVar w B x) (hb : Below w.heap.size w w') : IVar w' B x := (hb.block B h.lt).trans h
theorem IVar.cell {w : World} {B : Nat} {x : Int} (h : IVar w B x) : w.cell? ⟨B, 0, none⟩ = some (.int .i64 x) := cell_of_one h
theorem IVar.free {w : World} {B : Nat} {x : Int} (h : IVar w B x) : w.frozen? ⟨B, 0, none⟩ = false := free_of_one h
theorem IVar.set {w : World} {B : Nat} {x : Int} (h : IVar w B x) (y : Int) : IVar (w.setCell ⟨B, 0, none⟩ (.int .i64 y)) B y := one_setCell h
theorem IVar.grown {w w' : World} {B : Nat} {x : Int} {row : Option Nat} (h : IVar w B x) (hg : w.grownBy w' row) (hne : some B ≠ row) : IVar w' B x := (hg.block B h.lt hne).trans h
theorem arr_grown {w w' : World} {b : Nat} {T : TypeId} {l : List Int} {row : Option Nat} (h : ArrT w b T l) (hg : w.grownBy w' row) (hne : some b ≠ row) : ArrT w' b T l := (hg.block b h.lt hne).trans h

/-- moveOver at a letter d, and at another. -/
theorem over_d (B : Nat) (x p : Int) (w : World) (h : IVar w B (p + 1)) (hx : (x == 100) = true) (h0 : 0 ≤ p) (h1 : p ≤ 16) :
    Calls Try.prog 62 #[.int .u8 x, .pointer (some ⟨B, 0, none⟩)] w fun e w' => e = .returned (.int .i64 p) ∧ IVar w' B p ∧ w.grownBy w' (some B) := by
  have hc := h.cell
  have hf := h.free
  have H2 := Lib.hid (h.set p)
  have HG := Lib.hid (grown_set w B 0 (.int .i64 p))
  clear h
  go_enter Try.func62, Try.ntmps62
  go_wp2
  go_ret
  exact ⟨ret_int (by omega), H2.out, HG.out⟩
theorem over_f (B : Nat) (x p : Int) (w : World) (h : IVar w B p) (hx : (x == 100) = false) (h0 : 0 ≤ p) (h1 : p ≤ 16) :
    Calls Try.prog 62 #[.int .u8 x, .pointer (some ⟨B, 0, none⟩)] w fun e w' => e = .returned (.int .i64 p) ∧ IVar w' B (p + 1) ∧ w.grownBy w' (some B) := by
  have hc := h.cell
  have hf := h.free
  have H2 := Lib.hid (h.set (p + 1))
  have HG := Lib.hid (grown_set w B 0 (.int .i64 (p + 1)))
  clear h
  go_enter Try.func62, Try.ntmps62
  go_wp2
  go_ret
  exact ⟨ret_int (by omega), H2.out, HG.out⟩

theorem place_zero {l : List UInt8} (h : stripB l = true) : placeV l 0 0 = .tuple #[.int .i64 (pl l 0 : Int), .int .i64 0, .bool true] := by
  have h1 := place_at (k := 0) (op := 0) h (Nat.zero_le _) rfl
  have e : Place.px l 0 0 = (pl l 0 : Int) := by
    rw [pl_zero]
    show Place.fwAt l 0 + Place.upAt l 0 = _
    unfold Place.fwAt Place.upAt
    simp [cnt]
  rw [e] at h1
  exact h1
theorem place_bad {l : List UInt8} (h : stripB l = false) : placeV l 0 0 = noV := place_no (by unfold Place.inB; rw [h]; rfl) 0

set_option maxRecDepth 100000 in
set_option maxHeartbeats 4000000 in
theorem lay_impl (s : ByteArray) (w : World) (hm : s.size ≤ 1048576) :
    Calls Try.prog 24 #[.string s] w (PostRow w (layL s.data.toList)) := by
  have HPL := Lib.hid (fun w => place_impl s 0 0 w hm)
  cases hs : stripB s.data.toList with
  | false =>
    rw [layL_no hs]
    rw [place_bad hs] at HPL
    unfold noV at HPL
    clear hs
    go_enter Try.func24, Try.ntmps24
    go_wp2_with fail
    refine (HPL.out _).mono ?_
    rintro e w1 ⟨rfl, hb⟩
    have HB := Lib.hid (hb.alloc hb.size (.cells #[.int .i64 0] 3))
    clear hb
    go_wp2
    go_ret
    exact ⟨_, rfl, HB.out, Own.nil _ _⟩
  | true =>
    rw [place_zero hs] at HPL
    have hsl : s.data.toList.length = s.size := by simp
    rw [layL_yes hs, hsl]
    obtain ⟨z1, z2⟩ := strip_len hs
    rw [hsl] at z1 z2
    have HST := Lib.hid (step_lay s hs)
    have HSET := Lib.hid (rowK_set s.data.toList)
    have HAT := Lib.hid (rowK_at s.data.toList)
    rw [hsl] at HAT
    have HIN := Lib.hid (hits_in s.data.toList)
    have HLEN := Lib.hid (rowK_length s.data.toList)
    rw [hsl] at HLEN
    have hz0 := rowK_zero s.data.toList
    rw [hsl] at hz0
    have HZ := Lib.hid hz0
    clear hz0 hsl hs
    go_enter Try.func24, Try.ntmps24
    go_wp2_with fail
    refine (HPL.out _).mono ?_
    rintro e w1 ⟨rfl, hb⟩
    have HB1 := Lib.hid (hb.alloc hb.size (.cells #[.int .i64 (pl s.data.toList 0 : Int)] 3))
    have HV1 := Lib.hid (IVar.new w1 (pl s.data.toList 0 : Int))
    have HBS := Lib.hid hb.size
    clear hb HPL
    obtain ⟨W3, hmk, ha1, hb1⟩ := make_ints (w1.alloc (.cells #[.int .i64 (pl s.data.toList 0 : Int)] 3)) s.size (by omega)
    have hmk := hmk (s.size : Int) rfl
    have HWS := Lib.hid (show (w1.alloc (.cells #[.int .i64 (pl s.data.toList 0 : Int)] 3)).heap.size = w1.heap.size + 1 from by simp)
    rw [← HZ.out] at ha1
    have HA := Lib.hid ha1
    have HB3 := Lib.hid (HB1.out.trans (hb1.mono HB1.out.size))
    have HV3 := Lib.hid (HV1.out.below hb1)
    have HGB := Lib.hid HB1.out.size
    clear ha1 hb1 HZ HB1 HV1
    rw [HWS.out] at hmk HA HGB
    go_wp2_with fail
    clear hmk HWS
    generalize hB : w1.heap.size = B at *
    clear hB
    generalize rowK s.data.toList = row at *
    generalize hits s.data.toList = hit at *
    generalize pl s.data.toList = q at *
    go_loopw [21] (fun i wr => ∃ k : Nat, k ≤ s.size ∧ i = .int .i64 (k : Int) ∧ Hid (IVar wr B (q k : Int)) ∧ Hid (ArrT wr (B + 1) 3 (row k)) ∧ Hid (Below w.heap.size w wr)) (fun i _ => s.size - (intOf i).toNat)
    case atStart => exact ⟨0, Nat.zero_le _, rfl, HV3, HA, HB3⟩
    case round =>
      clear HA HB3 HV3
      obtain ⟨k, hk, rfl, HV, HA, HB⟩ := hrel
      have hk0 : (0 : Int) ≤ (k : Int) := Int.natCast_nonneg _
      by_cases hlt : k < s.size
      · have hk1 : (k : Int) < (s.size : Int) := by omega
        obtain ⟨p, hpt, hp, hL⟩ := HST.out k hlt
        obtain ⟨v0, v1⟩ := HIN.out k p
        have hp0 : (0 : Int) ≤ (p : Int) := Int.natCast_nonneg _
        have hp1 : (p : Int) < (s.size : Int) := by omega
        have hp2 : (p : Int) ≤ 16 := by omega
        have HRS := Lib.hid (HSET.out k p hpt)
        have HRA := Lib.hid (HAT.out k p hp)
        clear hpt
        generalize hit k p = v at *
        rcases hL with ⟨hx, h1, h2⟩ | ⟨hx, h1, h2⟩
        · have hb := byte_eq _ 100 hx
          rw [h1] at HV
          have HOV := Lib.hid (over_d B (s[k].toNat : Int) (p : Int) wr HV.out hb hp0 hp2)
          have H2 := Lib.hid h2
          clear hx h1 h2 hb
          go_wp2_with fail
          refine HOV.out.mono ?_
          rintro e w4 ⟨rfl, hv4, hg4⟩
          have hA4 := arr_grown HA.out hg4 (by simp)
          have hv := hA4.cell HRA.out
          have hz := hA4.free p
          have ha := hA4.set p (v + 1)
          rw [HRS.out] at ha
          have HN := Lib.hid ha
          have hvB := IVar.grown hv4 (grown_set w4 (B + 1) p (.int .i64 (v + 1))) (by simp)
          rw [← H2.out] at hvB
          have HVN := Lib.hid hvB
          have HB4 := Lib.hid ((HB.out.grown hg4 HB.out.size (fun j e => by cases e; exact HBS.out)).setCell (p := ⟨B + 1, p, none⟩) HGB.out (.int .i64 (v + 1)))
          clear hv4 hg4 HV HA HB hA4 ha hvB
          go_wp2
          go_roundw
          case rel => exact ⟨k + 1, by omega, by go_num, HVN, HN, HB4⟩
          case measure => simp [intOf]; omega
        · have hb := byte_ne s[k] 100 (by rw [hx]; decide)
          rw [h1] at HV
          have HOV := Lib.hid (over_f B (s[k].toNat : Int) (p : Int) wr HV.out hb hp0 hp2)
          have H2 := Lib.hid h2
          clear hx h1 h2 hb
          go_wp2_with fail
          refine HOV.out.mono ?_
          rintro e w4 ⟨rfl, hv4, hg4⟩
          have hA4 := arr_grown HA.out hg4 (by simp)
          have hv := hA4.cell HRA.out
          have hz := hA4.free p
          have ha := hA4.set p (v + 1)
          rw [HRS.out] at ha
          have HN := Lib.hid ha
          have hvB := IVar.grown hv4 (grown_set w4 (B + 1) p (.int .i64 (v + 1))) (by simp)
          rw [← H2.out] at hvB
          have HVN := Lib.hid hvB
          have HB4 := Lib.hid ((HB.out.grown hg4 HB.out.size (fun j e => by cases e; exact HBS.out)).setCell (p := ⟨B + 1, p, none⟩) HGB.out (.int .i64 (v + 1)))
          clear hv4 hg4 HV HA HB hA4 ha hvB
          go_wp2
          go_roundw
          case rel => exact ⟨k + 1, by omega, by go_num, HVN, HN, HB4⟩
          case measure => simp [intOf]; omega
      · obtain rfl : k = s.size := by omega
        go_wp2
        go_ret
        have hl := HLEN.out s.size
        have h := own_of_arr (base := w.heap.size) HGB.out (by rw [hl]; unfold maxLen; omega) HA.out
        rw [hl] at h
        exact ⟨_, rfl, HB.out, h⟩

set_option maxRecDepth 100000 in
theorem thick_impl (s : ByteArray) (w : World) (hm : s.size ≤ 1048576) :
    Calls Try.prog 26 #[.string s] w fun e w' => e = .returned (.int .i64 (thickV s.data.toList)) ∧ Below w.heap.size w w' := by
  cases hs : stripB s.data.toList with
  | false =>
    have hz : thickV s.data.toList = -1 := by unfold thickV; rw [hs]; rfl
    rw [hz]
    clear hz
    go_enter Try.func26, Try.ntmps26
    go_wp2_with fail
    refine (is_impl s _ hm).mono ?_
    rintro e w1 ⟨rfl, hb⟩
    have HB := Lib.hid hb; clear hb
    rw [hs]
    go_wp2
    go_ret
    exact ⟨rfl, HB.out⟩
  | true =>
    have HL := Lib.hid (fun w => lay_impl s w hm)
    have hle := layL_le s.data.toList
    have hps := layL_pos hs
    rw [← maxOf_lay hs]
    generalize layL s.data.toList = r at *
    go_enter Try.func26, Try.ntmps26
    go_wp2_with fail
    refine (is_impl s _ hm).mono ?_
    rintro e w0 ⟨rfl, hb⟩
    have HB0 := Lib.hid hb; clear hb
    rw [hs]
    clear hs
    go_wp2_with fail
    refine (HL.out _).mono ?_
    rintro e w1 ⟨v, rfl, hb, ho⟩
    have HB := Lib.hid (HB0.out.trans (hb.mono HB0.out.size))
    obtain ⟨a, c, rfl, hr, _⟩ := ho.row
    have HMX := Lib.hid (max_row a c r _ hr (by omega) (by omega))
    clear hb ho hr
    go_wp2_with fail
    refine HMX.out.mono ?_
    rintro e w2 ⟨rfl, rfl⟩
    clear HMX
    go_wp2
    go_ret
    exact ⟨rfl, HB.out⟩

set_option maxRecDepth 100000 in
set_option maxHeartbeats 2000000 in
theorem free_impl (s : ByteArray) (w : World) (hm : s.size ≤ 1048576) :
    Calls Try.prog 25 #[.string s] w fun e w' => e = .returned (.int .i64 (freeV s.data.toList)) ∧ Below w.heap.size w w' := by
  unfold freeV
  cases hs : stripB s.data.toList with
  | false =>
    go_enter Try.func25, Try.ntmps25
    go_wp2_with fail
    refine (is_impl s _ hm).mono ?_
    rintro e w1 ⟨rfl, hb⟩
    have HB := Lib.hid hb; clear hb
    rw [hs]
    go_wp2
    go_ret
    exact ⟨rfl, HB.out⟩
  | true =>
    rw [if_pos rfl]
    have HL := Lib.hid (fun w => lay_impl s w hm)
    have hle := layL_le s.data.toList
    generalize layL s.data.toList = r at *
    obtain ⟨n, hn⟩ : ∃ n, r.length = n := ⟨_, rfl⟩
    have HN := Lib.hid hn
    rw [hn] at hle ⊢
    clear hn
    have HST := Lib.hid (zerK_succ r)
    have HIN := Lib.hid (zerK_in r)
    have HF0 := Lib.hid (show zerK r 0 = 0 from rfl)
    generalize zerK r = F at *
    go_enter Try.func25, Try.ntmps25
    go_wp2_with fail
    refine (is_impl s _ hm).mono ?_
    rintro e w0 ⟨rfl, hb⟩
    have HB0 := Lib.hid hb; clear hb
    rw [hs]
    clear hs
    go_wp2_with fail
    refine (HL.out _).mono ?_
    rintro e w1 ⟨v, rfl, hb, ho⟩
    have HB := Lib.hid (HB0.out.trans (hb.mono HB0.out.size))
    obtain ⟨a, c, rfl, hr, _⟩ := ho.row
    have HR := Lib.hid hr
    rw [HN.out]
    clear hb ho hr
    go_wp2_with fail
    go_loop [3, 12] (fun x i => ∃ k : Nat, k ≤ n ∧ i = .int .i64 (k : Int) ∧ x = .int .i64 (F k)) (fun _ i => n - (intOf i).toNat)
    case atStart => exact ⟨0, Nat.zero_le _, rfl, by rw [HF0.out]⟩
    case round =>
      obtain ⟨k, hk, rfl, rfl⟩ := hrel
      have hk0 : (0 : Int) ≤ (k : Int) := Int.natCast_nonneg _
      obtain ⟨h0, h1⟩ := HIN.out k
      by_cases hlt : k < n
      · have hk1 : (k : Int) < (n : Int) := by omega
        have hkl : k < r.length := by rw [HN.out]; exact hlt
        obtain ⟨g, rfl, _, hc⟩ := HR.out k hkl
        have HS := Lib.hid (HST.out k hkl)
        generalize r[k] = x at *
        generalize F k = m at *
        clear hkl
        by_cases hx : x = 0
        · have hq : (x == 0) = true := by simpa using hx
          rw [if_pos hx] at HS
          clear hx
          go_wp2
          refine ⟨⟨k + 1, by omega, by go_num, ?_⟩, by simp [intOf]; omega⟩
          rw [HS.out]
        · have hq : (x == 0) = false := by simpa using hx
          rw [if_neg hx] at HS
          clear hx
          go_wp2
          refine ⟨⟨k + 1, by omega, by go_num, ?_⟩, by simp [intOf]; omega⟩
          rw [HS.out, Int.add_zero]
      · obtain rfl : k = n := by omega
        go_wp2
        go_ret
        exact ⟨rfl, HB.out⟩
end Go.Proofs.Ytbdeppbbgokfhaa.Thick

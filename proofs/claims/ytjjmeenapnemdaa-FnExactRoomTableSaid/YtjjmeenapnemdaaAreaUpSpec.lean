/- What the model of chapter 9 returns: CountAbove. -/
import Derived.Test.YtjjmeenapnemdaaAreaArr
import Derived.Test.YtjjmeenapnemdaaStripSpec2
import Derived.Laws.MakeOwn
import Derived.Laws.OwnMore
import Derived.Lib.AppendZeros
namespace Go.Proofs.Ytjjmeenapnemdaa.Area
open Go.ChangeShapes Go.WideShapes Go.ChangeAt Go.RowKit
open Go.Proofs.Ytjjmeenapnemdaa.Strip Go.Proofs.Ytjjmeenapnemdaa.Ints Go.Proofs.Ytjjmeenapnemdaa.Corner Go.Proofs.Ytjjmeenapnemdaa.Kerf Go.Proofs.Ytjjmeenapnemdaa.Order
set_option linter.unusedVariables false

/-! ### the rows of beginnings -/
def drow (l : List UInt8) (k F : Nat) : List Int := (List.range (F + 1)).map fun x => (dg (okA l) k x : Int)
def nrow (l : List UInt8) (k F q : Nat) : List Int := (List.range (F + 1)).map fun x => if x < q then (dg (okA l) (k + 1) x : Int) else 0
theorem drow_length (l : List UInt8) (k F : Nat) : (drow l k F).length = F + 1 := by unfold drow; simp
theorem nrow_length (l : List UInt8) (k F q : Nat) : (nrow l k F q).length = F + 1 := by unfold nrow; simp
theorem drow_at (l : List UInt8) (k F x : Nat) (hx : x ≤ F) : (drow l k F)[x]? = some (dg (okA l) k x : Int) := by unfold drow; simp [Nat.lt_succ_of_le hx]
theorem nrow_at (l : List UInt8) (k F q x : Nat) (hx : x ≤ F) : (nrow l k F q)[x]? = some (if x < q then (dg (okA l) (k + 1) x : Int) else 0) := by unfold nrow; simp [Nat.lt_succ_of_le hx]
theorem drow_zero (l : List UInt8) (F : Nat) : (List.replicate (F + 1) (0 : Int)).set 0 1 = drow l 0 F := by
  refine List.ext_getElem? fun x => ?_
  by_cases hx : x ≤ F
  · rw [drow_at l 0 F x hx, List.getElem?_set]
    cases x with
    | zero => rw [if_pos rfl, if_pos (by simp)]; rfl
    | succ x => rw [if_neg (by omega), List.getElem?_replicate, if_pos (by omega)]; rfl
  · rw [List.getElem?_eq_none (by simp; omega), List.getElem?_eq_none (by rw [drow_length]; omega)]
theorem nrow_zero (l : List UInt8) (k F : Nat) : nrow l k F 0 = List.replicate (F + 1) 0 := by
  refine List.ext_getElem? fun x => ?_
  by_cases hx : x ≤ F
  · rw [nrow_at l k F 0 x hx, if_neg (by omega), List.getElem?_replicate, if_pos (by omega)]
  · rw [List.getElem?_eq_none (by rw [nrow_length]; omega), List.getElem?_eq_none (by simp; omega)]
theorem nrow_all (l : List UInt8) (k F : Nat) : nrow l k F (F + 1) = drow l (k + 1) F := by
  refine List.ext_getElem? fun x => ?_
  by_cases hx : x ≤ F
  · rw [nrow_at l k F _ x hx, if_pos (by omega), drow_at l _ F x hx]
  · rw [List.getElem?_eq_none (by rw [nrow_length]; omega), List.getElem?_eq_none (by rw [drow_length]; omega)]
theorem nrow_skip {l : List UInt8} {k F q : Nat} (h : okA l (k + 1) q = false) : nrow l k F q = nrow l k F (q + 1) := by
  refine List.ext_getElem? fun x => ?_
  by_cases hx : x ≤ F
  · rw [nrow_at l k F _ x hx, nrow_at l k F _ x hx]
    by_cases e : x = q
    · subst e; rw [if_neg (by omega), if_pos (by omega), dg_not h]; rfl
    · by_cases e2 : x < q
      · rw [if_pos e2, if_pos (by omega)]
      · rw [if_neg e2, if_neg (by omega)]
  · rw [List.getElem?_eq_none (by rw [nrow_length]; omega), List.getElem?_eq_none (by rw [nrow_length]; omega)]
theorem nrow_put {l : List UInt8} {k F q n : Nat} (hq : q ≤ F) (h : dg (okA l) (k + 1) q = n) : (nrow l k F q).set q (n : Int) = nrow l k F (q + 1) := by
  refine List.ext_getElem? fun x => ?_
  by_cases hx : x ≤ F
  · rw [nrow_at l k F _ x hx, List.getElem?_set]
    by_cases e : q = x
    · subst e; rw [if_pos rfl, if_pos (by rw [nrow_length]; omega), if_pos (by omega), h]
    · rw [if_neg e, nrow_at l k F _ x hx]
      by_cases e2 : x < q
      · rw [if_pos e2, if_pos (by omega)]
      · rw [if_neg e2, if_neg (by omega)]
  · rw [List.getElem?_eq_none (by simp [nrow_length]; omega), List.getElem?_eq_none (by rw [nrow_length]; omega)]
theorem dg_small (l : List UInt8) (k x : Nat) (hk : k ≤ 16) : dg (okA l) k x ≤ 65536 :=
  Nat.le_trans (dg_bound _ _ _) (Nat.le_trans (Nat.pow_le_pow_right (by omega) hk) (by decide))

theorem made_ints (n : Nat) : (madeCells (Value.cells (.int .i64 0)) (n * 1)).toList = icells (List.replicate n 0) := by
  rw [Nat.mul_one]
  have h := toList_madeCells_one (.int .i64 0) n
  unfold icells
  rw [List.map_replicate]
  exact h
/-- A row whose room is used up is a block known whole. -/
theorem own_arr {w : World} {base g n : Nat} {l : List Int} (h : w.ownsRow base 3 1 (.slice (some ⟨g, 0, none⟩) n n) n (icells l)) : ArrT w g 3 l := by
  obtain ⟨hl, h1 | ⟨g', cap, cur, e, hg, hh, hnc, hcm, hcs, ht⟩⟩ := h
  · cases h1.1
  · cases e
    have : cur.toList = icells l := by
      rw [← ht, List.take_of_length_le]
      rw [Array.length_toList, hcs]; exact Nat.le_refl _
    unfold ArrT
    rw [hh, ← this]
/-- 'make([]int, n)': the new block. -/
theorem make_ints (w : World) (n : Nat) (hn : n ≤ 1000) :
    ∃ w' : World, (∀ k : Int, k = (n : Int) → (Instr.makeSlice 26 (.int .i64 k) (.int .i64 k)).run Try.prog w = .ok (.slice (some ⟨w.heap.size, 0, none⟩) n n) w') ∧ ArrT w' w.heap.size 3 (List.replicate n 0) ∧ Below w.heap.size w w' := by
  obtain ⟨i0, hi, hz0, hz1, hz2⟩ := info_parts info_int
  obtain ⟨w5, hmk, hown5, hg5⟩ := run_make_full (P := Try.prog) w w.heap.size 26 3 i0 _ 1 Try.underlying26 hi hz0 hz1 .i64 .i64 n (by rw [hz2]; omega) (by unfold maxLen; omega) (Nat.le_refl _)
  rw [made_ints] at hown5
  refine ⟨w5, ?_, own_arr hown5, (Below.refl w.heap.size w).grown hg5 (Nat.le_refl _) (fun t e => by cases e)⟩
  rintro k rfl
  exact hmk

set_option maxRecDepth 100000 in
set_option maxHeartbeats 4000000 in
theorem up_spec (s : ByteArray) (w : World) (hm : s.size ≤ 1048576) :
    Calls Try.prog 30 #[.string s] w fun e w' => e = .returned (.int .i64 (aboveI s.data.toList)) ∧ Below w.heap.size w w' := by
  have HI := Lib.hid (fun w => is_spec s w hm)
  cases hs : stripB s.data.toList with
  | false =>
    have hz : aboveI s.data.toList = 0 := by unfold aboveI; rw [hs]; rfl
    rw [hz]
    rw [hs] at HI
    go_enter Try.func30, Try.ntmps30
    go_wp2_with fail
    refine (HI.out _).mono ?_
    rintro e w' ⟨rfl, rfl⟩
    go_wp2
    go_ret
    exact ⟨rfl, Below.refl _ _⟩
  | true =>
    have hz : aboveI s.data.toList = (aboveN s.data.toList : Int) := by unfold aboveI; rw [hs]; rfl
    rw [hz]
    clear hz
    rw [hs] at HI
    have hdn := fun w => down_spec s w hm
    have hfn := fun w => forward_spec s w hm
    have hnum : numV 100 s.data.toList = (cnt 100 s.data.toList : Int) := by unfold numV; rw [hs]; rfl
    have hnum2 : numV 102 s.data.toList = (cnt 102 s.data.toList : Int) := by unfold numV; rw [hs]; rfl
    rw [hnum] at hdn
    rw [hnum2] at hfn
    have HD := Lib.hid hdn
    have HF := Lib.hid hfn
    have hf := stripB_frame hs
    unfold frameB at hf
    simp only [decide_eq_true_eq] at hf
    have hsz := strip_size hs
    have hsl : s.data.toList.length = s.size := by simp
    have HAB := Lib.hid (show aboveN s.data.toList = dg (okA s.data.toList) s.size (cnt 102 s.data.toList) by unfold aboveN; rw [hsl])
    have HFF := Lib.hid (fun k (h : k < s.size) => ff_next s k h)
    rw [hsl] at hsz
    have HFL := Lib.hid (ff_le s.data.toList)
    clear hdn hfn hnum hnum2 hs hsl
    generalize s.data.toList = l at *
    obtain ⟨D, hD⟩ : ∃ D, cnt 100 l = D := ⟨_, rfl⟩
    obtain ⟨F, hF⟩ : ∃ F, cnt 102 l = F := ⟨_, rfl⟩
    have HDE := Lib.hid hD
    rw [hD] at HD hf
    rw [hF] at HF hf HAB
    clear hD hF
    go_enter Try.func30, Try.ntmps30
    go_wp2_with fail
    refine (HI.out _).mono ?_
    rintro e w' ⟨rfl, rfl⟩
    go_wp2_with fail
    refine (HD.out _).mono ?_
    rintro e w' ⟨rfl, rfl⟩
    go_wp2_with fail
    refine (HF.out _).mono ?_
    rintro e w' ⟨rfl, rfl⟩
    obtain ⟨w1, hmk, ha1, hb1⟩ := make_ints w (F + 1) (by omega)
    have hmk := hmk ((F : Int) + 1) (by omega)
    have hc := ha1.cell (j := 0) (x := 0) (by rw [List.getElem?_replicate, if_pos (by omega)])
    have hfz := ha1.free 0
    have ha := ha1.set 0 1
    rw [drow_zero l F] at ha
    have HA := Lib.hid ha
    have HB := Lib.hid (hb1.setCell (p := ⟨w.heap.size, 0, none⟩) (Nat.le_refl _) (.int .i64 1))
    clear ha ha1 hb1 HI HD HF
    go_wp2_with fail
    clear hmk hc hfz
    generalize w1.setCell ⟨w.heap.size, 0, none⟩ (.int .i64 1) = W1 at *
    go_loopw [5, 6, 7] (fun v x i wr => ∃ k g : Nat, k ≤ s.size ∧ i = .int .i64 (k : Int) ∧ x = .int .i64 (ff l k : Int) ∧ v = .slice (some ⟨g, 0, none⟩) (F + 1) (F + 1) ∧ Hid (ArrT wr g 3 (drow l k F)) ∧ Hid (Below w.heap.size w wr)) (fun _ _ i _ => s.size - (intOf i).toNat)
    case atStart => exact ⟨0, w.heap.size, Nat.zero_le _, rfl, by rw [ff_zero]; rfl, rfl, HA, HB⟩
    case round =>
      clear HA HB
      obtain ⟨k, g, hk, rfl, rfl, rfl, HA, HB⟩ := hrel
      by_cases hlt : k < s.size
      · have hk0 : (0 : Int) ≤ (k : Int) := Int.natCast_nonneg _
        have hk1 : (k : Int) < (s.size : Int) := by omega
        obtain ⟨W2, hmk, ha2, hb2⟩ := make_ints wr (F + 1) (by omega)
        have hmk := hmk ((F : Int) + 1) (by omega)
        rw [← nrow_zero l k F] at ha2
        have HN := Lib.hid ha2
        have HA2 := Lib.hid (HA.out.below hb2)
        have HB2 := Lib.hid (HB.out.trans (hb2.mono HB.out.size))
        have hG : g ≠ wr.heap.size := by have := HA.out.lt; omega
        have HGB := Lib.hid HB.out.size
        have hfl := HFL.out (k + 1)
        have hfl0 := HFL.out k
        obtain ⟨b, hb, hL⟩ : ∃ b, ((s[k].toNat : Int) == 102) = b ∧ (b = true ∧ (ff l k : Int) + 1 = (ff l (k + 1) : Int) ∨ b = false ∧ (ff l k : Int) = (ff l (k + 1) : Int)) := by
          have h := HFF.out k hlt
          by_cases e : s[k] = 102
          · rw [if_pos e] at h
            exact ⟨true, byte_eq _ 102 e, .inl ⟨rfl, by omega⟩⟩
          · rw [if_neg e] at h
            exact ⟨false, byte_ne _ 102 e, .inr ⟨rfl, by omega⟩⟩
        clear ha2 hb2 HA HB
        generalize wr.heap.size = G at *
        rcases hL with ⟨rfl, hL⟩ | ⟨rfl, hL⟩
        · have HL := Lib.hid hL
          clear hL
          go_wp2_with fail
          rw [HL.out]
          have HOT := Lib.hid (fun x (h : ff l (k + 1) ≤ x ∧ k + 1 ≤ D + x) => show okA l (k + 1) x = true from okA_iff.2 (by rw [HDE.out]; exact h))
          have HOF := Lib.hid (fun x (h : ¬ (ff l (k + 1) ≤ x ∧ k + 1 ≤ D + x)) => show okA l (k + 1) x = false from okA_not.2 (by rw [HDE.out]; exact h))
          have HSM := Lib.hid (fun x => dg_small l k x (by omega))
          have HFN := Lib.hid (nrow_all l k F)
          have HGN := Lib.hid hG
          clear hmk hfl0 hb HL hG
          obtain ⟨L, hLL⟩ : ∃ L, ff l (k + 1) = L := ⟨_, rfl⟩
          rw [hLL] at HOT HOF hfl ⊢
          have HLL := Lib.hid hLL
          clear hLL
          go_loopw [9] (fun i wr => ∃ x : Nat, x ≤ F + 1 ∧ i = .int .i64 (x : Int) ∧ Hid (ArrT wr G 3 (nrow l k F x)) ∧ Hid (ArrT wr g 3 (drow l k F)) ∧ Hid (Below w.heap.size w wr)) (fun i _ => F + 1 - (intOf i).toNat)
          case atStart => exact ⟨0, Nat.zero_le _, rfl, HN, HA2, HB2⟩
          case round =>
            clear HN HA2 HB2
            obtain ⟨x, hx, rfl, HN, HA, HB⟩ := hrel
            have hx0 : (0 : Int) ≤ (x : Int) := Int.natCast_nonneg _
            by_cases hxl : x ≤ F
            · have hx1 : (x : Int) ≤ (F : Int) := by omega
              have h1 := HA.out.cell (drow_at l k F x hxl)
              have hs1 := HSM.out x
              rcases Nat.eq_zero_or_pos x with hx2 | hx2
              · have HPUT := Lib.hid (fun (h : okA l (k + 1) x = true) => nrow_put (l := l) (k := k) (F := F) (q := x) (n := dg (okA l) k x) hxl (by rw [hx2] at h ⊢; exact dg_zero h))
                have hx3 : decide (0 < (x : Int)) = false := by rw [hx2]; rfl
                have hx4 : decide (0 < x) = false := by rw [hx2]; rfl
                clear hx2
                generalize dg (okA l) k x = p at *
                by_cases c1 : L ≤ x
                · have d1 : (L : Int) ≤ (x : Int) := by omega
                  by_cases c2 : k + 1 ≤ D + x
                  · have d2 : (k : Int) + 1 - (x : Int) ≤ (D : Int) := by omega
                    have hz := HN.out.free x
                    have hv := HN.out.cell (j := x) (nrow_at l k F x x (by omega))
                    rw [if_neg (by omega)] at hv
                    have ha := HN.out.set (x) ((p : Int) : Int)
                    rw [HPUT.out (HOT.out _ (by omega))] at ha
                    have HN2 := Lib.hid ha
                    have HA2 := Lib.hid (HA.out.other (c := G) (j := x) (x := .int .i64 ((p : Int))) HGN.out)
                    have HB2 := Lib.hid (HB.out.setCell (p := ⟨G, x, none⟩) HGB.out (.int .i64 ((p : Int))))
                    clear ha HN HA HB
                    go_wp2
                    go_roundw
                    case rel => exact ⟨x + 1, by omega, by go_num, HN2, HA2, HB2⟩
                    case measure => simp [intOf]; omega
                  · have d2 : ¬ ((k : Int) + 1 - (x : Int) ≤ (D : Int)) := by omega
                    go_wp2
                    go_roundw
                    case rel => exact ⟨x + 1, by omega, by go_num, by rw [← nrow_skip (HOF.out _ (by omega))]; exact HN, HA, HB⟩
                    case measure => simp [intOf]; omega
                · have d1 : ¬ ((L : Int) ≤ (x : Int)) := by omega
                  go_wp2
                  go_roundw
                  case rel => exact ⟨x + 1, by omega, by go_num, by rw [← nrow_skip (HOF.out _ (by omega))]; exact HN, HA, HB⟩
                  case measure => simp [intOf]; omega
              · obtain ⟨y, rfl⟩ : ∃ y, x = y + 1 := ⟨x - 1, by omega⟩
                clear hx2
                have h2 := HA.out.cell (drow_at l k F y (by omega))
                have hs2 := HSM.out y
                have HPUT := Lib.hid (fun (h : okA l (k + 1) (y + 1) = true) => nrow_put (l := l) (k := k) (F := F) (q := y + 1) (n := dg (okA l) k (y + 1) + dg (okA l) k y) (by omega) (dg_succ h))
                generalize dg (okA l) k (y + 1) = p at *
                generalize dg (okA l) k y = q at *
                have hpq : ((p + q : Nat) : Int) = (p : Int) + (q : Int) := by omega
                rw [hpq] at HPUT
                rw [show ((y + 1 : Nat) : Int) = (y : Int) + 1 from by omega] at hx0 hx1 ⊢
                have hy0 : (0 : Int) ≤ (y : Int) := Int.natCast_nonneg _
                have hy1 : (y : Int) < (F : Int) := by omega
                have e2 : ((y : Int) + 1).toNat = y + 1 := by omega
                clear hpq
                by_cases c1 : L ≤ y + 1
                · have d1 : (L : Int) ≤ (y : Int) + 1 := by omega
                  by_cases c2 : k + 1 ≤ D + (y + 1)
                  · have d2 : (k : Int) + 1 - ((y : Int) + 1) ≤ (D : Int) := by omega
                    have hz := HN.out.free (y + 1)
                    have hv := HN.out.cell (j := (y + 1)) (nrow_at l k F (y + 1) (y + 1) (by omega))
                    rw [if_neg (by omega)] at hv
                    have ha := HN.out.set ((y + 1)) ((p : Int) + (q : Int) : Int)
                    rw [HPUT.out (HOT.out _ (by omega))] at ha
                    have HN2 := Lib.hid ha
                    have HA2 := Lib.hid (HA.out.other (c := G) (j := (y + 1)) (x := .int .i64 ((p : Int) + (q : Int))) HGN.out)
                    have HB2 := Lib.hid (HB.out.setCell (p := ⟨G, (y + 1), none⟩) HGB.out (.int .i64 ((p : Int) + (q : Int))))
                    clear ha HN HA HB
                    go_wp2
                    go_roundw
                    case rel => exact ⟨(y + 1) + 1, by omega, by go_num, HN2, HA2, HB2⟩
                    case measure => simp [intOf]; omega
                  · have d2 : ¬ ((k : Int) + 1 - ((y : Int) + 1) ≤ (D : Int)) := by omega
                    go_wp2
                    go_roundw
                    case rel => exact ⟨(y + 1) + 1, by omega, by go_num, by rw [← nrow_skip (HOF.out _ (by omega))]; exact HN, HA, HB⟩
                    case measure => simp [intOf]; omega
                · have d1 : ¬ ((L : Int) ≤ (y : Int) + 1) := by omega
                  go_wp2
                  go_roundw
                  case rel => exact ⟨(y + 1) + 1, by omega, by go_num, by rw [← nrow_skip (HOF.out _ (by omega))]; exact HN, HA, HB⟩
                  case measure => simp [intOf]; omega
            · obtain rfl : x = F + 1 := by omega
              have hx1 : ¬ (((F + 1 : Nat) : Int) ≤ (F : Int)) := by omega
              have ha := HN.out
              rw [HFN.out] at ha
              have HN := Lib.hid ha
              clear ha
              go_wp2
              exact ⟨⟨k + 1, G, by omega, by go_num, by rw [HLL.out], rfl, HN, HB⟩, by simp [intOf]; omega⟩
        · have HL := Lib.hid hL
          clear hL
          go_wp2_with fail
          rw [HL.out]
          have HOT := Lib.hid (fun x (h : ff l (k + 1) ≤ x ∧ k + 1 ≤ D + x) => show okA l (k + 1) x = true from okA_iff.2 (by rw [HDE.out]; exact h))
          have HOF := Lib.hid (fun x (h : ¬ (ff l (k + 1) ≤ x ∧ k + 1 ≤ D + x)) => show okA l (k + 1) x = false from okA_not.2 (by rw [HDE.out]; exact h))
          have HSM := Lib.hid (fun x => dg_small l k x (by omega))
          have HFN := Lib.hid (nrow_all l k F)
          have HGN := Lib.hid hG
          clear hmk hfl0 hb HL hG
          obtain ⟨L, hLL⟩ : ∃ L, ff l (k + 1) = L := ⟨_, rfl⟩
          rw [hLL] at HOT HOF hfl ⊢
          have HLL := Lib.hid hLL
          clear hLL
          go_loopw [9] (fun i wr => ∃ x : Nat, x ≤ F + 1 ∧ i = .int .i64 (x : Int) ∧ Hid (ArrT wr G 3 (nrow l k F x)) ∧ Hid (ArrT wr g 3 (drow l k F)) ∧ Hid (Below w.heap.size w wr)) (fun i _ => F + 1 - (intOf i).toNat)
          case atStart => exact ⟨0, Nat.zero_le _, rfl, HN, HA2, HB2⟩
          case round =>
            clear HN HA2 HB2
            obtain ⟨x, hx, rfl, HN, HA, HB⟩ := hrel
            have hx0 : (0 : Int) ≤ (x : Int) := Int.natCast_nonneg _
            by_cases hxl : x ≤ F
            · have hx1 : (x : Int) ≤ (F : Int) := by omega
              have h1 := HA.out.cell (drow_at l k F x hxl)
              have hs1 := HSM.out x
              rcases Nat.eq_zero_or_pos x with hx2 | hx2
              · have HPUT := Lib.hid (fun (h : okA l (k + 1) x = true) => nrow_put (l := l) (k := k) (F := F) (q := x) (n := dg (okA l) k x) hxl (by rw [hx2] at h ⊢; exact dg_zero h))
                have hx3 : decide (0 < (x : Int)) = false := by rw [hx2]; rfl
                have hx4 : decide (0 < x) = false := by rw [hx2]; rfl
                clear hx2
                generalize dg (okA l) k x = p at *
                by_cases c1 : L ≤ x
                · have d1 : (L : Int) ≤ (x : Int) := by omega
                  by_cases c2 : k + 1 ≤ D + x
                  · have d2 : (k : Int) + 1 - (x : Int) ≤ (D : Int) := by omega
                    have hz := HN.out.free x
                    have hv := HN.out.cell (j := x) (nrow_at l k F x x (by omega))
                    rw [if_neg (by omega)] at hv
                    have ha := HN.out.set (x) ((p : Int) : Int)
                    rw [HPUT.out (HOT.out _ (by omega))] at ha
                    have HN2 := Lib.hid ha
                    have HA2 := Lib.hid (HA.out.other (c := G) (j := x) (x := .int .i64 ((p : Int))) HGN.out)
                    have HB2 := Lib.hid (HB.out.setCell (p := ⟨G, x, none⟩) HGB.out (.int .i64 ((p : Int))))
                    clear ha HN HA HB
                    go_wp2
                    go_roundw
                    case rel => exact ⟨x + 1, by omega, by go_num, HN2, HA2, HB2⟩
                    case measure => simp [intOf]; omega
                  · have d2 : ¬ ((k : Int) + 1 - (x : Int) ≤ (D : Int)) := by omega
                    go_wp2
                    go_roundw
                    case rel => exact ⟨x + 1, by omega, by go_num, by rw [← nrow_skip (HOF.out _ (by omega))]; exact HN, HA, HB⟩
                    case measure => simp [intOf]; omega
                · have d1 : ¬ ((L : Int) ≤ (x : Int)) := by omega
                  go_wp2
                  go_roundw
                  case rel => exact ⟨x + 1, by omega, by go_num, by rw [← nrow_skip (HOF.out _ (by omega))]; exact HN, HA, HB⟩
                  case measure => simp [intOf]; omega
              · obtain ⟨y, rfl⟩ : ∃ y, x = y + 1 := ⟨x - 1, by omega⟩
                clear hx2
                have h2 := HA.out.cell (drow_at l k F y (by omega))
                have hs2 := HSM.out y
                have HPUT := Lib.hid (fun (h : okA l (k + 1) (y + 1) = true) => nrow_put (l := l) (k := k) (F := F) (q := y + 1) (n := dg (okA l) k (y + 1) + dg (okA l) k y) (by omega) (dg_succ h))
                generalize dg (okA l) k (y + 1) = p at *
                generalize dg (okA l) k y = q at *
                have hpq : ((p + q : Nat) : Int) = (p : Int) + (q : Int) := by omega
                rw [hpq] at HPUT
                rw [show ((y + 1 : Nat) : Int) = (y : Int) + 1 from by omega] at hx0 hx1 ⊢
                have hy0 : (0 : Int) ≤ (y : Int) := Int.natCast_nonneg _
                have hy1 : (y : Int) < (F : Int) := by omega
                have e2 : ((y : Int) + 1).toNat = y + 1 := by omega
                clear hpq
                by_cases c1 : L ≤ y + 1
                · have d1 : (L : Int) ≤ (y : Int) + 1 := by omega
                  by_cases c2 : k + 1 ≤ D + (y + 1)
                  · have d2 : (k : Int) + 1 - ((y : Int) + 1) ≤ (D : Int) := by omega
                    have hz := HN.out.free (y + 1)
                    have hv := HN.out.cell (j := (y + 1)) (nrow_at l k F (y + 1) (y + 1) (by omega))
                    rw [if_neg (by omega)] at hv
                    have ha := HN.out.set ((y + 1)) ((p : Int) + (q : Int) : Int)
                    rw [HPUT.out (HOT.out _ (by omega))] at ha
                    have HN2 := Lib.hid ha
                    have HA2 := Lib.hid (HA.out.other (c := G) (j := (y + 1)) (x := .int .i64 ((p : Int) + (q : Int))) HGN.out)
                    have HB2 := Lib.hid (HB.out.setCell (p := ⟨G, (y + 1), none⟩) HGB.out (.int .i64 ((p : Int) + (q : Int))))
                    clear ha HN HA HB
                    go_wp2
                    go_roundw
                    case rel => exact ⟨(y + 1) + 1, by omega, by go_num, HN2, HA2, HB2⟩
                    case measure => simp [intOf]; omega
                  · have d2 : ¬ ((k : Int) + 1 - ((y : Int) + 1) ≤ (D : Int)) := by omega
                    go_wp2
                    go_roundw
                    case rel => exact ⟨(y + 1) + 1, by omega, by go_num, by rw [← nrow_skip (HOF.out _ (by omega))]; exact HN, HA, HB⟩
                    case measure => simp [intOf]; omega
                · have d1 : ¬ ((L : Int) ≤ (y : Int) + 1) := by omega
                  go_wp2
                  go_roundw
                  case rel => exact ⟨(y + 1) + 1, by omega, by go_num, by rw [← nrow_skip (HOF.out _ (by omega))]; exact HN, HA, HB⟩
                  case measure => simp [intOf]; omega
            · obtain rfl : x = F + 1 := by omega
              have hx1 : ¬ (((F + 1 : Nat) : Int) ≤ (F : Int)) := by omega
              have ha := HN.out
              rw [HFN.out] at ha
              have HN := Lib.hid ha
              clear ha
              go_wp2
              exact ⟨⟨k + 1, G, by omega, by go_num, by rw [HLL.out], rfl, HN, HB⟩, by simp [intOf]; omega⟩
      · obtain rfl : k = s.size := by omega
        have hc := HA.out.cell (drow_at l s.size F F (Nat.le_refl _))
        rw [← HAB.out] at hc
        go_wp2
        go_ret
        exact ⟨rfl, HB.out⟩
end Go.Proofs.Ytjjmeenapnemdaa.Area

/- What LinksOk of the model returns (printed by wip/gen_slide5.py). -/
import Derived.Test.YtmjknjgfcngacaaSlideLinks
import Derived.Test.YtmjknjgfcngacaaSlideArr
import Derived.Test.YtmjknjgfcngacaaSlideBits
namespace Go.Proofs.Ytmjknjgfcngacaa.Slide
open Go.ChangeShapes Go.WideShapes Go.ChangeAt Go.RowKit Go.Sort
open Go.Proofs.Ytmjknjgfcngacaa.Tri
open Go.Proofs.Ytmjknjgfcngacaa.Arr
open Go.Proofs.Ytmjknjgfcngacaa.Strip (in_at)
open Go.Proofs.Ytmjknjgfcngacaa.Ints (grown_below grown_set grown_trans heap_set_at drewN_below)
set_option linter.unusedVariables false

theorem shl_ok {t : Nat} (ht : t < 8) : wrap64 (2 ^ t) = ((2 ^ t : Nat) : Int) := by
  have h := one_small ht
  have e : (2 : Int) ^ t = ((2 ^ t : Nat) : Int) := by simp
  rw [e]
  generalize (2 : Nat) ^ t = y at h
  unfold wrap64
  omega
theorem and_shr {x v : Nat} (hx : x < 256) : (bits .and .i64 ((x : Int) / 2 ^ v) 1 == 1) = x.testBit v := by
  have e : (x : Int) / 2 ^ v = ((x / 2 ^ v : Nat) : Int) := by simp
  have h2 : x / 2 ^ v < 256 := Nat.lt_of_le_of_lt (Nat.div_le_self _ _) hx
  rw [e, ← and_one x v]
  rw [show bits .and .i64 ((x / 2 ^ v : Nat) : Int) 1 = ((x / 2 ^ v &&& 1 : Nat) : Int) from and_nat (y := 1) h2 (by decide)]
theorem or_shl {x t : Nat} (hx : x < 256) (ht : t < 8) : bits .or .i64 (x : Int) (wrap64 (2 ^ t)) = ((x ||| 2 ^ t : Nat) : Int) := by
  rw [shl_ok ht]; exact or_nat hx (one_small ht)
theorem edge_more {l : List T3} {k f t : Nat} {z : Int} (h : ∀ i j, edge (l.take (k + 1)) i j = (edge (l.take k) i j || decide (((f : Int), (t : Int), z).1 = (i : Int) ∧ ((f : Int), (t : Int), z).2.1 = (j : Int)))) (i j : Nat) : edge (l.take (k + 1)) i j = (edge (l.take k) i j || decide (i = f ∧ j = t)) := by
  rw [h]
  congr 1
  rw [Bool.eq_iff_iff, decide_eq_true_eq, decide_eq_true_eq]
  simp only
  omega

set_option maxRecDepth 100000 in
set_option maxHeartbeats 4000000 in
theorem links_spec (N : Int) (a : Option Addr) (n c : Nat) (l : List T3) (w : World) (hl : l.length = n) (hn : n ≤ 1048576) (hr : Row3 w a l) :
    Calls Try.prog 12 #[.int .i64 N, .slice a n c] w fun e w' => e = .returned (.bool (linksB N l)) ∧ Below w.heap.size w w' := by
  have HL := Lib.hid hl; clear hl
  have HR := Lib.hid hr; clear hr
  by_cases h1 : 1 ≤ N ∧ N ≤ 8
  · have HN := Lib.hid h1
    by_cases h3 : 12 < n
    · have e3 : decide (12 < (n : Int)) = true := decide_eq_true (by omega)
      rw [linksB_no (n := N) (ls := l) fun h => by have := HL.out; omega]
      go_enter Try.func12, Try.ntmps12
      go_wp2_with fail
      refine (in_at N 1 8 _).mono ?_
      rintro e w1 ⟨rfl, rfl⟩
      rw [decide_eq_true HN.out]
      go_wp2
      go_ret
      exact ⟨rfl, Below.refl _ _⟩
    · have e3 : decide (12 < (n : Int)) = false := decide_eq_false (by omega)
      obtain ⟨M, rfl⟩ := Int.eq_ofNat_of_zero_le (show 0 ≤ N by omega)
      have hM1 : 1 ≤ M := by omega
      have hM8 : M ≤ 8 := by omega
      have HQ := Lib.hid (show (1 : Int) ≤ (M : Int) ∧ (M : Int) ≤ 8 ∧ l.length ≤ 12 from ⟨by omega, by omega, by have := HL.out; omega⟩)
      obtain ⟨w1, hmk, ha1, hb1⟩ := make_ints w M (by omega)
      have hmk := hmk (M : Int) rfl
      rw [natL_zero] at ha1
      have HA := Lib.hid ha1
      have HB := Lib.hid hb1
      clear ha1 hb1 h1 h3
      go_enter Try.func12, Try.ntmps12
      go_wp2_with fail
      refine (in_at (M : Int) 1 8 _).mono ?_
      rintro e w0 ⟨rfl, rfl⟩
      rw [decide_eq_true HN.out]
      go_wp2_with fail
      clear hmk
      go_loopw [6] (fun i wr => ∃ (k : Nat) (R : List Nat), k ≤ n ∧ i = .int .i64 (k : Int) ∧ Hid ((l.take k).all (linkB (M : Int)) = true) ∧ Hid (Own M (edge (l.take k)) R) ∧ Hid (ArrT wr w.heap.size 3 (natL R)) ∧ Hid (Below w.heap.size w wr)) (fun i _ => n - (intOf i).toNat)
      case atStart => exact ⟨0, _, Nat.zero_le _, rfl, Lib.hid (by rw [List.take_zero]; rfl), Lib.hid (by rw [List.take_zero]; exact Own.zero M), HA, HB⟩
      case round =>
        clear HA HB
        obtain ⟨k, R, hk, rfl, HALL, HO, HA, HB⟩ := hrel
        have hk0 : (0 : Int) ≤ (k : Int) := Int.natCast_nonneg _
        by_cases hlt : k < n
        · have hk1 : (k : Int) < (n : Int) := by omega
          have hkl : k < l.length := by rw [HL.out]; exact hlt
          obtain ⟨g, rfl, hg, c0, c1, c2⟩ := (HR.out.below HB.out) k hkl
          have HT := Lib.hid (fun h => all_take (p := linkB (M : Int)) hkl HALL.out h)
          have HET := Lib.hid (fun i j => edge_take hkl i j)
          have HF := Lib.hid (show linkB (M : Int) l[k] = false → linksB (M : Int) l = false from fun h => linksB_no fun h2 => by rw [h2.2.1 _ (List.getElem_mem hkl)] at h; cases h)
          generalize l[k] = s at *
          obtain ⟨x, y, z⟩ := s
          simp only at c0 c1 c2
          have hv := VarT.new (T := 35) wr (x, y, z)
          have hb := alloc_below wr (.cells #[.int .i64 x, .int .i64 y, .int .i64 z] 35)
          have HB := Lib.hid (HB.out.trans (hb.mono HB.out.size))
          have HA := Lib.hid (HA.out.below hb)
          obtain ⟨m0, m1, m2⟩ := hv.cells
          simp only at m0 m1 m2
          clear hb hv
          have hM0 : (1 : Int) ≤ (M : Int) := by omega
          have hM9 : (M : Int) ≤ 8 := by omega
          by_cases hx : 0 ≤ x ∧ x ≤ (M : Int) - 1
          · by_cases hy : 0 ≤ y ∧ y ≤ (M : Int) - 1
            · obtain ⟨f, rfl⟩ := Int.eq_ofNat_of_zero_le hx.1
              obtain ⟨t, rfl⟩ := Int.eq_ofNat_of_zero_le hy.1
              by_cases hxy : (f : Int) = (t : Int)
              · have e4 : ((f : Int) == (t : Int)) = true := by simp [hxy]
                have HF := Lib.hid (HF.out (linkB_f fun h => h.2.2.2.2.1 hxy))
                have HXY := Lib.hid hxy
                clear hxy
                go_wp2_with fail
                refine (in_at (f : Int) 0 ((M : Int) - 1) _).mono ?_
                rintro e w2 ⟨rfl, rfl⟩
                rw [decide_eq_true hx]
                go_wp2_with fail
                refine (in_at (t : Int) 0 ((M : Int) - 1) _).mono ?_
                rintro e w2 ⟨rfl, rfl⟩
                rw [decide_eq_true hy]
                go_wp2
                go_ret
                rw [HF.out]
                exact ⟨rfl, HB.out⟩
              · have e4 : ((f : Int) == (t : Int)) = false := by simp only [beq_eq_false_iff_ne]; exact hxy
                by_cases hz : z = 1
                · subst hz
                  have hf : f < M := by omega
                  have ht : t < M := by omega
                  have ht8 : t < 8 := by omega
                  have HT := Lib.hid (HT.out (linkB_iff.2 ⟨by simp only; omega, by simp only; omega, by simp only; omega, by simp only; omega, hxy, .inr rfl⟩))
                  have HO2 := Lib.hid (HO.out.step (e2 := edge (l.take (k + 1))) hf ht8 (edge_more HET.out))
                  have q0 := HA.out.cell (natL_at (by rw [HO.out.len]; exact hf))
                  have qf := HA.out.free f
                  have hf1 : (f : Int) < (M : Int) := by omega
                  have ht1 : (t : Int) < (M : Int) := by omega
                  have ha := HA.out.set f (bits BinOp.or IntKind.i64 ((row R f : Nat) : Int) (wrap64 (2 ^ t)))
                  have HV := Lib.hid (or_shl (HO.out.small f) ht8)
                  have HA2 := Lib.hid ha
                  have HB2 := Lib.hid (below_set (c := w.heap.size) (j := f) (u := .int .i64 (bits BinOp.or IntKind.i64 ((row R f : Nat) : Int) (wrap64 (2 ^ t)))) HB.out (Nat.le_refl _) HB.out.size)
                  clear ha HO HA HB HET HF
                  go_wp2_with fail
                  refine (in_at (f : Int) 0 ((M : Int) - 1) _).mono ?_
                  rintro e w2 ⟨rfl, rfl⟩
                  rw [decide_eq_true hx]
                  go_wp2_with fail
                  refine (in_at (t : Int) 0 ((M : Int) - 1) _).mono ?_
                  rintro e w2 ⟨rfl, rfl⟩
                  rw [decide_eq_true hy]
                  clear hx hy
                  go_wp2_with fail
                  go_region
                  clear q0 qf m0 m1 m2 c0 c1 c2
                  have HA3 := Lib.hid HA2.out.drew
                  have HB3 := Lib.hid HB2.out.drew
                  clear HA2 HB2
                  generalize (((wr.alloc (.cells #[.int .i64 (f : Int), .int .i64 (t : Int), .int .i64 1] 35)).setCell ⟨w.heap.size, f, none⟩ (.int .i64 (bits BinOp.or IntKind.i64 ((row R f : Nat) : Int) (wrap64 (2 ^ t))))).drew) = W4 at *
                  rw [HV.out, natL_set] at HA3
                  go_wp2
                  exact ⟨⟨k + 1, _, by omega, by go_num, HT, HO2, HA3, HB3⟩, by simp [intOf]; omega⟩
                · have e5 : (z != 1) = true := by simp [hz]
                  by_cases hz2 : z = -1
                  · subst hz2
                    clear hz
                    have hf : f < M := by omega
                    have ht : t < M := by omega
                    have ht8 : t < 8 := by omega
                    have HT := Lib.hid (HT.out (linkB_iff.2 ⟨by simp only; omega, by simp only; omega, by simp only; omega, by simp only; omega, hxy, .inl rfl⟩))
                    have HO2 := Lib.hid (HO.out.step (e2 := edge (l.take (k + 1))) hf ht8 (edge_more HET.out))
                    have q0 := HA.out.cell (natL_at (by rw [HO.out.len]; exact hf))
                    have qf := HA.out.free f
                    have hf1 : (f : Int) < (M : Int) := by omega
                    have ht1 : (t : Int) < (M : Int) := by omega
                    have ha := HA.out.set f (bits BinOp.or IntKind.i64 ((row R f : Nat) : Int) (wrap64 (2 ^ t)))
                    have HV := Lib.hid (or_shl (HO.out.small f) ht8)
                    have HA2 := Lib.hid ha
                    have HB2 := Lib.hid (below_set (c := w.heap.size) (j := f) (u := .int .i64 (bits BinOp.or IntKind.i64 ((row R f : Nat) : Int) (wrap64 (2 ^ t)))) HB.out (Nat.le_refl _) HB.out.size)
                    clear ha HO HA HB HET HF
                    go_wp2_with fail
                    refine (in_at (f : Int) 0 ((M : Int) - 1) _).mono ?_
                    rintro e w2 ⟨rfl, rfl⟩
                    rw [decide_eq_true hx]
                    go_wp2_with fail
                    refine (in_at (t : Int) 0 ((M : Int) - 1) _).mono ?_
                    rintro e w2 ⟨rfl, rfl⟩
                    rw [decide_eq_true hy]
                    clear hx hy
                    go_wp2_with fail
                    go_region
                    clear q0 qf m0 m1 m2 c0 c1 c2
                    have HA3 := Lib.hid HA2.out.drew
                    have HB3 := Lib.hid HB2.out.drew
                    clear HA2 HB2
                    generalize (((wr.alloc (.cells #[.int .i64 (f : Int), .int .i64 (t : Int), .int .i64 (-1)] 35)).setCell ⟨w.heap.size, f, none⟩ (.int .i64 (bits BinOp.or IntKind.i64 ((row R f : Nat) : Int) (wrap64 (2 ^ t))))).drew) = W4 at *
                    rw [HV.out, natL_set] at HA3
                    go_wp2
                    exact ⟨⟨k + 1, _, by omega, by go_num, HT, HO2, HA3, HB3⟩, by simp [intOf]; omega⟩
                  · have e6 : (z != -1) = true := by simp [hz2]
                    have HF := Lib.hid (HF.out (linkB_f fun h => h.2.2.2.2.2.elim hz2 hz))
                    clear hz hz2 hxy
                    go_wp2_with fail
                    refine (in_at (f : Int) 0 ((M : Int) - 1) _).mono ?_
                    rintro e w2 ⟨rfl, rfl⟩
                    rw [decide_eq_true hx]
                    go_wp2_with fail
                    refine (in_at (t : Int) 0 ((M : Int) - 1) _).mono ?_
                    rintro e w2 ⟨rfl, rfl⟩
                    rw [decide_eq_true hy]
                    go_wp2
                    go_ret
                    rw [HF.out]
                    exact ⟨rfl, HB.out⟩
            · have HF := Lib.hid (HF.out (linkB_f fun h => hy ⟨h.2.2.1, by have := h.2.2.2.1; simp only at this; omega⟩))
              go_wp2_with fail
              refine (in_at x 0 ((M : Int) - 1) _).mono ?_
              rintro e w2 ⟨rfl, rfl⟩
              rw [decide_eq_true hx]
              go_wp2_with fail
              refine (in_at y 0 ((M : Int) - 1) _).mono ?_
              rintro e w2 ⟨rfl, rfl⟩
              rw [decide_eq_false hy]
              go_wp2
              go_ret
              rw [HF.out]
              exact ⟨rfl, HB.out⟩
          · have HF := Lib.hid (HF.out (linkB_f fun h => hx ⟨h.1, by have := h.2.1; simp only at this; omega⟩))
            go_wp2_with fail
            refine (in_at x 0 ((M : Int) - 1) _).mono ?_
            rintro e w2 ⟨rfl, rfl⟩
            rw [decide_eq_false hx]
            go_wp2
            go_ret
            rw [HF.out]
            exact ⟨rfl, HB.out⟩
        · obtain rfl : k = n := by omega
          have hfin : l.take k = l := by rw [← HL.out]; exact List.take_length
          rw [hfin] at HO HALL
          have hall : ∀ x ∈ l, linkB (M : Int) x = true := List.all_eq_true.1 HALL.out
          have HED := Lib.hid (edge_in hall)
          have HRES := Lib.hid (show linksB (M : Int) l = !circleB l by
            unfold linksB
            rw [decide_eq_true HQ.out, HALL.out]; rfl)
          have HBI := Lib.hid HO.out.bits.1
          have HLO := Lib.hid HO.out.bits.2
          clear hfin hall hlt hk hk0 HALL HO
          obtain ⟨e, he⟩ : ∃ e, edge l = e := ⟨_, rfl⟩
          rw [he] at HBI HLO HED
          have HEE := Lib.hid he
          clear he
          have hM0 : (1 : Int) ≤ (M : Int) := by omega
          have hM9 : (M : Int) ≤ 8 := by omega
          go_wp2_with fail
          go_loopw [8] (fun i wr => ∃ (s : Nat) (R : List Nat), s ≤ M ∧ i = .int .i64 (s : Int) ∧ Hid (Bits M e R) ∧ Hid (∀ u, LoR e s R u) ∧ Hid (ArrT wr w.heap.size 3 (natL R)) ∧ Hid (Below w.heap.size w wr)) (fun i _ => M - (intOf i).toNat)
          case atStart => exact ⟨0, _, by omega, rfl, HBI, HLO, HA, HB⟩
          case round =>
            clear HA HB HBI HLO
            obtain ⟨s, R, hs, rfl, HBI, HLO, HA, HB⟩ := hrel
            have hs0 : (0 : Int) ≤ (s : Int) := Int.natCast_nonneg _
            by_cases hsM : s < M
            · have hs1 : (s : Int) < (M : Int) := by omega
              have HRI := Lib.hid (RoundI.start HLO.out)
              clear HLO
              go_wp2_with fail
              go_loopw [9] (fun i wr => ∃ (u : Nat) (R : List Nat), u ≤ M ∧ i = .int .i64 (u : Int) ∧ Hid (Bits M e R) ∧ Hid (RoundI e s u 0 R) ∧ Hid (ArrT wr w.heap.size 3 (natL R)) ∧ Hid (Below w.heap.size w wr)) (fun i _ => M - (intOf i).toNat)
              case atStart => exact ⟨0, _, by omega, rfl, HBI, HRI, HA, HB⟩
              case round =>
                clear HA HB HBI HRI
                obtain ⟨u, R, hu, rfl, HBI, HRI, HA, HB⟩ := hrel
                have hu0 : (0 : Int) ≤ (u : Int) := Int.natCast_nonneg _
                by_cases huM : u < M
                · have hu1 : (u : Int) < (M : Int) := by omega
                  go_wp2_with fail
                  go_loopw [10] (fun i wr => ∃ (v : Nat) (R : List Nat), v ≤ M ∧ i = .int .i64 (v : Int) ∧ Hid (Bits M e R) ∧ Hid (RoundI e s u v R) ∧ Hid (ArrT wr w.heap.size 3 (natL R)) ∧ Hid (Below w.heap.size w wr)) (fun i _ => M - (intOf i).toNat)
                  case atStart => exact ⟨0, _, by omega, rfl, HBI, HRI, HA, HB⟩
                  case round =>
                    clear HA HB HBI HRI
                    obtain ⟨v, R, hv, rfl, HBI, HRI, HA, HB⟩ := hrel
                    have hv0 : (0 : Int) ≤ (v : Int) := Int.natCast_nonneg _
                    by_cases hvM : v < M
                    · have hv1 : (v : Int) < (M : Int) := by omega
                      have q0 := HA.out.cell (natL_at (R := R) (i := u) (by rw [HBI.out.len]; exact huM))
                      have q1 := HA.out.cell (natL_at (R := R) (i := v) (by rw [HBI.out.len]; exact hvM))
                      have qf := HA.out.free u
                      have hx1 := HBI.out.small u
                      have hx2 := HBI.out.small v
                      have hbit := and_shr (x := row R u) (v := v) hx1
                      cases hb : (row R u).testBit v with
                      | false =>
                        rw [hb] at hbit
                        have HRI2 := Lib.hid (HRI.out.no hb)
                        clear HRI hb
                        go_wp2_with fail
                        exact ⟨⟨v + 1, R, by omega, by go_num, HBI, HRI2, HA, HB⟩, by simp [intOf]; omega⟩
                      | true =>
                        rw [hb] at hbit
                        obtain ⟨n1, n2, n3⟩ := HBI.out.or huM hvM hb
                        have HBI2 := Lib.hid n1
                        have HRI2 := Lib.hid (HRI.out.yes n2 n3)
                        have HV := Lib.hid (or_nat hx1 hx2)
                        have HA2 := Lib.hid (HA.out.set u (bits BinOp.or IntKind.i64 ((row R u : Nat) : Int) ((row R v : Nat) : Int)))
                        have HB2 := Lib.hid (below_set (c := w.heap.size) (j := u) (u := .int .i64 (bits BinOp.or IntKind.i64 ((row R u : Nat) : Int) ((row R v : Nat) : Int))) HB.out (Nat.le_refl _) HB.out.size)
                        clear n1 n2 n3 hb HBI HRI HA HB hx1 hx2
                        go_wp2_with fail
                        go_region
                        have HA3 := Lib.hid HA2.out.drew
                        have HB3 := Lib.hid HB2.out.drew
                        clear HA2 HB2 q0 q1 qf hbit
                        generalize (wr.setCell ⟨w.heap.size, u, none⟩ (.int .i64 (bits BinOp.or IntKind.i64 ((row R u : Nat) : Int) ((row R v : Nat) : Int)))).drew = W4 at *
                        rw [HV.out, natL_set] at HA3
                        go_wp2
                        exact ⟨⟨v + 1, _, by omega, by go_num, HBI2, HRI2, HA3, HB3⟩, by simp [intOf]; omega⟩
                    · obtain rfl : v = M := by omega
                      have HRI2 := Lib.hid (HRI.out.next hsM)
                      clear HRI
                      go_wp2
                      exact ⟨⟨u + 1, R, by omega, by go_num, HBI, HRI2, HA, HB⟩, by simp [intOf]; omega⟩
                · obtain rfl : u = M := by omega
                  have HLO2 := Lib.hid (HRI.out.over HED.out)
                  clear HRI
                  go_wp2
                  exact ⟨⟨s + 1, R, by omega, by go_num, HBI, HLO2, HA, HB⟩, by simp [intOf]; omega⟩
            · obtain rfl : s = M := by omega
              have HEND := Lib.hid (bits_end HBI.out HLO.out)
              clear HLO
              go_wp2_with fail
              go_loopw [11] (fun i wr => ∃ v : Nat, v ≤ s ∧ i = .int .i64 (v : Int) ∧ Hid (∀ u, u < v → reach e s u u = false) ∧ Hid (ArrT wr w.heap.size 3 (natL R)) ∧ Hid (Below w.heap.size w wr)) (fun i _ => s - (intOf i).toNat)
              case atStart => exact ⟨0, by omega, rfl, Lib.hid (fun u hu => by omega), HA, HB⟩
              case round =>
                clear HA HB
                obtain ⟨v, hv, rfl, HU, HA, HB⟩ := hrel
                have hv0 : (0 : Int) ≤ (v : Int) := Int.natCast_nonneg _
                by_cases hvM : v < s
                · have hv1 : (v : Int) < (s : Int) := by omega
                  have q0 := HA.out.cell (natL_at (R := R) (i := v) (by rw [HBI.out.len]; exact hvM))
                  have hx1 := HBI.out.small v
                  have hbit := and_shr (x := row R v) (v := v) hx1
                  rw [HEND.out v v] at hbit
                  cases hr : reach e s v v with
                  | true =>
                    rw [hr] at hbit
                    have HF := Lib.hid (show linksB (s : Int) l = false by
                      rw [HRES.out, circle_yes (i := v) (by omega) (by rw [HEE.out, reach_eight HED.out hM8]; exact hr)]; rfl)
                    clear hr
                    go_wp2_with fail
                    go_ret
                    rw [HF.out]
                    exact ⟨rfl, HB.out⟩
                  | false =>
                    rw [hr] at hbit
                    have HU2 := Lib.hid (show ∀ u, u < v + 1 → reach e s u u = false from fun u hu => by
                      by_cases h : u = v
                      · rw [h]; exact hr
                      · exact HU.out u (by omega))
                    clear hr HU
                    go_wp2_with fail
                    exact ⟨⟨v + 1, by omega, by go_num, HU2, HA, HB⟩, by simp [intOf]; omega⟩
                · obtain rfl : v = s := by omega
                  have HT := Lib.hid (show linksB (v : Int) l = true by
                    rw [HRES.out, circle_not (fun i hi => by
                      rw [HEE.out, reach_eight HED.out hM8]
                      by_cases h : i < v
                      · exact HU.out i h
                      · cases hc : reach e v i i with
                        | false => rfl
                        | true => have := (reach_in HED.out hc).1; omega)]; rfl)
                  go_wp2
                  go_ret
                  rw [HT.out]
                  exact ⟨rfl, HB.out⟩
  · rw [linksB_no (n := N) (ls := l) fun h => by omega]
    go_enter Try.func12, Try.ntmps12
    go_wp2_with fail
    refine (in_at N 1 8 _).mono ?_
    rintro e w1 ⟨rfl, rfl⟩
    rw [decide_eq_false h1]
    go_wp2
    go_ret
    exact ⟨rfl, Below.refl _ _⟩
end Go.Proofs.Ytmjknjgfcngacaa.Slide

/- What hasCircle of the program returns. -/
import Derived.Test.YtmjknjgfcngacaaSlideMove
namespace Go.Proofs.Ytmjknjgfcngacaa.Slide
open Go.ChangeShapes Go.WideShapes Go.ChangeAt Go.RowKit Go.Sort
open Go.Proofs.Ytmjknjgfcngacaa.Tri
open Go.Proofs.Ytmjknjgfcngacaa.Ints (grown_below grown_set grown_trans heap_set_at drewN_below)
set_option linter.unusedVariables false

/-- Eight rows of eight bools, in one flat block. -/
def matC (p : Nat → Nat → Bool) : List Value := (List.range 64).map fun q => Value.bool (p (q / 8) (q % 8))
def MatT (w : World) (b : Nat) (p : Nat → Nat → Bool) : Prop := w.heap[b]? = some (.cells (matC p).toArray 85 (0, 0))
theorem matC_length (p : Nat → Nat → Bool) : (matC p).length = 64 := by unfold matC; simp
theorem matC_get (p : Nat → Nat → Bool) (q : Nat) (h : q < 64) : (matC p)[q]? = some (.bool (p (q / 8) (q % 8))) := by unfold matC; simp [h]
theorem matC_congr {p p2 : Nat → Nat → Bool} (h : ∀ i j, i < 8 → j < 8 → p i j = p2 i j) : matC p = matC p2 := by
  refine List.ext_getElem? fun q => ?_
  by_cases hq : q < 64
  · rw [matC_get p q hq, matC_get p2 q hq, h _ _ (by omega) (by omega)]
  · rw [List.getElem?_eq_none (by rw [matC_length]; omega), List.getElem?_eq_none (by rw [matC_length]; omega)]
theorem matC_set {p p2 : Nat → Nat → Bool} {i j : Nat} (hi : i < 8) (hj : j < 8) (h : ∀ i2 j2, i2 < 8 → j2 < 8 → ¬ (i2 = i ∧ j2 = j) → p i2 j2 = p2 i2 j2) : (matC p).set (i * 8 + j) (.bool (p2 i j)) = matC p2 := by
  refine List.ext_getElem? fun q => ?_
  by_cases hq : q < 64
  · rw [matC_get p2 q hq, List.getElem?_set]
    by_cases e : i * 8 + j = q
    · rw [if_pos e, if_pos (by rw [matC_length]; omega), show q / 8 = i from by omega, show q % 8 = j from by omega]
    · rw [if_neg e, matC_get p q hq, h _ _ (by omega) (by omega) (by omega)]
  · rw [List.getElem?_eq_none (by rw [List.length_set, matC_length]; omega), List.getElem?_eq_none (by rw [matC_length]; omega)]
section
variable {w w' : World} {b i j : Nat} {p p2 : Nat → Nat → Bool}
theorem MatT.lt (h : MatT w b p) : b < w.heap.size := (Array.getElem?_eq_some_iff.1 h).1
theorem MatT.below (h : MatT w b p) (hb : Below w.heap.size w w') : MatT w' b p := (hb.block b h.lt).trans h
theorem MatT.cell (h : MatT w b p) (hi : i < 8) (hj : j < 8) : w.cell? ⟨b, i * 8 + j, none⟩ = some (.bool (p i j)) := by
  unfold MatT at h
  have := matC_get p (i * 8 + j) (by omega)
  rw [show (i * 8 + j) / 8 = i from by omega, show (i * 8 + j) % 8 = j from by omega] at this
  simp [World.cell?, h, this]
theorem MatT.free (h : MatT w b p) (k : Nat) : w.frozen? ⟨b, k, none⟩ = false := by
  unfold MatT at h
  simp [World.frozen?, h]
theorem MatT.set (h : MatT w b p) (hi : i < 8) (hj : j < 8) (hp : ∀ i2 j2, i2 < 8 → j2 < 8 → ¬ (i2 = i ∧ j2 = j) → p i2 j2 = p2 i2 j2) : MatT (w.setCell ⟨b, i * 8 + j, none⟩ (.bool (p2 i j))) b p2 := by
  unfold MatT at *
  rw [heap_set_at _ _ _ _ _ _ _ h]
  simp [matC_set hi hj hp]
theorem MatT.congr (h : MatT w b p) (hp : ∀ i j, i < 8 → j < 8 → p i j = p2 i j) : MatT w b p2 := by
  unfold MatT at *
  rw [h, matC_congr hp]
theorem MatT.drew (h : MatT w b p) : MatT w.drew b p := h
end
theorem zero64 : ∃ zs : Array Value, (∀ w, (zeroValue 85).run Try.prog w = .ok (.agg zs) w) ∧ zs = (matC fun _ _ => false).toArray := ⟨_, fun w => by kernel_rfl, rfl⟩

/-! ### the bits, cell by cell -/
theorem edge_nil (i j : Nat) : edge [] i j = false := rfl
theorem edge_take {ls : List T3} {k : Nat} (hk : k < ls.length) (i j : Nat) : edge (ls.take (k + 1)) i j = (edge (ls.take k) i j || decide (ls[k].1 = (i : Int) ∧ ls[k].2.1 = (j : Int))) := by
  rw [List.take_succ_eq_append_getElem hk]
  unfold edge
  rw [List.any_append]
  simp
/-- In the round of m, once the cells ahead of (f, t) are done. -/
def mix (e : Nat → Nat → Bool) (m f t i j : Nat) : Bool := if i < f ∨ (i = f ∧ j < t) then reach e (m + 1) i j else reach e m i j
theorem mix_zero (e : Nat → Nat → Bool) (m i j : Nat) : mix e m 0 0 i j = reach e m i j := by unfold mix; rw [if_neg (by omega)]
theorem mix_all (e : Nat → Nat → Bool) (m i j : Nat) (hi : i < 8) : mix e m 8 0 i j = reach e (m + 1) i j := by unfold mix; rw [if_pos (by omega)]
theorem mix_row (e : Nat → Nat → Bool) (m f i j : Nat) (hj : j < 8) : mix e m f 8 i j = mix e m (f + 1) 0 i j := by
  unfold mix
  by_cases h : i < f ∨ (i = f ∧ j < 8)
  · rw [if_pos h, if_pos (by omega)]
  · rw [if_neg h, if_neg (by omega)]
theorem mix_here (e : Nat → Nat → Bool) (m f t : Nat) : mix e m f t f t = reach e m f t := by unfold mix; rw [if_neg (by omega)]
theorem mix_col (e : Nat → Nat → Bool) (m f t : Nat) : mix e m f t f m = reach e m f m := by unfold mix; split; exact reach_col e m f; rfl
theorem mix_mid (e : Nat → Nat → Bool) (m f t : Nat) : mix e m f t m t = reach e m m t := by unfold mix; split; exact reach_row e m t; rfl
theorem mix_next (e : Nat → Nat → Bool) (m f t i j : Nat) (h : ¬ (i = f ∧ j = t)) : mix e m f t i j = mix e m f (t + 1) i j := by
  unfold mix
  by_cases h2 : i < f ∨ (i = f ∧ j < t)
  · rw [if_pos h2, if_pos (by omega)]
  · rw [if_neg h2, if_neg (by omega)]
theorem mix_new (e : Nat → Nat → Bool) (m f t : Nat) : mix e m f (t + 1) f t = (reach e m f t || (reach e m f m && reach e m m t)) := by unfold mix; rw [if_pos (by omega), reach_succ]

set_option maxRecDepth 100000 in
set_option maxHeartbeats 4000000 in
theorem circ_impl (a : Option Addr) (n c : Nat) (l : List T3) (w : World) (hl : l.length = n) (hn : n ≤ 1048576) (hr : Row3 w a l) (hin : ∀ x ∈ l, linkB 8 x = true) :
    Calls Try.prog 48 #[.slice a n c] w fun e w' => e = .returned (.bool (circleB l)) ∧ Below w.heap.size w w' := by
  obtain ⟨zs, hz, he⟩ := zero64
  have HE := Lib.hid he
  clear he
  have hk := hz w
  clear hz
  have HL := Lib.hid hl; clear hl
  have HR := Lib.hid hr; clear hr
  have HIN := Lib.hid hin; clear hin
  go_enter Try.func48, Try.ntmps48
  go_wp2_with fail
  clear hk
  have ha0 : MatT (w.alloc (.cells zs 85)) w.heap.size (edge (l.take 0)) := by
    unfold MatT
    rw [matC_congr (p2 := fun _ _ => false) (fun i j _ _ => by rw [List.take_zero]; rfl), ← HE.out]
    exact heap_alloc_new w _
  have HA := Lib.hid ha0
  have HB := Lib.hid (alloc_below w (.cells zs 85))
  clear ha0 HE
  generalize w.alloc (.cells zs 85) = W0 at *
  obtain ⟨B, hB⟩ : ∃ B, w.heap.size = B := ⟨_, rfl⟩
  have HLE := Lib.hid (show w.heap.size ≤ B by omega)
  have HBW := Lib.hid hB
  rw [hB] at HA ⊢
  clear hB
  go_loopw [12] (fun i wr => ∃ k : Nat, k ≤ n ∧ i = .int .i64 (k : Int) ∧ Hid (MatT wr B (edge (l.take k))) ∧ Hid (Below w.heap.size w wr)) (fun i _ => n - (intOf i).toNat)
  case atStart => exact ⟨0, Nat.zero_le _, rfl, HA, HB⟩
  case round =>
    clear HA HB
    obtain ⟨k, hk, rfl, HA, HB⟩ := hrel
    by_cases hlt : k < n
    · have hk0 : (0 : Int) ≤ (k : Int) := Int.natCast_nonneg _
      have hk1 : (k : Int) < (n : Int) := by omega
      have hkl : k < l.length := by rw [HL.out]; exact hlt
      obtain ⟨g, rfl, hg, c0, c1, c2⟩ := (HR.out.below HB.out) k hkl
      have hlk := linkB_iff.1 (HIN.out _ (List.getElem_mem hkl))
      have HT := Lib.hid (fun i j => edge_take hkl i j)
      generalize l[k] = s at *
      obtain ⟨x, y, z⟩ := s
      simp only at c0 c1 c2 hlk
      obtain ⟨h0, h1, h2, h3, _⟩ := hlk
      obtain ⟨f, rfl⟩ := Int.eq_ofNat_of_zero_le h0
      obtain ⟨t, rfl⟩ := Int.eq_ofNat_of_zero_le h2
      have hf : f < 8 := by omega
      have ht : t < 8 := by omega
      have hv := VarT.new (T := 35) wr ((f : Int), (t : Int), z)
      have hb := alloc_below wr (.cells #[.int .i64 (f : Int), .int .i64 (t : Int), .int .i64 z] 35)
      have HA := Lib.hid (HA.out.below hb)
      have HB := Lib.hid (HB.out.trans (hb.mono HB.out.size))
      obtain ⟨m0, m1, m2⟩ := hv.cells
      simp only at m0 m1 m2
      clear hb hv
      have q0 := HA.out.cell hf ht
      have q1 := HA.out.free (f * 8 + t)
      generalize edge (l.take k) f t = old at q0
      have ha := HA.out.set (p2 := edge (l.take (k + 1))) hf ht (fun i j _ _ hne => by
        rw [HT.out i j, decide_eq_false (by simp only; omega), Bool.or_false])
      rw [show edge (l.take (k + 1)) f t = true by rw [HT.out f t]; simp] at ha
      have HA2 := Lib.hid ha
      have HB2 := Lib.hid (below_set (c := B) (j := f * 8 + t) (u := .bool true) HB.out HLE.out HB.out.size)
      clear ha HA HB HT
      go_wp2_with fail
      go_region
      clear m0 m1 m2 q0 q1
      have HA3 : Hid (MatT ((wr.alloc (.cells #[.int .i64 (f : Int), .int .i64 (t : Int), .int .i64 z] 35)).setCell ⟨B, f * 8 + t, none⟩ (.bool true)).drew B (edge (l.take (k + 1)))) := HA2
      have HB3 := Lib.hid HB2.out.drew
      clear HA2 HB2
      generalize ((wr.alloc (.cells #[.int .i64 (f : Int), .int .i64 (t : Int), .int .i64 z] 35)).setCell ⟨B, f * 8 + t, none⟩ (.bool true)).drew = W4 at *
      go_wp2
      go_roundw
      case rel => exact ⟨k + 1, by omega, by go_num, HA3, HB3⟩
      case measure => simp [intOf]; omega
    · obtain rfl : k = n := by omega
      have hfin : l.take k = l := by rw [← HL.out]; exact List.take_length
      rw [hfin] at HA
      clear hfin hlt hk
      obtain ⟨e, he⟩ : ∃ e, edge l = e := ⟨_, rfl⟩
      rw [he] at HA
      have HE := Lib.hid he
      clear he
      go_wp2_with fail
      go_loopw [23] (fun i wr => ∃ m : Nat, m ≤ 8 ∧ i = .int .i64 (m : Int) ∧ Hid (MatT wr B (reach e m)) ∧ Hid (Below w.heap.size w wr)) (fun i _ => 8 - (intOf i).toNat)
      case atStart => exact ⟨0, by omega, rfl, HA, HB⟩
      case round =>
        clear HA HB
        obtain ⟨m, hm, rfl, HA, HB⟩ := hrel
        have hm0 : (0 : Int) ≤ (m : Int) := Int.natCast_nonneg _
        by_cases hlm : m < 8
        · have hm1 : (m : Int) < 8 := by omega
          have HA := Lib.hid (HA.out.congr (p2 := mix e m 0 0) (fun i j _ _ => (mix_zero e m i j).symm))
          go_wp2_with fail
          go_loopw [26] (fun i wr => ∃ f : Nat, f ≤ 8 ∧ i = .int .i64 (f : Int) ∧ Hid (MatT wr B (mix e m f 0)) ∧ Hid (Below w.heap.size w wr)) (fun i _ => 8 - (intOf i).toNat)
          case atStart => exact ⟨0, by omega, rfl, HA, HB⟩
          case round =>
            clear HA HB
            obtain ⟨f, hf, rfl, HA, HB⟩ := hrel
            have hf0 : (0 : Int) ≤ (f : Int) := Int.natCast_nonneg _
            by_cases hf8 : f < 8
            · have hf1 : (f : Int) < 8 := by omega
              go_wp2_with fail
              go_loopw [29] (fun i wr => ∃ t : Nat, t ≤ 8 ∧ i = .int .i64 (t : Int) ∧ Hid (MatT wr B (mix e m f t)) ∧ Hid (Below w.heap.size w wr)) (fun i _ => 8 - (intOf i).toNat)
              case atStart => exact ⟨0, by omega, rfl, HA, HB⟩
              case round =>
                clear HA HB
                obtain ⟨t, ht, rfl, HA, HB⟩ := hrel
                have ht0 : (0 : Int) ≤ (t : Int) := Int.natCast_nonneg _
                by_cases ht8 : t < 8
                · have ht1 : (t : Int) < 8 := by omega
                  have q0 := HA.out.cell hf8 ht8
                  have q2 := HA.out.cell hf8 hlm
                  have q3 := HA.out.cell hlm ht8
                  rw [mix_here] at q0
                  rw [mix_col] at q2
                  rw [mix_mid] at q3
                  have qf := HA.out.free (f * 8 + t)
                  have q1 : True := trivial
                  cases hr1 : reach e m f t with
                  | true =>
                    rw [hr1] at q0
                    generalize reach e m f m = b2 at q2
                    generalize reach e m m t = b3 at q3
                    have ha := HA.out.set (p2 := mix e m f (t + 1)) hf8 ht8 (fun i j _ _ hne => mix_next e m f t i j hne)
                    rw [show mix e m f (t + 1) f t = true by rw [mix_new, hr1]; simp] at ha
                    have HA2 := Lib.hid ha
                    have HB2 := Lib.hid (below_set (c := B) (j := f * 8 + t) (u := .bool true) HB.out HLE.out HB.out.size)
                    clear ha HA HB
                    go_wp2_with fail
                    go_region
                    clear q0 q1 q2 q3 qf
                    have HA3 : Hid (MatT (wr.setCell ⟨B, f * 8 + t, none⟩ (.bool true)).drew B (mix e m f (t + 1))) := HA2
                    have HB3 := Lib.hid HB2.out.drew
                    clear HA2 HB2
                    generalize (wr.setCell ⟨B, f * 8 + t, none⟩ (.bool true)).drew = W4 at *
                    go_wp2
                    go_roundw
                    case rel => exact ⟨t + 1, by omega, by go_num, HA3, HB3⟩
                    case measure => simp [intOf]; omega
                  | false =>
                    rw [hr1] at q0
                    cases hr2 : reach e m f m with
                    | false =>
                      rw [hr2] at q2
                      generalize reach e m m t = b3 at q3
                      have ha := HA.out.set (p2 := mix e m f (t + 1)) hf8 ht8 (fun i j _ _ hne => mix_next e m f t i j hne)
                      rw [show mix e m f (t + 1) f t = false by rw [mix_new, hr1, hr2]; simp] at ha
                      have HA2 := Lib.hid ha
                      have HB2 := Lib.hid (below_set (c := B) (j := f * 8 + t) (u := .bool false) HB.out HLE.out HB.out.size)
                      clear ha HA HB
                      go_wp2_with fail
                      go_region
                      clear q0 q1 q2 q3 qf
                      have HA3 : Hid (MatT (wr.setCell ⟨B, f * 8 + t, none⟩ (.bool false)).drew B (mix e m f (t + 1))) := HA2
                      have HB3 := Lib.hid HB2.out.drew
                      clear HA2 HB2
                      generalize (wr.setCell ⟨B, f * 8 + t, none⟩ (.bool false)).drew = W4 at *
                      go_wp2
                      go_roundw
                      case rel => exact ⟨t + 1, by omega, by go_num, HA3, HB3⟩
                      case measure => simp [intOf]; omega
                    | true =>
                      rw [hr2] at q2
                      cases hr3 : reach e m m t with
                      | false =>
                        rw [hr3] at q3
                        have ha := HA.out.set (p2 := mix e m f (t + 1)) hf8 ht8 (fun i j _ _ hne => mix_next e m f t i j hne)
                        rw [show mix e m f (t + 1) f t = false by rw [mix_new, hr1, hr2, hr3]; simp] at ha
                        have HA2 := Lib.hid ha
                        have HB2 := Lib.hid (below_set (c := B) (j := f * 8 + t) (u := .bool false) HB.out HLE.out HB.out.size)
                        clear ha HA HB
                        go_wp2_with fail
                        go_region
                        clear q0 q1 q2 q3 qf
                        have HA3 : Hid (MatT (wr.setCell ⟨B, f * 8 + t, none⟩ (.bool false)).drew B (mix e m f (t + 1))) := HA2
                        have HB3 := Lib.hid HB2.out.drew
                        clear HA2 HB2
                        generalize (wr.setCell ⟨B, f * 8 + t, none⟩ (.bool false)).drew = W4 at *
                        go_wp2
                        go_roundw
                        case rel => exact ⟨t + 1, by omega, by go_num, HA3, HB3⟩
                        case measure => simp [intOf]; omega
                      | true =>
                        rw [hr3] at q3
                        have ha := HA.out.set (p2 := mix e m f (t + 1)) hf8 ht8 (fun i j _ _ hne => mix_next e m f t i j hne)
                        rw [show mix e m f (t + 1) f t = true by rw [mix_new, hr1, hr2, hr3]; simp] at ha
                        have HA2 := Lib.hid ha
                        have HB2 := Lib.hid (below_set (c := B) (j := f * 8 + t) (u := .bool true) HB.out HLE.out HB.out.size)
                        clear ha HA HB
                        go_wp2_with fail
                        go_region
                        clear q0 q1 q2 q3 qf
                        have HA3 : Hid (MatT (wr.setCell ⟨B, f * 8 + t, none⟩ (.bool true)).drew B (mix e m f (t + 1))) := HA2
                        have HB3 := Lib.hid HB2.out.drew
                        clear HA2 HB2
                        generalize (wr.setCell ⟨B, f * 8 + t, none⟩ (.bool true)).drew = W4 at *
                        go_wp2
                        go_roundw
                        case rel => exact ⟨t + 1, by omega, by go_num, HA3, HB3⟩
                        case measure => simp [intOf]; omega
                · obtain rfl : t = 8 := by omega
                  have HA2 := Lib.hid (HA.out.congr (p2 := mix e m (f + 1) 0) (fun i j _ hj => mix_row e m f i j hj))
                  clear HA
                  go_wp2
                  exact ⟨⟨f + 1, by omega, by go_num, HA2, HB⟩, by simp [intOf]; omega⟩
            · obtain rfl : f = 8 := by omega
              have HA2 := Lib.hid (HA.out.congr (p2 := reach e (m + 1)) (fun i j hi _ => mix_all e m i j hi))
              clear HA
              go_wp2
              exact ⟨⟨m + 1, by omega, by go_num, HA2, HB⟩, by simp [intOf]; omega⟩
        · obtain rfl : m = 8 := by omega
          go_wp2_with fail
          go_loopw [58] (fun i wr => ∃ v : Nat, v ≤ 8 ∧ i = .int .i64 (v : Int) ∧ Hid (∀ u, u < v → reach e 8 u u = false) ∧ Hid (MatT wr B (reach e 8)) ∧ Hid (Below w.heap.size w wr)) (fun i _ => 8 - (intOf i).toNat)
          case atStart => exact ⟨0, by omega, rfl, Lib.hid (fun u hu => by omega), HA, HB⟩
          case round =>
            clear HA HB
            obtain ⟨v, hv, rfl, HU, HA, HB⟩ := hrel
            have hv0 : (0 : Int) ≤ (v : Int) := Int.natCast_nonneg _
            by_cases hv8 : v < 8
            · have hv1 : (v : Int) < 8 := by omega
              have q0 := HA.out.cell hv8 hv8
              cases hr : reach e 8 v v with
              | true =>
                rw [hr] at q0
                have HC := Lib.hid (show circleB l = true from circle_yes hv8 (by rw [HE.out]; exact hr))
                clear hr
                go_wp2_with fail
                go_ret
                rw [HC.out]
                exact ⟨rfl, HB.out⟩
              | false =>
                rw [hr] at q0
                have HU2 := Lib.hid (show ∀ u, u < v + 1 → reach e 8 u u = false from fun u hu => by
                  by_cases h : u = v
                  · rw [h]; exact hr
                  · exact HU.out u (by omega))
                clear hr HU
                go_wp2_with fail
                exact ⟨⟨v + 1, by omega, by go_num, HU2, HA, HB⟩, by simp [intOf]; omega⟩
            · obtain rfl : v = 8 := by omega
              have HC := Lib.hid (show circleB l = false from circle_not (fun i hi => by rw [HE.out]; exact HU.out i hi))
              go_wp2
              go_ret
              rw [HC.out]
              exact ⟨rfl, HB.out⟩
end Go.Proofs.Ytmjknjgfcngacaa.Slide

/- What the program of chapter 7 returns: CutsBetween. -/
import Derived.Test.YtefeajnlogbilaaKerfSpec
import Derived.Test.YtefeajnlogbilaaStepSpot
import Derived.Test.YtefeajnlogbilaaFaceEq
import Derived.Test.YtefeajnlogbilaaStripImpl2
import Derived.Laws.MakeOwn
import Derived.Laws.OwnMore
import Derived.Laws.CopyOwn
import Derived.Lib.AppendZeros
namespace Go.Proofs.Ytefeajnlogbilaa.Kerf
open Go.ChangeShapes Go.WideShapes Go.ChangeAt Go.RowKit
open Go.Proofs.Ytefeajnlogbilaa.Strip Go.Proofs.Ytefeajnlogbilaa.Ints Go.Proofs.Ytefeajnlogbilaa.Corner Go.Proofs.Ytefeajnlogbilaa.Face
set_option linter.unusedVariables false

/-- An array of ints in a block. -/
def Arr (w : World) (b : Nat) (l : List Int) : Prop := w.heap[b]? = some (.cells (icells l).toArray 72 (0, 0))
section
variable {w w' : World} {b j : Nat} {l : List Int}
theorem Arr.lt (h : Arr w b l) : b < w.heap.size := (Array.getElem?_eq_some_iff.1 h).1
theorem Arr.below (h : Arr w b l) (hb : Below w.heap.size w w') : Arr w' b l := (hb.block b h.lt).trans h
theorem Arr.cell (h : Arr w b l) (hj : j < l.length) : w.cell? ⟨b, j, none⟩ = some (.int .i64 l[j]) := by
  unfold Arr at h
  simp [World.cell?, h, icells, hj]
theorem Arr.free (h : Arr w b l) (j : Nat) : w.frozen? ⟨b, j, none⟩ = false := by
  unfold Arr at h
  simp [World.frozen?, h]
theorem Arr.set (h : Arr w b l) (x : Int) : Arr (w.setCell ⟨b, j, none⟩ (.int .i64 x)) b (l.set j x) := by
  unfold Arr at *
  rw [Ints.heap_set_at _ _ _ _ _ _ _ h]
  simp [icells, List.map_set]
end

/-- The cuts found so far, then zeros. -/
def fil (c : List Int) : List Int := c ++ List.replicate (16 - c.length) 0
theorem fil_length (c : List Int) (h : c.length ≤ 16) : (fil c).length = 16 := by simp [fil]; omega
theorem fil_nil : fil [] = List.replicate 16 0 := rfl
theorem fil_set (c : List Int) (x : Int) (h : c.length < 16) : (fil c).set c.length x = fil (c ++ [x]) := by
  unfold fil
  rw [List.set_append_right _ _ (Nat.le_refl _), Nat.sub_self, List.length_append, show 16 - c.length = (16 - (c.length + 1)) + 1 from by omega, List.replicate_succ, List.set_cons_zero, List.append_assoc]
  rfl
theorem fil_at (c : List Int) (j : Nat) (h : j < c.length) : (fil c)[j]? = some c[j] := by
  unfold fil
  rw [List.getElem?_append_left h, List.getElem?_eq_getElem h]

theorem step_is {s : ByteArray} (hs : stripB s.data.toList = true) (k : Nat) (hk : k < s.size) : StepIs s (k : Int) (cnt 102 (s.data.toList.take k) : Int) (cnt 100 (s.data.toList.take k) : Int) ⟨#[s.data.toList.getD k 0]⟩ := .inr ⟨k, hs, hk, rfl, rfl, rfl, rfl⟩

/-- Two steps are the same spot just where there is no cut. -/
theorem spot_cut {a b : List UInt8} (h : sameB a b = true) (k : Nat) (hk : k < a.length) :
    decide ((cnt 102 (a.take k) : Int) = (cnt 102 (b.take k) : Int) ∧ (cnt 100 (a.take k) : Int) = (cnt 100 (b.take k) : Int) ∧ (⟨#[a.getD k 0]⟩ : ByteArray) = ⟨#[b.getD k 0]⟩) = !(cutB a b k) := by
  obtain ⟨ha, hb, h3, h4, h5⟩ := same_facts h
  have e1 := dd_eq (stripB_ok ha) k (by omega)
  have e2 := dd_eq (stripB_ok hb) k (by omega)
  unfold cutB
  rw [Bool.not_not, Bool.eq_iff_iff]
  simp only [decide_eq_true_eq, Bool.and_eq_true]
  have hone : ((⟨#[a.getD k 0]⟩ : ByteArray) = ⟨#[b.getD k 0]⟩) ↔ a.getD k 0 = b.getD k 0 := by simp
  rw [hone]
  unfold ff at *
  constructor
  · rintro ⟨g1, g2, g3⟩; exact ⟨g3, by omega⟩
  · rintro ⟨g1, g2⟩; exact ⟨by omega, by omega, g1⟩

theorem size_int : (Try.prog.info? 3).map (·.size) = some 1 := by kernel_rfl
theorem made_ints (n : Nat) : (madeCells (Value.cells (.int .i64 0)) (n * 1)).toList = icells (List.replicate n 0) := by
  rw [Nat.mul_one]
  have h := toList_madeCells_one (.int .i64 0) n
  unfold icells
  rw [List.map_replicate]
  exact h
/-- A row whose room is used up is a block known whole. -/
theorem own_whole {w : World} {base g n : Nat} {xs : List Value} (h : w.ownsRow base 3 1 (.slice (some ⟨g, 0, none⟩) n n) n xs) : w.heap[g]? = some (.cells xs.toArray 3 (0, 0)) := by
  obtain ⟨hl, h1 | ⟨g', cap, cur, e, hg, hh, hnc, hcm, hcs, ht⟩⟩ := h
  · cases h1.1
  · cases e
    have : cur.toList = xs := by
      rw [← ht, List.take_of_length_le]
      rw [Array.length_toList, hcs]; exact Nat.le_refl _
    rw [hh, ← this]
theorem own_of_whole {w : World} {base g : Nat} {l : List Int} (hb : base ≤ g) (hm : l.length ≤ maxLen) (h : w.heap[g]? = some (.cells (icells l).toArray 3 (0, 0))) : Own w base (.slice (some ⟨g, 0, none⟩) l.length l.length) l :=
  ⟨by simp [icells], .inr ⟨g, l.length, _, rfl, hb, h, Nat.le_refl _, hm, by simp [icells], by rw [List.take_of_length_le (by simp [icells])]⟩⟩

set_option maxRecDepth 100000 in
set_option maxHeartbeats 4000000 in
theorem cuts_impl (s t : ByteArray) (w : World) (hm : s.size ≤ 1048576) (hm' : t.size ≤ 1048576) :
    Calls Try.prog 24 #[.string s, .string t] w (PostRow w (cutsL s.data.toList t.data.toList)) := by
  obtain ⟨i0, hi, hz0, hz1, hz2⟩ := info_parts info_int
  have hsl : s.data.toList.length = s.size := by simp
  have HSL := Lib.hid hsl; clear hsl
  have hsm := fun w => same_impl s t w hm hm'
  cases hst : sameB s.data.toList t.data.toList with
  | false =>
    rw [hst] at hsm
    have HSM := Lib.hid hsm; clear hsm
    rw [cuts_no hst]
    go_enter Try.func24, Try.ntmps24
    go_wp2_with fail
    refine (HSM.out _).mono ?_
    rintro e w1 ⟨rfl, hb⟩
    have HB := Lib.hid hb; clear hb
    go_wp2
    go_ret
    exact ⟨_, rfl, HB.out, Own.nil _ _⟩
  | true =>
    rw [hst] at hsm
    have HSM := Lib.hid hsm; clear hsm
    obtain ⟨hs1, hs2, _, _, hs5⟩ := same_facts hst
    have hsz := strip_size hs1
    rw [HSL.out] at hsz
    have htz : t.size = s.size := by
      have : t.data.toList.length = t.size := by simp
      rw [← this, ← hs5, HSL.out]
    rw [cuts_yes hst, HSL.out]
    have HS1 := Lib.hid hs1
    have HS2 := Lib.hid hs2
    have HTZ := Lib.hid htz
    have HST := Lib.hid hst
    clear hs1 hs2 hs5 hst htz
    go_enter Try.func24, Try.ntmps24
    go_wp2_with fail
    refine (HSM.out _).mono ?_
    rintro e w1 ⟨rfl, hb⟩
    have HB0 := Lib.hid hb; clear hb
    go_wp2_with fail
    have ha0 : Arr (w1.alloc (.cells #[.int .i64 0, .int .i64 0, .int .i64 0, .int .i64 0, .int .i64 0, .int .i64 0, .int .i64 0, .int .i64 0, .int .i64 0, .int .i64 0, .int .i64 0, .int .i64 0, .int .i64 0, .int .i64 0, .int .i64 0, .int .i64 0] 72)) w1.heap.size (fil []) := heap_alloc_new w1 _
    have HA0 := Lib.hid ha0
    have HBA := Lib.hid (HB0.out.alloc HB0.out.size (.cells #[.int .i64 0, .int .i64 0, .int .i64 0, .int .i64 0, .int .i64 0, .int .i64 0, .int .i64 0, .int .i64 0, .int .i64 0, .int .i64 0, .int .i64 0, .int .i64 0, .int .i64 0, .int .i64 0, .int .i64 0, .int .i64 0] 72))
    have hBw : w.heap.size ≤ w1.heap.size := HB0.out.size
    clear ha0
    generalize w1.alloc (.cells #[.int .i64 0, .int .i64 0, .int .i64 0, .int .i64 0, .int .i64 0, .int .i64 0, .int .i64 0, .int .i64 0, .int .i64 0, .int .i64 0, .int .i64 0, .int .i64 0, .int .i64 0, .int .i64 0, .int .i64 0, .int .i64 0] 72) = W0 at *
    obtain ⟨B, hB⟩ : ∃ B, w1.heap.size = B := ⟨_, rfl⟩
    rw [hB] at HA0 hBw ⊢
    clear hB HB0 HSM
    go_loopw [6, 15] (fun c i wr => ∃ k : Nat, k ≤ s.size ∧ i = .int .i64 (k : Int) ∧ c = .int .i64 ((cutN s.data.toList t.data.toList k).length : Int) ∧ Hid (Arr wr B (fil (cutN s.data.toList t.data.toList k))) ∧ Hid (Below w.heap.size w wr)) (fun _ i _ => s.size - (intOf i).toNat)
    case atStart => exact ⟨0, by omega, rfl, rfl, HA0, HBA⟩
    case round =>
      clear HA0 HBA
      obtain ⟨k, hk, rfl, rfl, HA, HB⟩ := hrel
      have hle := cutN_le s.data.toList t.data.toList k
      by_cases hlt : k < s.size
      · have hlt2 : k < t.size := by have := HTZ.out; omega
        have hk0 : (0 : Int) ≤ (k : Int) := Int.natCast_nonneg _
        have hk1 : (k : Int) < (s.size : Int) := by omega
        have HC1 := Lib.hid (fun w => step_impl s (k : Int) _ _ _ w hm (step_is HS1.out k hlt))
        have HC2 := Lib.hid (fun w => step_impl t (k : Int) _ _ _ w hm' (step_is HS2.out k hlt2))
        have hQ := fun w' : World => spot_equal (cnt 102 (s.data.toList.take k) : Int) (cnt 100 (s.data.toList.take k) : Int) (cnt 102 (t.data.toList.take k) : Int) (cnt 100 (t.data.toList.take k) : Int) ⟨#[s.data.toList.getD k 0]⟩ ⟨#[t.data.toList.getD k 0]⟩ w'
        rw [spot_cut HST.out k (by rw [HSL.out]; exact hlt)] at hQ
        have hlen : (cutN s.data.toList t.data.toList k).length < 16 := by omega
        have HN := Lib.hid (show (cutB s.data.toList t.data.toList k = true → cutN s.data.toList t.data.toList (k + 1) = cutN s.data.toList t.data.toList k ++ [(k : Int)]) ∧ (cutB s.data.toList t.data.toList k = false → cutN s.data.toList t.data.toList (k + 1) = cutN s.data.toList t.data.toList k) from ⟨cutN_yes, cutN_no⟩)
        generalize (cnt 102 (s.data.toList.take k) : Int) = x1 at *
        generalize (cnt 100 (s.data.toList.take k) : Int) = x2 at *
        generalize (cnt 102 (t.data.toList.take k) : Int) = y1 at *
        generalize (cnt 100 (t.data.toList.take k) : Int) = y2 at *
        generalize (⟨#[s.data.toList.getD k 0]⟩ : ByteArray) = x3 at *
        generalize (⟨#[t.data.toList.getD k 0]⟩ : ByteArray) = y3 at *
        have hc0 : (0 : Int) ≤ ((cutN s.data.toList t.data.toList k).length : Int) := Int.natCast_nonneg _
        have hc1 : ((cutN s.data.toList t.data.toList k).length : Int) < 16 := by omega
        cases hcut : cutB s.data.toList t.data.toList k with
        | false =>
          rw [hcut] at hQ
          have HN2 := Lib.hid (HN.out.2 hcut)
          clear HN hcut
          go_wp2_with fail
          refine (HC1.out _).mono ?_
          rintro e w2 ⟨rfl, hb2⟩
          have HA2 := Lib.hid (HA.out.below hb2)
          have HB2 := Lib.hid (HB.out.trans (hb2.mono HB.out.size))
          clear hb2
          go_wp2_with fail
          refine (HC2.out _).mono ?_
          rintro e w3 ⟨rfl, hb3⟩
          have HA3 := Lib.hid (HA2.out.below hb3)
          have HB3 := Lib.hid (HB2.out.trans (hb3.mono HB2.out.size))
          clear hb3
          go_wp2_with fail
          refine ⟨⟨k + 1, by omega, by go_num, by rw [HN2.out], ?_, HB3⟩, by simp [intOf]; omega⟩
          rw [HN2.out]; exact HA3
        | true =>
          rw [hcut] at hQ
          have HN2 := Lib.hid (HN.out.1 hcut)
          clear HN hcut
          go_wp2_with fail
          refine (HC1.out _).mono ?_
          rintro e w2 ⟨rfl, hb2⟩
          have HA2 := Lib.hid (HA.out.below hb2)
          have HB2 := Lib.hid (HB.out.trans (hb2.mono HB.out.size))
          clear hb2
          go_wp2_with fail
          refine (HC2.out _).mono ?_
          rintro e w3 ⟨rfl, hb3⟩
          have HA3 := Lib.hid (HA2.out.below hb3)
          have HB3 := Lib.hid (HB2.out.trans (hb3.mono HB2.out.size))
          clear hb3
          have hv := HA3.out.cell (j := (cutN s.data.toList t.data.toList k).length) (by rw [fil_length _ (by omega)]; exact hlen)
          have hf := HA3.out.free (cutN s.data.toList t.data.toList k).length
          have hs4 := HA3.out.set (j := (cutN s.data.toList t.data.toList k).length) (k : Int)
          rw [fil_set _ _ hlen, ← HN2.out] at hs4
          have HA4 := Lib.hid hs4
          have HB4 := Lib.hid (HB3.out.setCell (p := ⟨B, (cutN s.data.toList t.data.toList k).length, none⟩) hBw (.int .i64 (k : Int)))
          clear hs4
          generalize (fil (cutN s.data.toList t.data.toList k))[(cutN s.data.toList t.data.toList k).length]'_ = v0 at hv
          go_wp2_with fail
          refine ⟨⟨k + 1, by omega, by go_num, ?_, HA4, HB4⟩, by simp [intOf]; omega⟩
          rw [HN2.out, List.length_append]
          go_num
      · obtain rfl : k = s.size := by omega
        obtain ⟨m, hm0⟩ : ∃ m, (cutN s.data.toList t.data.toList s.size).length = m := ⟨_, rfl⟩
        rw [hm0] at hle ⊢
        obtain ⟨w5, hmk, hown5, hg5⟩ := run_make_full (P := Try.prog) wr w.heap.size 37 3 i0 _ 1 Try.underlying37 hi hz0 hz1 .i64 .i64 m (by rw [hz2]; omega) (by unfold maxLen; omega) HB.out.size
        rw [made_ints] at hown5
        have hb5 : Below w.heap.size w w5 := HB.out.grown hg5 HB.out.size (fun t e => by cases e)
        have HA5 := Lib.hid (HA.out.below ((Below.refl wr.heap.size wr).grown hg5 (Nat.le_refl _) (fun t e => by cases e)))
        have HG5 := Lib.hid (own_whole hown5)
        have HB5 := Lib.hid hb5
        have HM0 := Lib.hid hm0
        have hgs := HB.out.size
        have HBS := Lib.hid hgs
        clear hown5 hg5 hb5 hm0 hgs
        have hm1 : (m : Int) ≤ 16 := by omega
        have hm2 : (0 : Int) ≤ (m : Int) := by omega
        have hcl : (icells (cutN s.data.toList t.data.toList s.size)).length = m := by rw [icells_length]; exact HM0.out
        have hsrc : ∀ j v, (icells (cutN s.data.toList t.data.toList s.size))[j]? = some v → w5.cell? ((⟨B, 0, none⟩ : Addr).add j) = some v := by
          intro j v hv
          have hj : j < (cutN s.data.toList t.data.toList s.size).length := by
            have := (List.getElem?_eq_some_iff.1 hv).1
            rwa [icells_length] at this
          have hadd : (⟨B, 0, none⟩ : Addr).add j = ⟨B, j, none⟩ := by unfold Addr.add; split <;> simp_all
          rw [hadd]
          have hfl : j < (fil (cutN s.data.toList t.data.toList s.size)).length := by rw [fil_length _ (by rw [HM0.out]; omega)]; rw [HM0.out] at hj; omega
          have h1 := HA5.out.cell hfl
          have h2 := fil_at _ j hj
          rw [List.getElem?_eq_getElem hfl] at h2
          rw [Option.some.inj h2] at h1
          rw [icells_get _ j hj] at hv
          rw [h1]; exact hv
        have h1c : ∀ v ∈ icells (cutN s.data.toList t.data.toList s.size), v.oneCell' = true := by
          intro v hv
          unfold icells at hv
          obtain ⟨x, _, rfl⟩ := List.mem_map.1 hv
          rfl
        have HSRC := Lib.hid hsrc
        have HCL := Lib.hid hcl
        have H1C := Lib.hid h1c
        clear hsrc hcl h1c
        have hfin : ∀ w6 : World, w6.heap[wr.heap.size]? = some (.cells (splice (icells (List.replicate m 0)) 0 (icells (cutN s.data.toList t.data.toList s.size))).toArray 3 (0, 0)) → Own w6 w.heap.size (.slice (some ⟨wr.heap.size, 0, none⟩) m m) (cutN s.data.toList t.data.toList s.size) := by
          intro w6 h
          have e : splice (icells (List.replicate m 0)) 0 (icells (cutN s.data.toList t.data.toList s.size)) = icells (cutN s.data.toList t.data.toList s.size) := by
            unfold splice
            rw [HCL.out, List.take_zero, List.nil_append, List.drop_of_length_le (by rw [icells_length, List.length_replicate]; omega), List.append_nil]
          rw [e] at h
          have h2 := own_of_whole HBS.out (by rw [HM0.out]; unfold maxLen; omega) h
          rw [HM0.out] at h2
          exact h2
        have HFIN := Lib.hid hfin
        clear hfin
        generalize icells (cutN s.data.toList t.data.toList s.size) = cs at *
        generalize wr.heap.size = g at *
        go_wp2_with (with_reducible refine wpList_copy_splice rfl (.tmp 33) (.tmp 35) 37 37 rfl 3 Try.underlying37 size_int (some ⟨g, 0, none⟩) (some ⟨B, 0, none⟩) m m m 16 rfl rfl g 0 (icells (List.replicate m 0)) 3 HG5.out cs ?c1 ?c2 ?c3 H1C.out w.heap.size w HB5.out HBS.out ?_)
        case c1 => rw [HCL.out]; exact (Nat.min_self m).symm
        case c2 =>
          intro _ j v hv
          have h1 := HSRC.out j v hv
          have hadd : (⟨B, 0, none⟩ : Addr).add j = ⟨B, j, none⟩ := by unfold Addr.add; split <;> simp_all
          rwa [hadd] at h1
        case c3 => rw [HCL.out, icells_length, List.length_replicate]; omega
        intro w6 HG6 hb6
        have HB6 := Lib.hid hb6
        have HO6 := Lib.hid (HFIN.out _ HG6.out)
        clear hb6
        go_wp2
        go_ret
        exact ⟨_, rfl, HB6.out, HO6.out⟩
end Go.Proofs.Ytefeajnlogbilaa.Kerf

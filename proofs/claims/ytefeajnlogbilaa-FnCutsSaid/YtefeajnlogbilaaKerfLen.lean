/- What CutLength and FreeEdges return, of the model and of the program (printed by wip/gen_kerflen.py). -/
import Derived.Test.YtefeajnlogbilaaKerfCuts
import Derived.Test.YtefeajnlogbilaaCardImpl2
import Derived.Deep.RegionHeld3
namespace Go.Proofs.Ytefeajnlogbilaa.Kerf
open Go.ChangeShapes Go.WideShapes Go.ChangeAt Go.RowKit
open Go.Proofs.Ytefeajnlogbilaa.Strip Go.Proofs.Ytefeajnlogbilaa.Ints Go.Proofs.Ytefeajnlogbilaa.Corner Go.Proofs.Ytefeajnlogbilaa.Strs Go.Proofs.Ytefeajnlogbilaa.Card
set_option linter.unusedVariables false

/-- How many cuts there are between strip i and the next one. -/
def cutC (l : List ByteArray) (i : Nat) : Int := ((cutsL (l.getD i ⟨#[]⟩).data.toList (l.getD (i + 1) ⟨#[]⟩).data.toList).length : Int)
def cutT (l : List ByteArray) (k : Nat) : Int := sumN k (cutC l)
/-- What CutLength returns; what FreeEdges returns. -/
def clV (d f : Int) (l : List ByteArray) : Int := if cardB d f l = true then cutT l (l.length - 1) else -1
def feV (d f : Int) (l : List ByteArray) : Int := if cardB d f l = true then 2 * cutT l (l.length - 1) + 2 * (d + f) else -1
theorem cut_le16 (a b : List UInt8) : (cutsL a b).length ≤ 16 := by
  cases h : sameB a b with
  | false => rw [cuts_no h]; simp
  | true =>
    rw [cuts_yes h]
    have h1 := cutN_le a b a.length
    have h2 := strip_size (same_facts h).1
    omega
theorem cutT_bound (l : List ByteArray) (k : Nat) : 0 ≤ cutT l k ∧ cutT l k ≤ 16 * k := by
  induction k with
  | zero => exact ⟨Int.le_refl _, Int.le_refl _⟩
  | succ k ih =>
    have h1 : cutT l (k + 1) = cutT l k + cutC l k := rfl
    have h2 : 0 ≤ cutC l k ∧ cutC l k ≤ 16 := by
      unfold cutC
      have := cut_le16 (l.getD k ⟨#[]⟩).data.toList (l.getD (k + 1) ⟨#[]⟩).data.toList
      omega
    omega
theorem getD_str {l : List ByteArray} {k : Nat} (h : k < l.length) : l.getD k ⟨#[]⟩ = l[k] := by simp [List.getD, h]
theorem cutT_next {l : List ByteArray} {k : Nat} (h : k + 1 < l.length) : cutT l (k + 1) = cutT l k + ((cutsL l[k].data.toList l[k + 1].data.toList).length : Int) := by
  show sumN k _ + cutC l k = _
  unfold cutC
  rw [getD_str (by omega), getD_str h]; rfl

theorem kl_next {wr w' w'' : World} {B g j j1 : Nat} {v s t : Value} (h : w'.cell? ⟨B, 2, none⟩ = some v ∧ w'.cell? ⟨g, j, none⟩ = some s ∧ w'.cell? ⟨g, j1, none⟩ = some t ∧ Below wr.heap.size wr w') (hb : Below w'.heap.size w' w'') :
    w''.cell? ⟨B, 2, none⟩ = some v ∧ w''.cell? ⟨g, j, none⟩ = some s ∧ w''.cell? ⟨g, j1, none⟩ = some t ∧ Below wr.heap.size wr w'' :=
  ⟨(hb.cell (p := ⟨B, 2, none⟩) (World.block_lt_of_cell? _ _ h.1)).trans h.1, (hb.cell (p := ⟨g, j, none⟩) (World.block_lt_of_cell? _ _ h.2.1)).trans h.2.1, (hb.cell (p := ⟨g, j1, none⟩) (World.block_lt_of_cell? _ _ h.2.2.1)).trans h.2.2.1, h.2.2.2.trans (hb.mono h.2.2.2.size)⟩
theorem kl_drew {wr w' : World} {B g j j1 : Nat} {v s t : Value} (h : w'.cell? ⟨B, 2, none⟩ = some v ∧ w'.cell? ⟨g, j, none⟩ = some s ∧ w'.cell? ⟨g, j1, none⟩ = some t ∧ Below wr.heap.size wr w') :
    w'.drew.cell? ⟨B, 2, none⟩ = some v ∧ w'.drew.cell? ⟨g, j, none⟩ = some s ∧ w'.drew.cell? ⟨g, j1, none⟩ = some t ∧ Below wr.heap.size wr w'.drew := kl_next h (Ints.drewN_below w' 1)
theorem kl_below {wr w' : World} {B g j j1 : Nat} {v s t : Value} (h : w'.cell? ⟨B, 2, none⟩ = some v ∧ w'.cell? ⟨g, j, none⟩ = some s ∧ w'.cell? ⟨g, j1, none⟩ = some t ∧ Below wr.heap.size wr w') : Below wr.heap.size wr w' := h.2.2.2

set_option maxRecDepth 100000 in
set_option maxHeartbeats 4000000 in
theorem len_spec (d f : Int) (a : Option Addr) (m c : Nat) (l : List ByteArray) (w : World) (hl : l.length = m) (hm : m ≤ 1048576) (hz : ∀ s ∈ l, s.size ≤ 1048576) (hr : Row w a l) :
    Calls Try.prog 44 #[.agg #[.int .i64 d, .int .i64 f, .slice a m c]] w fun e w' => e = .returned (.int .i64 (clV d f l)) ∧ Below w.heap.size w w' := by
  have HBa := Lib.hid (alloc_below w (.cells #[.int .i64 d, .int .i64 f, .slice a m c] 26))
  have HVa := Lib.hid (Var.new w d f (.slice a m c))
  have HR0 := Lib.hid hr
  have HR := Lib.hid (hr.below HBa.out)
  have HOK := Lib.hid (fun (w' : World) (h : Row w' a l) => ok_spec d f a m c l w' hl hm hz h)
  have HL := Lib.hid hl
  have HZ := Lib.hid hz
  unfold clV
  cases hb : cardB d f l with
  | false =>
    rw [hb] at HOK
    clear hr hb hz hl
    go_enter Try.func44, Try.ntmps44
    go_wp2_with fail
    refine (HOK.out _ HR.out).mono ?_
    rintro e w1 ⟨rfl, hb1⟩
    have HBb := Lib.hid (HBa.out.trans (hb1.mono HBa.out.size))
    clear hb1
    go_wp2
    go_ret
    exact ⟨rfl, HBb.out⟩
  | true =>
    rw [hb] at HOK
    have hlen : m ≤ 10 := by have := (cardB_iff.1 hb).2.2.1; omega
    have hlen1 : 1 ≤ m := by have := (cardB_iff.1 hb).2.1; omega
    simp only [if_true]
    rw [hl]
    clear hr hb hz hl
    go_enter Try.func44, Try.ntmps44
    go_wp2_with fail
    refine (HOK.out _ HR.out).mono ?_
    rintro e w1 ⟨rfl, hb1⟩
    have HBb := Lib.hid (HBa.out.trans (hb1.mono HBa.out.size))
    have HVb := Lib.hid (HVa.out.below hb1)
    clear hb1 HR HOK HBa HVa
    go_wp2_with fail
    go_loopw [3, 4] (fun x i wr => ∃ j : Nat, j < m ∧ i = .int .i64 ((j + 1 : Nat) : Int) ∧ x = .int .i64 (cutT l j) ∧ Hid (Var wr w.heap.size d f (.slice a m c)) ∧ Hid (Below w.heap.size w wr)) (fun _ i _ => m - (intOf i).toNat)
    case atStart => exact ⟨0, by omega, rfl, rfl, HVb, HBb⟩
    case round =>
      clear HVb HBb
      obtain ⟨j, hj, rfl, rfl, HV, HB⟩ := hrel
      obtain ⟨k0, k1, k2⟩ := HV.out.cells
      obtain ⟨p0, p1⟩ := cutT_bound l j
      obtain ⟨j1, hj1⟩ : ∃ j1, j + 1 = j1 := ⟨_, rfl⟩
      rw [hj1]
      have hjx : (j1 : Int) - 1 = (j : Int) := by omega
      have hj10 : (0 : Int) ≤ (j1 : Int) := Int.natCast_nonneg _
      have hj0 : (0 : Int) ≤ (j : Int) := Int.natCast_nonneg _
      have HJ1 := Lib.hid hj1
      by_cases hlt : j1 < m
      · have hl1 : (j1 : Int) < (m : Int) := by omega
        have hl0 : (j : Int) < (m : Int) := by omega
        have hjl : j < l.length := by rw [HL.out]; omega
        have hjl1 : j1 < l.length := by rw [HL.out]; exact hlt
        obtain ⟨g, rfl, _, c0⟩ := Row.at HR0.out HB.out j hjl
        obtain ⟨g', e, _, c1⟩ := Row.at HR0.out HB.out j1 hjl1
        cases e
        have hz0 : l[j].size ≤ 1048576 := HZ.out _ (List.getElem_mem hjl)
        have hz1 : l[j1].size ≤ 1048576 := HZ.out _ (List.getElem_mem hjl1)
        have hx := fun w' : World => cuts_spec l[j] l[j1] w' hz0 hz1
        have hq := cut_le16 l[j].data.toList l[j1].data.toList
        have hnx : cutT l j1 = cutT l j + ((cutsL l[j].data.toList l[j1].data.toList).length : Int) := by
          have h := cutT_next (l := l) (k := j) (by omega)
          simp only [hj1] at h
          exact h
        have HNX := Lib.hid hnx
        have HX := Lib.hid hx
        clear hx hnx hz0 hz1 hj1
        generalize cutsL l[j].data.toList l[j1].data.toList = L at *
        generalize l[j] = s at *
        generalize l[j1] = t at *
        generalize cutT l j = N at *
        obtain ⟨q, hq0⟩ : ∃ q, L.length = q := ⟨_, rfl⟩
        rw [hq0] at hq HNX
        have HQ := Lib.hid hq0
        have hN : N ≤ 160 := by omega
        have hw1 : IntKind.i64.wrap ((j1 : Int) - 1) = (j : Int) := by rw [IntKind.wrap_i64]; omega
        have hw1' : IntKind.i64.wrap (j : Int) = (j : Int) := by rw [IntKind.wrap_i64]; omega
        have hw2 : IntKind.i64.wrap (N + (q : Int)) = N + (q : Int) := by rw [IntKind.wrap_i64]; omega
        clear hq0
        go_wp2_with fail
        have S0 : wr.cell? ⟨w.heap.size, 2, none⟩ = some (.slice (some ⟨g, 0, none⟩) m c) ∧ wr.cell? ⟨g, j, none⟩ = some (.string s) ∧ wr.cell? ⟨g, j1, none⟩ = some (.string t) ∧ Below wr.heap.size wr wr := ⟨k2, c0, c1, Below.refl _ _⟩
        go_region_held3 (fun w' => w'.cell? ⟨w.heap.size, 2, none⟩ = some (.slice (some ⟨g, 0, none⟩) m c) ∧ w'.cell? ⟨g, j, none⟩ = some (.string s) ∧ w'.cell? ⟨g, j1, none⟩ = some (.string t) ∧ Below wr.heap.size wr w')
          (first | exact S0 | exact kl_drew S0 | exact kl_next (by assumption) hb | exact kl_drew (by assumption) | assumption)
          ((go_at_call 32; refine (HX.out _).mono ?_; rintro e wz ⟨vz, rfl, hb, hoz⟩; obtain ⟨az, cz, rfl, _, _⟩ := Own.row hoz; rw [HQ.out]; clear hoz))
        have hbz : Below wr.heap.size wr wz := kl_below (w' := wz) (by assumption)
        have HV2 := Lib.hid (HV.out.below hbz)
        have HB2 := Lib.hid (HB.out.trans (hbz.mono HB.out.size))
        clear S0 k0 k1 k2 c0 c1 hw1 hw1' hw2 hjx
        go_wp2
        refine ⟨⟨j1, by omega, by go_num, by rw [HNX.out], HV2, HB2⟩, by simp [intOf]; omega⟩
      · have hd : decide ((j1 : Int) < (m : Int)) = false := by simp; omega
        have hmj : m - 1 = j := by omega
        have HMJ := Lib.hid hmj
        clear hjx hmj
        go_wp2
        go_ret
        exact ⟨by rw [HMJ.out]; rfl, HB.out⟩

set_option maxRecDepth 100000 in
set_option maxHeartbeats 4000000 in
theorem len_impl (d f : Int) (a : Option Addr) (m c : Nat) (l : List ByteArray) (w : World) (hl : l.length = m) (hm : m ≤ 1048576) (hz : ∀ s ∈ l, s.size ≤ 1048576) (hr : Row w a l) :
    Calls Try.prog 31 #[.agg #[.int .i64 d, .int .i64 f, .slice a m c]] w fun e w' => e = .returned (.int .i64 (clV d f l)) ∧ Below w.heap.size w w' := by
  have HBa := Lib.hid (alloc_below w (.cells #[.int .i64 d, .int .i64 f, .slice a m c] 26))
  have HVa := Lib.hid (Var.new w d f (.slice a m c))
  have HR0 := Lib.hid hr
  have HR := Lib.hid (hr.below HBa.out)
  have HOK := Lib.hid (fun (w' : World) (h : Row w' a l) => ok_impl d f a m c l w' hl hm hz h)
  have HL := Lib.hid hl
  have HZ := Lib.hid hz
  unfold clV
  cases hb : cardB d f l with
  | false =>
    rw [hb] at HOK
    clear hr hb hz hl
    go_enter Try.func31, Try.ntmps31
    go_wp2_with fail
    refine (HOK.out _ HR.out).mono ?_
    rintro e w1 ⟨rfl, hb1⟩
    have HBb := Lib.hid (HBa.out.trans (hb1.mono HBa.out.size))
    clear hb1
    go_wp2
    go_ret
    exact ⟨rfl, HBb.out⟩
  | true =>
    rw [hb] at HOK
    have hlen : m ≤ 10 := by have := (cardB_iff.1 hb).2.2.1; omega
    have hlen1 : 1 ≤ m := by have := (cardB_iff.1 hb).2.1; omega
    simp only [if_true]
    rw [hl]
    clear hr hb hz hl
    go_enter Try.func31, Try.ntmps31
    go_wp2_with fail
    refine (HOK.out _ HR.out).mono ?_
    rintro e w1 ⟨rfl, hb1⟩
    have HBb := Lib.hid (HBa.out.trans (hb1.mono HBa.out.size))
    have HVb := Lib.hid (HVa.out.below hb1)
    clear hb1 HR HOK HBa HVa
    go_wp2_with fail
    go_loopw [3, 4] (fun x i wr => ∃ j : Nat, j < m ∧ i = .int .i64 ((j + 1 : Nat) : Int) ∧ x = .int .i64 (cutT l j) ∧ Hid (Var wr w.heap.size d f (.slice a m c)) ∧ Hid (Below w.heap.size w wr)) (fun _ i _ => m - (intOf i).toNat)
    case atStart => exact ⟨0, by omega, rfl, rfl, HVb, HBb⟩
    case round =>
      clear HVb HBb
      obtain ⟨j, hj, rfl, rfl, HV, HB⟩ := hrel
      obtain ⟨k0, k1, k2⟩ := HV.out.cells
      obtain ⟨p0, p1⟩ := cutT_bound l j
      obtain ⟨j1, hj1⟩ : ∃ j1, j + 1 = j1 := ⟨_, rfl⟩
      rw [hj1]
      have hjx : (j1 : Int) - 1 = (j : Int) := by omega
      have hj10 : (0 : Int) ≤ (j1 : Int) := Int.natCast_nonneg _
      have hj0 : (0 : Int) ≤ (j : Int) := Int.natCast_nonneg _
      have HJ1 := Lib.hid hj1
      by_cases hlt : j1 < m
      · have hl1 : (j1 : Int) < (m : Int) := by omega
        have hl0 : (j : Int) < (m : Int) := by omega
        have hjl : j < l.length := by rw [HL.out]; omega
        have hjl1 : j1 < l.length := by rw [HL.out]; exact hlt
        obtain ⟨g, rfl, _, c0⟩ := Row.at HR0.out HB.out j hjl
        obtain ⟨g', e, _, c1⟩ := Row.at HR0.out HB.out j1 hjl1
        cases e
        have hz0 : l[j].size ≤ 1048576 := HZ.out _ (List.getElem_mem hjl)
        have hz1 : l[j1].size ≤ 1048576 := HZ.out _ (List.getElem_mem hjl1)
        have hx := fun w' : World => cuts_impl l[j] l[j1] w' hz0 hz1
        have hq := cut_le16 l[j].data.toList l[j1].data.toList
        have hnx : cutT l j1 = cutT l j + ((cutsL l[j].data.toList l[j1].data.toList).length : Int) := by
          have h := cutT_next (l := l) (k := j) (by omega)
          simp only [hj1] at h
          exact h
        have HNX := Lib.hid hnx
        have HX := Lib.hid hx
        clear hx hnx hz0 hz1 hj1
        generalize cutsL l[j].data.toList l[j1].data.toList = L at *
        generalize l[j] = s at *
        generalize l[j1] = t at *
        generalize cutT l j = N at *
        obtain ⟨q, hq0⟩ : ∃ q, L.length = q := ⟨_, rfl⟩
        rw [hq0] at hq HNX
        have HQ := Lib.hid hq0
        have hN : N ≤ 160 := by omega
        have hw1 : IntKind.i64.wrap ((j1 : Int) - 1) = (j : Int) := by rw [IntKind.wrap_i64]; omega
        have hw1' : IntKind.i64.wrap (j : Int) = (j : Int) := by rw [IntKind.wrap_i64]; omega
        have hw2 : IntKind.i64.wrap (N + (q : Int)) = N + (q : Int) := by rw [IntKind.wrap_i64]; omega
        clear hq0
        go_wp2_with fail
        have S0 : wr.cell? ⟨w.heap.size, 2, none⟩ = some (.slice (some ⟨g, 0, none⟩) m c) ∧ wr.cell? ⟨g, j, none⟩ = some (.string s) ∧ wr.cell? ⟨g, j1, none⟩ = some (.string t) ∧ Below wr.heap.size wr wr := ⟨k2, c0, c1, Below.refl _ _⟩
        go_region_held3 (fun w' => w'.cell? ⟨w.heap.size, 2, none⟩ = some (.slice (some ⟨g, 0, none⟩) m c) ∧ w'.cell? ⟨g, j, none⟩ = some (.string s) ∧ w'.cell? ⟨g, j1, none⟩ = some (.string t) ∧ Below wr.heap.size wr w')
          (first | exact S0 | exact kl_drew S0 | exact kl_next (by assumption) hb | exact kl_drew (by assumption) | assumption)
          ((go_at_call 24; refine (HX.out _).mono ?_; rintro e wz ⟨vz, rfl, hb, hoz⟩; obtain ⟨az, cz, rfl, _, _⟩ := Own.row hoz; rw [HQ.out]; clear hoz))
        have hbz : Below wr.heap.size wr wz := kl_below (w' := wz) (by assumption)
        have HV2 := Lib.hid (HV.out.below hbz)
        have HB2 := Lib.hid (HB.out.trans (hbz.mono HB.out.size))
        clear S0 k0 k1 k2 c0 c1 hw1 hw1' hw2 hjx
        go_wp2
        refine ⟨⟨j1, by omega, by go_num, by rw [HNX.out], HV2, HB2⟩, by simp [intOf]; omega⟩
      · have hd : decide ((j1 : Int) < (m : Int)) = false := by simp; omega
        have hmj : m - 1 = j := by omega
        have HMJ := Lib.hid hmj
        clear hjx hmj
        go_wp2
        go_ret
        exact ⟨by rw [HMJ.out]; rfl, HB.out⟩

theorem fe_next {w0 w' w'' : World} {B : Nat} {x y v : Value} (h : w'.cell? ⟨B, 0, none⟩ = some x ∧ w'.cell? ⟨B, 1, none⟩ = some y ∧ w'.cell? ⟨B, 2, none⟩ = some v ∧ Below w0.heap.size w0 w') (hb : Below w'.heap.size w' w'') :
    w''.cell? ⟨B, 0, none⟩ = some x ∧ w''.cell? ⟨B, 1, none⟩ = some y ∧ w''.cell? ⟨B, 2, none⟩ = some v ∧ Below w0.heap.size w0 w'' :=
  ⟨(hb.cell (p := ⟨B, 0, none⟩) (World.block_lt_of_cell? _ _ h.1)).trans h.1, (hb.cell (p := ⟨B, 1, none⟩) (World.block_lt_of_cell? _ _ h.2.1)).trans h.2.1, (hb.cell (p := ⟨B, 2, none⟩) (World.block_lt_of_cell? _ _ h.2.2.1)).trans h.2.2.1, h.2.2.2.trans (hb.mono h.2.2.2.size)⟩
theorem fe_drew {w0 w' : World} {B : Nat} {x y v : Value} (h : w'.cell? ⟨B, 0, none⟩ = some x ∧ w'.cell? ⟨B, 1, none⟩ = some y ∧ w'.cell? ⟨B, 2, none⟩ = some v ∧ Below w0.heap.size w0 w') :
    w'.drew.cell? ⟨B, 0, none⟩ = some x ∧ w'.drew.cell? ⟨B, 1, none⟩ = some y ∧ w'.drew.cell? ⟨B, 2, none⟩ = some v ∧ Below w0.heap.size w0 w'.drew := fe_next h (Ints.drewN_below w' 1)
theorem fe_below {w0 w' : World} {B : Nat} {x y v : Value} (h : w'.cell? ⟨B, 0, none⟩ = some x ∧ w'.cell? ⟨B, 1, none⟩ = some y ∧ w'.cell? ⟨B, 2, none⟩ = some v ∧ Below w0.heap.size w0 w') : Below w0.heap.size w0 w' := h.2.2.2
theorem frame_of {d f : Int} {l : List ByteArray} (h : cardB d f l = true) : 1 ≤ d ∧ d ≤ 8 ∧ 1 ≤ f ∧ f ≤ 8 := by
  have := (cardB_iff.1 h).1
  unfold frameB at this
  simp at this
  omega

set_option maxRecDepth 100000 in
set_option maxHeartbeats 4000000 in
theorem free_spec (d f : Int) (a : Option Addr) (m c : Nat) (l : List ByteArray) (w : World) (hl : l.length = m) (hm : m ≤ 1048576) (hz : ∀ s ∈ l, s.size ≤ 1048576) (hr : Row w a l) :
    Calls Try.prog 50 #[.agg #[.int .i64 d, .int .i64 f, .slice a m c]] w fun e w' => e = .returned (.int .i64 (feV d f l)) ∧ Below w.heap.size w w' := by
  have HBa := Lib.hid (alloc_below w (.cells #[.int .i64 d, .int .i64 f, .slice a m c] 26))
  have HVa := Lib.hid (Var.new w d f (.slice a m c))
  have HR := Lib.hid (hr.below HBa.out)
  have HLN := Lib.hid (fun (w' : World) (h : Row w' a l) => len_spec d f a m c l w' hl hm hz h)
  unfold feV
  unfold clV at HLN
  cases hb : cardB d f l with
  | false =>
    rw [hb] at HLN
    simp only [Bool.false_eq_true, if_false] at HLN ⊢
    clear hr hb hz hl
    go_enter Try.func50, Try.ntmps50
    go_wp2_with fail
    refine (HLN.out _ HR.out).mono ?_
    rintro e w1 ⟨rfl, hb1⟩
    have HBb := Lib.hid (HBa.out.trans (hb1.mono HBa.out.size))
    clear hb1
    go_wp2
    go_ret
    exact ⟨rfl, HBb.out⟩
  | true =>
    rw [hb] at HLN
    simp only [if_true] at HLN ⊢
    have hfr := frame_of hb
    have hlen : l.length ≤ 10 := (cardB_iff.1 hb).2.2.1
    obtain ⟨p0, p1⟩ := cutT_bound l (l.length - 1)
    generalize cutT l (l.length - 1) = N at *
    have hN : N ≤ 160 := by omega
    have hneg : decide (N < 0) = false := by simp; omega
    clear hr hb hz hl p1
    go_enter Try.func50, Try.ntmps50
    go_wp2_with fail
    refine (HLN.out _ HR.out).mono ?_
    rintro e w1 ⟨rfl, hb1⟩
    have HBb := Lib.hid (HBa.out.trans (hb1.mono HBa.out.size))
    obtain ⟨k0, k1, k2⟩ := (HVa.out.below hb1).cells
    clear hb1
    go_wp2
    go_ret
    exact ⟨rfl, HBb.out⟩

set_option maxRecDepth 100000 in
set_option maxHeartbeats 4000000 in
theorem free_impl (d f : Int) (a : Option Addr) (m c : Nat) (l : List ByteArray) (w : World) (hl : l.length = m) (hm : m ≤ 1048576) (hz : ∀ s ∈ l, s.size ≤ 1048576) (hr : Row w a l) :
    Calls Try.prog 33 #[.agg #[.int .i64 d, .int .i64 f, .slice a m c]] w fun e w' => e = .returned (.int .i64 (feV d f l)) ∧ Below w.heap.size w w' := by
  have HBa := Lib.hid (alloc_below w (.cells #[.int .i64 d, .int .i64 f, .slice a m c] 26))
  have HVa := Lib.hid (Var.new w d f (.slice a m c))
  have HR0 := Lib.hid hr
  have HR := Lib.hid (hr.below HBa.out)
  have HOK := Lib.hid (fun (w' : World) (h : Row w' a l) => ok_impl d f a m c l w' hl hm hz h)
  have HLN := Lib.hid (fun (w' : World) (h : Row w' a l) => len_impl d f a m c l w' hl hm hz h)
  unfold feV
  unfold clV at HLN
  cases hb : cardB d f l with
  | false =>
    rw [hb] at HOK
    clear hr hb hz hl
    go_enter Try.func33, Try.ntmps33
    go_wp2_with fail
    refine (HOK.out _ HR.out).mono ?_
    rintro e w1 ⟨rfl, hb1⟩
    have HBb := Lib.hid (HBa.out.trans (hb1.mono HBa.out.size))
    clear hb1
    go_wp2
    go_ret
    exact ⟨rfl, HBb.out⟩
  | true =>
    rw [hb] at HLN HOK
    simp only [if_true] at HLN ⊢
    have hfr := frame_of hb
    have hlen : l.length ≤ 10 := (cardB_iff.1 hb).2.2.1
    obtain ⟨p0, p1⟩ := cutT_bound l (l.length - 1)
    generalize cutT l (l.length - 1) = N at *
    have hN : N ≤ 160 := by omega
    have hw1 : IntKind.i64.wrap (2 * N) = 2 * N := by rw [IntKind.wrap_i64]; omega
    have hw2 : IntKind.i64.wrap (d + f) = d + f := by rw [IntKind.wrap_i64]; omega
    have hw3 : IntKind.i64.wrap (2 * (d + f)) = 2 * (d + f) := by rw [IntKind.wrap_i64]; omega
    have hw4 : IntKind.i64.wrap (2 * N + 2 * (d + f)) = 2 * N + 2 * (d + f) := by rw [IntKind.wrap_i64]; omega
    clear hr hb hz hl p1 hlen
    go_enter Try.func33, Try.ntmps33
    go_wp2_with fail
    refine (HOK.out _ HR.out).mono ?_
    rintro e w1 ⟨rfl, hb1⟩
    have HBb := Lib.hid (HBa.out.trans (hb1.mono HBa.out.size))
    obtain ⟨k0, k1, k2⟩ := (HVa.out.below hb1).cells
    clear hb1 HOK HR HBa HVa
    go_wp2_with fail
    have S0 : w1.cell? ⟨w.heap.size, 0, none⟩ = some (.int .i64 d) ∧ w1.cell? ⟨w.heap.size, 1, none⟩ = some (.int .i64 f) ∧ w1.cell? ⟨w.heap.size, 2, none⟩ = some (.slice a m c) ∧ Below w.heap.size w w1 := ⟨k0, k1, k2, HBb.out⟩
    go_region_held3 (fun w' => w'.cell? ⟨w.heap.size, 0, none⟩ = some (.int .i64 d) ∧ w'.cell? ⟨w.heap.size, 1, none⟩ = some (.int .i64 f) ∧ w'.cell? ⟨w.heap.size, 2, none⟩ = some (.slice a m c) ∧ Below w.heap.size w w')
      (first | exact S0 | exact fe_drew S0 | exact fe_next (by assumption) hb | exact fe_drew (by assumption) | assumption)
      ((go_at_call 31; refine (HLN.out _ (HR0.out.below (fe_below (by assumption)))).mono ?_; rintro e wz ⟨rfl, hb⟩))
    have hbz : Below w.heap.size w wz := fe_below (w' := wz) (by assumption)
    go_wp2
    go_ret
    exact ⟨rfl, hbz⟩
end Go.Proofs.Ytefeajnlogbilaa.Kerf

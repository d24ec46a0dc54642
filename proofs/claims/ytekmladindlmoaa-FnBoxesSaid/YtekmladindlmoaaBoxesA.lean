/- Texts of mine, laid into one (printed by wip/merge_tpl.py): Room, PlainImpl, PlainSpec, DrawCard, DrawCard2, DrawCard3, CardSame, CardSame2, At, At2, Big. -/
import Derived.Test.YtekmladindlmoaaOrderMath
import Derived.Test.YtekmladindlmoaaKerfSpec2
import Derived.Test.YtekmladindlmoaaCardOk
import Derived.Test.YtekmladindlmoaaCardEnd
import Derived.Test.YtekmladindlmoaaRept
import Derived.Test.YtekmladindlmoaaAppAny
import Derived.Test.YtekmladindlmoaaDrawStrip
import Derived.Test.YtekmladindlmoaaStripMany
import Derived.Test.YtekmladindlmoaaCardImpl2
import Derived.Test.YtekmladindlmoaaCardLaw
import Derived.Test.YtekmladindlmoaaKit
import Derived.Deep.DeepCutAuto
import Derived.Test.YtekmladindlmoaaDraw
import Derived.Test.YtekmladindlmoaaChecked
import Derived.WalkKit
import Derived.ProofKit
import Derived.WalkLawsBesides
import Derived.IntWalk
/- What the model of chapter 9 returns: RoomUnder, VolumeOf (for the property of chapter 8). -/
namespace Go.Proofs.Ytekmladindlmoaa.Order
open Go.ChangeShapes Go.WideShapes Go.ChangeAt Go.RowKit
open Go.Proofs.Ytekmladindlmoaa.Strip Go.Proofs.Ytekmladindlmoaa.Strs Go.Proofs.Ytekmladindlmoaa.Card Go.Proofs.Ytekmladindlmoaa.Kerf Go.Proofs.Ytekmladindlmoaa.Corner
set_option linter.unusedVariables false

theorem sumL_in (c : Int) (hc : 0 ≤ c) {l : List Int} (h : ∀ x ∈ l, -c ≤ x ∧ x ≤ c) : -(c * l.length) ≤ sumL l ∧ sumL l ≤ c * l.length := by
  induction l with
  | nil => simp [sumL]
  | cons x l ih =>
    have h1 := ih fun y hy => h y (List.mem_cons_of_mem _ hy)
    have h2 := h x (List.mem_cons_self ..)
    have e : c * ((x :: l).length : Int) = c * (l.length : Int) + c := by
      rw [List.length_cons, Int.natCast_add, Int.mul_add]
      simp
    rw [e]
    show _ ≤ x + sumL l ∧ x + sumL l ≤ _
    omega
theorem room_in {l : List UInt8} (h : stripB l = true) : -256 ≤ roomI l ∧ roomI l ≤ 256 := by
  unfold roomI
  rw [if_pos h]
  have h1 := sumL_in 16 (by omega) (strip_in h)
  rw [hts_length] at h1
  have h2 := cnt_le 102 l
  have h3 := strip_size h
  omega

set_option maxRecDepth 100000 in
set_option maxHeartbeats 2000000 in
theorem room_spec (s : ByteArray) (w : World) (hm : s.size ≤ 1048576) :
    Calls Try.prog 49 #[.string s] w fun e w' => e = .returned (.int .i64 (roomI s.data.toList)) ∧ Below w.heap.size w w' := by
  cases hs : stripB s.data.toList with
  | false =>
    have hz : roomI s.data.toList = -1 := by unfold roomI; rw [hs]; rfl
    rw [hz]
    go_enter Try.func49, Try.ntmps49
    go_wp2_with fail
    refine (is_spec s _ hm).mono ?_
    rintro e w' ⟨rfl, rfl⟩
    rw [hs]
    go_wp2
    go_ret
    exact ⟨rfl, Below.refl _ _⟩
  | true =>
    have hz : roomI s.data.toList = sumL (hts (cnt 100 s.data.toList) s.data.toList) := by unfold roomI; rw [hs]; rfl
    have hin := strip_in hs
    have hlen : (hts (cnt 100 s.data.toList) s.data.toList).length ≤ 16 := by
      rw [hts_length]
      have h1 := cnt_le 102 s.data.toList
      have h2 := strip_size hs
      omega
    have HH := Lib.hid (fun w => heights_spec s w hm)
    rw [hz]
    clear hz
    generalize hts (cnt 100 s.data.toList) s.data.toList = h at *
    obtain ⟨n, hn⟩ : ∃ n, h.length = n := ⟨_, rfl⟩
    have HN := Lib.hid hn
    have HIN := Lib.hid hin
    rw [hn] at hlen
    clear hn hin
    go_enter Try.func49, Try.ntmps49
    go_wp2_with fail
    refine (is_spec s _ hm).mono ?_
    rintro e w' ⟨rfl, rfl⟩
    rw [hs]
    go_wp2_with fail
    refine (HH.out _).mono ?_
    rintro e w1 ⟨v, rfl, hb, ho⟩
    have HB := Lib.hid hb
    have HO := Lib.hid ho
    clear hb ho hs
    obtain ⟨a, c, rfl, hr, _⟩ := HO.out.row
    have HR := Lib.hid hr
    clear hr
    rw [HN.out]
    go_wp2_with fail
    go_loop [3, 5] (fun x i => ∃ k : Nat, k ≤ n ∧ i = .int .i64 (k : Int) ∧ x = .int .i64 (sumL (h.take k))) (fun _ i => n - (intOf i).toNat)
    case atStart => exact ⟨0, Nat.zero_le _, rfl, rfl⟩
    case round =>
      obtain ⟨k, hk, rfl, rfl⟩ := hrel
      have hp := sumL_in 16 (by omega) (l := h.take k) (fun x hx => HIN.out x (List.mem_of_mem_take hx))
      have hkl : (h.take k).length ≤ k := List.length_take_le _ _
      have hp0 : -256 ≤ sumL (h.take k) := by omega
      have hp1 : sumL (h.take k) ≤ 256 := by omega
      clear hp hkl
      by_cases hlt : k < n
      · have ja : k < h.length := by rw [HN.out]; exact hlt
        obtain ⟨ga, rfl, _, hca⟩ := HR.out k ja
        have HST := Lib.hid (sumL_take h k ja)
        obtain ⟨x0, x1⟩ := HIN.out h[k] (List.getElem_mem ja)
        generalize h[k] = x at *
        generalize sumL (h.take k) = p at *
        have hk0 : (0 : Int) ≤ (k : Int) := Int.natCast_nonneg _
        have hk1 : (k : Int) < (n : Int) := by omega
        clear ja
        go_wp2
        refine ⟨⟨k + 1, by omega, by go_num, ?_⟩, by simp [intOf]; omega⟩
        rw [HST.out]
      · obtain rfl : k = n := by omega
        have hall : h.take k = h := List.take_of_length_le (by rw [HN.out]; exact Nat.le_refl _)
        rw [hall]
        rw [hall] at hp0 hp1
        go_wp2
        go_ret
        exact ⟨rfl, HB.out⟩

/-- The room under all strips of a card. -/
def roomsL (l : List ByteArray) : List Int := l.map fun s => roomI s.data.toList
def volI (d f : Int) (l : List ByteArray) : Int := if cardB d f l = true then sumL (roomsL l) else -1
theorem good_strip {d f : Int} {s : ByteArray} (hf : frameB d f = true) (h : goodB d f s = true) : stripB s.data.toList = true := by
  unfold goodB at h
  simp only [decide_eq_true_eq] at h
  unfold frameB at hf
  simp only [decide_eq_true_eq] at hf
  cases hs : stripB s.data.toList with
  | true => rfl
  | false =>
    have h1 := h.1
    unfold numV at h1
    rw [hs] at h1
    simp at h1
    omega

set_option maxRecDepth 100000 in
set_option maxHeartbeats 2000000 in
theorem vol_spec (d f : Int) (a : Option Addr) (n c : Nat) (l : List ByteArray) (w : World) (hl : l.length = n) (hn : n ≤ 1048576) (hz : ∀ s ∈ l, s.size ≤ 1048576) (hr : Row w a l) :
    Calls Try.prog 15 #[.agg #[.int .i64 d, .int .i64 f, .slice a n c]] w fun e w' => e = .returned (.int .i64 (volI d f l)) ∧ Below w.heap.size w w' := by
  have HOK := Lib.hid (fun (w' : World) (h : Row w' a l) => ok_spec d f a n c l w' hl hn hz h)
  have HL := Lib.hid hl
  have HR := Lib.hid hr
  have HZ := Lib.hid hz
  have HW := Lib.hid (alloc_below w (.cells #[.int .i64 d, .int .i64 f, .slice a n c] 26))
  have HV := Lib.hid (Var.new w d f (.slice a n c))
  clear hl hr hz
  cases hcb : cardB d f l with
  | false =>
    have hv : volI d f l = -1 := by unfold volI; rw [hcb]; rfl
    rw [hv]
    rw [hcb] at HOK
    go_enter Try.func15, Try.ntmps15
    go_wp2_with fail
    refine (HOK.out _ (HR.out.since (Nat.le_refl _) HW.out)).mono ?_
    rintro e w1 ⟨rfl, hb⟩
    have HB := Lib.hid (HW.out.trans (hb.mono HW.out.size))
    clear hb
    go_wp2
    go_ret
    exact ⟨rfl, HB.out⟩
  | true =>
    have hv : volI d f l = sumL (roomsL l) := by unfold volI; rw [hcb]; rfl
    rw [hv]
    rw [hcb] at HOK
    have h10 : n ≤ 10 := by have := (cardB_iff.1 hcb).2.2.1; rw [HL.out] at this; exact this
    have HIN := Lib.hid (show ∀ s ∈ l, -256 ≤ roomI s.data.toList ∧ roomI s.data.toList ≤ 256 from fun s hs => room_in (good_strip (cardB_iff.1 hcb).1 ((cardB_iff.1 hcb).2.2.2 s hs)))
    clear hv hcb
    go_enter Try.func15, Try.ntmps15
    go_wp2_with fail
    generalize (w.alloc (.cells #[.int .i64 d, .int .i64 f, .slice a n c] 26)) = W at *
    refine (HOK.out _ (HR.out.since (Nat.le_refl _) HW.out)).mono ?_
    rintro e w1 ⟨rfl, hb⟩
    have HB := Lib.hid (HW.out.trans (hb.mono HW.out.size))
    have HV := Lib.hid (HV.out.below hb)
    clear hb HOK HW
    go_wp2_with fail
    go_loopw [3, 4] (fun x i wr => ∃ k : Nat, k ≤ n ∧ i = .int .i64 (k : Int) ∧ x = .int .i64 (sumL ((roomsL l).take k)) ∧ Hid (Var wr w.heap.size d f (.slice a n c)) ∧ Hid (Below w.heap.size w wr)) (fun _ i _ => n - (intOf i).toNat)
    case atStart => exact ⟨0, Nat.zero_le _, rfl, rfl, HV, HB⟩
    case round =>
      obtain ⟨k, hk, rfl, rfl, HVR, HBR⟩ := hrel
      clear HV HB
      obtain ⟨k0, k1, k2⟩ := HVR.out.cells
      have hp := sumL_in 256 (by omega) (l := (roomsL l).take k) (fun x hx => by
        obtain ⟨s, hs, rfl⟩ := List.mem_map.1 (List.mem_of_mem_take hx)
        exact HIN.out s hs)
      have hkl : ((roomsL l).take k).length ≤ k := List.length_take_le _ _
      have hp0 : -2560 ≤ sumL ((roomsL l).take k) := by omega
      have hp1 : sumL ((roomsL l).take k) ≤ 2560 := by omega
      clear hp hkl
      by_cases hlt : k < n
      · have hk0 : (0 : Int) ≤ (k : Int) := Int.natCast_nonneg _
        have hk1 : (k : Int) < (n : Int) := by omega
        have hkl : k < l.length := by rw [HL.out]; exact hlt
        obtain ⟨g, rfl, hg, hc⟩ := Row.at HR.out HBR.out k hkl
        have HX := Lib.hid (fun w' : World => room_spec l[k] w' (HZ.out _ (List.getElem_mem hkl)))
        obtain ⟨y0, y1⟩ := HIN.out l[k] (List.getElem_mem hkl)
        have HST := Lib.hid (show sumL ((roomsL l).take (k + 1)) = sumL ((roomsL l).take k) + roomI l[k].data.toList from by
          rw [sumL_take _ k (by unfold roomsL; rw [List.length_map]; exact hkl)]
          unfold roomsL
          rw [List.getElem_map])
        generalize roomI l[k].data.toList = y at *
        generalize sumL ((roomsL l).take k) = p at *
        generalize l[k] = s at *
        go_wp2_with fail
        refine (HX.out _).mono ?_
        rintro e w3 ⟨rfl, hb3⟩
        have HB3 := Lib.hid (HBR.out.trans (hb3.mono HBR.out.size))
        have HV3 := Lib.hid (HVR.out.below hb3)
        clear hb3 k0 k1 k2
        go_wp2
        go_roundw
        case rel => exact ⟨k + 1, by omega, by go_num, by rw [HST.out], HV3, HB3⟩
        case measure => simp [intOf]; omega
      · obtain rfl : k = n := by omega
        have hall : (roomsL l).take k = roomsL l := List.take_of_length_le (by unfold roomsL; rw [List.length_map, HL.out]; exact Nat.le_refl _)
        rw [hall]
        rw [hall] at hp0 hp1
        go_wp2
        go_ret
        exact ⟨rfl, HBR.out⟩

/-- The combined card is a card, and the rooms of both pairs are equal. -/
theorem good_mix {up : Bool} {d f : Int} {s t : ByteArray} (hf : frameB d f = true) (hs : goodB d f s = true) (ht : goodB d f t = true) : sameB s.data.toList t.data.toList = true ∧ goodB d f (mixS up s t) = true := by
  have h1 := good_strip hf hs
  have h2 := good_strip hf ht
  unfold goodB numV at hs ht ⊢
  rw [h1] at hs
  rw [h2] at ht
  simp only [if_true, decide_eq_true_eq] at hs ht
  have hst := same_of h1 h2 (by omega) (by omega)
  refine ⟨hst, ?_⟩
  have hm := mix_same (up := up) hst
  obtain ⟨_, m2, m3, m4, _⟩ := same_facts hm
  rw [mixS_list, m2]
  simp only [if_true, decide_eq_true_eq]
  omega
theorem rooms_both : ∀ {d f : Int} {l m : List ByteArray}, frameB d f = true → l.length = m.length → (∀ s ∈ l, goodB d f s = true) → (∀ s ∈ m, goodB d f s = true) →
    (∀ up, ∀ s ∈ List.zipWith (mixS up) l m, goodB d f s = true) ∧ sumL (roomsL (List.zipWith (mixS true) l m)) + sumL (roomsL (List.zipWith (mixS false) l m)) = sumL (roomsL l) + sumL (roomsL m)
  | d, f, [], [], _, _, _, _ => ⟨fun _ s hs => by simp at hs, rfl⟩
  | d, f, [], _ :: _, _, h, _, _ => by simp at h
  | d, f, _ :: _, [], _, h, _, _ => by simp at h
  | d, f, s :: l, t :: m, hf, h, h1, h2 => by
    have ih := rooms_both (d := d) (f := f) (l := l) (m := m) hf (by simpa using h) (fun x hx => h1 x (List.mem_cons_of_mem _ hx)) (fun x hx => h2 x (List.mem_cons_of_mem _ hx))
    have hs := h1 s (List.mem_cons_self ..)
    have ht := h2 t (List.mem_cons_self ..)
    refine ⟨fun up x hx => ?_, ?_⟩
    · rw [List.zipWith_cons_cons] at hx
      rcases List.mem_cons.1 hx with rfl | hx
      · exact (good_mix hf hs ht).2
      · exact ih.1 up x hx
    · have hr := room_both (good_mix (up := true) hf hs ht).1
      have e := ih.2
      rw [List.zipWith_cons_cons, List.zipWith_cons_cons]
      show roomI (mixL true s.data.toList t.data.toList) + _ + (roomI (mixL false s.data.toList t.data.toList) + _) = roomI s.data.toList + sumL (roomsL l) + (roomI t.data.toList + sumL (roomsL m))
      unfold roomsL at e ⊢
      omega
end Go.Proofs.Ytekmladindlmoaa.Order

/- What impl.PlainCard returns. -/
namespace Go.Proofs.Ytekmladindlmoaa.Card
open Go.ChangeShapes Go.WideShapes Go.ChangeAt Go.RowKit
open Go.Proofs.Ytekmladindlmoaa.Strip Go.Proofs.Ytekmladindlmoaa.Strs
set_option linter.unusedVariables false

def flatS (d f : Int) : ByteArray := ⟨(flatL d f).toArray⟩
def plainB (d f n : Int) : Bool := decide (1 ≤ n ∧ n ≤ 10) && cardB d f (List.replicate n.toNat (flatS d f))
def plainD (d f n : Int) : Int := if plainB d f n = true then d else 0
def plainF (d f n : Int) : Int := if plainB d f n = true then f else 0
def plainL (d f n : Int) : List ByteArray := if plainB d f n = true then List.replicate n.toNat (flatS d f) else []

theorem flatS_size (d f : Int) : (flatS d f).size ≤ 16 := by
  unfold flatS flatL
  split
  · rename_i h
    obtain ⟨h1, h2, h3, h4⟩ := frameB_iff.1 h
    simp [ByteArray.size]
    omega
  · simp [ByteArray.size]

/-- The post, behind a name. -/
def PlainPost (w : World) (d f n : Int) (e : Ending) (w' : World) : Prop := Gave2 w (plainD d f n) (plainF d f n) (plainL d f n) (plainB d f n) e w'
theorem plain_no {w w' : World} {d f n : Int} (h : plainB d f n = false) (hb : Below w.heap.size w w') : PlainPost w d f n (.returned (.tuple #[.agg #[.int .i64 0, .int .i64 0, .slice none 0 0], .bool false])) w' := by
  unfold PlainPost plainD plainF plainL
  rw [if_neg (by rw [h]; simp), if_neg (by rw [h]; simp), if_neg (by rw [h]; simp), h]
  exact ⟨none, 0, rfl, hb, Own.nil _ _⟩
theorem plain_yes {w w' : World} {d f n : Int} {a : Option Addr} {c : Nat} {l : List ByteArray} (h : plainB d f n = true) (hl : l = List.replicate n.toNat (flatS d f)) (hb : Below w.heap.size w w') (ho : Own w' w.heap.size (.slice a l.length c) l) :
    PlainPost w d f n (.returned (.tuple #[.agg #[.int .i64 d, .int .i64 f, .slice a l.length c], .bool true])) w' := by
  unfold PlainPost plainD plainF plainL
  rw [if_pos h, if_pos h, if_pos h, h]
  subst hl
  exact ⟨a, c, rfl, hb, ho⟩

theorem begin1 (w : World) : ∃ W, W = w.alloc (.cells #[.int .i64 0, .int .i64 0, .slice none 0 0] 26) ∧ Var W w.heap.size 0 0 (.slice none 0 0) ∧ Below w.heap.size w W ∧ W.heap.size = w.heap.size + 1 :=
  ⟨_, rfl, Var.new w 0 0 (.slice none 0 0), alloc_below _ _, by simp⟩

end Go.Proofs.Ytekmladindlmoaa.Card

/- What spec.PlainCard returns. -/
namespace Go.Proofs.Ytekmladindlmoaa.Card
open Go.ChangeShapes Go.WideShapes Go.ChangeAt Go.RowKit
open Go.Proofs.Ytekmladindlmoaa.Strip Go.Proofs.Ytekmladindlmoaa.Strs
set_option linter.unusedVariables false

theorem plain_count {d f n : Int} {s : ByteArray} {k : Nat} (hs : flatS d f = s) (h1 : (k : Int) ≤ 11) (h2 : k = 0 ∨ (k : Int) ≤ n) (hend : ¬ ((k : Int) < n ∧ (k : Int) ≤ 10)) : plainB d f n = cardB d f (List.replicate k s) := by
  unfold plainB
  subst hs
  by_cases hn : 1 ≤ n ∧ n ≤ 10
  · have e : n.toNat = k := by omega
    rw [decide_eq_true hn, e]; simp
  · have e1 : cardB d f (List.replicate k (flatS d f)) = false := cardB_len (by rw [List.length_replicate]; omega)
    rw [decide_eq_false hn, e1]; rfl
theorem plain_same {d f n : Int} {s : ByteArray} {k : Nat} (hs : flatS d f = s) (h1 : (k : Int) ≤ 11) (h2 : k = 0 ∨ (k : Int) ≤ n) (hend : ¬ ((k : Int) < n ∧ (k : Int) ≤ 10)) (hb : plainB d f n = true) : List.replicate k s = List.replicate n.toNat (flatS d f) := by
  unfold plainB at hb
  simp only [Bool.and_eq_true, decide_eq_true_eq] at hb
  subst hs
  have e : n.toNat = k := by omega
  rw [e]

set_option maxRecDepth 100000 in
set_option maxHeartbeats 2000000 in
theorem plain_spec (d f n : Int) (w : World) : Calls Try.prog 13 #[.int .i64 d, .int .i64 f, .int .i64 n] w (PlainPost w d f n) := by
  obtain ⟨i0, hi, hz0, hz1, hz2⟩ := info_parts info_str16
  have HFL := Lib.hid (show ∀ w' : World, Calls Try.prog 46 #[.int .i64 d, .int .i64 f] w' fun e w'' => e = .returned (.string (flatS d f)) ∧ Below w'.heap.size w' w'' from fun w' => flat_spec d f w')
  have HSZ := Lib.hid (flatS_size d f)
  generalize hfs : flatS d f = s at HFL HSZ
  have HFS := Lib.hid hfs; clear hfs
  go_enter Try.func13, Try.ntmps13
  go_wp2_with fail
  have hv0 := (Var.new w 0 0 (.slice none 0 0)).below (alloc_below _ (.cells #[.int .i64 d, .int .i64 f, .slice none 0 0] 26))
  have hv1 := Var.new (w.alloc (.cells #[.int .i64 0, .int .i64 0, .slice none 0 0] 26)) d f (.slice none 0 0)
  rw [show (w.alloc (.cells #[.int .i64 0, .int .i64 0, .slice none 0 0] 26)).heap.size = w.heap.size + 1 by simp] at hv1
  have hb := ((Below.refl w.heap.size w).alloc (Nat.le_refl _) (.cells #[.int .i64 0, .int .i64 0, .slice none 0 0] 26)).alloc (by simp) (.cells #[.int .i64 d, .int .i64 f, .slice none 0 0] 26)
  have HV0 := Lib.hid hv0
  have HV1 := Lib.hid hv1
  have HB := Lib.hid hb
  clear hv0 hv1 hb
  generalize ((w.alloc (.cells #[.int .i64 0, .int .i64 0, .slice none 0 0] 26)).alloc (.cells #[.int .i64 d, .int .i64 f, .slice none 0 0] 26)) = W at *
  go_loopw [9] (fun i wr => ∃ (k : Nat) (a : Option Addr) (c : Nat), (k : Int) ≤ 11 ∧ i = .int .i64 (k : Int) ∧ Hid (k = 0 ∨ (k : Int) ≤ n) ∧ Hid (Var wr w.heap.size 0 0 (.slice none 0 0)) ∧ Hid (Var wr (w.heap.size + 1) d f (.slice a k c)) ∧ Hid (Own wr w.heap.size (.slice a k c) (List.replicate k s)) ∧ Hid (Below w.heap.size w wr)) (fun i _ => 11 - (intOf i).toNat)
  case atStart => exact ⟨0, none, 0, by omega, rfl, .inl rfl, HV0, HV1, Own.nil _ _, HB⟩
  case round =>
    obtain ⟨k, a, c, hk11, rfl, HK, V0, V1, HO, HBR⟩ := hrel
    have hk0 : (0 : Int) ≤ (k : Int) := Int.natCast_nonneg _
    by_cases hgo : (k : Int) < n ∧ (k : Int) ≤ 10
    · obtain ⟨h1, h2⟩ := hgo
      have hd1 : decide ((k : Int) < n) = true := decide_eq_true h1
      have hd2 : decide ((k : Int) ≤ 10) = true := decide_eq_true h2
      have HK2 := Lib.hid (show k + 1 = 0 ∨ ((k + 1 : Nat) : Int) ≤ n from .inr (by omega))
      obtain ⟨k0, k1, k2⟩ := V1.out.cells
      have HPUSH := Lib.hid (show ∀ w5 : World, Var w5 w.heap.size 0 0 (.slice none 0 0) → Var w5 (w.heap.size + 1) d f (.slice a k c) → Own w5 w.heap.size (.slice a k c) (List.replicate k s) → Below w.heap.size w w5 → ∃ gg cap w6, (∀ ty, (Builtin.append_ #[24, 24] ty #[.slice a k c, .slice (some ⟨w5.heap.size, 0, none⟩) 1 1]).run Try.prog (w5.alloc (.cells #[.string s] 9)) = .ok (.slice (some ⟨gg, 0, none⟩) (k + 1) cap) w6) ∧ Var w6 w.heap.size 0 0 (.slice none 0 0) ∧ Var w6 (w.heap.size + 1) d f (.slice a k c) ∧ Below w.heap.size w w6 ∧ Own w6 w.heap.size (.slice (some ⟨gg, 0, none⟩) (k + 1) cap) (List.replicate (k + 1) s) from fun w5 v50 v51 o5 b5 => by
        have hx := alloc_below w5 (.cells #[.string s] 9)
        have hbx := b5.alloc b5.size (.cells #[.string s] 9)
        have ox := o5.below hx
        obtain ⟨gg, cap, w6, hr6, ho6, hg6⟩ := push_own (w := w5.alloc (.cells #[.string s] 9)) (b := w5.heap.size) (s := s) ox (heap_alloc_new w5 (.cells #[.string s] 9)) (by omega) hbx.size
        refine ⟨gg, cap, w6, hr6, (v50.below hx).written ox hg6, (v51.below hx).written ox hg6, ox.write_below hbx (Nat.le_refl _) hbx.size hg6, ?_⟩
        rw [List.replicate_succ']
        exact ho6)
      go_wp2_with fail
      go_region_law ((first | (go_simp; go_at_call 46; refine (HFL.out _).mono ?_; rintro e w5 ⟨rfl, hb5'⟩; have hb5 := undrew hb5'; have V50 := Lib.hid (V0.out.below hb5); have V51 := Lib.hid (V1.out.below hb5); have O5 := Lib.hid (HO.out.below hb5); have B5 := Lib.hid (HBR.out.trans (hb5.mono HBR.out.size)); obtain ⟨q0, q1, q2⟩ := V51.out.cells; obtain ⟨qa0, qa1, qa2⟩ := ((V51.out.below (alloc_below w5 (.cells #[.string s] 9))).cells); clear hb5 hb5') | (obtain ⟨gg, cap, w6, hr6, v60, v61, b6, o6⟩ := HPUSH.out w5 V50.out V51.out O5.out B5.out; refine step_append_run rfl (.tmp 23) (.tmp 27) _ _ rfl _ _ (by rfl) (by rfl) hr6 ?_; have V60 := Lib.hid v60; have V61 := Lib.hid v61; have B6 := Lib.hid b6; have O6 := Lib.hid o6; obtain ⟨r0, r1, r2⟩ := v61.cells; have fr := v61.free 2; clear hr6 v60 v61 b6 o6)))
      all_goals
        go_wp2
        go_roundw
        case rel => exact ⟨k + 1, some ⟨gg, 0, none⟩, cap, by omega, by go_num, HK2, Lib.hid (V60.out.other (by omega)), Lib.hid (V61.out.set1 _), Lib.hid (Own.aside O6.out V61.out), Lib.hid (B6.out.setCell (by show w.heap.size ≤ w.heap.size + 1; omega) _)⟩
        case measure => simp [intOf]; omega
    · have HPB := Lib.hid (plain_count HFS.out hk11 HK.out hgo)
      have HSM := Lib.hid (fun hb => plain_same HFS.out hk11 HK.out hgo hb)
      have hg2 : ¬ (k : Int) < n ∨ (k : Int) < n ∧ ¬ (k : Int) ≤ 10 := by omega
      have hlen : (List.replicate k s).length = k := List.length_replicate ..
      have hgood : ∀ t ∈ List.replicate k s, t.size ≤ 1048576 := fun t ht => by rw [List.eq_of_mem_replicate ht]; have := HSZ.out; omega
      have HLEN := Lib.hid hlen
      have HGOOD := Lib.hid hgood
      clear hlen hgood hgo
      obtain ⟨k0, k1, k2⟩ := V1.out.cells
      generalize List.replicate k s = l at *
      by_cases hlt : (k : Int) < n
      all_goals
        first | (have hd1 : decide ((k : Int) < n) = true := by simpa using hlt) | (have hd1 : decide ((k : Int) < n) = false := by simpa using hlt)
        first | (have hd3 : ¬ (k : Int) < n := hlt) | (have hd3 : ¬ (k : Int) ≤ 10 := by omega)
        clear hg2 hlt
        go_wp2_with fail
        refine (ok_spec d f a k c l _ HLEN.out (by omega) HGOOD.out HO.out.row2.2).mono ?_
        rintro e w5 ⟨rfl, hb5⟩
        have HV := Lib.hid (V0.out.below hb5)
        have HVC := Lib.hid (V1.out.below hb5)
        have HO5 := Lib.hid (HO.out.below hb5)
        have HB5 := Lib.hid (HBR.out.trans (hb5.mono HBR.out.size))
        rw [← HLEN.out] at HO5 HVC
        clear hb5
        cases hc : cardB d f l with
        | true =>
          have HC := Lib.hid (HPB.out.trans hc)
          clear hc
          obtain ⟨g0, g1, g2⟩ := HVC.out.cells
          have hx : ∃ Z, Z = Card.set3 w5 w.heap.size d f (.slice a l.length c) ∧ Var Z w.heap.size d f (.slice a l.length c) ∧ Below w.heap.size w Z ∧ Own Z w.heap.size (.slice a l.length c) l := ⟨_, rfl, HV.out.set3 _ _ _, below_set3 HB5.out (Nat.le_refl _), (Own.aside3 HO5.out HV.out).mono (Nat.le_refl _)⟩
          obtain ⟨Z, hZ, hz1, hz2, hz3⟩ := hx
          unfold set3 at hZ
          obtain ⟨p0, p1, p2⟩ := HV.out.cells
          have f0 := HV.out.free 0
          have f1 := HV.out.free 1
          have f2 := HV.out.free 2
          have HZZ := Lib.hid hZ
          have HZ1 := Lib.hid hz1
          have HZ2 := Lib.hid hz2
          have HZ3 := Lib.hid hz3
          clear hZ hz1 hz2 hz3
          go_wp2_with fail
          clear g0 g1 g2
          rw [← HZZ.out]
          clear HZZ p0 p1 p2 f0 f1 f2
          obtain ⟨z0, z1, z2⟩ := HZ1.out.cells
          refine bodyPost_ret (v := .tuple #[.agg #[.int .i64 d, .int .i64 f, .slice a l.length c], .bool true]) (by simp [results, Try.results13, go_sem, z0, z1, z2]) rfl ?_
          exact plain_yes HC.out (HSM.out HC.out) HZ2.out HZ3.out
        | false =>
          have HC := Lib.hid (HPB.out.trans hc)
          clear hc
          have hx : ∃ Z, Z = Card.set3 w5 w.heap.size 0 0 (.slice none 0 0) ∧ Var Z w.heap.size 0 0 (.slice none 0 0) ∧ Below w.heap.size w Z := ⟨_, rfl, HV.out.set3 _ _ _, below_set3 HB5.out (Nat.le_refl _)⟩
          obtain ⟨Z, hZ, hz1, hz2⟩ := hx
          unfold set3 at hZ
          obtain ⟨p0, p1, p2⟩ := HV.out.cells
          have f0 := HV.out.free 0
          have f1 := HV.out.free 1
          have f2 := HV.out.free 2
          have HZZ := Lib.hid hZ
          have HZ1 := Lib.hid hz1
          have HZ2 := Lib.hid hz2
          clear hZ hz1 hz2
          go_wp2_with fail
          rw [← HZZ.out]
          clear HZZ p0 p1 p2 f0 f1 f2
          obtain ⟨z0, z1, z2⟩ := HZ1.out.cells
          refine bodyPost_ret (v := .tuple #[.agg #[.int .i64 0, .int .i64 0, .slice none 0 0], .bool false]) (by simp [results, Try.results13, go_sem, z0, z1, z2]) rfl ?_
          exact plain_no HC.out HZ2.out
end Go.Proofs.Ytekmladindlmoaa.Card

/- What spec.l05Card and DrawCard return: a valid card of memory of its own. -/
namespace Go.Proofs.Ytekmladindlmoaa.Card
open Go.ChangeShapes Go.WideShapes Go.ChangeAt Go.RowKit
open Go.Proofs.Ytekmladindlmoaa.Strip Go.Proofs.Ytekmladindlmoaa.Strs Go.Proofs.Ytekmladindlmoaa.Draw
set_option linter.unusedVariables false

theorem good_of {l : List UInt8} {d f : Int} (h : okL l = true) (hd : (cnt 100 l : Int) = d) (hf : (cnt 102 l : Int) = f) (h1 : frameB d f = true) : goodB d f ⟨l.toArray⟩ = true := by
  subst hd; subst hf
  have hs : stripB l = true := by unfold stripB; rw [h, h1]; rfl
  unfold goodB numV
  simp [hs]

theorem cnt_rep (x y : UInt8) (n : Nat) : cnt x (List.replicate n y) = if x = y then n else 0 := by
  unfold cnt
  rw [List.count_replicate]
  by_cases e : x = y
  · subst e; simp
  · rw [if_neg e, if_neg (by simpa using fun e' => e e'.symm)]

theorem okL_rep (y : UInt8) (hy : y = 100 ∨ y = 102) (n : Nat) : okL (List.replicate n y) = true := by
  induction n with
  | zero => rfl
  | succ n ih =>
    rw [List.replicate_succ', okL_snoc, ih]
    rcases hy with rfl | rfl <;> rfl

theorem okL_append (a b : List UInt8) : okL (a ++ b) = (okL a && okL b) := by unfold okL; simp
theorem cnt_append (x : UInt8) (a b : List UInt8) : cnt x (a ++ b) = cnt x a + cnt x b := by unfold cnt; simp

theorem frame_pos {d f : Int} (h : frameB d f = true) : 1 ≤ d ∧ d ≤ 8 ∧ 1 ≤ f ∧ f ≤ 8 := by
  unfold frameB at h
  simp at h
  omega
theorem frame_mk {d f : Int} (h1 : 1 ≤ d) (h2 : d ≤ 8) (h3 : 1 ≤ f) (h4 : f ≤ 8) : frameB d f = true := by
  unfold frameB
  simp
  omega

theorem flat_good {d f : Int} (h : frameB d f = true) : goodB d f ⟨(flatL d f).toArray⟩ = true := by
  have hp := frame_pos h
  unfold flatL
  rw [if_pos h]
  refine good_of ?_ ?_ ?_ h
  · rw [okL_append, okL_rep 100 (.inl rfl), okL_rep 102 (.inr rfl)]; rfl
  · simp [cnt_append, cnt_rep]; omega
  · simp [cnt_append, cnt_rep]; omega
theorem high_good {d f : Int} (h : frameB d f = true) : goodB d f ⟨(highL d f).toArray⟩ = true := by
  have hp := frame_pos h
  unfold highL
  rw [if_pos h]
  refine good_of ?_ ?_ ?_ h
  · rw [okL_append, okL_rep 100 (.inl rfl), okL_rep 102 (.inr rfl)]; rfl
  · simp [cnt_append, cnt_rep]; omega
  · simp [cnt_append, cnt_rep]; omega

/-- Where the draw of a card stands. -/
def St (w : World) (k g0 g1 : Nat) (d f : Int) (a : Option Addr) (n c : Nat) (l : List ByteArray) (ca : Option Addr) (cl cc : Nat) (wr : World) : Prop :=
  (k < w.heap.size ∧ w.heap.size ≤ g0 ∧ w.heap.size ≤ g1 ∧ g0 ≠ g1) ∧ w.grownBy wr (some k) ∧ Cur wr k ca cl cc ∧ Var wr g0 0 0 (.slice none 0 0) ∧ Var wr g1 d f (.slice a n c) ∧ Own wr w.heap.size (.slice a n c) l

section
variable {w wr w' : World} {k g0 g1 : Nat} {d f : Int} {a : Option Addr} {n c : Nat} {l : List ByteArray} {ca : Option Addr} {cl cc : Nat}

/-- Something was drawn. -/
theorem St.draw (h : St w k g0 g1 d f a n c l ca cl cc wr) (hc : Cur w' k ca cl cc) (g : wr.grownBy w' (some k)) : St w k g0 g1 d f a n c l ca cl cc w' := by
  obtain ⟨⟨hk, h0, h1, h2⟩, hg, _, v0, v1, ho⟩ := h
  refine ⟨⟨hk, h0, h1, h2⟩, grownBy_trans hg g, hc, v0.grown g (by simp; omega), v1.grown g (by simp; omega), World.ownsRow.kept ho g (.inr fun e => ?_)⟩
  have := (ho.lt k e).1
  omega

/-- Nothing that stood was written. -/
theorem St.still (h : St w k g0 g1 d f a n c l ca cl cc wr) (hb : Below wr.heap.size wr w') : St w k g0 g1 d f a n c l ca cl cc w' := by
  obtain ⟨h0, hg, hc, v0, v1, ho⟩ := h
  exact ⟨h0, grownBy_trans hg (grown_below hb _), hc.kept (grown_below hb none) (by simp) (by simp), v0.below hb, v1.below hb, ho.below hb⟩

theorem St.lt (h : St w k g0 g1 d f a n c l ca cl cc wr) : w.heap.size ≤ wr.heap.size := h.2.1.size

/-- One strip more, in a row of the call's own. -/
theorem St.push (h : St w k g0 g1 d f a n c l ca cl cc wr) (s : ByteArray) (hn : n ≤ 100) :
    ∃ gg cap w6, (∀ ty, (Builtin.append_ #[24, 24] ty #[.slice a n c, .slice (some ⟨wr.heap.size, 0, none⟩) 1 1]).run Try.prog (wr.alloc (.cells #[.string s] 9)) = .ok (.slice (some ⟨gg, 0, none⟩) (n + 1) cap) w6) ∧
      Var w6 g1 d f (.slice a n c) ∧ St w k g0 g1 d f (some ⟨gg, 0, none⟩) (n + 1) cap (l ++ [s]) ca cl cc (w6.setCell ⟨g1, 2, none⟩ (.slice (some ⟨gg, 0, none⟩) (n + 1) cap)) := by
  obtain ⟨⟨hk, h0, h1, h2⟩, hg, hc, v0, v1, ho⟩ := h
  have hx := alloc_below wr (.cells #[.string s] 9)
  have ox := ho.below hx
  obtain ⟨gg, cap, w6, hr6, ho6, hg6⟩ := push_own (w := wr.alloc (.cells #[.string s] 9)) (b := wr.heap.size) (s := s) ox (heap_alloc_new wr _) (by omega) (Nat.le_trans hg.size hx.size)
  have v1' := (v1.below hx).written ox hg6
  have v0' := (v0.below hx).written ox hg6
  have hgk : ∀ row, (∀ b, row = some b → w.heap.size ≤ b) → ∀ {u u' : World}, w.grownBy u (some k) → u.grownBy u' row → w.grownBy u' (some k) := by
    intro row hrow u u' q q'
    refine ⟨q'.os.trans q.os, q'.tape.trans q.tape, q'.output.trans q.output, Nat.le_trans q.size q'.size, fun i hi hne => ?_⟩
    refine (q'.block i (Nat.lt_of_lt_of_le hi q.size) (fun e => ?_)).trans (q.block i hi hne)
    have := hrow i e.symm
    omega
  have e1 := hgk none (by simp) hg (grown_below hx none)
  have e2 := hgk _ (fun b e => (ox.lt b e).1) e1 hg6
  have e3 := hgk (some g1) (by simp; omega) e2 (grown_set w6 g1 2 (.slice (some ⟨gg, 0, none⟩) (n + 1) cap))
  have c1 := hc.kept (grown_below hx none) (by simp) (by simp)
  have c2 := c1.kept hg6 (fun e => by have := (ox.lt k e.symm).1; omega) (fun b hb e => by have := (ox.lt b e.symm).1; omega)
  have c3 := c2.kept (grown_set w6 g1 2 (.slice (some ⟨gg, 0, none⟩) (n + 1) cap)) (by simp; omega) (fun b hb => by simp; omega)
  exact ⟨gg, cap, w6, hr6, v1', ⟨hk, h0, h1, h2⟩, e3, c3, v0'.other h2, v1'.set1 _, Own.aside ho6 v1'⟩

/-- The result's variable is written, and the card is handed over. -/
theorem St.end (h : St w k g0 g1 d f a n c l ca cl cc wr) : ∃ Z, Z = Card.set3 wr g0 d f (.slice a n c) ∧ Var Z g0 d f (.slice a n c) ∧ Cur Z k ca cl cc ∧ w.grownBy Z (some k) ∧ Own Z w.heap.size (.slice a n c) l := by
  obtain ⟨⟨hk, h0, h1, h2⟩, hg, hc, v0, v1, ho⟩ := h
  have step : ∀ {u : World} (j : Nat) (x : Value), Cur u k ca cl cc ∧ w.grownBy u (some k) → Cur (u.setCell ⟨g0, j, none⟩ x) k ca cl cc ∧ w.grownBy (u.setCell ⟨g0, j, none⟩ x) (some k) := by
    intro u j x q
    have hs := grown_set u g0 j x
    refine ⟨q.1.kept hs (by simp; omega) (fun b hb => by simp; omega), hs.os.trans q.2.os, hs.tape.trans q.2.tape, hs.output.trans q.2.output, Nat.le_trans q.2.size hs.size, fun i hi hne => ?_⟩
    refine (hs.block i (Nat.lt_of_lt_of_le hi q.2.size) (by simp; omega)).trans (q.2.block i hi hne)
  have q := step 2 (.slice a n c) (step 1 (.int .i64 f) (step 0 (.int .i64 d) ⟨hc, hg⟩))
  exact ⟨_, rfl, v0.set3 _ _ _, q.1, q.2, Own.aside3 ho v0⟩

theorem St.begin (w : World) {w2 : World} {k : Nat} (hk : k < w.heap.size) (d f : Int) (hc : Cur w2 k ca cl cc) (g : (w.alloc (.cells #[.int .i64 0, .int .i64 0, .slice none 0 0] 26)).grownBy w2 (some k)) :
    St w k w.heap.size w2.heap.size d f none 0 0 [] ca cl cc (w2.alloc (.cells #[.int .i64 d, .int .i64 f, .slice none 0 0] 26)) := by
  have hsz := g.size
  simp at hsz
  have v0 := (Var.new w 0 0 (.slice none 0 0)).grown g (by simp; omega)
  refine ⟨⟨hk, Nat.le_refl _, by omega, by omega⟩, ?_, hc.alloc _, v0.below (alloc_below _ _), Var.new w2 d f _, Own.nil _ _⟩
  exact grownBy_trans (grownBy_trans (World.grownBy_alloc w _ _) g) (World.grownBy_alloc w2 _ _)
end
end Go.Proofs.Ytekmladindlmoaa.Card

/- What spec.l05Card and DrawCard return: the walks. -/
namespace Go.Proofs.Ytekmladindlmoaa.Card
open Go.ChangeShapes Go.WideShapes Go.ChangeAt Go.RowKit
open Go.Proofs.Ytekmladindlmoaa.Strip Go.Proofs.Ytekmladindlmoaa.Strs Go.Proofs.Ytekmladindlmoaa.Draw
set_option linter.unusedVariables false

theorem grow_good {d f : Int} {l : List ByteArray} {j : Nat} {s : ByteArray} (h : l.length = j ∧ ∀ s ∈ l, goodB d f s = true) (hs : goodB d f s = true) : (l ++ [s]).length = j + 1 ∧ ∀ t ∈ l ++ [s], goodB d f t = true := by
  refine ⟨by simp [h.1], fun t ht => ?_⟩
  rcases List.mem_append.1 ht with h1 | h1
  · exact h.2 t h1
  · rw [List.mem_singleton.1 h1]; exact hs

set_option maxRecDepth 100000 in
set_option maxHeartbeats 2000000 in
theorem card_get (k : Nat) (ca : Option Addr) (cl cc : Nat) (w : World) (hk : k < w.heap.size) (hc : Cur w k ca cl cc) {Q : Ending → World → Prop}
    (h : ∀ (d f : Int) (a : Option Addr) (c : Nat) (l : List ByteArray) (w' : World), d ≤ 4 → f ≤ 4 → l.length ≤ 6 → cardB d f l = true → Cur w' k ca cl cc → w.grownBy w' (some k) → Own w' w.heap.size (.slice a l.length c) l →
      Q (.returned (.agg #[.int .i64 d, .int .i64 f, .slice a l.length c])) w') :
    Calls Try.prog 41 #[.pointer (some ⟨k, 0, none⟩)] w Q := by
  have H := Lib.hid h; clear h
  have HC := Lib.hid hc; clear hc
  go_enter Try.func41, Try.ntmps41
  go_wp2_with fail
  refine below_get k ca cl cc 4 (by omega) _ (HC.out.alloc _) ?_
  intro x w1 x0 x1 hc1 g1
  have HC1 := Lib.hid hc1; clear hc1
  have HG1 := Lib.hid g1; clear g1
  go_wp2_with fail
  refine below_get k ca cl cc 4 (by omega) _ HC1.out ?_
  intro y w2 y0 y1 hc2 g2
  have HS := Lib.hid (St.begin w hk (1 + x) (1 + y) hc2 (grownBy_trans HG1.out g2))
  clear hc2 g2 HG1
  obtain ⟨d, hd⟩ : ∃ d, 1 + x = d := ⟨_, rfl⟩
  obtain ⟨f, hf⟩ : ∃ f, 1 + y = f := ⟨_, rfl⟩
  rw [hd, hf] at HS
  have hd1 : 1 ≤ d := by omega
  have hd4 : d ≤ 4 := by omega
  have hf1 : 1 ≤ f := by omega
  have hf4 : f ≤ 4 := by omega
  go_wp2_with fail
  try rw [hd, hf]
  clear hd hf x0 x1 y0 y1
  obtain ⟨g1, hg1⟩ : ∃ g1, w2.heap.size = g1 := ⟨_, rfl⟩
  rw [hg1] at HS
  rw [hg1]
  clear hg1
  generalize w2.alloc (.cells #[.int .i64 d, .int .i64 f, .slice none 0 0] 26) = W at *
  refine below_get k ca cl cc 6 (by omega) _ HS.out.2.2.1 ?_
  intro z w3 z0 z1 hc3 g3
  have HS3 := Lib.hid (HS.out.draw hc3 g3)
  clear hc3 g3 HS
  go_wp2_with fail
  go_loopw [5] (fun i wr => ∃ (j : Nat) (a : Option Addr) (c : Nat) (l : List ByteArray), (j : Int) ≤ 1 + z ∧ i = .int .i64 (j : Int) ∧ Hid (St w k w.heap.size g1 d f a j c l ca cl cc wr) ∧ Hid (l.length = j ∧ ∀ s ∈ l, goodB d f s = true)) (fun i _ => (1 + z - intOf i).toNat)
  case atStart => exact ⟨0, none, 0, [], by omega, rfl, HS3, Lib.hid ⟨rfl, by simp⟩⟩
  case round =>
    obtain ⟨j, a, c, l, hj, rfl, HSJ, HL⟩ := hrel
    have hj0 : (0 : Int) ≤ (j : Int) := Int.natCast_nonneg _
    by_cases hlt : (j : Int) < 1 + z
    · have hd0 : decide ((j : Int) < 1 + z) = true := decide_eq_true hlt
      obtain ⟨k0, k1, k2⟩ := HSJ.out.2.2.2.2.1.cells
      go_wp2_with fail
      refine draw_int k ca cl cc d f (by omega) (by omega) (by omega) (by omega) _ HSJ.out.2.2.1 ?_
      intro s w4 hok hsd hsf hc4 g4
      have HGS := Lib.hid (good_of hok hsd hsf (frame_mk hd1 (by omega) hf1 (by omega)))
      have HS4 := Lib.hid (HSJ.out.draw hc4 g4)
      clear hc4 g4 hok hsd hsf HSJ k0 k1 k2
      go_wp2_with fail
      refine below_get k ca cl cc 4 (by omega) _ HS4.out.2.2.1 ?_
      intro v w5 v0 v1 hc5 g5
      have HS5 := Lib.hid (HS4.out.draw hc5 g5)
      clear hc5 g5 HS4
      obtain ⟨k0, k1, k2⟩ := HS5.out.2.2.2.2.1.cells
      by_cases hv0 : v = 0
      · subst hv0
        go_wp2_with fail
        refine (flat_spec d f _).mono ?_
        rintro e w5 ⟨rfl, hb5⟩
        have HS5 := Lib.hid (HS5.out.still hb5)
        have HGS := Lib.hid (flat_good (frame_mk hd1 (show d ≤ 8 by omega) hf1 (show f ≤ 8 by omega)))
        clear hb5 k0 k1 k2
        obtain ⟨k0, k1, k2⟩ := HS5.out.2.2.2.2.1.cells
        generalize (⟨(flatL d f).toArray⟩ : ByteArray) = s at *
        obtain ⟨gg, cap, w6, hr6, hv6, hs6⟩ := HS5.out.push s (by omega)
        have HS6 := Lib.hid hs6
        obtain ⟨m0, m1, m2⟩ := hv6.cells
        have fr := hv6.free 2
        clear hs6 hv6
        go_wp2_with (at_builtin; refine Lib.wpList_append_run _ rfl _ _ _ _ rfl _ _ rfl rfl _ _ (hr6 _) ?_)
        go_roundw
        case rel => exact ⟨j + 1, some ⟨gg, 0, none⟩, cap, l ++ [s], by omega, by go_num, HS6, Lib.hid (grow_good HL.out HGS.out)⟩
        case measure => simp [intOf]; omega
      · by_cases hv1 : v = 1
        · subst hv1
          by_cases hjp : 0 < j
          · have hjp' : (0 : Int) < (j : Int) := by omega
            obtain ⟨g, rfl, _, hcell⟩ := HS5.out.2.2.2.2.2.row2.2 (j - 1) (by rw [HL.out.1]; omega)
            have hix : ((j : Int) - 1) = ((j - 1 : Nat) : Int) := by omega
            have HGS := Lib.hid (HL.out.2 _ (List.getElem_mem (show j - 1 < l.length by rw [HL.out.1]; omega)))
            generalize l[j - 1]'_ = s at *
            obtain ⟨gg, cap, w6, hr6, hv6, hs6⟩ := HS5.out.push s (by omega)
            have HS6 := Lib.hid hs6
            obtain ⟨m0, m1, m2⟩ := hv6.cells
            have fr := hv6.free 2
            clear hs6 hv6
            go_wp2_with (at_builtin; refine Lib.wpList_append_run _ rfl _ _ _ _ rfl _ _ rfl rfl _ _ (hr6 _) ?_)
            go_roundw
            case rel => exact ⟨j + 1, some ⟨gg, 0, none⟩, cap, l ++ [s], by omega, by go_num, HS6, Lib.hid (grow_good HL.out HGS.out)⟩
            case measure => simp [intOf]; omega
          · obtain rfl : j = 0 := by omega
            generalize (⟨s.toArray⟩ : ByteArray) = s at *
            obtain ⟨gg, cap, w6, hr6, hv6, hs6⟩ := HS5.out.push s (by omega)
            have HS6 := Lib.hid hs6
            obtain ⟨m0, m1, m2⟩ := hv6.cells
            have fr := hv6.free 2
            clear hs6 hv6
            go_wp2_with (at_builtin; refine Lib.wpList_append_run _ rfl _ _ _ _ rfl _ _ rfl rfl _ _ (hr6 _) ?_)
            go_roundw
            case rel => exact ⟨0 + 1, some ⟨gg, 0, none⟩, cap, l ++ [s], by omega, by go_num, HS6, Lib.hid (grow_good HL.out HGS.out)⟩
            case measure => simp [intOf]; omega
        · have hv2 : (v == 1) = false := by simpa using hv1
          have hv3 : (v == 0) = false := by simpa using hv0
          generalize (⟨s.toArray⟩ : ByteArray) = s at *
          obtain ⟨gg, cap, w6, hr6, hv6, hs6⟩ := HS5.out.push s (by omega)
          have HS6 := Lib.hid hs6
          obtain ⟨m0, m1, m2⟩ := hv6.cells
          have fr := hv6.free 2
          clear hs6 hv6
          go_wp2_with (at_builtin; refine Lib.wpList_append_run _ rfl _ _ _ _ rfl _ _ rfl rfl _ _ (hr6 _) ?_)
          go_roundw
          case rel => exact ⟨j + 1, some ⟨gg, 0, none⟩, cap, l ++ [s], by omega, by go_num, HS6, Lib.hid (grow_good HL.out HGS.out)⟩
          case measure => simp [intOf]; omega
    · have hd0 : decide ((j : Int) < 1 + z) = false := decide_eq_false hlt
      obtain ⟨Z, hZ, hz0, hz1, hz2, hz3⟩ := HSJ.out.end
      unfold Card.set3 at hZ
      have HZZ := Lib.hid hZ
      have HZ0 := Lib.hid hz0
      have HZ1 := Lib.hid hz1
      have HZ2 := Lib.hid hz2
      have HZ3 := Lib.hid hz3
      clear hZ hz0 hz1 hz2 hz3
      obtain ⟨k0, k1, k2⟩ := HSJ.out.2.2.2.2.1.cells
      obtain ⟨p0, p1, p2⟩ := HSJ.out.2.2.2.1.cells
      have f0 := HSJ.out.2.2.2.1.free 0
      have f1 := HSJ.out.2.2.2.1.free 1
      have f2 := HSJ.out.2.2.2.1.free 2
      go_wp2_with fail
      rw [← HZZ.out]
      clear HZZ k0 k1 k2 p0 p1 p2 f0 f1 f2
      obtain ⟨z0, z1, z2⟩ := HZ0.out.cells
      have hbp : ∀ ll : Nat, ll = j → Q (.returned (.agg #[.int .i64 d, .int .i64 f, .slice a j c])) Z := by
        intro _ _
        have hl := HL.out.1
        subst hl
        exact H.out d f a c l Z hd4 hf4 (by omega) (cardB_iff.2 ⟨frame_mk hd1 (by omega) hf1 (by omega), by omega, by omega, HL.out.2⟩) HZ1.out HZ2.out HZ3.out
      refine bodyPost_ret (v := .agg #[.int .i64 d, .int .i64 f, .slice a j c]) (by simp [results, Try.results41, go_sem, z0, z1, z2]) rfl ?_
      exact hbp j rfl
end Go.Proofs.Ytekmladindlmoaa.Card

/- What spec.DrawCard returns. -/
namespace Go.Proofs.Ytekmladindlmoaa.Card
open Go.ChangeShapes Go.WideShapes Go.ChangeAt Go.RowKit
open Go.Proofs.Ytekmladindlmoaa.Strip Go.Proofs.Ytekmladindlmoaa.Strs Go.Proofs.Ytekmladindlmoaa.Draw
set_option linter.unusedVariables false

set_option maxRecDepth 100000 in
theorem drawCard_get (ca : Option Addr) (cl cc : Nat) (w : World) (hm : cl ≤ maxLen) (hr : RowIn w ca cl) {Q : Ending → World → Prop}
    (h : ∀ (d f : Int) (a : Option Addr) (c : Nat) (l : List ByteArray) (w' : World), d ≤ 4 → f ≤ 4 → l.length ≤ 6 → cardB d f l = true → Below w.heap.size w w' → Own w' w.heap.size (.slice a l.length c) l →
      Q (.returned (.agg #[.int .i64 d, .int .i64 f, .slice a l.length c])) w') :
    Calls Try.prog 11 #[.slice ca cl cc] w Q := by
  have H := Lib.hid h; clear h
  have hr0 : RowIn (w.alloc (.cells #[.int .i64 0, .int .i64 0, .slice none 0 0] 26)) ca cl := by
    intro j hj
    obtain ⟨b, off, e, hlt, x, h0, h1, hx⟩ := hr j hj
    exact ⟨b, off, e, by simp; omega, x, h0, h1, (World.grownBy_alloc w _ none).cell hx (by simp)⟩
  have HR := Lib.hid hr0; clear hr hr0
  go_enter Try.func11, Try.ntmps11
  go_wp2_with fail
  refine new_get ca cl cc _ hm HR.out ?_
  intro k w1 hk hk1 hc1 hb1
  have hv1 := (Var.new w 0 0 (.slice none 0 0)).below hb1
  have hbw : Below w.heap.size w w1 := ((Below.refl w.heap.size w).alloc (Nat.le_refl _) _).trans (hb1.mono (by simp))
  have hsz : w.heap.size + 1 ≤ w1.heap.size := by have := hb1.size; simpa using this
  have hk2 : w.heap.size + 1 ≤ k := by simpa using hk
  have HV := Lib.hid hv1
  have HB := Lib.hid hbw
  clear hb1 hv1 hbw hk
  go_wp2_with fail
  refine card_get k ca cl cc _ hk1 hc1 ?_
  intro d f a c l w2 hd hf hl hcb hc2 g2 ho2
  have HV2 := Lib.hid (HV.out.grown g2 (by simp; omega))
  have HB2 := Lib.hid (HB.out.grown g2 (by omega) (fun j e => by cases e; omega))
  have HO2 := Lib.hid ho2
  clear g2 ho2 hc1 hc2 HV HB
  obtain ⟨n, hn⟩ : ∃ n, l.length = n := ⟨_, rfl⟩
  have hx : ∃ Z, Z = Card.set3 w2 w.heap.size d f (.slice a n c) ∧ Var Z w.heap.size d f (.slice a n c) ∧ Below w.heap.size w Z ∧ Own Z w.heap.size (.slice a n c) l := ⟨_, rfl, by
    have := gave_last (d := d) (f := f) HB2.out HV2.out (Nat.le_refl _) HO2.out (by omega)
    rw [hn] at this
    exact ⟨this.1, this.2.1, this.2.2.mono (by omega)⟩⟩
  obtain ⟨Z, hZ, hz1, hz2, hz3⟩ := hx
  unfold Card.set3 at hZ
  obtain ⟨p0, p1, p2⟩ := HV2.out.cells
  have f0 := HV2.out.free 0
  have f1 := HV2.out.free 1
  have f2 := HV2.out.free 2
  have HZZ := Lib.hid hZ
  have HZ1 := Lib.hid hz1
  have HZ2 := Lib.hid hz2
  have HZ3 := Lib.hid hz3
  have HN := Lib.hid hn
  have HCB := Lib.hid hcb
  have HL := Lib.hid hl
  rw [hn]
  clear hZ hz1 hz2 hz3 hn hcb hl HO2
  go_wp2_with fail
  rw [← HZZ.out]
  clear HZZ p0 p1 p2 f0 f1 f2
  obtain ⟨z0, z1, z2⟩ := HZ1.out.cells
  have hbp : ∀ m : Nat, l.length = m → m = n → Q (.returned (.agg #[.int .i64 d, .int .i64 f, .slice a m c])) Z := by
    intro m e1 e2
    subst e1
    have h3 := HZ3.out
    rw [← e2] at h3
    exact H.out d f a c l Z hd hf HL.out HCB.out HZ2.out h3
  refine bodyPost_ret (v := .agg #[.int .i64 d, .int .i64 f, .slice a n c]) (by simp [results, Try.results11, go_sem, z0, z1, z2]) rfl ?_
  exact hbp n HN.out rfl
end Go.Proofs.Ytekmladindlmoaa.Card

/- What the model's SameCard returns. -/
namespace Go.Proofs.Ytekmladindlmoaa.Card
open Go.ChangeShapes Go.WideShapes Go.ChangeAt Go.RowKit
open Go.Proofs.Ytekmladindlmoaa.Strip Go.Proofs.Ytekmladindlmoaa.Strs
set_option linter.unusedVariables false

/-- Two cards are equal. -/
def sameC (d f : Int) (l : List ByteArray) (d2 f2 : Int) (l2 : List ByteArray) : Bool := decide (d = d2 ∧ f = f2 ∧ l = l2)

theorem same_no {d f d2 f2 : Int} {l l2 : List ByteArray} (h : ¬ (d = d2 ∧ f = f2 ∧ l = l2)) : sameC d f l d2 f2 l2 = false := decide_eq_false h
theorem same_self (d f : Int) (l : List ByteArray) : sameC d f l d f l = true := decide_eq_true ⟨rfl, rfl, rfl⟩

/-- The two blocks with which a function of two cards begins. -/
theorem beginTwo (w : World) (d f d2 f2 : Int) (v v2 : Value) : ∃ W, W = (w.alloc (.cells #[.int .i64 d, .int .i64 f, v] 26)).alloc (.cells #[.int .i64 d2, .int .i64 f2, v2] 26) ∧ Var W w.heap.size d f v ∧ Var W (w.heap.size + 1) d2 f2 v2 ∧ Below w.heap.size w W ∧ W.heap.size = w.heap.size + 1 + 1 := by
  refine ⟨_, rfl, (Var.new w d f v).below (alloc_below _ _), ?_, ((Below.refl _ _).alloc (Nat.le_refl _) _).alloc (by simp) _, by simp⟩
  have h := Var.new (w.alloc (.cells #[.int .i64 d, .int .i64 f, v] 26)) d2 f2 v2
  rwa [show (w.alloc (.cells #[.int .i64 d, .int .i64 f, v] 26)).heap.size = w.heap.size + 1 by simp] at h

theorem str_ne {x y : ByteArray} (h : ¬ x = y) : (x.toList == y.toList) = false := by
  rw [beq_eq_false_iff_ne, Go.ByteArray.toList_eq, Go.ByteArray.toList_eq]
  intro e
  apply h
  apply ByteArray.ext
  exact Array.toList_inj.1 e
theorem take_eq_succ {l m : List ByteArray} {k : Nat} (hl : k < l.length) (hm : k < m.length) (h : l.take k = m.take k) (he : l[k] = m[k]) : l.take (k + 1) = m.take (k + 1) := by
  rw [List.take_succ_eq_append_getElem hl, List.take_succ_eq_append_getElem hm, h, he]

end Go.Proofs.Ytekmladindlmoaa.Card

/- What the program's SameCard returns. -/
namespace Go.Proofs.Ytekmladindlmoaa.Card
open Go.ChangeShapes Go.WideShapes Go.ChangeAt Go.RowKit
open Go.Proofs.Ytekmladindlmoaa.Strip Go.Proofs.Ytekmladindlmoaa.Strs
set_option linter.unusedVariables false

/-- Block b is a variable that holds a card with its frame embedded. -/
def FVar (w : World) (b : Nat) (d f : Int) (v : Value) : Prop := w.heap[b]? = some (.cells #[.int .i64 d, .int .i64 f, v] 73 (0, 0))

theorem embed_exact (d f : Int) (a : Option Addr) (n c : Nat) (w : World) :
    Calls Try.prog 50 #[.agg #[.int .i64 d, .int .i64 f, .slice a n c]] w fun e w' => e = .returned (.agg #[.int .i64 d, .int .i64 f, .slice a n c]) ∧ w' = (w.alloc (.cells #[.int .i64 d, .int .i64 f, .slice a n c] 26)).alloc (.cells #[.int .i64 d, .int .i64 f, .slice a n c] 73) := by
  go_enter Try.func50, Try.ntmps50
  go_wp2
  exact bodyPost_ret (v := .agg #[.int .i64 d, .int .i64 f, .slice a n c]) (by simp [results, Try.results50, go_sem]) rfl ⟨rfl, rfl⟩

theorem FVar.below {w w' : World} {b : Nat} {d f : Int} {v : Value} (h : FVar w b d f v) (hb : Below w.heap.size w w') : FVar w' b d f v := (hb.block b (Array.getElem?_eq_some_iff.1 h).1).trans h
theorem FVar.new (w : World) {g : Nat} {d f : Int} {v : Value} (hg : w.heap.size = g) : FVar (w.alloc (.cells #[.int .i64 d, .int .i64 f, v] 73)) g d f v := by
  subst hg
  exact heap_alloc_new w _
theorem FVar.drew {w : World} {b : Nat} {d f : Int} {v : Value} (h : FVar w b d f v) : FVar w.drew b d f v := h

section
variable {w0 w' : World} {p1 p2 p3 p4 p5 p6 : Addr} {u1 u2 u3 u4 u5 u6 : Value}
/-- What stood in a world stands in every world that leaves it alone. -/
theorem eqs_of (h : w0.cell? p1 = some u1 ∧ w0.cell? p2 = some u2 ∧ w0.cell? p3 = some u3 ∧ w0.cell? p4 = some u4 ∧ w0.cell? p5 = some u5 ∧ w0.cell? p6 = some u6 ∧ Below w0.heap.size w0 w0) (hb : Below w0.heap.size w0 w') :
    w'.cell? p1 = some u1 ∧ w'.cell? p2 = some u2 ∧ w'.cell? p3 = some u3 ∧ w'.cell? p4 = some u4 ∧ w'.cell? p5 = some u5 ∧ w'.cell? p6 = some u6 ∧ Below w0.heap.size w0 w' := by
  obtain ⟨h1, h2, h3, h4, h5, h6, h7⟩ := h
  have k : ∀ {p : Addr} {u : Value}, w0.cell? p = some u → w'.cell? p = some u := fun {p u} e => (hb.cell (p := p) (World.block_lt_of_cell? _ _ e)).trans e
  exact ⟨k h1, k h2, k h3, k h4, k h5, k h6, hb⟩
end

theorem row_getD {w : World} {g : Nat} {l : List ByteArray} (h : Row w (some ⟨g, 0, none⟩) l) : ∀ j, j < l.length → w.cell? ⟨g, 0 + j, none⟩ = some (.string (l.getD j ByteArray.empty)) := by
  intro j hj
  obtain ⟨g', e, _, hc⟩ := h j hj
  cases e
  rw [Nat.zero_add, hc]
  simp [List.getD, hj]

theorem equal_any (a b : Option Addr) (n n2 ca cb : Nat) (l m : List ByteArray) (w : World) (hl : l.length = n) (hm : m.length = n2) (hn : n ≤ 1048576) (hn2 : n2 ≤ 1048576) (ha : Row w a l) (hb : Row w b m) :
    Calls Try.prog 51 #[.slice a n ca, .slice b n2 cb] w fun e w' => e = .returned (.bool (decide (l = m))) ∧ Below w.heap.size w w' := by
  by_cases hne : n = n2
  · subst hne
    by_cases h0 : n = 0
    · subst h0
      have e1 := List.eq_nil_of_length_eq_zero hl
      have e2 := List.eq_nil_of_length_eq_zero hm
      subst e1 e2
      refine (Try.slices_Equal_string_empty a b ca 0 cb w (by omega)).mono ?_
      rintro e w' ⟨rfl, rfl⟩
      exact ⟨by simp, Below.refl _ _⟩
    · obtain ⟨g, rfl, _⟩ := ha 0 (by omega)
      obtain ⟨g2, rfl, _⟩ := hb 0 (by omega)
      refine (Try.slices_Equal_string g 0 n ca g2 0 n cb l m w (by omega) (by omega) (by omega) (by omega) (row_getD ha) (row_getD hb)).mono ?_
      rintro e w' ⟨rfl, q, rfl⟩
      rw [List.take_of_length_le (by omega), List.take_of_length_le (by omega)]
      exact ⟨rfl, drewN_below _ _⟩
  · refine (Try.slices_Equal_string_lens a b n ca n2 cb w hne).mono ?_
    rintro e w' ⟨rfl, rfl⟩
    refine ⟨?_, Below.refl _ _⟩
    rw [decide_eq_false (fun h => hne (by rw [← hl, ← hm, h]))]

set_option maxRecDepth 100000 in
set_option maxHeartbeats 1000000 in
theorem sameCard_impl (d f d2 f2 : Int) (a b : Option Addr) (n n2 ca cb : Nat) (l m : List ByteArray) (w : World) (hl : l.length = n) (hm : m.length = n2) (hn : n ≤ 1048576) (hn2 : n2 ≤ 1048576) (ha : Row w a l) (hb : Row w b m) :
    Calls Try.prog 16 #[.agg #[.int .i64 d, .int .i64 f, .slice a n ca], .agg #[.int .i64 d2, .int .i64 f2, .slice b n2 cb]] w fun e w' => e = .returned (.bool (sameC d f l d2 f2 m)) ∧ Below w.heap.size w w' := by
  obtain ⟨W, hW, hv1, hv2, hbw, hs⟩ := beginTwo w d f d2 f2 (.slice a n ca) (.slice b n2 cb)
  have HB := Lib.hid hbw
  have HL := Lib.hid hl
  have HM := Lib.hid hm
  have HA := Lib.hid ha
  have HBR := Lib.hid hb
  have HW := Lib.hid hW
  have S0 : W.cell? ⟨w.heap.size, 0, none⟩ = some (.int .i64 d) ∧ W.cell? ⟨w.heap.size, 1, none⟩ = some (.int .i64 f) ∧ W.cell? ⟨w.heap.size, 2, none⟩ = some (.slice a n ca) ∧ W.cell? ⟨w.heap.size + 1, 0, none⟩ = some (.int .i64 d2) ∧ W.cell? ⟨w.heap.size + 1, 1, none⟩ = some (.int .i64 f2) ∧ W.cell? ⟨w.heap.size + 1, 2, none⟩ = some (.slice b n2 cb) ∧ Below W.heap.size W W :=
    ⟨hv1.cells.1, hv1.cells.2.1, hv1.cells.2.2, hv2.cells.1, hv2.cells.2.1, hv2.cells.2.2, Below.refl _ _⟩
  clear hv1 hv2 hbw hs hl hm ha hb hW
  go_enter Try.func16, Try.ntmps16
  go_upto_region 1 with (fail)
  rw [← HW.out]
  clear HW
  go_cut [5, 6] (fun s5 s6 wx => ∃ g h : Nat, s5 = .pointer (some ⟨g, 0, none⟩) ∧ s6 = .pointer (some ⟨h, 0, none⟩) ∧ FVar wx g d f (.slice a n ca) ∧ FVar wx h d2 f2 (.slice b n2 cb) ∧ Below w.heap.size w wx)
  case first =>
    go_region_held3 (fun w' => w'.cell? ⟨w.heap.size, 0, none⟩ = some (.int .i64 d) ∧ w'.cell? ⟨w.heap.size, 1, none⟩ = some (.int .i64 f) ∧ w'.cell? ⟨w.heap.size, 2, none⟩ = some (.slice a n ca) ∧ w'.cell? ⟨w.heap.size + 1, 0, none⟩ = some (.int .i64 d2) ∧ w'.cell? ⟨w.heap.size + 1, 1, none⟩ = some (.int .i64 f2) ∧ w'.cell? ⟨w.heap.size + 1, 2, none⟩ = some (.slice b n2 cb) ∧ Below W.heap.size W w')
      (first | exact S0 | exact eqs_drew S0 | assumption | (refine eqs_of S0 ?_; repeat (first | exact Below.refl _ _ | exact (Below.refl _ _).drew | (refine Below.alloc ?_ (by first | (simp; done) | (simp; omega)) _) | (refine Below.setCell ?_ (by first | (simp; done) | (simp; omega)) _) | refine Below.drew ?_)))
      ((go_at_call 50; refine (embed_exact _ _ _ _ _ _).mono ?_; rintro e w1 ⟨rfl, rfl⟩))
    all_goals
      go_wp2_with fail
      go_meet
      refine ⟨_, _, rfl, rfl, ?_, ?_, HB.out.trans (Below.mono (eqs_below (w0 := W) (by assumption)) HB.out.size)⟩
      · (repeat (first | exact FVar.new _ (by first | (simp; done) | (simp; omega)) | refine FVar.drew ?_ | refine FVar.below ?_ (alloc_below _ _)))
      · (repeat (first | exact FVar.new _ (by first | (simp; done) | (simp; omega)) | refine FVar.drew ?_ | refine FVar.below ?_ (alloc_below _ _)))
  case rest =>
    obtain ⟨g, h, rfl, rfl, F1, F2, XB⟩ := hcut
    obtain ⟨k0, k1, k2⟩ := framed_cells F1
    obtain ⟨m0, m1, m2⟩ := framed_cells F2
    have HXB := Lib.hid XB
    clear F1 F2 XB S0
    go_wp2_with fail
    · have HEQ := Lib.hid (show d = d2 by assumption)
      have HEF := Lib.hid (show f = f2 by assumption)
      have e1 : sameC d f l d2 f2 m = decide (l = m) := by rw [HEQ.out, HEF.out]; unfold sameC; simp
      refine (equal_any a b n n2 ca cb l m _ HL.out HM.out hn hn2 (HA.out.since (Nat.le_refl _) HXB.out) (HBR.out.since (Nat.le_refl _) HXB.out)).mono ?_
      rintro e w9 ⟨rfl, hb9⟩
      have HB9 := Lib.hid (HXB.out.trans (hb9.mono HXB.out.size))
      clear hb9
      go_wp2
      go_ret
      exact ⟨by rw [e1]; rfl, HB9.out⟩
    · have HNE := Lib.hid (show sameC d f l d2 f2 m = false from same_no (fun h => absurd h.2.1 (by assumption)))
      go_ret
      exact ⟨by rw [HNE.out]; rfl, HXB.out⟩
    · have HNE := Lib.hid (show sameC d f l d2 f2 m = false from same_no (fun h => absurd h.1 (by assumption)))
      go_ret
      exact ⟨by rw [HNE.out]; rfl, HXB.out⟩
end Go.Proofs.Ytekmladindlmoaa.Card

/- What laws.at returns: a byte of the draw. -/
namespace Go.Proofs.Ytekmladindlmoaa.Draw
open Go.ChangeShapes Go.WideShapes Go.ChangeAt Go.RowKit
set_option linter.unusedVariables false

theorem RowIn.below {w w' : World} {ca : Option Addr} {cl B : Nat} (h : RowIn w ca cl) (hb : Below B w w') (hB : w.heap.size ≤ B) : RowIn w' ca cl := by
  intro j hj
  obtain ⟨b, off, e, hlt, x, h0, h1, hx⟩ := h j hj
  exact ⟨b, off, e, Nat.lt_of_lt_of_le hlt hb.size, x, h0, h1, by rw [hb.cell (by show b < _; omega)]; exact hx⟩

theorem at_any (ca : Option Addr) (cl cc : Nat) (i : Nat) (hi : i ≤ 1000000) (w : World) (hm : cl ≤ maxLen) (hr : RowIn w ca cl) :
    Calls Try.prog 17 #[.slice ca cl cc, .int .i64 (i : Int)] w fun e w' => (∃ n : Int, 0 ≤ n ∧ n ≤ 255 ∧ e = .returned (.int .i64 n)) ∧ Below w.heap.size w w' := by
  unfold maxLen at hm
  by_cases hz : cl = 0
  · subst hz
    go_enter Try.func17, Try.ntmps17
    go_wp2
    go_ret
    exact ⟨⟨0, by omega, by omega, rfl⟩, Below.refl _ _⟩
  · have hb : ((cl : Int) == 0) = false := by simp; omega
    have hpos : (0 : Int) < (cl : Int) := by omega
    obtain ⟨j, hj⟩ : ∃ j : Nat, (j : Int) = ((i : Int) * 5 + 1) % (cl : Int) := ⟨(((i : Int) * 5 + 1) % (cl : Int)).toNat, by
      have := Int.emod_nonneg ((i : Int) * 5 + 1) (show (cl : Int) ≠ 0 by omega)
      omega⟩
    have hjl : j < cl := by
      have := Int.emod_lt_of_pos ((i : Int) * 5 + 1) hpos
      omega
    obtain ⟨b, off, rfl, hbs, x, hx0, hx1, hcx⟩ := hr j hjl
    have hjl' : (j : Int) < (cl : Int) := by omega
    have hne : ((cl : Int) != 0) = true := by simp; omega
    have ht : Int.tmod ((i : Int) * 5 + 1) (cl : Int) = (j : Int) := by rw [hj]; exact Int.tmod_eq_emod_of_nonneg (by omega)
    rw [← hj] at *
    go_enter Try.func17, Try.ntmps17
    go_wp2
    go_ret
    exact ⟨⟨x, hx0, hx1, rfl⟩, Below.refl _ _⟩
end Go.Proofs.Ytekmladindlmoaa.Draw

/- laws.at gives one and the same byte of the draw, whatever was drawn, and leaves the world alone. -/
namespace Go.Proofs.Ytekmladindlmoaa.Draw
open Go.ChangeShapes Go.WideShapes Go.ChangeAt Go.RowKit
set_option linter.unusedVariables false

theorem at_fix (ca : Option Addr) (cl cc : Nat) (i : Nat) (hi : i ≤ 1000000) (w : World) (hm : cl ≤ maxLen) (hr : RowIn w ca cl) :
    ∃ n : Nat, n ≤ 255 ∧ ∀ q, Calls Try.prog 17 #[.slice ca cl cc, .int .i64 (i : Int)] (w.drewN q) fun e w' => e = .returned (.int .i64 (n : Int)) ∧ w.drewN q = w' := by
  unfold maxLen at hm
  by_cases hz : cl = 0
  · subst hz
    refine ⟨0, by omega, fun q => ?_⟩
    go_enter Try.func17, Try.ntmps17
    go_wp2
    go_ret
    exact ⟨rfl, rfl⟩
  · have hb : ((cl : Int) == 0) = false := by simp; omega
    have hpos : (0 : Int) < (cl : Int) := by omega
    obtain ⟨j, hj⟩ : ∃ j : Nat, (j : Int) = ((i : Int) * 5 + 1) % (cl : Int) := ⟨(((i : Int) * 5 + 1) % (cl : Int)).toNat, by
      have := Int.emod_nonneg ((i : Int) * 5 + 1) (show (cl : Int) ≠ 0 by omega)
      omega⟩
    have hjl : j < cl := by
      have := Int.emod_lt_of_pos ((i : Int) * 5 + 1) hpos
      omega
    obtain ⟨b, off, rfl, hbs, x, hx0, hx1, hcx⟩ := hr j hjl
    have hjl' : (j : Int) < (cl : Int) := by omega
    have hne : ((cl : Int) != 0) = true := by simp; omega
    have ht : Int.tmod ((i : Int) * 5 + 1) (cl : Int) = (j : Int) := by rw [hj]; exact Int.tmod_eq_emod_of_nonneg (by omega)
    obtain ⟨n, rfl⟩ := Int.eq_ofNat_of_zero_le hx0
    rw [← hj] at *
    refine ⟨n, by omega, fun q => ?_⟩
    go_enter Try.func17, Try.ntmps17
    go_wp2
    go_ret
    exact ⟨rfl, rfl⟩
end Go.Proofs.Ytekmladindlmoaa.Draw

/- What laws.big returns. -/
namespace Go.Proofs.Ytekmladindlmoaa.Draw
open Go.ChangeShapes Go.WideShapes Go.ChangeAt Go.RowKit
set_option linter.unusedVariables false

theorem big_at (ca : Option Addr) (cl cc : Nat) (w : World) (hm : cl ≤ maxLen) :
    Calls Try.prog 10 #[.slice ca cl cc] w fun e w' => e = .returned (.bool (decide (1048576 < (cl : Int)))) ∧ w = w' := by
  unfold maxLen at hm
  go_enter Try.func10, Try.ntmps10
  go_wp2
  go_ret
  exact ⟨rfl, rfl⟩
end Go.Proofs.Ytekmladindlmoaa.Draw

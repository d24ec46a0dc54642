/- What the model's TilePlace returns; what both AreJoined return. -/
import Derived.Test.YtmmlaelllpnchaaFaceSpot2
import Derived.Test.YtmmlaelllpnchaaFaceEq
import Derived.Deep.RegionLaw
namespace Go.Proofs.Ytmmlaelllpnchaa.Face
open Go.ChangeShapes Go.WideShapes Go.ChangeAt Go.RowKit
open Go.Proofs.Ytmmlaelllpnchaa.Strip Go.Proofs.Ytmmlaelllpnchaa.Strs Go.Proofs.Ytmmlaelllpnchaa.Card
set_option linter.unusedVariables false

theorem tile_iff {l : List ByteArray} {d f : Int} (hf : 1 ≤ d ∧ d ≤ 8 ∧ 1 ≤ f ∧ f ≤ 8) {m : Nat} (hl : l.length = m) (k i : Int) : tileB l (d + f).toNat k i = (decide (0 ≤ k ∧ k ≤ (m : Int) - 1) && decide (0 ≤ i ∧ i ≤ d + f - 1)) := by
  unfold tileB
  rw [Bool.eq_iff_iff]
  simp only [decide_eq_true_eq, Bool.and_eq_true, hl]
  omega

set_option maxRecDepth 100000 in
set_option maxHeartbeats 1000000 in
theorem place_spec (d f : Int) (a : Option Addr) (m c : Nat) (l : List ByteArray) (k i : Int) (w : World) (hl : l.length = m) (hm : m ≤ 1048576) (hz : ∀ s ∈ l, s.size ≤ 1048576) (hr : Row w a l) :
    Calls Try.prog 5 #[.agg #[.int .i64 d, .int .i64 f, .slice a m c], .int .i64 k, .int .i64 i] w fun e w' => e = .returned (.tuple #[.int .i64 (plF d f l k i), .int .i64 (plD d f l k i), .string (plS d f l k i)]) ∧ Below w.heap.size w w' := by
  have HB := Lib.hid (alloc_below w (.cells #[.int .i64 d, .int .i64 f, .slice a m c] 28))
  have HV := Lib.hid (Var.new w d f (.slice a m c))
  have HR := Lib.hid (hr.below HB.out)
  have HOK := Lib.hid (fun (w' : World) (h : Row w' a l) => ok_spec d f a m c l w' hl hm hz h)
  unfold plF plD plS
  cases hb : cardB d f l with
  | false =>
    rw [hb] at HOK
    clear hr hb hz
    go_enter Try.func5, Try.ntmps5
    go_wp2_with fail
    refine (HOK.out _ HR.out).mono ?_
    rintro e w1 ⟨rfl, hb1⟩
    have HB := Lib.hid (HB.out.trans (hb1.mono HB.out.size))
    clear hb1
    go_wp2
    go_ret3
    exact ⟨rfl, HB.out⟩
  | true =>
    rw [hb] at HOK
    have hfr := card_frame hb
    have hlm : m ≤ 10 := by have := (cardB_iff.1 hb).2.2.1; omega
    have hti := tile_iff hfr hl k i
    have hlm2 : (m : Int) ≤ 10 := by omega
    simp only [if_true]
    by_cases hk : 0 ≤ k ∧ k ≤ (m : Int) - 1
    · have hk' : decide (0 ≤ k ∧ k ≤ (m : Int) - 1) = true := decide_eq_true hk
      by_cases hi : 0 ≤ i ∧ i ≤ d + f - 1
      · have hi' : decide (0 ≤ i ∧ i ≤ d + f - 1) = true := decide_eq_true hi
        have ht : tileB l (d + f).toNat k i = true := by rw [hti, hk', hi']; rfl
        obtain ⟨kk, rfl⟩ := Int.eq_ofNat_of_zero_le hk.1
        obtain ⟨ii, rfl⟩ := Int.eq_ofNat_of_zero_le hi.1
        have hkk : kk < l.length := by omega
        obtain ⟨g, rfl, _, hc⟩ := HR.out kk hkk
        obtain ⟨h1, h2, h3⟩ := strip_good (n := (d + f).toNat) hb (by omega) hkk
        unfold spF spD spS
        rw [if_pos ht, if_pos ht, if_pos ht, show ((kk : Nat) : Int).toNat = kk from Int.toNat_natCast kk, show ((ii : Nat) : Int).toNat = ii from Int.toNat_natCast ii, h3]
        have hsx : l[kk].size ≤ 16 := by omega
        have hss : ii < l[kk].size := by omega
        generalize l[kk] = s at *
        have hex := extract_one s ii hss
        have htk := take_str s ii
        rw [← htk]
        have hsz : (s.extract 0 ii).size ≤ 1048576 := by simp; omega
        have hi3 : (ii : Int) < (s.size : Int) := by omega
        obtain ⟨i2, hii⟩ : ∃ i2 : Nat, i2 = ii + 1 := ⟨_, rfl⟩
        have hix : (ii : Int) + 1 = (i2 : Int) := by omega
        have hi4 : i2 ≤ s.size := by omega
        have hi6 : ii ≤ i2 := by omega
        have hi9 : ii ≤ s.size := by omega
        have hi7 : (ii : Int) ≤ (i2 : Int) := by omega
        have hi8 : (i2 : Int) ≤ (s.size : Int) := by omega
        have hkm : (kk : Int) < (m : Int) := by omega
        rw [← hii] at hex
        clear hr hb hz hti ht h1 h2 h3 htk hii hkk
        generalize (⟨#[s.data.toList.getD ii 0]⟩ : ByteArray) = ch at *
        go_enter Try.func5, Try.ntmps5
        go_wp2_with fail
        refine (HOK.out _ HR.out).mono ?_
        rintro e w1 ⟨rfl, hb1⟩
        have HB := Lib.hid (HB.out.trans (hb1.mono HB.out.size))
        obtain ⟨k0, k1, k2⟩ := (HV.out.below hb1).cells
        have hc1 := (hb1.cell (p := ⟨g, kk, none⟩) (World.block_lt_of_cell? _ _ hc)).trans hc
        clear hb1 hc
        go_wp2_with fail
        refine (in_at _ 0 _ _).mono ?_
        rintro e w' ⟨rfl, rfl⟩
        rw [hk']
        go_wp2_with fail
        refine (in_at _ 0 _ _).mono ?_
        rintro e w' ⟨rfl, rfl⟩
        rw [hi']
        go_wp2_with fail
        go_quiet ((go_at_call 12; refine qsame (count_int (s.extract 0 ii) _ (by omega) _ hsz)))
        go_wp2
        go_ret3
        exact ⟨rfl, HB.out.trans ((drewN_below _ _).mono HB.out.size)⟩
      · have hi' : decide (0 ≤ i ∧ i ≤ d + f - 1) = false := decide_eq_false hi
        have ht : tileB l (d + f).toNat k i = false := by rw [hti, hk', hi']; rfl
        obtain ⟨e1, e2, e3⟩ := sp_out ht
        rw [e1, e2, e3]
        clear hr hb hz hti ht e1 e2 e3
        go_enter Try.func5, Try.ntmps5
        go_wp2_with fail
        refine (HOK.out _ HR.out).mono ?_
        rintro e w1 ⟨rfl, hb1⟩
        have HB := Lib.hid (HB.out.trans (hb1.mono HB.out.size))
        obtain ⟨k0, k1, k2⟩ := (HV.out.below hb1).cells
        clear hb1
        go_wp2_with fail
        refine (in_at _ 0 _ _).mono ?_
        rintro e w' ⟨rfl, rfl⟩
        rw [hk']
        go_wp2_with fail
        refine (in_at _ 0 _ _).mono ?_
        rintro e w' ⟨rfl, rfl⟩
        rw [hi']
        go_wp2
        go_ret3
        exact ⟨rfl, HB.out⟩
    · have hk' : decide (0 ≤ k ∧ k ≤ (m : Int) - 1) = false := decide_eq_false hk
      have ht : tileB l (d + f).toNat k i = false := by rw [hti, hk']; rfl
      obtain ⟨e1, e2, e3⟩ := sp_out ht
      rw [e1, e2, e3]
      clear hr hb hz hti ht e1 e2 e3
      go_enter Try.func5, Try.ntmps5
      go_wp2_with fail
      refine (HOK.out _ HR.out).mono ?_
      rintro e w1 ⟨rfl, hb1⟩
      have HB := Lib.hid (HB.out.trans (hb1.mono HB.out.size))
      obtain ⟨k0, k1, k2⟩ := (HV.out.below hb1).cells
      clear hb1
      go_wp2_with fail
      refine (in_at _ 0 _ _).mono ?_
      rintro e w' ⟨rfl, rfl⟩
      rw [hk']
      go_wp2
      go_ret3
      exact ⟨rfl, HB.out⟩

theorem not_empty {s : ByteArray} (h : s ≠ ⟨#[]⟩) : s.toList.isEmpty = false := by
  cases he : s.toList.isEmpty with
  | false => rfl
  | true =>
    rw [List.isEmpty_iff, ByteArray.toList_eq] at he
    exact absurd (ByteArray.ext (Array.ext' (by rw [he]))) h

/-- Do two tiles of strips side by side belong together? -/
def eqB (l : List ByteArray) (n : Nat) (k i k2 j : Int) : Bool := decide (spF l n k i = spF l n k2 j ∧ spD l n k i = spD l n k2 j ∧ spS l n k i = spS l n k2 j)
def jnB (d f : Int) (l : List ByteArray) (k i j : Int) : Bool := cardB d f l && (tileB l (d + f).toNat k i && eqB l (d + f).toNat k i (k + 1) j)

theorem eqB_out {l : List ByteArray} {n : Nat} {k i k2 j : Int} (hn : 1 ≤ n) (h : tileB l n k i = true) (h2 : tileB l n k2 j = false) : eqB l n k i k2 j = false := by
  obtain ⟨t, ht, rfl, rfl, _⟩ := tile_mk hn h
  unfold eqB
  rw [(sp_at hn ht).2.2, (sp_out h2).2.2]
  exact decide_eq_false fun e => one_ne _ e.2.2

end Go.Proofs.Ytmmlaelllpnchaa.Face

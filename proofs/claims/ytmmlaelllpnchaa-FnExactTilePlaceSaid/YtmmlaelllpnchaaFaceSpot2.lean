/- What impl.spotOf returns at any tile of a valid card; what TileCount, TilePlace and AreJoined of the program return. -/
import Derived.Test.YtmmlaelllpnchaaFaceSpot
namespace Go.Proofs.Ytmmlaelllpnchaa.Face
open Go.ChangeShapes Go.WideShapes Go.ChangeAt Go.RowKit
open Go.Proofs.Ytmmlaelllpnchaa.Strip Go.Proofs.Ytmmlaelllpnchaa.Strs Go.Proofs.Ytmmlaelllpnchaa.Card
set_option linter.unusedVariables false

theorem card_frame {d f : Int} {l : List ByteArray} (h : cardB d f l = true) : 1 ≤ d ∧ d ≤ 8 ∧ 1 ≤ f ∧ f ≤ 8 := by
  have := (cardB_iff.1 h).1
  unfold frameB at this
  simp at this
  omega

theorem strip_good {d f : Int} {n : Nat} {l : List ByteArray} (hb : cardB d f l = true) (hn : (n : Int) = d + f) {k : Nat} (hk : k < l.length) : stripB l[k].data.toList = true ∧ l[k].size = n ∧ stripL l k = l[k].data.toList := by
  have hfr := card_frame hb
  have hg := (cardB_iff.1 hb).2.2.2 l[k] (List.getElem_mem _)
  have hs : stripL l k = l[k].data.toList := by unfold stripL; simp [List.getD, hk]
  unfold goodB numV at hg
  simp only [decide_eq_true_eq] at hg
  have hok : stripB l[k].data.toList = true := by
    by_cases h : stripB l[k].data.toList = true
    · exact h
    · rw [if_neg h, if_neg h] at hg; omega
  rw [if_pos hok, if_pos hok] at hg
  have hsum := cnt_sum _ (stripB_ok hok)
  have hlen : l[k].data.toList.length = l[k].size := by simp
  exact ⟨hok, by omega, hs⟩

theorem spot_impl (d f : Int) (n m c : Nat) (a : Option Addr) (l : List ByteArray) (x y : Int) (w : World) (hl : l.length = m) (hb : cardB d f l = true) (hn : (n : Int) = d + f) (hr : Row w a l) :
    Calls Try.prog 15 #[.agg #[.int .i64 d, .int .i64 f, .slice a m c], .agg #[.int .i64 x, .int .i64 y]] w fun e w' => e = .returned (spotV l n x y) ∧ Below w.heap.size w w' := by
  subst hl
  have hm : l.length ≤ 10 := (cardB_iff.1 hb).2.2.1
  have hfr := card_frame hb
  by_cases hx : 0 ≤ x ∧ x < (l.length : Int)
  · obtain ⟨k, rfl⟩ := Int.eq_ofNat_of_zero_le hx.1
    have hk : k < l.length := by omega
    obtain ⟨g, rfl, _, hc⟩ := hr k hk
    obtain ⟨h1, h2, h3⟩ := strip_good hb hn hk
    by_cases hy : 0 ≤ y ∧ y < (n : Int)
    · obtain ⟨i, rfl⟩ := Int.eq_ofNat_of_zero_le hy.1
      have ht : tileB l n k i = true := decide_eq_true ⟨hx.1, hx.2, hy.1, hy.2⟩
      refine (spot_row d f n l.length c k g l[k] i _ _ _ w hk (by omega) (by omega) h1 h2 (.inr ⟨i, by omega, rfl, rfl, rfl, rfl⟩) hc).mono ?_
      rintro e w' ⟨rfl, hbw⟩
      refine ⟨?_, hbw⟩
      unfold spotV spF spD spS
      rw [if_pos ht, if_pos ht, if_pos ht]
      simp only [Int.toNat_natCast, h3]
    · have ht : tileB l n k y = false := decide_eq_false (by omega)
      refine (spot_row d f n l.length c k g l[k] y 0 0 ⟨#[]⟩ w hk (by omega) (by omega) h1 h2 (.inl ⟨hy, rfl, rfl, rfl⟩) hc).mono ?_
      rintro e w' ⟨rfl, hbw⟩
      obtain ⟨e1, e2, e3⟩ := sp_out ht
      refine ⟨?_, hbw⟩
      unfold spotV
      rw [e1, e2, e3]
  · have ht : tileB l n x y = false := decide_eq_false (by omega)
    refine (spot_out d f n c a l x y w hx (by omega)).mono ?_
    rintro e w' ⟨rfl, hbw⟩
    obtain ⟨e1, e2, e3⟩ := sp_out ht
    refine ⟨?_, hbw⟩
    unfold spotV
    rw [e1, e2, e3]

/-- The number of all tiles. -/
def tcV (d f : Int) (l : List ByteArray) : Int := if cardB d f l = true then (l.length : Int) * (d + f) else -1
/-- Where a tile lies, and its letter. -/
def plF (d f : Int) (l : List ByteArray) (k i : Int) : Int := if cardB d f l = true then spF l (d + f).toNat k i else 0
def plD (d f : Int) (l : List ByteArray) (k i : Int) : Int := if cardB d f l = true then spD l (d + f).toNat k i else 0
def plS (d f : Int) (l : List ByteArray) (k i : Int) : ByteArray := if cardB d f l = true then spS l (d + f).toNat k i else ⟨#[]⟩

set_option maxRecDepth 100000 in
theorem place_impl (d f : Int) (a : Option Addr) (m c : Nat) (l : List ByteArray) (k i : Int) (w : World) (hl : l.length = m) (hm : m ≤ 1048576) (hz : ∀ s ∈ l, s.size ≤ 1048576) (hr : Row w a l) :
    Calls Try.prog 7 #[.agg #[.int .i64 d, .int .i64 f, .slice a m c], .int .i64 k, .int .i64 i] w fun e w' => e = .returned (.tuple #[.int .i64 (plF d f l k i), .int .i64 (plD d f l k i), .string (plS d f l k i)]) ∧ Below w.heap.size w w' := by
  have HB := Lib.hid (alloc_below w (.cells #[.int .i64 d, .int .i64 f, .slice a m c] 28))
  have HV := Lib.hid (Var.new w d f (.slice a m c))
  have HR := Lib.hid (hr.below HB.out)
  have HOK := Lib.hid (fun (w' : World) (h : Row w' a l) => ok_impl d f a m c l w' hl hm hz h)
  unfold plF plD plS
  cases hb : cardB d f l with
  | false =>
    rw [hb] at HOK
    clear hr hb hz
    go_enter Try.func7, Try.ntmps7
    go_wp2_with fail
    refine (HOK.out _ HR.out).mono ?_
    rintro e w1 ⟨rfl, hb1⟩
    have HB := Lib.hid (HB.out.trans (hb1.mono HB.out.size))
    clear hb1
    go_wp2
    go_ret3
    exact ⟨rfl, HB.out⟩
  | true =>
    rw [hb] at HOK
    have hfr := card_frame hb
    have HSP := Lib.hid (fun (w' : World) (h : Row w' a l) => spot_impl d f (d + f).toNat m c a l k i w' hl hb (by omega) h)
    unfold spotV at HSP
    simp only [if_true]
    generalize spF l (d + f).toNat k i = u at *
    generalize spD l (d + f).toNat k i = v at *
    generalize spS l (d + f).toNat k i = s at *
    clear hr hb hz
    go_enter Try.func7, Try.ntmps7
    go_wp2_with fail
    refine (HOK.out _ HR.out).mono ?_
    rintro e w1 ⟨rfl, hb1⟩
    have HR := Lib.hid (HR.out.below hb1)
    have HB := Lib.hid (HB.out.trans (hb1.mono HB.out.size))
    obtain ⟨k0, k1, k2⟩ := (HV.out.below hb1).cells
    clear hb1
    go_wp2_with fail
    refine (HSP.out _ HR.out).mono ?_
    rintro e w2 ⟨rfl, hb2⟩
    have HB := Lib.hid ((HB.out.trans (hb2.mono HB.out.size)).alloc (Nat.le_trans HB.out.size hb2.size) (.cells #[.int .i64 u, .int .i64 v, .string s] 38))
    have HS := Lib.hid (SVar.new w2 u v s)
    clear hb2 k0 k1 k2
    go_upto_region 4 with (fail)
    generalize w2.alloc (.cells #[.int .i64 u, .int .i64 v, .string s] 38) = W at *
    obtain ⟨k0, k1, k2⟩ := HS.out.cells
    go_quiet (fail)
    go_wp2
    go_ret3
    exact ⟨rfl, HB.out.trans ((drewN_below W _).mono HB.out.size)⟩
end Go.Proofs.Ytmmlaelllpnchaa.Face

/- A spot in memory; what impl.stepSpot returns: a step of a strip. -/
import Derived.Test.YtmmlaelllpnchaaSRow
import Derived.Test.YtmmlaelllpnchaaStripImpl2
import Derived.Test.YtmmlaelllpnchaaCard
import Derived.Laws.ResultCell
import Derived.Deep.CutRange
import Derived.Deep.CutBlock
import Derived.Deep.DeepCutAuto
namespace Go.Proofs.Ytmmlaelllpnchaa.Face
open Go.ChangeShapes Go.WideShapes Go.ChangeAt Go.RowKit
open Go.Proofs.Ytmmlaelllpnchaa.Strip Go.Proofs.Ytmmlaelllpnchaa.Strs Go.Proofs.Ytmmlaelllpnchaa.Card
set_option linter.unusedVariables false

/-- Block b is a variable that holds a spot. -/
def SVar (w : World) (b : Nat) (x y : Int) (s : ByteArray) : Prop := w.heap[b]? = some (.cells #[.int .i64 x, .int .i64 y, .string s] 38 (0, 0))

section
variable {w w' : World} {b c j : Nat} {x y : Int} {s : ByteArray} {u : Value}
theorem SVar.new (w : World) (x y : Int) (s : ByteArray) : SVar (w.alloc (.cells #[.int .i64 x, .int .i64 y, .string s] 38)) w.heap.size x y s := heap_alloc_new w _
theorem SVar.lt (h : SVar w b x y s) : b < w.heap.size := (Array.getElem?_eq_some_iff.1 h).1
theorem SVar.below (h : SVar w b x y s) (hb : Below w.heap.size w w') : SVar w' b x y s := (hb.block b h.lt).trans h
theorem SVar.grown {row : Option Nat} (h : SVar w b x y s) (hg : w.grownBy w' row) (hne : some b ≠ row) : SVar w' b x y s := (hg.block b h.lt hne).trans h
theorem SVar.cells (h : SVar w b x y s) : w.cell? ⟨b, 0, none⟩ = some (.int .i64 x) ∧ w.cell? ⟨b, 1, none⟩ = some (.int .i64 y) ∧ w.cell? ⟨b, 2, none⟩ = some (.string s) := by
  unfold SVar at h
  simp [World.cell?, h]
theorem SVar.free (h : SVar w b x y s) (j : Nat) : w.frozen? ⟨b, j, none⟩ = false := by
  unfold SVar at h
  simp [World.frozen?, h]
/-- All three cells of a spot are written. -/
def put3 (w : World) (b : Nat) (x y : Int) (s : ByteArray) : World := ((w.setCell ⟨b, 0, none⟩ (.int .i64 x)).setCell ⟨b, 1, none⟩ (.int .i64 y)).setCell ⟨b, 2, none⟩ (.string s)
theorem SVar.put3 {x0 y0 : Int} {s0 : ByteArray} (h : SVar w b x0 y0 s0) (x y : Int) (s : ByteArray) : SVar (put3 w b x y s) b x y s := by
  unfold SVar Face.put3
  have h1 := heap_set_at w b 0 _ _ _ (.int .i64 x) h
  have h2 := heap_set_at _ b 1 _ _ _ (.int .i64 y) h1
  have h3 := heap_set_at _ b 2 _ _ _ (.string s) h2
  simpa using h3
theorem below_put3 {B : Nat} {w0 : World} (h : Below B w0 w) (hb : B ≤ b) (x y : Int) (s : ByteArray) : Below B w0 (Face.put3 w b x y s) :=
  ((h.setCell (p := ⟨b, 0, none⟩) hb _).setCell (p := ⟨b, 1, none⟩) hb _).setCell (p := ⟨b, 2, none⟩) hb _
end

theorem beginP (w : World) : ∃ W, W = w.alloc (.cells #[.int .i64 0, .int .i64 0, .string ⟨#[]⟩] 38) ∧
    SVar W w.heap.size 0 0 ⟨#[]⟩ ∧ Below w.heap.size w W :=
  ⟨_, rfl, SVar.new w 0 0 ⟨#[]⟩, (Below.refl _ _).alloc (Nat.le_refl _) _⟩

theorem extract_one (s : ByteArray) (i : Nat) (h : i < s.size) : s.extract i (i + 1) = ⟨#[s.data.toList.getD i 0]⟩ := by
  have hl : i < s.data.toList.length := by simpa using h
  have hx : s.data.toList.getD i 0 = s.data.toList[i] := by simp only [List.getD, List.getElem?_eq_getElem hl, Option.getD_some]
  apply ByteArray.ext
  apply Array.ext'
  rw [ByteArray.data_extract, Array.toList_extract, hx]
  simp only [List.extract]
  rw [show i + 1 - i = 1 by omega, List.drop_eq_getElem_cons hl]
  rfl


/-- What a step of a strip is: where it lies, and its letter; or nothing. -/
def StepIs (s : ByteArray) (y u v : Int) (ch : ByteArray) : Prop :=
  (¬ (stripB s.data.toList = true ∧ 0 ≤ y ∧ y < (s.size : Int)) ∧ u = 0 ∧ v = 0 ∧ ch = ⟨#[]⟩) ∨ (∃ i : Nat, stripB s.data.toList = true ∧ i < s.size ∧ y = (i : Int) ∧ u = (cnt 102 (s.data.toList.take i) : Int) ∧ v = (cnt 100 (s.data.toList.take i) : Int) ∧ ch = ⟨#[s.data.toList.getD i 0]⟩)

set_option maxRecDepth 100000 in
set_option maxHeartbeats 2000000 in
theorem step_impl (s : ByteArray) (y u v : Int) (ch : ByteArray) (w : World) (hsz : s.size ≤ 1048576) (hcase : StepIs s y u v ch) :
    Calls Try.prog 23 #[.string s, .int .i64 y] w fun e w' => e = .returned (.agg #[.int .i64 u, .int .i64 v, .string ch]) ∧ Below w.heap.size w w' := by
  obtain ⟨W, hW, hs0, hb⟩ := beginP w
  have HW := Lib.hid hW
  have HB := Lib.hid hb
  have HS := Lib.hid hs0
  clear hW hb hs0
  have hlen : s.data.toList.length = s.size := by simp
  rcases hcase with ⟨hout, rfl, rfl, rfl⟩ | ⟨i, hs, hi, rfl, rfl, rfl, rfl⟩
  · by_cases hy : stripB s.data.toList = true ∧ y = (s.size : Int)
    · obtain ⟨hs, rfl⟩ := hy
      have hav : ∃ p q : Int, atV s.data.toList (s.size : Int) = .tuple #[.int .i64 p, .int .i64 q, .bool true] := ⟨_, _, by unfold atV; rw [if_pos ⟨hs, by omega, by rw [hlen]; exact Int.le_refl _⟩]⟩
      obtain ⟨p, q, hav⟩ := hav
      have heq : ((s.size : Int) == (s.size : Int)) = true := by simp
      go_enter Try.func23, Try.ntmps23
      go_upto_region 1 with (fail)
      rw [← HW.out]
      clear HW
      go_wp2_with fail
      refine (at_impl s _ _ hsz).mono ?_
      rintro e w1 ⟨rfl, hb1⟩
      rw [hav]
      have HS := Lib.hid (HS.out.below hb1)
      have HB := Lib.hid (HB.out.trans (hb1.mono HB.out.size))
      clear hb1
      obtain ⟨p0, p1, p2⟩ := HS.out.cells
      have f0 := HS.out.free 0
      have f1 := HS.out.free 1
      have f2 := HS.out.free 2
      have hx : ∃ Z, Z = Face.put3 w1 w.heap.size 0 0 ⟨#[]⟩ ∧ SVar Z w.heap.size 0 0 ⟨#[]⟩ ∧ Below w.heap.size w Z := ⟨_, rfl, HS.out.put3 _ _ _, below_put3 HB.out (Nat.le_refl _) _ _ _⟩
      obtain ⟨Z, hZ, hz1, hz2⟩ := hx
      unfold Face.put3 at hZ
      have HZZ := Lib.hid hZ
      have HZ1 := Lib.hid hz1
      have HZ2 := Lib.hid hz2
      clear hZ hz1 hz2
      go_wp2_with fail
      rw [← HZZ.out]
      clear HZZ p0 p1 p2 f0 f1 f2
      obtain ⟨z0, z1, z2⟩ := HZ1.out.cells
      refine bodyPost_ret (v := .agg #[.int .i64 0, .int .i64 0, .string ⟨#[]⟩]) (by simp [results, Try.results23, go_sem, z0, z1, z2]) rfl ?_
      exact ⟨rfl, HZ2.out⟩
    · have hav : atV s.data.toList y = .tuple #[.int .i64 0, .int .i64 0, .bool false] := by unfold atV; rw [if_neg (by rw [hlen]; intro h; by_cases e : y = (s.size : Int); exact hy ⟨h.1, e⟩; exact hout ⟨h.1, h.2.1, by omega⟩)]
      go_enter Try.func23, Try.ntmps23
      go_upto_region 1 with (fail)
      rw [← HW.out]
      clear HW
      go_wp2_with fail
      refine (at_impl s _ _ hsz).mono ?_
      rintro e w1 ⟨rfl, hb1⟩
      rw [hav]
      have HS := Lib.hid (HS.out.below hb1)
      have HB := Lib.hid (HB.out.trans (hb1.mono HB.out.size))
      clear hb1
      obtain ⟨p0, p1, p2⟩ := HS.out.cells
      have f0 := HS.out.free 0
      have f1 := HS.out.free 1
      have f2 := HS.out.free 2
      have hx : ∃ Z, Z = Face.put3 w1 w.heap.size 0 0 ⟨#[]⟩ ∧ SVar Z w.heap.size 0 0 ⟨#[]⟩ ∧ Below w.heap.size w Z := ⟨_, rfl, HS.out.put3 _ _ _, below_put3 HB.out (Nat.le_refl _) _ _ _⟩
      obtain ⟨Z, hZ, hz1, hz2⟩ := hx
      unfold Face.put3 at hZ
      have HZZ := Lib.hid hZ
      have HZ1 := Lib.hid hz1
      have HZ2 := Lib.hid hz2
      clear hZ hz1 hz2
      go_wp2_with fail
      rw [← HZZ.out]
      clear HZZ p0 p1 p2 f0 f1 f2
      obtain ⟨z0, z1, z2⟩ := HZ1.out.cells
      refine bodyPost_ret (v := .agg #[.int .i64 0, .int .i64 0, .string ⟨#[]⟩]) (by simp [results, Try.results23, go_sem, z0, z1, z2]) rfl ?_
      exact ⟨rfl, HZ2.out⟩
  · have hav : atV s.data.toList (i : Int) = .tuple #[.int .i64 (cnt 102 (s.data.toList.take i) : Int), .int .i64 (cnt 100 (s.data.toList.take i) : Int), .bool true] := by unfold atV; rw [if_pos ⟨hs, by omega, by rw [hlen]; omega⟩]; rfl
    have heq : ((i : Int) == (s.size : Int)) = false := by simp; omega
    have hex := extract_one s i (by omega)
    have hi2 : (i : Int) + 1 ≤ (s.size : Int) := by omega
    have hi3 : (i : Int) < (s.size : Int) := by omega
    have hlt16 : (s.size : Int) ≤ 1048576 := by omega
    obtain ⟨i2, hii⟩ : ∃ i2 : Nat, i2 = i + 1 := ⟨_, rfl⟩
    have hix : (i : Int) + 1 = (i2 : Int) := by omega
    have hi4 : i2 ≤ s.size := by omega
    have hi6 : i ≤ i2 := by omega
    have hi7 : (i : Int) ≤ (i2 : Int) := by omega
    have hi8 : (i2 : Int) ≤ (s.size : Int) := by omega
    rw [← hii] at hex
    clear hii
    have hi5 : i < s.size := by omega
    clear hi hlen
    generalize (cnt 102 (s.data.toList.take i) : Int) = u at *
    generalize (cnt 100 (s.data.toList.take i) : Int) = v at *
    generalize (⟨#[s.data.toList.getD i 0]⟩ : ByteArray) = ch at *
    go_enter Try.func23, Try.ntmps23
    go_upto_region 1 with (fail)
    rw [← HW.out]
    clear HW
    go_wp2_with fail
    refine (at_impl s _ _ hsz).mono ?_
    rintro e w1 ⟨rfl, hb1⟩
    rw [hav]
    have HS := Lib.hid (HS.out.below hb1)
    have HB := Lib.hid (HB.out.trans (hb1.mono HB.out.size))
    clear hb1
    obtain ⟨p0, p1, p2⟩ := HS.out.cells
    have f0 := HS.out.free 0
    have f1 := HS.out.free 1
    have f2 := HS.out.free 2
    have hx : ∃ Z, Z = Face.put3 w1 w.heap.size u v ch ∧ SVar Z w.heap.size u v ch ∧ Below w.heap.size w Z := ⟨_, rfl, HS.out.put3 _ _ _, below_put3 HB.out (Nat.le_refl _) _ _ _⟩
    obtain ⟨Z, hZ, hz1, hz2⟩ := hx
    unfold Face.put3 at hZ
    have HZZ := Lib.hid hZ
    have HZ1 := Lib.hid hz1
    have HZ2 := Lib.hid hz2
    clear hZ hz1 hz2
    go_wp2_with fail
    rw [← HZZ.out]
    clear HZZ p0 p1 p2 f0 f1 f2
    obtain ⟨z0, z1, z2⟩ := HZ1.out.cells
    refine bodyPost_ret (v := .agg #[.int .i64 u, .int .i64 v, .string ch]) (by simp [results, Try.results23, go_sem, z0, z1, z2]) rfl ?_
    exact ⟨rfl, HZ2.out⟩
end Go.Proofs.Ytmmlaelllpnchaa.Face

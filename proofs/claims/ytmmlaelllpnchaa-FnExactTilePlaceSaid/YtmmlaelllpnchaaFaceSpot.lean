/- What impl.spotOf returns. -/
import Derived.Test.YtmmlaelllpnchaaFaceNet
import Derived.Test.YtmmlaelllpnchaaFaceKey
import Derived.Test.YtmmlaelllpnchaaStepSpot
import Derived.Test.YtmmlaelllpnchaaCardImpl2
import Derived.Test.YtmmlaelllpnchaaCardEq
import Derived.StillTailTactics
namespace Go.Proofs.Ytmmlaelllpnchaa.Face
open Go.ChangeShapes Go.WideShapes Go.ChangeAt Go.RowKit
open Go.Proofs.Ytmmlaelllpnchaa.Strip Go.Proofs.Ytmmlaelllpnchaa.Strs Go.Proofs.Ytmmlaelllpnchaa.Card
set_option linter.unusedVariables false

/-- Block b is a variable that holds a tile. -/
def TVar (w : World) (b : Nat) (x y : Int) : Prop := w.heap[b]? = some (.cells #[.int .i64 x, .int .i64 y] tileT (0, 0))

section
variable {w w' : World} {b c j : Nat} {x y : Int} {s : ByteArray} {u : Value}
theorem TVar.new (w : World) (x y : Int) : TVar (w.alloc (.cells #[.int .i64 x, .int .i64 y] tileT)) w.heap.size x y := heap_alloc_new w _
theorem TVar.lt (h : TVar w b x y) : b < w.heap.size := (Array.getElem?_eq_some_iff.1 h).1
theorem TVar.below (h : TVar w b x y) (hb : Below w.heap.size w w') : TVar w' b x y := (hb.block b h.lt).trans h
theorem TVar.grown {row : Option Nat} (h : TVar w b x y) (hg : w.grownBy w' row) (hne : some b ≠ row) : TVar w' b x y := (hg.block b h.lt hne).trans h
theorem TVar.cells (h : TVar w b x y) : w.cell? ⟨b, 0, none⟩ = some (.int .i64 x) ∧ w.cell? ⟨b, 1, none⟩ = some (.int .i64 y) := by
  unfold TVar at h
  simp [World.cell?, h]
end

theorem beginS (w : World) (d f x y : Int) (v : Value) : ∃ W, W = ((w.alloc (.cells #[.int .i64 d, .int .i64 f, v] 28)).alloc (.cells #[.int .i64 x, .int .i64 y] tileT)).alloc (.cells #[.int .i64 0, .int .i64 0, .string ⟨#[]⟩] 38) ∧
    Var W w.heap.size d f v ∧ TVar W (w.heap.size + 1) x y ∧ SVar W (w.heap.size + 1 + 1) 0 0 ⟨#[]⟩ ∧ Below w.heap.size w W := by
  have e1 : (w.alloc (.cells #[.int .i64 d, .int .i64 f, v] 28)).heap.size = w.heap.size + 1 := by simp
  have e2 : ((w.alloc (.cells #[.int .i64 d, .int .i64 f, v] 28)).alloc (.cells #[.int .i64 x, .int .i64 y] tileT)).heap.size = w.heap.size + 1 + 1 := by simp
  have h2 := TVar.new (w.alloc (.cells #[.int .i64 d, .int .i64 f, v] 28)) x y
  rw [e1] at h2
  have h3 := SVar.new ((w.alloc (.cells #[.int .i64 d, .int .i64 f, v] 28)).alloc (.cells #[.int .i64 x, .int .i64 y] tileT)) 0 0 ⟨#[]⟩
  rw [e2] at h3
  exact ⟨_, rfl, ((Var.new w d f v).below (alloc_below _ _)).below (alloc_below _ _), h2.below (alloc_below _ _), h3, (((Below.refl _ _).alloc (Nat.le_refl _) _).alloc (by simp) _).alloc (by simp; omega) _⟩

/-- What spotOf returns. -/
def spotV (l : List ByteArray) (n : Nat) (k i : Int) : Value := .agg #[.int .i64 (spF l n k i), .int .i64 (spD l n k i), .string (spS l n k i)]

set_option maxRecDepth 100000 in
set_option maxHeartbeats 1000000 in
theorem spot_out (d f : Int) (n c : Nat) (a : Option Addr) (l : List ByteArray) (x y : Int) (w : World) (ho : ¬ (0 ≤ x ∧ x < (l.length : Int))) (hm : l.length ≤ 1048576) :
    Calls Try.prog 15 #[.agg #[.int .i64 d, .int .i64 f, .slice a l.length c], .agg #[.int .i64 x, .int .i64 y]] w fun e w' => e = .returned (.agg #[.int .i64 0, .int .i64 0, .string ⟨#[]⟩]) ∧ Below w.heap.size w w' := by
  obtain ⟨W, hW, hv, ht, hs, hb⟩ := beginS w d f x y (.slice a l.length c)
  have HW := Lib.hid hW
  have HB := Lib.hid hb
  have HV := Lib.hid hv
  have HT := Lib.hid ht
  have HS := Lib.hid hs
  clear hW hb hv ht hs
  obtain ⟨k0, k1, k2⟩ := HV.out.cells
  obtain ⟨t0, t1⟩ := HT.out.cells
  obtain ⟨p0, p1, p2⟩ := HS.out.cells
  have f0 := HS.out.free 0
  have f1 := HS.out.free 1
  have f2 := HS.out.free 2
  have hx : ∃ Z, Z = Face.put3 W (w.heap.size + 1 + 1) 0 0 ⟨#[]⟩ ∧ SVar Z (w.heap.size + 1 + 1) 0 0 ⟨#[]⟩ ∧ Below w.heap.size w Z := ⟨_, rfl, HS.out.put3 _ _ _, below_put3 HB.out (by omega) _ _ _⟩
  obtain ⟨Z, hZ, hz1, hz2⟩ := hx
  unfold Face.put3 at hZ
  have HZZ := Lib.hid hZ
  have HZ1 := Lib.hid hz1
  have HZ2 := Lib.hid hz2
  clear hZ hz1 hz2
  by_cases hneg : x < 0
  · have hd : decide (x < 0) = true := decide_eq_true hneg
    go_enter Try.func15, Try.ntmps15
    go_upto_region 1 with (fail)
    rw [← HW.out]
    clear HW
    go_wp2_with fail
    rw [← HZZ.out]
    clear HZZ p0 p1 p2 f0 f1 f2
    obtain ⟨z0, z1, z2⟩ := HZ1.out.cells
    refine bodyPost_ret (v := .agg #[.int .i64 0, .int .i64 0, .string ⟨#[]⟩]) (by simp [results, Try.results15, go_sem, z0, z1, z2]) rfl ?_
    exact ⟨rfl, HZ2.out⟩
  · have hd : decide (x < 0) = false := decide_eq_false hneg
    have hge : (l.length : Int) ≤ x := by omega
    go_enter Try.func15, Try.ntmps15
    go_upto_region 1 with (fail)
    rw [← HW.out]
    clear HW
    go_wp2_with fail
    rw [← HZZ.out]
    clear HZZ p0 p1 p2 f0 f1 f2
    obtain ⟨z0, z1, z2⟩ := HZ1.out.cells
    refine bodyPost_ret (v := .agg #[.int .i64 0, .int .i64 0, .string ⟨#[]⟩]) (by simp [results, Try.results15, go_sem, z0, z1, z2]) rfl ?_
    exact ⟨rfl, HZ2.out⟩

set_option maxRecDepth 100000 in
set_option maxHeartbeats 2000000 in
/-- A strip that is there: its text as it lies in memory. -/
theorem spot_row (d f : Int) (n m c k : Nat) (g : Nat) (s : ByteArray) (y u v : Int) (ch : ByteArray) (w : World) (hkm : k < m) (hm : m ≤ 1048576) (hsz : s.size ≤ 1048576) (hs : stripB s.data.toList = true) (hn : s.size = n)
    (hcase : (¬ (0 ≤ y ∧ y < (n : Int)) ∧ u = 0 ∧ v = 0 ∧ ch = ⟨#[]⟩) ∨ (∃ i : Nat, i < n ∧ y = (i : Int) ∧ u = (cnt 102 (s.data.toList.take i) : Int) ∧ v = (cnt 100 (s.data.toList.take i) : Int) ∧ ch = ⟨#[s.data.toList.getD i 0]⟩))
    (hc0 : w.cell? ⟨g, k, none⟩ = some (.string s)) :
    Calls Try.prog 15 #[.agg #[.int .i64 d, .int .i64 f, .slice (some ⟨g, 0, none⟩) m c], .agg #[.int .i64 (k : Int), .int .i64 y]] w fun e w' => e = .returned (.agg #[.int .i64 u, .int .i64 v, .string ch]) ∧ Below w.heap.size w w' := by
  have hst : StepIs s y u v ch := by
    rcases hcase with ⟨h1, h2, h3, h4⟩ | ⟨i, h1, h2, h3, h4, h5⟩
    · exact .inl ⟨fun h => h1 ⟨h.2.1, by omega⟩, h2, h3, h4⟩
    · exact .inr ⟨i, hs, by omega, h2, h3, h4, h5⟩
  have HST := Lib.hid (fun w' => step_impl s y u v ch w' hsz hst)
  clear hcase hst
  obtain ⟨W, hW, hv, ht, hs0, hb⟩ := beginS w d f k y (.slice (some ⟨g, 0, none⟩) m c)
  have hcell : W.cell? ⟨g, k, none⟩ = some (.string s) := (hb.cell (p := ⟨g, k, none⟩) (World.block_lt_of_cell? _ _ hc0)).trans hc0
  have HW := Lib.hid hW
  have HB := Lib.hid hb
  have HV := Lib.hid hv
  have HT := Lib.hid ht
  have HS := Lib.hid hs0
  clear hW hb hv ht hs0 hc0
  obtain ⟨k0, k1, k2⟩ := HV.out.cells
  obtain ⟨t0, t1⟩ := HT.out.cells
  have hd : decide ((k : Int) < 0) = false := by simp
  have hd2 : decide ((m : Int) ≤ (k : Int)) = false := by simp; omega
  have hk0 : (0 : Int) ≤ (k : Int) := by omega
  have hkm2 : (k : Int) < (m : Int) := by omega
  go_enter Try.func15, Try.ntmps15
  go_upto_region 1 with (fail)
  rw [← HW.out]
  clear HW
  go_wp2_with fail
  go_still_tail 8, (by kernel_rfl)
  change wpList _ _ _ _ _ W.drew
  have HS2 : Hid (SVar W.drew (w.heap.size + 1 + 1) 0 0 ⟨#[]⟩) := HS.out.below (drewN_below W 1)
  have HB2 : Hid (Below w.heap.size w W.drew) := HB.out.drew
  clear k0 k1 k2 t0 t1 hcell
  generalize W.drew = W2 at *
  go_wp2_with fail
  refine (HST.out _).mono ?_
  rintro e w1 ⟨rfl, hb1⟩
  have HS := Lib.hid (HS2.out.below hb1)
  have HB := Lib.hid (HB2.out.trans (hb1.mono HB2.out.size))
  clear hb1
  obtain ⟨p0, p1, p2⟩ := HS.out.cells
  have f0 := HS.out.free 0
  have f1 := HS.out.free 1
  have f2 := HS.out.free 2
  have hx : ∃ Z, Z = Face.put3 w1 (w.heap.size + 1 + 1) u v ch ∧ SVar Z (w.heap.size + 1 + 1) u v ch ∧ Below w.heap.size w Z := ⟨_, rfl, HS.out.put3 _ _ _, below_put3 HB.out (by omega) _ _ _⟩
  obtain ⟨Z, hZ, hz1, hz2⟩ := hx
  unfold Face.put3 at hZ
  have HZZ := Lib.hid hZ
  have HZ1 := Lib.hid hz1
  have HZ2 := Lib.hid hz2
  clear hZ hz1 hz2
  go_wp2_with fail
  rw [← HZZ.out]
  clear HZZ p0 p1 p2 f0 f1 f2
  obtain ⟨z0, z1, z2⟩ := HZ1.out.cells
  refine bodyPost_ret (v := .agg #[.int .i64 u, .int .i64 v, .string ch]) (by simp [results, Try.results15, go_sem, z0, z1, z2]) rfl ?_
  exact ⟨rfl, HZ2.out⟩
end Go.Proofs.Ytmmlaelllpnchaa.Face

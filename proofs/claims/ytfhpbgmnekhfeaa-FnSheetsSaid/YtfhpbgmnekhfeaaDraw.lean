/- The cursor over a draw: what spec.l01New, l01Byte, l01Below, l01Once, l01PickInt, l01Pick, l01Text, l01Long and l01Number return and leave alone. -/
import Derived.Test.YtfhpbgmnekhfeaaChecked
import Derived.WalkKit
import Derived.ProofKit
import Derived.WalkLawsBesides
import Derived.Below
import Derived.IntWalk
import Derived.BigQuiet
import Derived.Deep.QuietTactic
import Derived.Lib.Hide
import Derived.Outline
import Derived.OpenShut
namespace Go.Proofs.Ytfhpbgmnekhfeaa.Draw
open Go.ChangeShapes Go.WideShapes Go.ChangeAt Go.RowKit
set_option linter.unusedVariables false

theorem ret_int {k : IntKind} {a b : Int} (h : a = b) : Ending.returned (.int k a) = .returned (.int k b) := by rw [h]

theorem i64_and255 (n : Int) : bits .and .i64 n 255 = n % 256 := by
  have h255 : (BitVec.ofInt 64 255).toNat = 2 ^ 8 - 1 := by decide
  have key : (BitVec.ofInt 64 n &&& BitVec.ofInt 64 255).toNat = (n % ((2 ^ 64 : Nat) : Int)).toNat % 2 ^ 8 := by
    rw [BitVec.toNat_and, BitVec.toNat_ofInt, h255, Nat.and_two_pow_sub_one_eq_mod]
  show IntKind.i64.wrap ((BitVec.ofInt 64 n &&& BitVec.ofInt 64 255).toNat : Nat) = n % 256
  rw [key, IntKind.wrap_i64]
  omega

/-- The bytes that the cursor reads: in a block ahead of the cursor's own. -/
def Row (w : World) (ca : Option Addr) (cl : Nat) (k : Nat) : Prop :=
  ∀ j, j < cl → ∃ b off, ca = some ⟨b, off, none⟩ ∧ b < k ∧ b < w.heap.size ∧ ∃ x : Int, 0 ≤ x ∧ x ≤ 255 ∧ w.cell? ⟨b, off + j, none⟩ = some (.int .u8 x)

/-- A cursor in block k over the slice (ca, cl, cc). -/
def Cur (w : World) (k : Nat) (ca : Option Addr) (cl cc : Nat) : Prop :=
  cl ≤ maxLen ∧ Row w ca cl k ∧ ∃ i h : Int, 0 ≤ i ∧ i ≤ cl ∧ w.heap[k]? = some (.cells #[.slice ca cl cc, .int .i64 i, .int .i64 h] 64 (0, 0))

/-- A number from lo to hi is returned, the cursor stays one, and only its block is written. -/
def IntPost (lo hi : Int) (w : World) (k : Nat) (ca : Option Addr) (cl cc : Nat) (e : Ending) (w' : World) : Prop :=
  ∃ n : Int, lo ≤ n ∧ n ≤ hi ∧ e = .returned (.int .i64 n) ∧ Cur w' k ca cl cc ∧ w.grownBy w' (some k)

theorem heap_setCell_at (w : World) (k j : Nat) (cs : Array Value) (T : TypeId) (m : Nat × Nat) (v : Value) (h : w.heap[k]? = some (.cells cs T m)) :
    (w.setCell ⟨k, j, none⟩ v).heap[k]? = some (.cells (cs.setIfInBounds j v) T m) := by
  simp [World.setCell, Array.getElem?_modify, h]

theorem grownBy_setCell (w : World) (k j : Nat) (v : Value) : w.grownBy (w.setCell ⟨k, j, none⟩ v) (some k) :=
  ⟨rfl, rfl, rfl, by simp [World.setCell], fun b hb hne => Below.heap_setCell _ _ _ _ (fun e => hne (by rw [e]))⟩

theorem grownBy_drewN (w : World) (n : Nat) (row : Option Nat) : w.grownBy (w.drewN n) row := ⟨rfl, rfl, rfl, Nat.le_refl _, fun _ _ _ => rfl⟩

theorem grownBy_trans {a b c : World} {row : Option Nat} (h : a.grownBy b row) (g : b.grownBy c row) : a.grownBy c row :=
  ⟨g.os.trans h.os, g.tape.trans h.tape, g.output.trans h.output, Nat.le_trans h.size g.size,
    fun k hk hne => (g.block k (Nat.lt_of_lt_of_le hk h.size) hne).trans (h.block k hk hne)⟩

theorem Row.kept {w w' : World} {ca : Option Addr} {cl k : Nat} (h : Row w ca cl k) (g : w.grownBy w' (some k)) : Row w' ca cl k := by
  intro j hj
  obtain ⟨b, off, e, hne, hlt, x, h0, h1, hx⟩ := h j hj
  exact ⟨b, off, e, hne, Nat.lt_of_lt_of_le hlt g.size, x, h0, h1, g.cell hx (by simp; omega)⟩

theorem cur_of {w W : World} {k : Nat} {ca : Option Addr} {cl cc : Nat} {i h : Int} (hm : cl ≤ maxLen) (hrow : Row w ca cl k) (h0 : 0 ≤ i) (h1 : i ≤ cl)
    (g : w.grownBy W (some k)) (hW : W.heap[k]? = some (.cells #[.slice ca cl cc, .int .i64 i, .int .i64 h] 64 (0, 0))) : Cur W k ca cl cc ∧ w.grownBy W (some k) :=
  ⟨⟨hm, hrow.kept g, i, h, h0, h1, hW⟩, g⟩

theorem and_lo (x : Int) : 0 ≤ bits .and .i64 x 255 := by rw [i64_and255]; omega
theorem and_hi (x : Int) : bits .and .i64 x 255 ≤ 255 := by rw [i64_and255]; omega

theorem byte_any (k : Nat) (ca : Option Addr) (cl cc : Nat) (w : World) (hc : Cur w k ca cl cc) :
    Calls Try.prog 52 #[.pointer (some ⟨k, 0, none⟩)] w (IntPost 0 255 w k ca cl cc) := by
  obtain ⟨hm, hrow, i, h, hi0, hil, hb⟩ := hc
  have hm' := hm
  unfold maxLen at hm'
  obtain ⟨n, rfl⟩ := Int.eq_ofNat_of_zero_le hi0
  have c0 : w.cell? ⟨k, 0, none⟩ = some (.slice ca cl cc) := by simp [World.cell?, hb]
  have c1 : w.cell? ⟨k, 1, none⟩ = some (.int .i64 n) := by simp [World.cell?, hb]
  have c2 : w.cell? ⟨k, 2, none⟩ = some (.int .i64 h) := by simp [World.cell?, hb]
  have f1 : w.frozen? ⟨k, 1, none⟩ = false := by simp [World.frozen?, hb]
  have f2 : w.frozen? ⟨k, 2, none⟩ = false := by simp [World.frozen?, hb]
  have HB := Lib.hid hb; clear hb
  have HR := Lib.hid hrow; clear hrow
  by_cases hlt : n < cl
  · obtain ⟨b, off, rfl, hbk, hbs, x, hx0, hx1, hcx⟩ := HR.out n hlt
    go_enter Try.func52, Try.ntmps52
    go_wp2_with fail
    generalize wrap64 (wrap64 (h * 6364136223846793005) + 1442695040888963407) = h1
    have hcx' : (w.setCell ⟨k, 2, none⟩ (.int .i64 h1)).cell? ⟨b, off + n, none⟩ = some (.int .u8 x) := (grownBy_setCell w k 2 _).cell hcx (by simp; omega)
    go_quiet (fail)
    go_wp2_with fail
    go_quiet (fail)
    go_wp2_with fail
    go_quiet (fail)
    go_wp2
    go_ret
    refine ⟨_, and_lo _, and_hi _, rfl, cur_of (i := ((n + 1 : Nat) : Int)) (h := h1) hm HR.out (by omega) (by omega) ?_ ?_⟩
    · exact grownBy_trans (grownBy_trans (grownBy_setCell w k 2 (.int .i64 h1)) (grownBy_drewN _ _ _)) (grownBy_setCell _ k 1 (.int .i64 (n + 1)))
    · exact heap_setCell_at _ _ _ _ _ _ _ (heap_setCell_at _ _ _ _ _ _ _ HB.out)
  · have hd : decide ((n : Int) < (cl : Int)) = false := by simp; omega
    go_enter Try.func52, Try.ntmps52
    go_wp2_with fail
    generalize wrap64 (wrap64 (h * 6364136223846793005) + 1442695040888963407) = h1
    go_quiet (fail)
    go_wp2_with fail
    go_quiet (fail)
    go_wp2
    go_ret
    refine ⟨_, and_lo _, and_hi _, rfl, cur_of (i := n) (h := h1) hm HR.out (by omega) (by omega) ?_ ?_⟩
    · exact grownBy_trans (grownBy_trans (grownBy_setCell w k 2 (.int .i64 h1)) (grownBy_drewN _ _ _)) (grownBy_drewN _ _ _)
    · exact heap_setCell_at _ _ _ _ _ _ _ HB.out

theorem IntPost.trans {lo hi : Int} {w w1 w' : World} {k : Nat} {ca : Option Addr} {cl cc : Nat} {e : Ending} (g : w.grownBy w1 (some k)) (h : IntPost lo hi w1 k ca cl cc e w') : IntPost lo hi w k ca cl cc e w' := by
  obtain ⟨n, a, b, c, d, f⟩ := h
  exact ⟨n, a, b, c, d, grownBy_trans g f⟩

/-- One drawn number, taken apart: for the walk. -/
theorem byte_get (k : Nat) (ca : Option Addr) (cl cc : Nat) (w : World) (hc : Cur w k ca cl cc) {Q : Ending → World → Prop}
    (h : ∀ (n : Int) (w' : World), 0 ≤ n → n ≤ 255 → Cur w' k ca cl cc → w.grownBy w' (some k) → Q (.returned (.int .i64 n)) w') :
    Calls Try.prog 52 #[.pointer (some ⟨k, 0, none⟩)] w Q :=
  (byte_any k ca cl cc w hc).mono fun e w' ⟨n, a, b, c, d, f⟩ => by subst c; exact h n w' a b d f

theorem below_any (k : Nat) (ca : Option Addr) (cl cc : Nat) (n : Int) (hn : 0 < n) (w : World) (hc : Cur w k ca cl cc) :
    Calls Try.prog 42 #[.pointer (some ⟨k, 0, none⟩), .int .i64 n] w (IntPost 0 (n - 1) w k ca cl cc) := by
  by_cases h256 : n ≤ 256
  · go_enter Try.func42, Try.ntmps42
    go_wp2_with fail
    refine byte_get k ca cl cc _ hc ?_
    intro x w1 x0 x1 hc1 g1
    have HG := Lib.hid g1; clear g1
    have HC := Lib.hid hc1; clear hc1
    go_wp2
    go_ret
    refine ⟨_, ?_, ?_, rfl, HC.out, HG.out⟩
    · exact Int.emod_nonneg _ (by omega)
    · have := Int.emod_lt_of_pos x hn; omega
  · go_enter Try.func42, Try.ntmps42
    go_wp2_with fail
    refine byte_get k ca cl cc _ hc ?_
    intro x w1 x0 x1 hc1 g1
    have HG := Lib.hid g1; clear g1
    go_wp2_with fail
    refine byte_get k ca cl cc _ hc1 ?_
    intro y w2 y0 y1 hc2 g2
    have HG2 := Lib.hid (grownBy_trans HG.out g2); clear g2
    go_wp2_with fail
    refine byte_get k ca cl cc _ hc2 ?_
    intro z w3 z0 z1 hc3 g3
    have HG3 := Lib.hid (grownBy_trans HG2.out g3); clear g3
    go_wp2_with fail
    refine byte_get k ca cl cc _ hc3 ?_
    intro v w4 v0 v1 hc4 g4
    have HG4 := Lib.hid (grownBy_trans HG3.out g4); clear g4
    go_wp2
    go_ret
    refine ⟨_, ?_, ?_, rfl, hc4, HG4.out⟩
    · exact Int.emod_nonneg _ (by omega)
    · have := Int.emod_lt_of_pos (x * 16777216 + y * 65536 + z * 256 + v) hn; omega

/-- A number from 0 to n-1 drawn, taken apart: for the walk. -/
theorem below_get (k : Nat) (ca : Option Addr) (cl cc : Nat) (n : Int) (hn : 0 < n) (w : World) (hc : Cur w k ca cl cc) {Q : Ending → World → Prop}
    (h : ∀ (x : Int) (w' : World), 0 ≤ x → x < n → Cur w' k ca cl cc → w.grownBy w' (some k) → Q (.returned (.int .i64 x)) w') :
    Calls Try.prog 42 #[.pointer (some ⟨k, 0, none⟩), .int .i64 n] w Q :=
  (below_any k ca cl cc n hn w hc).mono fun e w' ⟨n, a, b, c, d, f⟩ => by subst c; exact h n w' a (by omega) d f

/-- The bytes that a cursor is laid over. -/
def RowIn (w : World) (ca : Option Addr) (cl : Nat) : Prop :=
  ∀ j, j < cl → ∃ b off, ca = some ⟨b, off, none⟩ ∧ b < w.heap.size ∧ ∃ x : Int, 0 ≤ x ∧ x ≤ 255 ∧ w.cell? ⟨b, off + j, none⟩ = some (.int .u8 x)

theorem RowIn.row {w w' : World} {ca : Option Addr} {cl k : Nat} (h : RowIn w ca cl) (hk : w.heap.size ≤ k) (g : w.grownBy w' (some k)) : Row w' ca cl k := by
  intro j hj
  obtain ⟨b, off, e, hlt, x, h0, h1, hx⟩ := h j hj
  exact ⟨b, off, e, by omega, Nat.lt_of_lt_of_le hlt g.size, x, h0, h1, g.cell hx (by simp; omega)⟩

theorem rowIn_of {w : World} {a : Option Addr} {len cap : Nat} {zs : List Int} (h : (a = none ∧ len = 0 ∧ cap = 0 ∧ zs = []) ∨
    ∃ x, a = some x ∧ len ≤ cap ∧ cap ≤ maxLen ∧ zs.length = cap ∧ (∀ i, i < zs.length → w.cell? (x.add i) = some (.int .u8 (zs.getD i 0))) ∧ ∀ n ∈ zs, (Lit.int .u8 n).wf = true) :
    len ≤ maxLen ∧ RowIn w a len := by
  rcases h with ⟨rfl, rfl, rfl, rfl⟩ | ⟨x, rfl, hl, hm, hz, hcell, hwz⟩
  · exact ⟨Nat.zero_le _, fun j hj => by omega⟩
  · refine ⟨by omega, fun j hj => ?_⟩
    obtain ⟨b, off, spot⟩ := x
    have hc0 := hcell 0 (by omega)
    have hspot : spot = none := by simpa [Addr.add] using World.cell?_spot hc0
    subst hspot
    have hc := hcell j (by omega)
    have hc' : w.cell? ⟨b, off + j, none⟩ = some (.int .u8 (zs.getD j 0)) := by
      by_cases h0 : j = 0
      · subst h0; simpa [Addr.add] using hc
      · simpa [Addr.add, h0] using hc
    have hj' : j < zs.length := by omega
    have hg : zs.getD j 0 = zs[j] := by simp [hj']
    have hw := hwz (zs.getD j 0) (by rw [hg]; exact List.getElem_mem _)
    have hb := bounds_u8 hw
    exact ⟨b, off, rfl, World.block_lt_of_cell? _ _ hc', zs.getD j 0, by omega, by omega, hc'⟩

theorem heap_new (w : World) (o : Obj) : (w.alloc o).heap[w.heap.size]? = some o := by
  show (w.heap.push o)[w.heap.size]? = some o
  simp

theorem new_end {w : World} {ca : Option Addr} {cl cc : Nat} (x : Int) (hm : cl ≤ maxLen) (hr : RowIn w ca cl) {Q : Ending → World → Prop}
    (h : ∀ (k : Nat) (w' : World), w.heap.size ≤ k → k < w'.heap.size → Cur w' k ca cl cc → Below w.heap.size w w' → Q (.returned (.pointer (some ⟨k, 0, none⟩))) w') :
    Q (.returned (.pointer (some ⟨w.heap.size, 0, none⟩))) (w.alloc (.cells #[.slice ca cl cc, .int .i64 0, .int .i64 x] 64 (0, 0))) :=
  h _ _ (Nat.le_refl _) (by simp) ⟨hm, hr.row (Nat.le_refl _) (World.grownBy_alloc w _ _), 0, x, by omega, by omega, heap_new w _⟩ ((Below.refl _ _).alloc (Nat.le_refl _) _)

set_option maxRecDepth 100000 in
theorem new_get (ca : Option Addr) (cl cc : Nat) (w : World) (hm : cl ≤ maxLen) (hr : RowIn w ca cl) {Q : Ending → World → Prop}
    (h : ∀ (k : Nat) (w' : World), w.heap.size ≤ k → k < w'.heap.size → Cur w' k ca cl cc → Below w.heap.size w w' → Q (.returned (.pointer (some ⟨k, 0, none⟩))) w') :
    Calls Try.prog 31 #[.slice ca cl cc] w Q := by
  have H := Lib.hid h; clear h
  have HR := Lib.hid hr; clear hr
  have hm' := hm
  unfold maxLen at hm'
  go_enter Try.func31, Try.ntmps31
  go_wp2_with fail
  go_loop [3, 4] (fun h i => ∃ (x : Int) (n : Nat), n ≤ cl ∧ i = .int .i64 n ∧ h = .int .i64 x) (fun _ i => cl - (intOf i).toNat)
  case atStart => exact ⟨_, 0, Nat.zero_le _, rfl, rfl⟩
  case round =>
    obtain ⟨x, n, hn, rfl, rfl⟩ := hrel
    by_cases hlt : n < cl
    · obtain ⟨b, off, rfl, hbs, y, hy0, hy1, hcy⟩ := HR.out n hlt
      by_cases h4 : n < 4000
      · go_wp2
        refine ⟨⟨_, n + 1, by omega, by go_num, rfl⟩, by simp [intOf]; omega⟩
      · go_wp2
        exact new_end _ hm HR.out H.out
    · go_wp2
      all_goals exact new_end _ hm HR.out H.out

theorem Cur.lt {w : World} {k : Nat} {ca : Option Addr} {cl cc : Nat} (h : Cur w k ca cl cc) : k < w.heap.size := by
  obtain ⟨_, _, i, h, _, _, hb⟩ := h
  exact (Array.getElem?_eq_some_iff.1 hb).1

theorem Cur.kept {w w' : World} {k : Nat} {ca : Option Addr} {cl cc : Nat} (h : Cur w k ca cl cc) {row : Option Nat} (g : w.grownBy w' row) (hne : some k ≠ row)
    (hrow : ∀ b, b < k → some b ≠ row) : Cur w' k ca cl cc := by
  have hk := h.lt
  obtain ⟨hm, hr, i, x, h0, h1, hb⟩ := h
  refine ⟨hm, fun j hj => ?_, i, x, h0, h1, by rw [g.block k hk hne]; exact hb⟩
  obtain ⟨b, off, e, hbk, hlt, y, y0, y1, hy⟩ := hr j hj
  exact ⟨b, off, e, hbk, Nat.lt_of_lt_of_le hlt g.size, y, y0, y1, g.cell hy (hrow b hbk)⟩

theorem Cur.alloc {w : World} {k : Nat} {ca : Option Addr} {cl cc : Nat} (h : Cur w k ca cl cc) (o : Obj) : Cur (w.alloc o) k ca cl cc :=
  h.kept (World.grownBy_alloc w o none) (by simp) (by simp)

theorem below_of_grown {B : Nat} {a w w' : World} {k : Nat} (h : Below B a w) (g : w.grownBy w' (some k)) (hB : B ≤ k) (hk : k < w.heap.size) : Below B a w' :=
  h.grown g (by omega) (fun j e => by cases e; exact hB)

end Go.Proofs.Ytfhpbgmnekhfeaa.Draw

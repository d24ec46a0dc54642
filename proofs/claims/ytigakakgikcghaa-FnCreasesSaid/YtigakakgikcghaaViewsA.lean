/- Texts of mine, laid into one (printed by wip/merge_tpl.py): Draw, DrawStrip, DrawCard, DrawCard2, DrawCard3, Big. -/
import Derived.Test.YtigakakgikcghaaChecked
import Derived.WalkKit
import Derived.ProofKit
import Derived.WalkLawsBesides
import Derived.Below
import Derived.IntWalk
import Derived.BigQuiet
import Derived.Deep.QuietTactic
import Derived.Lib.Hide
import Derived.Outline
import Derived.OpenShut
import Derived.Test.YtigakakgikcghaaStrip
import Derived.Test.YtigakakgikcghaaStripMany
import Derived.Test.YtigakakgikcghaaCardEnd
import Derived.Test.YtigakakgikcghaaAppAny
/- The cursor over a draw: what spec.l01New, l01Byte, l01Below, l01Once, l01PickInt, l01Pick, l01Text, l01Long and l01Number return and leave alone. -/
namespace Go.Proofs.Ytigakakgikcghaa.Draw
open Go.ChangeShapes Go.WideShapes Go.ChangeAt Go.RowKit
set_option linter.unusedVariables false

theorem ret_int {k : IntKind} {a b : Int} (h : a = b) : Ending.returned (.int k a) = .returned (.int k b) := by rw [h]

theorem i64_and255 (n : Int) : bits .and .i64 n 255 = n % 256 := by
  have h255 : (BitVec.ofInt 64 255).toNat = 2 ^ 8 - 1 := by decide
  have key : (BitVec.ofInt 64 n &&& BitVec.ofInt 64 255).toNat = (n % ((2 ^ 64 : Nat) : Int)).toNat % 2 ^ 8 := by
    rw [BitVec.toNat_and, BitVec.toNat_ofInt, h255, Nat.and_two_pow_sub_one_eq_mod]
  show IntKind.i64.wrap ((BitVec.ofInt 64 n &&& BitVec.ofInt 64 255).toNat : Nat) = n % 256
  rw [key, IntKind.wrap_i64]
  omega

/-- The bytes that the cursor reads: in a block ahead of the cursor's own. -/
def Row (w : World) (ca : Option Addr) (cl : Nat) (k : Nat) : Prop :=
  ∀ j, j < cl → ∃ b off, ca = some ⟨b, off, none⟩ ∧ b < k ∧ b < w.heap.size ∧ ∃ x : Int, 0 ≤ x ∧ x ≤ 255 ∧ w.cell? ⟨b, off + j, none⟩ = some (.int .u8 x)

/-- A cursor in block k over the slice (ca, cl, cc). -/
def Cur (w : World) (k : Nat) (ca : Option Addr) (cl cc : Nat) : Prop :=
  cl ≤ maxLen ∧ Row w ca cl k ∧ ∃ i h : Int, 0 ≤ i ∧ i ≤ cl ∧ w.heap[k]? = some (.cells #[.slice ca cl cc, .int .i64 i, .int .i64 h] 64 (0, 0))

/-- A number from lo to hi is returned, the cursor stays one, and only its block is written. -/
def IntPost (lo hi : Int) (w : World) (k : Nat) (ca : Option Addr) (cl cc : Nat) (e : Ending) (w' : World) : Prop :=
  ∃ n : Int, lo ≤ n ∧ n ≤ hi ∧ e = .returned (.int .i64 n) ∧ Cur w' k ca cl cc ∧ w.grownBy w' (some k)

theorem heap_setCell_at (w : World) (k j : Nat) (cs : Array Value) (T : TypeId) (m : Nat × Nat) (v : Value) (h : w.heap[k]? = some (.cells cs T m)) :
    (w.setCell ⟨k, j, none⟩ v).heap[k]? = some (.cells (cs.setIfInBounds j v) T m) := by
  simp [World.setCell, Array.getElem?_modify, h]

theorem grownBy_setCell (w : World) (k j : Nat) (v : Value) : w.grownBy (w.setCell ⟨k, j, none⟩ v) (some k) :=
  ⟨rfl, rfl, rfl, by simp [World.setCell], fun b hb hne => Below.heap_setCell _ _ _ _ (fun e => hne (by rw [e]))⟩

theorem grownBy_drewN (w : World) (n : Nat) (row : Option Nat) : w.grownBy (w.drewN n) row := ⟨rfl, rfl, rfl, Nat.le_refl _, fun _ _ _ => rfl⟩

theorem grownBy_trans {a b c : World} {row : Option Nat} (h : a.grownBy b row) (g : b.grownBy c row) : a.grownBy c row :=
  ⟨g.os.trans h.os, g.tape.trans h.tape, g.output.trans h.output, Nat.le_trans h.size g.size,
    fun k hk hne => (g.block k (Nat.lt_of_lt_of_le hk h.size) hne).trans (h.block k hk hne)⟩

theorem Row.kept {w w' : World} {ca : Option Addr} {cl k : Nat} (h : Row w ca cl k) (g : w.grownBy w' (some k)) : Row w' ca cl k := by
  intro j hj
  obtain ⟨b, off, e, hne, hlt, x, h0, h1, hx⟩ := h j hj
  exact ⟨b, off, e, hne, Nat.lt_of_lt_of_le hlt g.size, x, h0, h1, g.cell hx (by simp; omega)⟩

theorem cur_of {w W : World} {k : Nat} {ca : Option Addr} {cl cc : Nat} {i h : Int} (hm : cl ≤ maxLen) (hrow : Row w ca cl k) (h0 : 0 ≤ i) (h1 : i ≤ cl)
    (g : w.grownBy W (some k)) (hW : W.heap[k]? = some (.cells #[.slice ca cl cc, .int .i64 i, .int .i64 h] 64 (0, 0))) : Cur W k ca cl cc ∧ w.grownBy W (some k) :=
  ⟨⟨hm, hrow.kept g, i, h, h0, h1, hW⟩, g⟩

theorem and_lo (x : Int) : 0 ≤ bits .and .i64 x 255 := by rw [i64_and255]; omega
theorem and_hi (x : Int) : bits .and .i64 x 255 ≤ 255 := by rw [i64_and255]; omega

theorem byte_any (k : Nat) (ca : Option Addr) (cl cc : Nat) (w : World) (hc : Cur w k ca cl cc) :
    Calls Try.prog 64 #[.pointer (some ⟨k, 0, none⟩)] w (IntPost 0 255 w k ca cl cc) := by
  obtain ⟨hm, hrow, i, h, hi0, hil, hb⟩ := hc
  have hm' := hm
  unfold maxLen at hm'
  obtain ⟨n, rfl⟩ := Int.eq_ofNat_of_zero_le hi0
  have c0 : w.cell? ⟨k, 0, none⟩ = some (.slice ca cl cc) := by simp [World.cell?, hb]
  have c1 : w.cell? ⟨k, 1, none⟩ = some (.int .i64 n) := by simp [World.cell?, hb]
  have c2 : w.cell? ⟨k, 2, none⟩ = some (.int .i64 h) := by simp [World.cell?, hb]
  have f1 : w.frozen? ⟨k, 1, none⟩ = false := by simp [World.frozen?, hb]
  have f2 : w.frozen? ⟨k, 2, none⟩ = false := by simp [World.frozen?, hb]
  have HB := Lib.hid hb; clear hb
  have HR := Lib.hid hrow; clear hrow
  by_cases hlt : n < cl
  · obtain ⟨b, off, rfl, hbk, hbs, x, hx0, hx1, hcx⟩ := HR.out n hlt
    go_enter Try.func64, Try.ntmps64
    go_wp2_with fail
    generalize wrap64 (wrap64 (h * 6364136223846793005) + 1442695040888963407) = h1
    have hcx' : (w.setCell ⟨k, 2, none⟩ (.int .i64 h1)).cell? ⟨b, off + n, none⟩ = some (.int .u8 x) := (grownBy_setCell w k 2 _).cell hcx (by simp; omega)
    go_quiet (fail)
    go_wp2_with fail
    go_quiet (fail)
    go_wp2_with fail
    go_quiet (fail)
    go_wp2
    go_ret
    refine ⟨_, and_lo _, and_hi _, rfl, cur_of (i := ((n + 1 : Nat) : Int)) (h := h1) hm HR.out (by omega) (by omega) ?_ ?_⟩
    · exact grownBy_trans (grownBy_trans (grownBy_setCell w k 2 (.int .i64 h1)) (grownBy_drewN _ _ _)) (grownBy_setCell _ k 1 (.int .i64 (n + 1)))
    · exact heap_setCell_at _ _ _ _ _ _ _ (heap_setCell_at _ _ _ _ _ _ _ HB.out)
  · have hd : decide ((n : Int) < (cl : Int)) = false := by simp; omega
    go_enter Try.func64, Try.ntmps64
    go_wp2_with fail
    generalize wrap64 (wrap64 (h * 6364136223846793005) + 1442695040888963407) = h1
    go_quiet (fail)
    go_wp2_with fail
    go_quiet (fail)
    go_wp2
    go_ret
    refine ⟨_, and_lo _, and_hi _, rfl, cur_of (i := n) (h := h1) hm HR.out (by omega) (by omega) ?_ ?_⟩
    · exact grownBy_trans (grownBy_trans (grownBy_setCell w k 2 (.int .i64 h1)) (grownBy_drewN _ _ _)) (grownBy_drewN _ _ _)
    · exact heap_setCell_at _ _ _ _ _ _ _ HB.out

theorem IntPost.trans {lo hi : Int} {w w1 w' : World} {k : Nat} {ca : Option Addr} {cl cc : Nat} {e : Ending} (g : w.grownBy w1 (some k)) (h : IntPost lo hi w1 k ca cl cc e w') : IntPost lo hi w k ca cl cc e w' := by
  obtain ⟨n, a, b, c, d, f⟩ := h
  exact ⟨n, a, b, c, d, grownBy_trans g f⟩

/-- One drawn number, taken apart: for the walk. -/
theorem byte_get (k : Nat) (ca : Option Addr) (cl cc : Nat) (w : World) (hc : Cur w k ca cl cc) {Q : Ending → World → Prop}
    (h : ∀ (n : Int) (w' : World), 0 ≤ n → n ≤ 255 → Cur w' k ca cl cc → w.grownBy w' (some k) → Q (.returned (.int .i64 n)) w') :
    Calls Try.prog 64 #[.pointer (some ⟨k, 0, none⟩)] w Q :=
  (byte_any k ca cl cc w hc).mono fun e w' ⟨n, a, b, c, d, f⟩ => by subst c; exact h n w' a b d f

theorem below_any (k : Nat) (ca : Option Addr) (cl cc : Nat) (n : Int) (hn : 0 < n) (w : World) (hc : Cur w k ca cl cc) :
    Calls Try.prog 50 #[.pointer (some ⟨k, 0, none⟩), .int .i64 n] w (IntPost 0 (n - 1) w k ca cl cc) := by
  by_cases h256 : n ≤ 256
  · go_enter Try.func50, Try.ntmps50
    go_wp2_with fail
    refine byte_get k ca cl cc _ hc ?_
    intro x w1 x0 x1 hc1 g1
    have HG := Lib.hid g1; clear g1
    have HC := Lib.hid hc1; clear hc1
    go_wp2
    go_ret
    refine ⟨_, ?_, ?_, rfl, HC.out, HG.out⟩
    · exact Int.emod_nonneg _ (by omega)
    · have := Int.emod_lt_of_pos x hn; omega
  · go_enter Try.func50, Try.ntmps50
    go_wp2_with fail
    refine byte_get k ca cl cc _ hc ?_
    intro x w1 x0 x1 hc1 g1
    have HG := Lib.hid g1; clear g1
    go_wp2_with fail
    refine byte_get k ca cl cc _ hc1 ?_
    intro y w2 y0 y1 hc2 g2
    have HG2 := Lib.hid (grownBy_trans HG.out g2); clear g2
    go_wp2_with fail
    refine byte_get k ca cl cc _ hc2 ?_
    intro z w3 z0 z1 hc3 g3
    have HG3 := Lib.hid (grownBy_trans HG2.out g3); clear g3
    go_wp2_with fail
    refine byte_get k ca cl cc _ hc3 ?_
    intro v w4 v0 v1 hc4 g4
    have HG4 := Lib.hid (grownBy_trans HG3.out g4); clear g4
    go_wp2
    go_ret
    refine ⟨_, ?_, ?_, rfl, hc4, HG4.out⟩
    · exact Int.emod_nonneg _ (by omega)
    · have := Int.emod_lt_of_pos (x * 16777216 + y * 65536 + z * 256 + v) hn; omega

/-- A number from 0 to n-1 drawn, taken apart: for the walk. -/
theorem below_get (k : Nat) (ca : Option Addr) (cl cc : Nat) (n : Int) (hn : 0 < n) (w : World) (hc : Cur w k ca cl cc) {Q : Ending → World → Prop}
    (h : ∀ (x : Int) (w' : World), 0 ≤ x → x < n → Cur w' k ca cl cc → w.grownBy w' (some k) → Q (.returned (.int .i64 x)) w') :
    Calls Try.prog 50 #[.pointer (some ⟨k, 0, none⟩), .int .i64 n] w Q :=
  (below_any k ca cl cc n hn w hc).mono fun e w' ⟨n, a, b, c, d, f⟩ => by subst c; exact h n w' a (by omega) d f

/-- The bytes that a cursor is laid over. -/
def RowIn (w : World) (ca : Option Addr) (cl : Nat) : Prop :=
  ∀ j, j < cl → ∃ b off, ca = some ⟨b, off, none⟩ ∧ b < w.heap.size ∧ ∃ x : Int, 0 ≤ x ∧ x ≤ 255 ∧ w.cell? ⟨b, off + j, none⟩ = some (.int .u8 x)

theorem RowIn.row {w w' : World} {ca : Option Addr} {cl k : Nat} (h : RowIn w ca cl) (hk : w.heap.size ≤ k) (g : w.grownBy w' (some k)) : Row w' ca cl k := by
  intro j hj
  obtain ⟨b, off, e, hlt, x, h0, h1, hx⟩ := h j hj
  exact ⟨b, off, e, by omega, Nat.lt_of_lt_of_le hlt g.size, x, h0, h1, g.cell hx (by simp; omega)⟩

theorem rowIn_of {w : World} {a : Option Addr} {len cap : Nat} {zs : List Int} (h : (a = none ∧ len = 0 ∧ cap = 0 ∧ zs = []) ∨
    ∃ x, a = some x ∧ len ≤ cap ∧ cap ≤ maxLen ∧ zs.length = cap ∧ (∀ i, i < zs.length → w.cell? (x.add i) = some (.int .u8 (zs.getD i 0))) ∧ ∀ n ∈ zs, (Lit.int .u8 n).wf = true) :
    len ≤ maxLen ∧ RowIn w a len := by
  rcases h with ⟨rfl, rfl, rfl, rfl⟩ | ⟨x, rfl, hl, hm, hz, hcell, hwz⟩
  · exact ⟨Nat.zero_le _, fun j hj => by omega⟩
  · refine ⟨by omega, fun j hj => ?_⟩
    obtain ⟨b, off, spot⟩ := x
    have hc0 := hcell 0 (by omega)
    have hspot : spot = none := by simpa [Addr.add] using World.cell?_spot hc0
    subst hspot
    have hc := hcell j (by omega)
    have hc' : w.cell? ⟨b, off + j, none⟩ = some (.int .u8 (zs.getD j 0)) := by
      by_cases h0 : j = 0
      · subst h0; simpa [Addr.add] using hc
      · simpa [Addr.add, h0] using hc
    have hj' : j < zs.length := by omega
    have hg : zs.getD j 0 = zs[j] := by simp [hj']
    have hw := hwz (zs.getD j 0) (by rw [hg]; exact List.getElem_mem _)
    have hb := bounds_u8 hw
    exact ⟨b, off, rfl, World.block_lt_of_cell? _ _ hc', zs.getD j 0, by omega, by omega, hc'⟩

theorem heap_new (w : World) (o : Obj) : (w.alloc o).heap[w.heap.size]? = some o := by
  show (w.heap.push o)[w.heap.size]? = some o
  simp

theorem new_end {w : World} {ca : Option Addr} {cl cc : Nat} (x : Int) (hm : cl ≤ maxLen) (hr : RowIn w ca cl) {Q : Ending → World → Prop}
    (h : ∀ (k : Nat) (w' : World), w.heap.size ≤ k → k < w'.heap.size → Cur w' k ca cl cc → Below w.heap.size w w' → Q (.returned (.pointer (some ⟨k, 0, none⟩))) w') :
    Q (.returned (.pointer (some ⟨w.heap.size, 0, none⟩))) (w.alloc (.cells #[.slice ca cl cc, .int .i64 0, .int .i64 x] 64 (0, 0))) :=
  h _ _ (Nat.le_refl _) (by simp) ⟨hm, hr.row (Nat.le_refl _) (World.grownBy_alloc w _ _), 0, x, by omega, by omega, heap_new w _⟩ ((Below.refl _ _).alloc (Nat.le_refl _) _)

set_option maxRecDepth 100000 in
theorem new_get (ca : Option Addr) (cl cc : Nat) (w : World) (hm : cl ≤ maxLen) (hr : RowIn w ca cl) {Q : Ending → World → Prop}
    (h : ∀ (k : Nat) (w' : World), w.heap.size ≤ k → k < w'.heap.size → Cur w' k ca cl cc → Below w.heap.size w w' → Q (.returned (.pointer (some ⟨k, 0, none⟩))) w') :
    Calls Try.prog 27 #[.slice ca cl cc] w Q := by
  have H := Lib.hid h; clear h
  have HR := Lib.hid hr; clear hr
  have hm' := hm
  unfold maxLen at hm'
  go_enter Try.func27, Try.ntmps27
  go_wp2_with fail
  go_loop [3, 4] (fun h i => ∃ (x : Int) (n : Nat), n ≤ cl ∧ i = .int .i64 n ∧ h = .int .i64 x) (fun _ i => cl - (intOf i).toNat)
  case atStart => exact ⟨_, 0, Nat.zero_le _, rfl, rfl⟩
  case round =>
    obtain ⟨x, n, hn, rfl, rfl⟩ := hrel
    by_cases hlt : n < cl
    · obtain ⟨b, off, rfl, hbs, y, hy0, hy1, hcy⟩ := HR.out n hlt
      by_cases h4 : n < 4000
      · go_wp2
        refine ⟨⟨_, n + 1, by omega, by go_num, rfl⟩, by simp [intOf]; omega⟩
      · go_wp2
        exact new_end _ hm HR.out H.out
    · go_wp2
      all_goals exact new_end _ hm HR.out H.out

theorem Cur.lt {w : World} {k : Nat} {ca : Option Addr} {cl cc : Nat} (h : Cur w k ca cl cc) : k < w.heap.size := by
  obtain ⟨_, _, i, h, _, _, hb⟩ := h
  exact (Array.getElem?_eq_some_iff.1 hb).1

theorem Cur.kept {w w' : World} {k : Nat} {ca : Option Addr} {cl cc : Nat} (h : Cur w k ca cl cc) {row : Option Nat} (g : w.grownBy w' row) (hne : some k ≠ row)
    (hrow : ∀ b, b < k → some b ≠ row) : Cur w' k ca cl cc := by
  have hk := h.lt
  obtain ⟨hm, hr, i, x, h0, h1, hb⟩ := h
  refine ⟨hm, fun j hj => ?_, i, x, h0, h1, by rw [g.block k hk hne]; exact hb⟩
  obtain ⟨b, off, e, hbk, hlt, y, y0, y1, hy⟩ := hr j hj
  exact ⟨b, off, e, hbk, Nat.lt_of_lt_of_le hlt g.size, y, y0, y1, g.cell hy (hrow b hbk)⟩

theorem Cur.alloc {w : World} {k : Nat} {ca : Option Addr} {cl cc : Nat} (h : Cur w k ca cl cc) (o : Obj) : Cur (w.alloc o) k ca cl cc :=
  h.kept (World.grownBy_alloc w o none) (by simp) (by simp)

theorem below_of_grown {B : Nat} {a w w' : World} {k : Nat} (h : Below B a w) (g : w.grownBy w' (some k)) (hB : B ≤ k) (hk : k < w.heap.size) : Below B a w' :=
  h.grown g (by omega) (fun j e => by cases e; exact hB)

end Go.Proofs.Ytigakakgikcghaa.Draw

/- What spec.l02Draw, l02Strip and DrawStrip return: a strip with a frame. -/
namespace Go.Proofs.Ytigakakgikcghaa.Draw
open Go.ChangeShapes Go.WideShapes Go.ChangeAt Go.RowKit
open Go.Proofs.Ytigakakgikcghaa.Strip
set_option linter.unusedVariables false

theorem cat_lists (a b : List UInt8) : (⟨a.toArray⟩ : ByteArray) ++ ⟨b.toArray⟩ = ⟨(a ++ b).toArray⟩ := by
  apply ByteArray.ext
  simp [ByteArray.data_append]

set_option maxRecDepth 100000 in
theorem draw_get (k : Nat) (ca : Option Addr) (cl cc : Nat) (d f : Nat) (hd : d ≤ 8) (hf : f ≤ 8) (w : World) (hc : Cur w k ca cl cc) {Q : Ending → World → Prop}
    (h : ∀ (l : List UInt8) (w' : World), okL l = true → cnt 100 l = d → cnt 102 l = f → Cur w' k ca cl cc → w.grownBy w' (some k) → Q (.returned (.string ⟨l.toArray⟩)) w') :
    Calls Try.prog 51 #[.pointer (some ⟨k, 0, none⟩), .int .i64 d, .int .i64 f] w Q := by
  have H := Lib.hid h; clear h
  have HC := Lib.hid hc; clear hc
  go_enter Try.func51, Try.ntmps51
  go_wp2_with fail
  go_loopw [1, 2, 7] (fun m n s wr => ∃ (a b : Nat) (l : List UInt8), a ≤ 8 ∧ b ≤ 8 ∧ l.length ≤ 16 ∧ m = .int .i64 a ∧ n = .int .i64 b ∧ s = .string ⟨l.toArray⟩ ∧ Hid (okL l = true ∧ cnt 100 l + a = d ∧ cnt 102 l + b = f) ∧ Hid (Cur wr k ca cl cc) ∧ Hid (w.grownBy wr (some k))) (fun m n _ _ => (intOf m).toNat + (intOf n).toNat)
  case atStart => exact ⟨d, f, [], hd, hf, by simp, rfl, rfl, rfl, Lib.hid ⟨rfl, by simp [cnt], by simp [cnt]⟩, HC, Lib.hid ⟨rfl, rfl, rfl, Nat.le_refl _, fun _ _ _ => rfl⟩⟩
  case round =>
    obtain ⟨a, b, l, ha, hb, hl, rfl, rfl, rfl, HL, HC1, HG1⟩ := hrel
    have hz : (⟨l.toArray⟩ : ByteArray).size = l.length := by simp [ByteArray.size]
    have hzd : (⟨#[100]⟩ : ByteArray).size = 1 := rfl
    have hzf : (⟨#[102]⟩ : ByteArray).size = 1 := rfl
    by_cases hpos : 0 < a + b
    · have hp : decide ((0 : Int) < (a : Int) + (b : Int)) = true := by simp; omega
      have hlen : l.length ≤ 15 := by
        have h1 := HL.out.1
        have h2 := cnt_sum l h1
        have h3 := HL.out.2
        omega
      go_wp2_with fail
      refine below_get k ca cl cc _ (by omega) _ HC1.out ?_
      intro x w1 x0 x1 hc1 g1
      have HC2 := Lib.hid hc1; clear hc1
      have HG2 := Lib.hid (grownBy_trans HG1.out g1); clear g1
      by_cases hx : x < (a : Int)
      · have ha1 : 1 ≤ a := by omega
        go_wp2
        go_roundw
        case rel =>
          refine ⟨a - 1, b, l ++ [100], by omega, hb, by simp; omega, by go_num, rfl, ?_, Lib.hid ⟨?_, ?_, ?_⟩, HC2, HG2⟩
          · have := cat_lists l [100]
            rw [← this]
          · rw [okL_snoc, HL.out.1]; rfl
          · have h3 := HL.out.2.1; rw [cnt_snoc, if_pos rfl]; omega
          · have h3 := HL.out.2.2; rw [cnt_snoc, if_neg (by decide)]; omega
        case measure => simp [intOf]; omega
      · have hx' : decide (x < (a : Int)) = false := by simpa using hx
        have hb1 : 1 ≤ b := by omega
        go_wp2
        go_roundw
        case rel =>
          refine ⟨a, b - 1, l ++ [102], ha, by omega, by simp; omega, rfl, by go_num, ?_, Lib.hid ⟨?_, ?_, ?_⟩, HC2, HG2⟩
          · have := cat_lists l [102]
            rw [← this]
          · rw [okL_snoc, HL.out.1]; rfl
          · have h3 := HL.out.2.1; rw [cnt_snoc, if_neg (by decide)]; omega
          · have h3 := HL.out.2.2; rw [cnt_snoc, if_pos rfl]; omega
        case measure => simp [intOf]; omega
    · have hp : decide ((0 : Int) < (a : Int) + (b : Int)) = false := by simp; omega
      have e1 : a = 0 := by omega
      have e2 : b = 0 := by omega
      subst e1; subst e2
      go_wp2
      exact H.out l _ HL.out.1 HL.out.2.1 HL.out.2.2 HC1.out HG1.out

theorem draw_int (k : Nat) (ca : Option Addr) (cl cc : Nat) (d f : Int) (hd0 : 0 ≤ d) (hd : d ≤ 8) (hf0 : 0 ≤ f) (hf : f ≤ 8) (w : World) (hc : Cur w k ca cl cc) {Q : Ending → World → Prop}
    (h : ∀ (l : List UInt8) (w' : World), okL l = true → (cnt 100 l : Int) = d → (cnt 102 l : Int) = f → Cur w' k ca cl cc → w.grownBy w' (some k) → Q (.returned (.string ⟨l.toArray⟩)) w') :
    Calls Try.prog 51 #[.pointer (some ⟨k, 0, none⟩), .int .i64 d, .int .i64 f] w Q := by
  obtain ⟨a, rfl⟩ := Int.eq_ofNat_of_zero_le hd0
  obtain ⟨b, rfl⟩ := Int.eq_ofNat_of_zero_le hf0
  exact draw_get k ca cl cc a b (by omega) (by omega) w hc fun l w' h1 h2 h3 h4 h5 => h l w' h1 (by omega) (by omega) h4 h5

end Go.Proofs.Ytigakakgikcghaa.Draw

/- What spec.l05Card and DrawCard return: a valid card of memory of its own. -/
namespace Go.Proofs.Ytigakakgikcghaa.Card
open Go.ChangeShapes Go.WideShapes Go.ChangeAt Go.RowKit
open Go.Proofs.Ytigakakgikcghaa.Strip Go.Proofs.Ytigakakgikcghaa.Strs Go.Proofs.Ytigakakgikcghaa.Draw
set_option linter.unusedVariables false

theorem good_of {l : List UInt8} {d f : Int} (h : okL l = true) (hd : (cnt 100 l : Int) = d) (hf : (cnt 102 l : Int) = f) (h1 : frameB d f = true) : goodB d f ⟨l.toArray⟩ = true := by
  subst hd; subst hf
  have hs : stripB l = true := by unfold stripB; rw [h, h1]; rfl
  unfold goodB numV
  simp [hs]

theorem cnt_rep (x y : UInt8) (n : Nat) : cnt x (List.replicate n y) = if x = y then n else 0 := by
  unfold cnt
  rw [List.count_replicate]
  by_cases e : x = y
  · subst e; simp
  · rw [if_neg e, if_neg (by simpa using fun e' => e e'.symm)]

theorem okL_rep (y : UInt8) (hy : y = 100 ∨ y = 102) (n : Nat) : okL (List.replicate n y) = true := by
  induction n with
  | zero => rfl
  | succ n ih =>
    rw [List.replicate_succ', okL_snoc, ih]
    rcases hy with rfl | rfl <;> rfl

theorem okL_append (a b : List UInt8) : okL (a ++ b) = (okL a && okL b) := by unfold okL; simp
theorem cnt_append (x : UInt8) (a b : List UInt8) : cnt x (a ++ b) = cnt x a + cnt x b := by unfold cnt; simp

theorem frame_pos {d f : Int} (h : frameB d f = true) : 1 ≤ d ∧ d ≤ 8 ∧ 1 ≤ f ∧ f ≤ 8 := by
  unfold frameB at h
  simp at h
  omega
theorem frame_mk {d f : Int} (h1 : 1 ≤ d) (h2 : d ≤ 8) (h3 : 1 ≤ f) (h4 : f ≤ 8) : frameB d f = true := by
  unfold frameB
  simp
  omega

theorem flat_good {d f : Int} (h : frameB d f = true) : goodB d f ⟨(flatL d f).toArray⟩ = true := by
  have hp := frame_pos h
  unfold flatL
  rw [if_pos h]
  refine good_of ?_ ?_ ?_ h
  · rw [okL_append, okL_rep 100 (.inl rfl), okL_rep 102 (.inr rfl)]; rfl
  · simp [cnt_append, cnt_rep]; omega
  · simp [cnt_append, cnt_rep]; omega
theorem high_good {d f : Int} (h : frameB d f = true) : goodB d f ⟨(highL d f).toArray⟩ = true := by
  have hp := frame_pos h
  unfold highL
  rw [if_pos h]
  refine good_of ?_ ?_ ?_ h
  · rw [okL_append, okL_rep 100 (.inl rfl), okL_rep 102 (.inr rfl)]; rfl
  · simp [cnt_append, cnt_rep]; omega
  · simp [cnt_append, cnt_rep]; omega

/-- Where the draw of a card stands. -/
def St (w : World) (k g0 g1 : Nat) (d f : Int) (a : Option Addr) (n c : Nat) (l : List ByteArray) (ca : Option Addr) (cl cc : Nat) (wr : World) : Prop :=
  (k < w.heap.size ∧ w.heap.size ≤ g0 ∧ w.heap.size ≤ g1 ∧ g0 ≠ g1) ∧ w.grownBy wr (some k) ∧ Cur wr k ca cl cc ∧ Var wr g0 0 0 (.slice none 0 0) ∧ Var wr g1 d f (.slice a n c) ∧ Own wr w.heap.size (.slice a n c) l

section
variable {w wr w' : World} {k g0 g1 : Nat} {d f : Int} {a : Option Addr} {n c : Nat} {l : List ByteArray} {ca : Option Addr} {cl cc : Nat}

/-- Something was drawn. -/
theorem St.draw (h : St w k g0 g1 d f a n c l ca cl cc wr) (hc : Cur w' k ca cl cc) (g : wr.grownBy w' (some k)) : St w k g0 g1 d f a n c l ca cl cc w' := by
  obtain ⟨⟨hk, h0, h1, h2⟩, hg, _, v0, v1, ho⟩ := h
  refine ⟨⟨hk, h0, h1, h2⟩, grownBy_trans hg g, hc, v0.grown g (by simp; omega), v1.grown g (by simp; omega), World.ownsRow.kept ho g (.inr fun e => ?_)⟩
  have := (ho.lt k e).1
  omega

/-- Nothing that stood was written. -/
theorem St.still (h : St w k g0 g1 d f a n c l ca cl cc wr) (hb : Below wr.heap.size wr w') : St w k g0 g1 d f a n c l ca cl cc w' := by
  obtain ⟨h0, hg, hc, v0, v1, ho⟩ := h
  exact ⟨h0, grownBy_trans hg (grown_below hb _), hc.kept (grown_below hb none) (by simp) (by simp), v0.below hb, v1.below hb, ho.below hb⟩

theorem St.lt (h : St w k g0 g1 d f a n c l ca cl cc wr) : w.heap.size ≤ wr.heap.size := h.2.1.size

/-- One strip more, in a row of the call's own. -/
theorem St.push (h : St w k g0 g1 d f a n c l ca cl cc wr) (s : ByteArray) (hn : n ≤ 100) :
    ∃ gg cap w6, (∀ ty, (Builtin.append_ #[24, 24] ty #[.slice a n c, .slice (some ⟨wr.heap.size, 0, none⟩) 1 1]).run Try.prog (wr.alloc (.cells #[.string s] 9)) = .ok (.slice (some ⟨gg, 0, none⟩) (n + 1) cap) w6) ∧
      Var w6 g1 d f (.slice a n c) ∧ St w k g0 g1 d f (some ⟨gg, 0, none⟩) (n + 1) cap (l ++ [s]) ca cl cc (w6.setCell ⟨g1, 2, none⟩ (.slice (some ⟨gg, 0, none⟩) (n + 1) cap)) := by
  obtain ⟨⟨hk, h0, h1, h2⟩, hg, hc, v0, v1, ho⟩ := h
  have hx := alloc_below wr (.cells #[.string s] 9)
  have ox := ho.below hx
  obtain ⟨gg, cap, w6, hr6, ho6, hg6⟩ := push_own (w := wr.alloc (.cells #[.string s] 9)) (b := wr.heap.size) (s := s) ox (heap_alloc_new wr _) (by omega) (Nat.le_trans hg.size hx.size)
  have v1' := (v1.below hx).written ox hg6
  have v0' := (v0.below hx).written ox hg6
  have hgk : ∀ row, (∀ b, row = some b → w.heap.size ≤ b) → ∀ {u u' : World}, w.grownBy u (some k) → u.grownBy u' row → w.grownBy u' (some k) := by
    intro row hrow u u' q q'
    refine ⟨q'.os.trans q.os, q'.tape.trans q.tape, q'.output.trans q.output, Nat.le_trans q.size q'.size, fun i hi hne => ?_⟩
    refine (q'.block i (Nat.lt_of_lt_of_le hi q.size) (fun e => ?_)).trans (q.block i hi hne)
    have := hrow i e.symm
    omega
  have e1 := hgk none (by simp) hg (grown_below hx none)
  have e2 := hgk _ (fun b e => (ox.lt b e).1) e1 hg6
  have e3 := hgk (some g1) (by simp; omega) e2 (grown_set w6 g1 2 (.slice (some ⟨gg, 0, none⟩) (n + 1) cap))
  have c1 := hc.kept (grown_below hx none) (by simp) (by simp)
  have c2 := c1.kept hg6 (fun e => by have := (ox.lt k e.symm).1; omega) (fun b hb e => by have := (ox.lt b e.symm).1; omega)
  have c3 := c2.kept (grown_set w6 g1 2 (.slice (some ⟨gg, 0, none⟩) (n + 1) cap)) (by simp; omega) (fun b hb => by simp; omega)
  exact ⟨gg, cap, w6, hr6, v1', ⟨hk, h0, h1, h2⟩, e3, c3, v0'.other h2, v1'.set1 _, Own.aside ho6 v1'⟩

/-- The result's variable is written, and the card is handed over. -/
theorem St.end (h : St w k g0 g1 d f a n c l ca cl cc wr) : ∃ Z, Z = Card.set3 wr g0 d f (.slice a n c) ∧ Var Z g0 d f (.slice a n c) ∧ Cur Z k ca cl cc ∧ w.grownBy Z (some k) ∧ Own Z w.heap.size (.slice a n c) l := by
  obtain ⟨⟨hk, h0, h1, h2⟩, hg, hc, v0, v1, ho⟩ := h
  have step : ∀ {u : World} (j : Nat) (x : Value), Cur u k ca cl cc ∧ w.grownBy u (some k) → Cur (u.setCell ⟨g0, j, none⟩ x) k ca cl cc ∧ w.grownBy (u.setCell ⟨g0, j, none⟩ x) (some k) := by
    intro u j x q
    have hs := grown_set u g0 j x
    refine ⟨q.1.kept hs (by simp; omega) (fun b hb => by simp; omega), hs.os.trans q.2.os, hs.tape.trans q.2.tape, hs.output.trans q.2.output, Nat.le_trans q.2.size hs.size, fun i hi hne => ?_⟩
    refine (hs.block i (Nat.lt_of_lt_of_le hi q.2.size) (by simp; omega)).trans (q.2.block i hi hne)
  have q := step 2 (.slice a n c) (step 1 (.int .i64 f) (step 0 (.int .i64 d) ⟨hc, hg⟩))
  exact ⟨_, rfl, v0.set3 _ _ _, q.1, q.2, Own.aside3 ho v0⟩

theorem St.begin (w : World) {w2 : World} {k : Nat} (hk : k < w.heap.size) (d f : Int) (hc : Cur w2 k ca cl cc) (g : (w.alloc (.cells #[.int .i64 0, .int .i64 0, .slice none 0 0] 26)).grownBy w2 (some k)) :
    St w k w.heap.size w2.heap.size d f none 0 0 [] ca cl cc (w2.alloc (.cells #[.int .i64 d, .int .i64 f, .slice none 0 0] 26)) := by
  have hsz := g.size
  simp at hsz
  have v0 := (Var.new w 0 0 (.slice none 0 0)).grown g (by simp; omega)
  refine ⟨⟨hk, Nat.le_refl _, by omega, by omega⟩, ?_, hc.alloc _, v0.below (alloc_below _ _), Var.new w2 d f _, Own.nil _ _⟩
  exact grownBy_trans (grownBy_trans (World.grownBy_alloc w _ _) g) (World.grownBy_alloc w2 _ _)
end
end Go.Proofs.Ytigakakgikcghaa.Card

/- What spec.l05Card and DrawCard return: the walks. -/
namespace Go.Proofs.Ytigakakgikcghaa.Card
open Go.ChangeShapes Go.WideShapes Go.ChangeAt Go.RowKit
open Go.Proofs.Ytigakakgikcghaa.Strip Go.Proofs.Ytigakakgikcghaa.Strs Go.Proofs.Ytigakakgikcghaa.Draw
set_option linter.unusedVariables false

theorem grow_good {d f : Int} {l : List ByteArray} {j : Nat} {s : ByteArray} (h : l.length = j ∧ ∀ s ∈ l, goodB d f s = true) (hs : goodB d f s = true) : (l ++ [s]).length = j + 1 ∧ ∀ t ∈ l ++ [s], goodB d f t = true := by
  refine ⟨by simp [h.1], fun t ht => ?_⟩
  rcases List.mem_append.1 ht with h1 | h1
  · exact h.2 t h1
  · rw [List.mem_singleton.1 h1]; exact hs

set_option maxRecDepth 100000 in
set_option maxHeartbeats 2000000 in
theorem card_get (k : Nat) (ca : Option Addr) (cl cc : Nat) (w : World) (hk : k < w.heap.size) (hc : Cur w k ca cl cc) {Q : Ending → World → Prop}
    (h : ∀ (d f : Int) (a : Option Addr) (c : Nat) (l : List ByteArray) (w' : World), d ≤ 4 → f ≤ 4 → l.length ≤ 6 → cardB d f l = true → Cur w' k ca cl cc → w.grownBy w' (some k) → Own w' w.heap.size (.slice a l.length c) l →
      Q (.returned (.agg #[.int .i64 d, .int .i64 f, .slice a l.length c])) w') :
    Calls Try.prog 26 #[.pointer (some ⟨k, 0, none⟩)] w Q := by
  have H := Lib.hid h; clear h
  have HC := Lib.hid hc; clear hc
  go_enter Try.func26, Try.ntmps26
  go_wp2_with fail
  refine below_get k ca cl cc 4 (by omega) _ (HC.out.alloc _) ?_
  intro x w1 x0 x1 hc1 g1
  have HC1 := Lib.hid hc1; clear hc1
  have HG1 := Lib.hid g1; clear g1
  go_wp2_with fail
  refine below_get k ca cl cc 4 (by omega) _ HC1.out ?_
  intro y w2 y0 y1 hc2 g2
  have HS := Lib.hid (St.begin w hk (1 + x) (1 + y) hc2 (grownBy_trans HG1.out g2))
  clear hc2 g2 HG1
  obtain ⟨d, hd⟩ : ∃ d, 1 + x = d := ⟨_, rfl⟩
  obtain ⟨f, hf⟩ : ∃ f, 1 + y = f := ⟨_, rfl⟩
  rw [hd, hf] at HS
  have hd1 : 1 ≤ d := by omega
  have hd4 : d ≤ 4 := by omega
  have hf1 : 1 ≤ f := by omega
  have hf4 : f ≤ 4 := by omega
  go_wp2_with fail
  try rw [hd, hf]
  clear hd hf x0 x1 y0 y1
  obtain ⟨g1, hg1⟩ : ∃ g1, w2.heap.size = g1 := ⟨_, rfl⟩
  rw [hg1] at HS
  rw [hg1]
  clear hg1
  generalize w2.alloc (.cells #[.int .i64 d, .int .i64 f, .slice none 0 0] 26) = W at *
  refine below_get k ca cl cc 6 (by omega) _ HS.out.2.2.1 ?_
  intro z w3 z0 z1 hc3 g3
  have HS3 := Lib.hid (HS.out.draw hc3 g3)
  clear hc3 g3 HS
  go_wp2_with fail
  go_loopw [5] (fun i wr => ∃ (j : Nat) (a : Option Addr) (c : Nat) (l : List ByteArray), (j : Int) ≤ 1 + z ∧ i = .int .i64 (j : Int) ∧ Hid (St w k w.heap.size g1 d f a j c l ca cl cc wr) ∧ Hid (l.length = j ∧ ∀ s ∈ l, goodB d f s = true)) (fun i _ => (1 + z - intOf i).toNat)
  case atStart => exact ⟨0, none, 0, [], by omega, rfl, HS3, Lib.hid ⟨rfl, by simp⟩⟩
  case round =>
    obtain ⟨j, a, c, l, hj, rfl, HSJ, HL⟩ := hrel
    have hj0 : (0 : Int) ≤ (j : Int) := Int.natCast_nonneg _
    by_cases hlt : (j : Int) < 1 + z
    · have hd0 : decide ((j : Int) < 1 + z) = true := decide_eq_true hlt
      obtain ⟨k0, k1, k2⟩ := HSJ.out.2.2.2.2.1.cells
      go_wp2_with fail
      refine draw_int k ca cl cc d f (by omega) (by omega) (by omega) (by omega) _ HSJ.out.2.2.1 ?_
      intro s w4 hok hsd hsf hc4 g4
      have HGS := Lib.hid (good_of hok hsd hsf (frame_mk hd1 (by omega) hf1 (by omega)))
      have HS4 := Lib.hid (HSJ.out.draw hc4 g4)
      clear hc4 g4 hok hsd hsf HSJ k0 k1 k2
      go_wp2_with fail
      refine below_get k ca cl cc 4 (by omega) _ HS4.out.2.2.1 ?_
      intro v w5 v0 v1 hc5 g5
      have HS5 := Lib.hid (HS4.out.draw hc5 g5)
      clear hc5 g5 HS4
      obtain ⟨k0, k1, k2⟩ := HS5.out.2.2.2.2.1.cells
      by_cases hv0 : v = 0
      · subst hv0
        go_wp2_with fail
        refine (flat_spec d f _).mono ?_
        rintro e w5 ⟨rfl, hb5⟩
        have HS5 := Lib.hid (HS5.out.still hb5)
        have HGS := Lib.hid (flat_good (frame_mk hd1 (show d ≤ 8 by omega) hf1 (show f ≤ 8 by omega)))
        clear hb5 k0 k1 k2
        obtain ⟨k0, k1, k2⟩ := HS5.out.2.2.2.2.1.cells
        generalize (⟨(flatL d f).toArray⟩ : ByteArray) = s at *
        obtain ⟨gg, cap, w6, hr6, hv6, hs6⟩ := HS5.out.push s (by omega)
        have HS6 := Lib.hid hs6
        obtain ⟨m0, m1, m2⟩ := hv6.cells
        have fr := hv6.free 2
        clear hs6 hv6
        go_wp2_with (at_builtin; refine Lib.wpList_append_run _ rfl _ _ _ _ rfl _ _ rfl rfl _ _ (hr6 _) ?_)
        go_roundw
        case rel => exact ⟨j + 1, some ⟨gg, 0, none⟩, cap, l ++ [s], by omega, by go_num, HS6, Lib.hid (grow_good HL.out HGS.out)⟩
        case measure => simp [intOf]; omega
      · by_cases hv1 : v = 1
        · subst hv1
          by_cases hjp : 0 < j
          · have hjp' : (0 : Int) < (j : Int) := by omega
            obtain ⟨g, rfl, _, hcell⟩ := HS5.out.2.2.2.2.2.row2.2 (j - 1) (by rw [HL.out.1]; omega)
            have hix : ((j : Int) - 1) = ((j - 1 : Nat) : Int) := by omega
            have HGS := Lib.hid (HL.out.2 _ (List.getElem_mem (show j - 1 < l.length by rw [HL.out.1]; omega)))
            generalize l[j - 1]'_ = s at *
            obtain ⟨gg, cap, w6, hr6, hv6, hs6⟩ := HS5.out.push s (by omega)
            have HS6 := Lib.hid hs6
            obtain ⟨m0, m1, m2⟩ := hv6.cells
            have fr := hv6.free 2
            clear hs6 hv6
            go_wp2_with (at_builtin; refine Lib.wpList_append_run _ rfl _ _ _ _ rfl _ _ rfl rfl _ _ (hr6 _) ?_)
            go_roundw
            case rel => exact ⟨j + 1, some ⟨gg, 0, none⟩, cap, l ++ [s], by omega, by go_num, HS6, Lib.hid (grow_good HL.out HGS.out)⟩
            case measure => simp [intOf]; omega
          · obtain rfl : j = 0 := by omega
            generalize (⟨s.toArray⟩ : ByteArray) = s at *
            obtain ⟨gg, cap, w6, hr6, hv6, hs6⟩ := HS5.out.push s (by omega)
            have HS6 := Lib.hid hs6
            obtain ⟨m0, m1, m2⟩ := hv6.cells
            have fr := hv6.free 2
            clear hs6 hv6
            go_wp2_with (at_builtin; refine Lib.wpList_append_run _ rfl _ _ _ _ rfl _ _ rfl rfl _ _ (hr6 _) ?_)
            go_roundw
            case rel => exact ⟨0 + 1, some ⟨gg, 0, none⟩, cap, l ++ [s], by omega, by go_num, HS6, Lib.hid (grow_good HL.out HGS.out)⟩
            case measure => simp [intOf]; omega
        · have hv2 : (v == 1) = false := by simpa using hv1
          have hv3 : (v == 0) = false := by simpa using hv0
          generalize (⟨s.toArray⟩ : ByteArray) = s at *
          obtain ⟨gg, cap, w6, hr6, hv6, hs6⟩ := HS5.out.push s (by omega)
          have HS6 := Lib.hid hs6
          obtain ⟨m0, m1, m2⟩ := hv6.cells
          have fr := hv6.free 2
          clear hs6 hv6
          go_wp2_with (at_builtin; refine Lib.wpList_append_run _ rfl _ _ _ _ rfl _ _ rfl rfl _ _ (hr6 _) ?_)
          go_roundw
          case rel => exact ⟨j + 1, some ⟨gg, 0, none⟩, cap, l ++ [s], by omega, by go_num, HS6, Lib.hid (grow_good HL.out HGS.out)⟩
          case measure => simp [intOf]; omega
    · have hd0 : decide ((j : Int) < 1 + z) = false := decide_eq_false hlt
      obtain ⟨Z, hZ, hz0, hz1, hz2, hz3⟩ := HSJ.out.end
      unfold Card.set3 at hZ
      have HZZ := Lib.hid hZ
      have HZ0 := Lib.hid hz0
      have HZ1 := Lib.hid hz1
      have HZ2 := Lib.hid hz2
      have HZ3 := Lib.hid hz3
      clear hZ hz0 hz1 hz2 hz3
      obtain ⟨k0, k1, k2⟩ := HSJ.out.2.2.2.2.1.cells
      obtain ⟨p0, p1, p2⟩ := HSJ.out.2.2.2.1.cells
      have f0 := HSJ.out.2.2.2.1.free 0
      have f1 := HSJ.out.2.2.2.1.free 1
      have f2 := HSJ.out.2.2.2.1.free 2
      go_wp2_with fail
      rw [← HZZ.out]
      clear HZZ k0 k1 k2 p0 p1 p2 f0 f1 f2
      obtain ⟨z0, z1, z2⟩ := HZ0.out.cells
      have hbp : ∀ ll : Nat, ll = j → Q (.returned (.agg #[.int .i64 d, .int .i64 f, .slice a j c])) Z := by
        intro _ _
        have hl := HL.out.1
        subst hl
        exact H.out d f a c l Z hd4 hf4 (by omega) (cardB_iff.2 ⟨frame_mk hd1 (by omega) hf1 (by omega), by omega, by omega, HL.out.2⟩) HZ1.out HZ2.out HZ3.out
      refine bodyPost_ret (v := .agg #[.int .i64 d, .int .i64 f, .slice a j c]) (by simp [results, Try.results26, go_sem, z0, z1, z2]) rfl ?_
      exact hbp j rfl
end Go.Proofs.Ytigakakgikcghaa.Card

/- What spec.DrawCard returns. -/
namespace Go.Proofs.Ytigakakgikcghaa.Card
open Go.ChangeShapes Go.WideShapes Go.ChangeAt Go.RowKit
open Go.Proofs.Ytigakakgikcghaa.Strip Go.Proofs.Ytigakakgikcghaa.Strs Go.Proofs.Ytigakakgikcghaa.Draw
set_option linter.unusedVariables false

set_option maxRecDepth 100000 in
theorem drawCard_get (ca : Option Addr) (cl cc : Nat) (w : World) (hm : cl ≤ maxLen) (hr : RowIn w ca cl) {Q : Ending → World → Prop}
    (h : ∀ (d f : Int) (a : Option Addr) (c : Nat) (l : List ByteArray) (w' : World), d ≤ 4 → f ≤ 4 → l.length ≤ 6 → cardB d f l = true → Below w.heap.size w w' → Own w' w.heap.size (.slice a l.length c) l →
      Q (.returned (.agg #[.int .i64 d, .int .i64 f, .slice a l.length c])) w') :
    Calls Try.prog 10 #[.slice ca cl cc] w Q := by
  have H := Lib.hid h; clear h
  have hr0 : RowIn (w.alloc (.cells #[.int .i64 0, .int .i64 0, .slice none 0 0] 26)) ca cl := by
    intro j hj
    obtain ⟨b, off, e, hlt, x, h0, h1, hx⟩ := hr j hj
    exact ⟨b, off, e, by simp; omega, x, h0, h1, (World.grownBy_alloc w _ none).cell hx (by simp)⟩
  have HR := Lib.hid hr0; clear hr hr0
  go_enter Try.func10, Try.ntmps10
  go_wp2_with fail
  refine new_get ca cl cc _ hm HR.out ?_
  intro k w1 hk hk1 hc1 hb1
  have hv1 := (Var.new w 0 0 (.slice none 0 0)).below hb1
  have hbw : Below w.heap.size w w1 := ((Below.refl w.heap.size w).alloc (Nat.le_refl _) _).trans (hb1.mono (by simp))
  have hsz : w.heap.size + 1 ≤ w1.heap.size := by have := hb1.size; simpa using this
  have hk2 : w.heap.size + 1 ≤ k := by simpa using hk
  have HV := Lib.hid hv1
  have HB := Lib.hid hbw
  clear hb1 hv1 hbw hk
  go_wp2_with fail
  refine card_get k ca cl cc _ hk1 hc1 ?_
  intro d f a c l w2 hd hf hl hcb hc2 g2 ho2
  have HV2 := Lib.hid (HV.out.grown g2 (by simp; omega))
  have HB2 := Lib.hid (HB.out.grown g2 (by omega) (fun j e => by cases e; omega))
  have HO2 := Lib.hid ho2
  clear g2 ho2 hc1 hc2 HV HB
  obtain ⟨n, hn⟩ : ∃ n, l.length = n := ⟨_, rfl⟩
  have hx : ∃ Z, Z = Card.set3 w2 w.heap.size d f (.slice a n c) ∧ Var Z w.heap.size d f (.slice a n c) ∧ Below w.heap.size w Z ∧ Own Z w.heap.size (.slice a n c) l := ⟨_, rfl, by
    have := gave_last (d := d) (f := f) HB2.out HV2.out (Nat.le_refl _) HO2.out (by omega)
    rw [hn] at this
    exact ⟨this.1, this.2.1, this.2.2.mono (by omega)⟩⟩
  obtain ⟨Z, hZ, hz1, hz2, hz3⟩ := hx
  unfold Card.set3 at hZ
  obtain ⟨p0, p1, p2⟩ := HV2.out.cells
  have f0 := HV2.out.free 0
  have f1 := HV2.out.free 1
  have f2 := HV2.out.free 2
  have HZZ := Lib.hid hZ
  have HZ1 := Lib.hid hz1
  have HZ2 := Lib.hid hz2
  have HZ3 := Lib.hid hz3
  have HN := Lib.hid hn
  have HCB := Lib.hid hcb
  have HL := Lib.hid hl
  rw [hn]
  clear hZ hz1 hz2 hz3 hn hcb hl HO2
  go_wp2_with fail
  rw [← HZZ.out]
  clear HZZ p0 p1 p2 f0 f1 f2
  obtain ⟨z0, z1, z2⟩ := HZ1.out.cells
  have hbp : ∀ m : Nat, l.length = m → m = n → Q (.returned (.agg #[.int .i64 d, .int .i64 f, .slice a m c])) Z := by
    intro m e1 e2
    subst e1
    have h3 := HZ3.out
    rw [← e2] at h3
    exact H.out d f a c l Z hd hf HL.out HCB.out HZ2.out h3
  refine bodyPost_ret (v := .agg #[.int .i64 d, .int .i64 f, .slice a n c]) (by simp [results, Try.results10, go_sem, z0, z1, z2]) rfl ?_
  exact hbp n HN.out rfl
end Go.Proofs.Ytigakakgikcghaa.Card

/- What laws.big returns. -/
namespace Go.Proofs.Ytigakakgikcghaa.Draw
open Go.ChangeShapes Go.WideShapes Go.ChangeAt Go.RowKit
set_option linter.unusedVariables false

theorem big_at (ca : Option Addr) (cl cc : Nat) (w : World) (hm : cl ≤ maxLen) :
    Calls Try.prog 9 #[.slice ca cl cc] w fun e w' => e = .returned (.bool (decide (1048576 < (cl : Int)))) ∧ w = w' := by
  unfold maxLen at hm
  go_enter Try.func9, Try.ntmps9
  go_wp2
  go_ret
  exact ⟨rfl, rfl⟩
end Go.Proofs.Ytigakakgikcghaa.Draw

/- Texts of mine, laid into one (printed by wip/merge_tpl.py): Draw, DrawStrip, Once, DrawInt, DrawText, DrawEnc, DrawSplit, DrawPair, Big. -/
import Derived.Test.YthigiemgdejdhaaDoorChecked
import Derived.WalkKit
import Derived.ProofKit
import Derived.WalkLawsBesides
import Derived.Below
import Derived.IntWalk
import Derived.BigQuiet
import Derived.Deep.QuietTactic
import Derived.Lib.Hide
import Derived.Outline
import Derived.OpenShut
import Derived.Test.YthigiemgdejdhaaDoorStrip
import Derived.Test.YthigiemgdejdhaaDoorBytes
import Derived.Deep.AppendLies
import Derived.Laws.MakeOwn
import Derived.OwnWalk
import Derived.Test.YthigiemgdejdhaaDoorFmtSpec
import Derived.Deep.LoopGhost
import Derived.Test.YthigiemgdejdhaaDoorStripSpec2
import Derived.Test.YthigiemgdejdhaaDoorOrderSpec
/- The cursor over a draw: what spec.l01New, l01Byte, l01Below, l01Once, l01PickInt, l01Pick, l01Text, l01Long and l01Number return and leave alone. -/
namespace Go.Proofs.YthigiemgdejdhaaDoor.Draw
open Go.ChangeShapes Go.WideShapes Go.ChangeAt Go.RowKit
set_option linter.unusedVariables false

theorem ret_int {k : IntKind} {a b : Int} (h : a = b) : Ending.returned (.int k a) = .returned (.int k b) := by rw [h]

theorem i64_and255 (n : Int) : bits .and .i64 n 255 = n % 256 := by
  have h255 : (BitVec.ofInt 64 255).toNat = 2 ^ 8 - 1 := by decide
  have key : (BitVec.ofInt 64 n &&& BitVec.ofInt 64 255).toNat = (n % ((2 ^ 64 : Nat) : Int)).toNat % 2 ^ 8 := by
    rw [BitVec.toNat_and, BitVec.toNat_ofInt, h255, Nat.and_two_pow_sub_one_eq_mod]
  show IntKind.i64.wrap ((BitVec.ofInt 64 n &&& BitVec.ofInt 64 255).toNat : Nat) = n % 256
  rw [key, IntKind.wrap_i64]
  omega

/-- The bytes that the cursor reads: in a block ahead of the cursor's own. -/
def Row (w : World) (ca : Option Addr) (cl : Nat) (k : Nat) : Prop :=
  ∀ j, j < cl → ∃ b off, ca = some ⟨b, off, none⟩ ∧ b < k ∧ b < w.heap.size ∧ ∃ x : Int, 0 ≤ x ∧ x ≤ 255 ∧ w.cell? ⟨b, off + j, none⟩ = some (.int .u8 x)

/-- A cursor in block k over the slice (ca, cl, cc). -/
def Cur (w : World) (k : Nat) (ca : Option Addr) (cl cc : Nat) : Prop :=
  cl ≤ maxLen ∧ Row w ca cl k ∧ ∃ i h : Int, 0 ≤ i ∧ i ≤ cl ∧ w.heap[k]? = some (.cells #[.slice ca cl cc, .int .i64 i, .int .i64 h] 58 (0, 0))

/-- A number from lo to hi is returned, the cursor stays one, and only its block is written. -/
def IntPost (lo hi : Int) (w : World) (k : Nat) (ca : Option Addr) (cl cc : Nat) (e : Ending) (w' : World) : Prop :=
  ∃ n : Int, lo ≤ n ∧ n ≤ hi ∧ e = .returned (.int .i64 n) ∧ Cur w' k ca cl cc ∧ w.grownBy w' (some k)

theorem heap_setCell_at (w : World) (k j : Nat) (cs : Array Value) (T : TypeId) (m : Nat × Nat) (v : Value) (h : w.heap[k]? = some (.cells cs T m)) :
    (w.setCell ⟨k, j, none⟩ v).heap[k]? = some (.cells (cs.setIfInBounds j v) T m) := by
  simp [World.setCell, Array.getElem?_modify, h]

theorem grownBy_setCell (w : World) (k j : Nat) (v : Value) : w.grownBy (w.setCell ⟨k, j, none⟩ v) (some k) :=
  ⟨rfl, rfl, rfl, by simp [World.setCell], fun b hb hne => Below.heap_setCell _ _ _ _ (fun e => hne (by rw [e]))⟩

theorem grownBy_drewN (w : World) (n : Nat) (row : Option Nat) : w.grownBy (w.drewN n) row := ⟨rfl, rfl, rfl, Nat.le_refl _, fun _ _ _ => rfl⟩

theorem grownBy_trans {a b c : World} {row : Option Nat} (h : a.grownBy b row) (g : b.grownBy c row) : a.grownBy c row :=
  ⟨g.os.trans h.os, g.tape.trans h.tape, g.output.trans h.output, Nat.le_trans h.size g.size,
    fun k hk hne => (g.block k (Nat.lt_of_lt_of_le hk h.size) hne).trans (h.block k hk hne)⟩

theorem Row.kept {w w' : World} {ca : Option Addr} {cl k : Nat} (h : Row w ca cl k) (g : w.grownBy w' (some k)) : Row w' ca cl k := by
  intro j hj
  obtain ⟨b, off, e, hne, hlt, x, h0, h1, hx⟩ := h j hj
  exact ⟨b, off, e, hne, Nat.lt_of_lt_of_le hlt g.size, x, h0, h1, g.cell hx (by simp; omega)⟩

theorem cur_of {w W : World} {k : Nat} {ca : Option Addr} {cl cc : Nat} {i h : Int} (hm : cl ≤ maxLen) (hrow : Row w ca cl k) (h0 : 0 ≤ i) (h1 : i ≤ cl)
    (g : w.grownBy W (some k)) (hW : W.heap[k]? = some (.cells #[.slice ca cl cc, .int .i64 i, .int .i64 h] 58 (0, 0))) : Cur W k ca cl cc ∧ w.grownBy W (some k) :=
  ⟨⟨hm, hrow.kept g, i, h, h0, h1, hW⟩, g⟩

theorem and_lo (x : Int) : 0 ≤ bits .and .i64 x 255 := by rw [i64_and255]; omega
theorem and_hi (x : Int) : bits .and .i64 x 255 ≤ 255 := by rw [i64_and255]; omega

theorem byte_any (k : Nat) (ca : Option Addr) (cl cc : Nat) (w : World) (hc : Cur w k ca cl cc) :
    Calls Tryd.prog 62 #[.pointer (some ⟨k, 0, none⟩)] w (IntPost 0 255 w k ca cl cc) := by
  obtain ⟨hm, hrow, i, h, hi0, hil, hb⟩ := hc
  have hm' := hm
  unfold maxLen at hm'
  obtain ⟨n, rfl⟩ := Int.eq_ofNat_of_zero_le hi0
  have c0 : w.cell? ⟨k, 0, none⟩ = some (.slice ca cl cc) := by simp [World.cell?, hb]
  have c1 : w.cell? ⟨k, 1, none⟩ = some (.int .i64 n) := by simp [World.cell?, hb]
  have c2 : w.cell? ⟨k, 2, none⟩ = some (.int .i64 h) := by simp [World.cell?, hb]
  have f1 : w.frozen? ⟨k, 1, none⟩ = false := by simp [World.frozen?, hb]
  have f2 : w.frozen? ⟨k, 2, none⟩ = false := by simp [World.frozen?, hb]
  have HB := Lib.hid hb; clear hb
  have HR := Lib.hid hrow; clear hrow
  by_cases hlt : n < cl
  · obtain ⟨b, off, rfl, hbk, hbs, x, hx0, hx1, hcx⟩ := HR.out n hlt
    go_enter Tryd.func62, Tryd.ntmps62
    go_wp2_with fail
    generalize wrap64 (wrap64 (h * 6364136223846793005) + 1442695040888963407) = h1
    have hcx' : (w.setCell ⟨k, 2, none⟩ (.int .i64 h1)).cell? ⟨b, off + n, none⟩ = some (.int .u8 x) := (grownBy_setCell w k 2 _).cell hcx (by simp; omega)
    go_quiet (fail)
    go_wp2_with fail
    go_quiet (fail)
    go_wp2_with fail
    go_quiet (fail)
    go_wp2
    go_ret
    refine ⟨_, and_lo _, and_hi _, rfl, cur_of (i := ((n + 1 : Nat) : Int)) (h := h1) hm HR.out (by omega) (by omega) ?_ ?_⟩
    · exact grownBy_trans (grownBy_trans (grownBy_setCell w k 2 (.int .i64 h1)) (grownBy_drewN _ _ _)) (grownBy_setCell _ k 1 (.int .i64 (n + 1)))
    · exact heap_setCell_at _ _ _ _ _ _ _ (heap_setCell_at _ _ _ _ _ _ _ HB.out)
  · have hd : decide ((n : Int) < (cl : Int)) = false := by simp; omega
    go_enter Tryd.func62, Tryd.ntmps62
    go_wp2_with fail
    generalize wrap64 (wrap64 (h * 6364136223846793005) + 1442695040888963407) = h1
    go_quiet (fail)
    go_wp2_with fail
    go_quiet (fail)
    go_wp2
    go_ret
    refine ⟨_, and_lo _, and_hi _, rfl, cur_of (i := n) (h := h1) hm HR.out (by omega) (by omega) ?_ ?_⟩
    · exact grownBy_trans (grownBy_trans (grownBy_setCell w k 2 (.int .i64 h1)) (grownBy_drewN _ _ _)) (grownBy_drewN _ _ _)
    · exact heap_setCell_at _ _ _ _ _ _ _ HB.out

theorem IntPost.trans {lo hi : Int} {w w1 w' : World} {k : Nat} {ca : Option Addr} {cl cc : Nat} {e : Ending} (g : w.grownBy w1 (some k)) (h : IntPost lo hi w1 k ca cl cc e w') : IntPost lo hi w k ca cl cc e w' := by
  obtain ⟨n, a, b, c, d, f⟩ := h
  exact ⟨n, a, b, c, d, grownBy_trans g f⟩

/-- One drawn number, taken apart: for the walk. -/
theorem byte_get (k : Nat) (ca : Option Addr) (cl cc : Nat) (w : World) (hc : Cur w k ca cl cc) {Q : Ending → World → Prop}
    (h : ∀ (n : Int) (w' : World), 0 ≤ n → n ≤ 255 → Cur w' k ca cl cc → w.grownBy w' (some k) → Q (.returned (.int .i64 n)) w') :
    Calls Tryd.prog 62 #[.pointer (some ⟨k, 0, none⟩)] w Q :=
  (byte_any k ca cl cc w hc).mono fun e w' ⟨n, a, b, c, d, f⟩ => by subst c; exact h n w' a b d f

theorem below_any (k : Nat) (ca : Option Addr) (cl cc : Nat) (n : Int) (hn : 0 < n) (w : World) (hc : Cur w k ca cl cc) :
    Calls Tryd.prog 45 #[.pointer (some ⟨k, 0, none⟩), .int .i64 n] w (IntPost 0 (n - 1) w k ca cl cc) := by
  by_cases h256 : n ≤ 256
  · go_enter Tryd.func45, Tryd.ntmps45
    go_wp2_with fail
    refine byte_get k ca cl cc _ hc ?_
    intro x w1 x0 x1 hc1 g1
    have HG := Lib.hid g1; clear g1
    have HC := Lib.hid hc1; clear hc1
    go_wp2
    go_ret
    refine ⟨_, ?_, ?_, rfl, HC.out, HG.out⟩
    · exact Int.emod_nonneg _ (by omega)
    · have := Int.emod_lt_of_pos x hn; omega
  · go_enter Tryd.func45, Tryd.ntmps45
    go_wp2_with fail
    refine byte_get k ca cl cc _ hc ?_
    intro x w1 x0 x1 hc1 g1
    have HG := Lib.hid g1; clear g1
    go_wp2_with fail
    refine byte_get k ca cl cc _ hc1 ?_
    intro y w2 y0 y1 hc2 g2
    have HG2 := Lib.hid (grownBy_trans HG.out g2); clear g2
    go_wp2_with fail
    refine byte_get k ca cl cc _ hc2 ?_
    intro z w3 z0 z1 hc3 g3
    have HG3 := Lib.hid (grownBy_trans HG2.out g3); clear g3
    go_wp2_with fail
    refine byte_get k ca cl cc _ hc3 ?_
    intro v w4 v0 v1 hc4 g4
    have HG4 := Lib.hid (grownBy_trans HG3.out g4); clear g4
    go_wp2
    go_ret
    refine ⟨_, ?_, ?_, rfl, hc4, HG4.out⟩
    · exact Int.emod_nonneg _ (by omega)
    · have := Int.emod_lt_of_pos (x * 16777216 + y * 65536 + z * 256 + v) hn; omega

/-- A number from 0 to n-1 drawn, taken apart: for the walk. -/
theorem below_get (k : Nat) (ca : Option Addr) (cl cc : Nat) (n : Int) (hn : 0 < n) (w : World) (hc : Cur w k ca cl cc) {Q : Ending → World → Prop}
    (h : ∀ (x : Int) (w' : World), 0 ≤ x → x < n → Cur w' k ca cl cc → w.grownBy w' (some k) → Q (.returned (.int .i64 x)) w') :
    Calls Tryd.prog 45 #[.pointer (some ⟨k, 0, none⟩), .int .i64 n] w Q :=
  (below_any k ca cl cc n hn w hc).mono fun e w' ⟨n, a, b, c, d, f⟩ => by subst c; exact h n w' a (by omega) d f

/-- The bytes that a cursor is laid over. -/
def RowIn (w : World) (ca : Option Addr) (cl : Nat) : Prop :=
  ∀ j, j < cl → ∃ b off, ca = some ⟨b, off, none⟩ ∧ b < w.heap.size ∧ ∃ x : Int, 0 ≤ x ∧ x ≤ 255 ∧ w.cell? ⟨b, off + j, none⟩ = some (.int .u8 x)

theorem RowIn.row {w w' : World} {ca : Option Addr} {cl k : Nat} (h : RowIn w ca cl) (hk : w.heap.size ≤ k) (g : w.grownBy w' (some k)) : Row w' ca cl k := by
  intro j hj
  obtain ⟨b, off, e, hlt, x, h0, h1, hx⟩ := h j hj
  exact ⟨b, off, e, by omega, Nat.lt_of_lt_of_le hlt g.size, x, h0, h1, g.cell hx (by simp; omega)⟩

theorem rowIn_of {w : World} {a : Option Addr} {len cap : Nat} {zs : List Int} (h : (a = none ∧ len = 0 ∧ cap = 0 ∧ zs = []) ∨
    ∃ x, a = some x ∧ len ≤ cap ∧ cap ≤ maxLen ∧ zs.length = cap ∧ (∀ i, i < zs.length → w.cell? (x.add i) = some (.int .u8 (zs.getD i 0))) ∧ ∀ n ∈ zs, (Lit.int .u8 n).wf = true) :
    len ≤ maxLen ∧ RowIn w a len := by
  rcases h with ⟨rfl, rfl, rfl, rfl⟩ | ⟨x, rfl, hl, hm, hz, hcell, hwz⟩
  · exact ⟨Nat.zero_le _, fun j hj => by omega⟩
  · refine ⟨by omega, fun j hj => ?_⟩
    obtain ⟨b, off, spot⟩ := x
    have hc0 := hcell 0 (by omega)
    have hspot : spot = none := by simpa [Addr.add] using World.cell?_spot hc0
    subst hspot
    have hc := hcell j (by omega)
    have hc' : w.cell? ⟨b, off + j, none⟩ = some (.int .u8 (zs.getD j 0)) := by
      by_cases h0 : j = 0
      · subst h0; simpa [Addr.add] using hc
      · simpa [Addr.add, h0] using hc
    have hj' : j < zs.length := by omega
    have hg : zs.getD j 0 = zs[j] := by simp [hj']
    have hw := hwz (zs.getD j 0) (by rw [hg]; exact List.getElem_mem _)
    have hb := bounds_u8 hw
    exact ⟨b, off, rfl, World.block_lt_of_cell? _ _ hc', zs.getD j 0, by omega, by omega, hc'⟩

theorem heap_new (w : World) (o : Obj) : (w.alloc o).heap[w.heap.size]? = some o := by
  show (w.heap.push o)[w.heap.size]? = some o
  simp

theorem new_end {w : World} {ca : Option Addr} {cl cc : Nat} (x : Int) (hm : cl ≤ maxLen) (hr : RowIn w ca cl) {Q : Ending → World → Prop}
    (h : ∀ (k : Nat) (w' : World), w.heap.size ≤ k → k < w'.heap.size → Cur w' k ca cl cc → Below w.heap.size w w' → Q (.returned (.pointer (some ⟨k, 0, none⟩))) w') :
    Q (.returned (.pointer (some ⟨w.heap.size, 0, none⟩))) (w.alloc (.cells #[.slice ca cl cc, .int .i64 0, .int .i64 x] 58 (0, 0))) :=
  h _ _ (Nat.le_refl _) (by simp) ⟨hm, hr.row (Nat.le_refl _) (World.grownBy_alloc w _ _), 0, x, by omega, by omega, heap_new w _⟩ ((Below.refl _ _).alloc (Nat.le_refl _) _)

set_option maxRecDepth 100000 in
theorem new_get (ca : Option Addr) (cl cc : Nat) (w : World) (hm : cl ≤ maxLen) (hr : RowIn w ca cl) {Q : Ending → World → Prop}
    (h : ∀ (k : Nat) (w' : World), w.heap.size ≤ k → k < w'.heap.size → Cur w' k ca cl cc → Below w.heap.size w w' → Q (.returned (.pointer (some ⟨k, 0, none⟩))) w') :
    Calls Tryd.prog 27 #[.slice ca cl cc] w Q := by
  have H := Lib.hid h; clear h
  have HR := Lib.hid hr; clear hr
  have hm' := hm
  unfold maxLen at hm'
  go_enter Tryd.func27, Tryd.ntmps27
  go_wp2_with fail
  go_loop [3, 4] (fun h i => ∃ (x : Int) (n : Nat), n ≤ cl ∧ i = .int .i64 n ∧ h = .int .i64 x) (fun _ i => cl - (intOf i).toNat)
  case atStart => exact ⟨_, 0, Nat.zero_le _, rfl, rfl⟩
  case round =>
    obtain ⟨x, n, hn, rfl, rfl⟩ := hrel
    by_cases hlt : n < cl
    · obtain ⟨b, off, rfl, hbs, y, hy0, hy1, hcy⟩ := HR.out n hlt
      by_cases h4 : n < 4000
      · go_wp2
        refine ⟨⟨_, n + 1, by omega, by go_num, rfl⟩, by simp [intOf]; omega⟩
      · go_wp2
        exact new_end _ hm HR.out H.out
    · go_wp2
      all_goals exact new_end _ hm HR.out H.out

theorem Cur.lt {w : World} {k : Nat} {ca : Option Addr} {cl cc : Nat} (h : Cur w k ca cl cc) : k < w.heap.size := by
  obtain ⟨_, _, i, h, _, _, hb⟩ := h
  exact (Array.getElem?_eq_some_iff.1 hb).1

theorem Cur.kept {w w' : World} {k : Nat} {ca : Option Addr} {cl cc : Nat} (h : Cur w k ca cl cc) {row : Option Nat} (g : w.grownBy w' row) (hne : some k ≠ row)
    (hrow : ∀ b, b < k → some b ≠ row) : Cur w' k ca cl cc := by
  have hk := h.lt
  obtain ⟨hm, hr, i, x, h0, h1, hb⟩ := h
  refine ⟨hm, fun j hj => ?_, i, x, h0, h1, by rw [g.block k hk hne]; exact hb⟩
  obtain ⟨b, off, e, hbk, hlt, y, y0, y1, hy⟩ := hr j hj
  exact ⟨b, off, e, hbk, Nat.lt_of_lt_of_le hlt g.size, y, y0, y1, g.cell hy (hrow b hbk)⟩

theorem Cur.alloc {w : World} {k : Nat} {ca : Option Addr} {cl cc : Nat} (h : Cur w k ca cl cc) (o : Obj) : Cur (w.alloc o) k ca cl cc :=
  h.kept (World.grownBy_alloc w o none) (by simp) (by simp)

theorem below_of_grown {B : Nat} {a w w' : World} {k : Nat} (h : Below B a w) (g : w.grownBy w' (some k)) (hB : B ≤ k) (hk : k < w.heap.size) : Below B a w' :=
  h.grown g (by omega) (fun j e => by cases e; exact hB)

end Go.Proofs.YthigiemgdejdhaaDoor.Draw

/- What spec.l02Draw, l02Strip and DrawStrip return: a strip with a frame. -/
namespace Go.Proofs.YthigiemgdejdhaaDoor.Draw
open Go.ChangeShapes Go.WideShapes Go.ChangeAt Go.RowKit
open Go.Proofs.YthigiemgdejdhaaDoor.Strip
set_option linter.unusedVariables false

theorem cat_lists (a b : List UInt8) : (⟨a.toArray⟩ : ByteArray) ++ ⟨b.toArray⟩ = ⟨(a ++ b).toArray⟩ := by
  apply ByteArray.ext
  simp [ByteArray.data_append]

set_option maxRecDepth 100000 in
theorem draw_get (k : Nat) (ca : Option Addr) (cl cc : Nat) (d f : Nat) (hd : d ≤ 8) (hf : f ≤ 8) (w : World) (hc : Cur w k ca cl cc) {Q : Ending → World → Prop}
    (h : ∀ (l : List UInt8) (w' : World), okL l = true → cnt 100 l = d → cnt 102 l = f → Cur w' k ca cl cc → w.grownBy w' (some k) → Q (.returned (.string ⟨l.toArray⟩)) w') :
    Calls Tryd.prog 47 #[.pointer (some ⟨k, 0, none⟩), .int .i64 d, .int .i64 f] w Q := by
  have H := Lib.hid h; clear h
  have HC := Lib.hid hc; clear hc
  go_enter Tryd.func47, Tryd.ntmps47
  go_wp2_with fail
  go_loopw [1, 2, 7] (fun m n s wr => ∃ (a b : Nat) (l : List UInt8), a ≤ 8 ∧ b ≤ 8 ∧ l.length ≤ 16 ∧ m = .int .i64 a ∧ n = .int .i64 b ∧ s = .string ⟨l.toArray⟩ ∧ Hid (okL l = true ∧ cnt 100 l + a = d ∧ cnt 102 l + b = f) ∧ Hid (Cur wr k ca cl cc) ∧ Hid (w.grownBy wr (some k))) (fun m n _ _ => (intOf m).toNat + (intOf n).toNat)
  case atStart => exact ⟨d, f, [], hd, hf, by simp, rfl, rfl, rfl, Lib.hid ⟨rfl, by simp [cnt], by simp [cnt]⟩, HC, Lib.hid ⟨rfl, rfl, rfl, Nat.le_refl _, fun _ _ _ => rfl⟩⟩
  case round =>
    obtain ⟨a, b, l, ha, hb, hl, rfl, rfl, rfl, HL, HC1, HG1⟩ := hrel
    have hz : (⟨l.toArray⟩ : ByteArray).size = l.length := by simp [ByteArray.size]
    have hzd : (⟨#[100]⟩ : ByteArray).size = 1 := rfl
    have hzf : (⟨#[102]⟩ : ByteArray).size = 1 := rfl
    by_cases hpos : 0 < a + b
    · have hp : decide ((0 : Int) < (a : Int) + (b : Int)) = true := by simp; omega
      have hlen : l.length ≤ 15 := by
        have h1 := HL.out.1
        have h2 := cnt_sum l h1
        have h3 := HL.out.2
        omega
      go_wp2_with fail
      refine below_get k ca cl cc _ (by omega) _ HC1.out ?_
      intro x w1 x0 x1 hc1 g1
      have HC2 := Lib.hid hc1; clear hc1
      have HG2 := Lib.hid (grownBy_trans HG1.out g1); clear g1
      by_cases hx : x < (a : Int)
      · have ha1 : 1 ≤ a := by omega
        go_wp2
        go_roundw
        case rel =>
          refine ⟨a - 1, b, l ++ [100], by omega, hb, by simp; omega, by go_num, rfl, ?_, Lib.hid ⟨?_, ?_, ?_⟩, HC2, HG2⟩
          · have := cat_lists l [100]
            rw [← this]
          · rw [okL_snoc, HL.out.1]; rfl
          · have h3 := HL.out.2.1; rw [cnt_snoc, if_pos rfl]; omega
          · have h3 := HL.out.2.2; rw [cnt_snoc, if_neg (by decide)]; omega
        case measure => simp [intOf]; omega
      · have hx' : decide (x < (a : Int)) = false := by simpa using hx
        have hb1 : 1 ≤ b := by omega
        go_wp2
        go_roundw
        case rel =>
          refine ⟨a, b - 1, l ++ [102], ha, by omega, by simp; omega, rfl, by go_num, ?_, Lib.hid ⟨?_, ?_, ?_⟩, HC2, HG2⟩
          · have := cat_lists l [102]
            rw [← this]
          · rw [okL_snoc, HL.out.1]; rfl
          · have h3 := HL.out.2.1; rw [cnt_snoc, if_neg (by decide)]; omega
          · have h3 := HL.out.2.2; rw [cnt_snoc, if_pos rfl]; omega
        case measure => simp [intOf]; omega
    · have hp : decide ((0 : Int) < (a : Int) + (b : Int)) = false := by simp; omega
      have e1 : a = 0 := by omega
      have e2 : b = 0 := by omega
      subst e1; subst e2
      go_wp2
      exact H.out l _ HL.out.1 HL.out.2.1 HL.out.2.2 HC1.out HG1.out

theorem draw_int (k : Nat) (ca : Option Addr) (cl cc : Nat) (d f : Int) (hd0 : 0 ≤ d) (hd : d ≤ 8) (hf0 : 0 ≤ f) (hf : f ≤ 8) (w : World) (hc : Cur w k ca cl cc) {Q : Ending → World → Prop}
    (h : ∀ (l : List UInt8) (w' : World), okL l = true → (cnt 100 l : Int) = d → (cnt 102 l : Int) = f → Cur w' k ca cl cc → w.grownBy w' (some k) → Q (.returned (.string ⟨l.toArray⟩)) w') :
    Calls Tryd.prog 47 #[.pointer (some ⟨k, 0, none⟩), .int .i64 d, .int .i64 f] w Q := by
  obtain ⟨a, rfl⟩ := Int.eq_ofNat_of_zero_le hd0
  obtain ⟨b, rfl⟩ := Int.eq_ofNat_of_zero_le hf0
  exact draw_get k ca cl cc a b (by omega) (by omega) w hc fun l w' h1 h2 h3 h4 h5 => h l w' h1 (by omega) (by omega) h4 h5

theorem strip_get (k : Nat) (ca : Option Addr) (cl cc : Nat) (w : World) (hc : Cur w k ca cl cc) {Q : Ending → World → Prop}
    (h : ∀ (l : List UInt8) (w' : World), okL l = true → 1 ≤ cnt 100 l → cnt 100 l ≤ 5 → 1 ≤ cnt 102 l → cnt 102 l ≤ 5 → Cur w' k ca cl cc → w.grownBy w' (some k) → Q (.returned (.string ⟨l.toArray⟩)) w') :
    Calls Tryd.prog 44 #[.pointer (some ⟨k, 0, none⟩)] w Q := by
  have H := Lib.hid h; clear h
  go_enter Tryd.func44, Tryd.ntmps44
  go_wp2_with fail
  refine below_get k ca cl cc 5 (by omega) _ hc ?_
  intro x w1 x0 x1 hc1 g1
  have HG := Lib.hid g1; clear g1
  go_wp2_with fail
  refine below_get k ca cl cc 5 (by omega) _ hc1 ?_
  intro y w2 y0 y1 hc2 g2
  have HG2 := Lib.hid (grownBy_trans HG.out g2); clear g2
  go_wp2_with fail
  refine draw_int k ca cl cc _ _ (by omega) (by omega) (by omega) (by omega) _ hc2 ?_
  intro l w3 h1 h2 h3 hc3 g3
  have HG3 := Lib.hid (grownBy_trans HG2.out g3); clear g3
  have HC3 := Lib.hid hc3; clear hc3
  go_wp2
  exact H.out l _ h1 (by omega) (by omega) (by omega) (by omega) HC3.out HG3.out

end Go.Proofs.YthigiemgdejdhaaDoor.Draw

/- What spec.l01Once returns. -/
namespace Go.Proofs.YthigiemgdejdhaaDoor.Draw
open Go.ChangeShapes Go.WideShapes Go.ChangeAt Go.RowKit
set_option linter.unusedVariables false

end Go.Proofs.YthigiemgdejdhaaDoor.Draw

/- What spec.l01PickInt, l01Number and DrawClamp return and leave alone. -/
namespace Go.Proofs.YthigiemgdejdhaaDoor.Draw
open Go.ChangeShapes Go.WideShapes Go.ChangeAt Go.RowKit
set_option linter.unusedVariables false

/-- The number fits an int. -/
def I64 (n : Int) : Prop := (Lit.int .i64 n).wf = true

theorem I64.of_bounds {n : Int} (h0 : -9223372036854775808 ≤ n) (h1 : n ≤ 9223372036854775807) : I64 n := by
  unfold I64; simp [Lit.wf, IntKind.min, IntKind.max, IntKind.signed, IntKind.bits]; omega

theorem I64.small {n : Int} (h0 : -1000000000000 ≤ n) (h1 : n ≤ 1000000000000) : I64 n := I64.of_bounds (by omega) (by omega)

theorem pickInt_get (k : Nat) (ca : Option Addr) (cl cc : Nat) (lb n : Nat) (xs : List Int) (T : TypeId) (m : Nat × Nat) (P : Int → Prop) (hP : ∀ x ∈ xs, P x) (hn : xs.length = n) (hpos : 0 < n) (hmax : n ≤ 1000) (w : World) (hc : Cur w k ca cl cc)
    (hb : w.heap[lb]? = some (.cells (xs.map (Value.int .i64)).toArray T m)) (hlk : lb ≠ k) {Q : Ending → World → Prop}
    (h : ∀ (x : Int) (w' : World), P x → Cur w' k ca cl cc → w.grownBy w' (some k) → Q (.returned (.int .i64 x)) w') :
    Calls Tryd.prog 49 #[.pointer (some ⟨k, 0, none⟩), .slice (some ⟨lb, 0, none⟩) n n] w Q := by
  have H := Lib.hid h; clear h
  have HB := Lib.hid hb; clear hb
  have HN := Lib.hid hn; clear hn
  have HP := Lib.hid hP; clear hP
  go_enter Tryd.func49, Tryd.ntmps49
  go_wp2_with fail
  refine below_get k ca cl cc n (by omega) _ hc ?_
  intro x w1 x0 x1 hc1 g1
  obtain ⟨i, rfl⟩ := Int.eq_ofNat_of_zero_le x0
  have hi : i < n := by omega
  have hi' : i < xs.length := by rw [HN.out]; exact hi
  have hcell : w1.cell? ⟨lb, i, none⟩ = some (.int .i64 xs[i]) := by
    refine g1.cell ?_ (by simpa using hlk)
    simp [World.cell?, HB.out, hi']
  have HG := Lib.hid g1; clear g1
  have HC := Lib.hid hc1; clear hc1
  have hp : P xs[i] := HP.out _ (List.getElem_mem _)
  generalize xs[i] = y at hcell hp
  have HPY := Lib.hid hp; clear hp
  go_wp2
  exact H.out _ _ HPY.out HC.out HG.out

theorem pick_fits : ∀ x ∈ [-1, 0, 127, 128, 16383, 16384, 1000000000, 1000000001, 9223372036854775807, (-9223372036854775808 : Int)], I64 x := by
  intro x hx
  simp only [List.mem_cons, List.not_mem_nil, or_false] at hx
  rcases hx with rfl | rfl | rfl | rfl | rfl | rfl | rfl | rfl | rfl | rfl <;> exact I64.of_bounds (by omega) (by omega)

end Go.Proofs.YthigiemgdejdhaaDoor.Draw

/- What spec.l01Long and l01Text return and leave alone. -/
namespace Go.Proofs.YthigiemgdejdhaaDoor.Draw
open Go.ChangeShapes Go.WideShapes Go.ChangeAt Go.RowKit Go.Proofs.YthigiemgdejdhaaDoor.Bytes
set_option linter.unusedVariables false

/-- Block b holds the bytes l. -/
def HasBytes (w : World) (b : Nat) (l : List UInt8) : Prop := w.heap[b]? = some (.cells (bcells l).toArray 5 (0, 0))

theorem made_bytes (n : Nat) : madeCells #[Value.int .u8 0] n = (bcells (List.replicate n 0)).toArray := by
  apply Array.ext
  · simp [size_madeCells, bcells]
  · intro i h1 h2
    simp [madeCells, bcells, Nat.mod_one]

theorem HasBytes.cell {w : World} {b i : Nat} {l : List UInt8} (h : HasBytes w b l) (hi : i < l.length) : w.cell? ⟨b, i, none⟩ = some (.int .u8 (l[i].toNat : Int)) := by
  unfold HasBytes at h
  simp [World.cell?, h, bcells, hi]

theorem HasBytes.free {w : World} {b i : Nat} {l : List UInt8} (h : HasBytes w b l) : w.frozen? ⟨b, i, none⟩ = false := by
  unfold HasBytes at h
  simp [World.frozen?, h]

theorem HasBytes.set {w : World} {b i : Nat} {l : List UInt8} (h : HasBytes w b l) (x : UInt8) : HasBytes (w.setCell ⟨b, i, none⟩ (.int .u8 (x.toNat : Int))) b (l.set i x) := by
  unfold HasBytes at h ⊢
  rw [heap_setCell_at _ _ _ _ _ _ _ h]
  simp [bcells, List.map_set]

theorem HasBytes.string {w : World} {b cap : Nat} {l : List UInt8} (h : HasBytes w b l) :
    (Go.convert 22 9 (.slice (some ⟨b, 0, none⟩) l.length cap)).run Tryd.prog w = .ok (.string ⟨l.toArray⟩) w := by
  refine run_convert_bytes_back (P := Tryd.prog) w 22 9 5 ⟨b, 0, none⟩ cap l Tryd.underlying22 Tryd.underlying5 Tryd.underlying9 ?_
  intro j hj
  have hc := h.cell hj
  by_cases h0 : j = 0
  · subst h0; simpa [Addr.add] using hc
  · simpa [Addr.add, h0] using hc

end Go.Proofs.YthigiemgdejdhaaDoor.Draw

/- What spec.DrawEncodeHex returns and leaves alone. -/
namespace Go.Proofs.YthigiemgdejdhaaDoor.Draw
open Go.ChangeShapes Go.WideShapes Go.ChangeAt Go.RowKit
set_option linter.unusedVariables false

end Go.Proofs.YthigiemgdejdhaaDoor.Draw

/- What spec.l01Pick and DrawSplitFields return and leave alone. -/
namespace Go.Proofs.YthigiemgdejdhaaDoor.Draw
open Go.ChangeShapes Go.WideShapes Go.ChangeAt Go.RowKit
open Go.Proofs.YthigiemgdejdhaaDoor.Bytes (run_one)
set_option linter.unusedVariables false

theorem pick_get (k : Nat) (ca : Option Addr) (cl cc : Nat) (lb n : Nat) (xs : List ByteArray) (T : TypeId) (m : Nat × Nat) (P : ByteArray → Prop) (hP : ∀ x ∈ xs, P x) (hn : xs.length = n) (hpos : 0 < n) (hmax : n ≤ 1000) (w : World) (hc : Cur w k ca cl cc)
    (hb : w.heap[lb]? = some (.cells (xs.map Value.string).toArray T m)) (hlk : lb ≠ k) {Q : Ending → World → Prop}
    (h : ∀ (x : ByteArray) (w' : World), P x → Cur w' k ca cl cc → w.grownBy w' (some k) → Q (.returned (.string x)) w') :
    Calls Tryd.prog 46 #[.pointer (some ⟨k, 0, none⟩), .slice (some ⟨lb, 0, none⟩) n n] w Q := by
  have H := Lib.hid h; clear h
  have HB := Lib.hid hb; clear hb
  have HN := Lib.hid hn; clear hn
  have HP := Lib.hid hP; clear hP
  go_enter Tryd.func46, Tryd.ntmps46
  go_wp2_with fail
  refine below_get k ca cl cc n (by omega) _ hc ?_
  intro x w1 x0 x1 hc1 g1
  obtain ⟨i, rfl⟩ := Int.eq_ofNat_of_zero_le x0
  have hi : i < n := by omega
  have hi' : i < xs.length := by rw [HN.out]; exact hi
  have hcell : w1.cell? ⟨lb, i, none⟩ = some (.string xs[i]) := by
    refine g1.cell ?_ (by simpa using hlk)
    simp [World.cell?, HB.out, hi']
  have HG := Lib.hid g1; clear g1
  have HC := Lib.hid hc1; clear hc1
  have hp : P xs[i] := HP.out _ (List.getElem_mem _)
  generalize xs[i] = y at hcell hp
  have HPY := Lib.hid hp; clear hp
  go_wp2
  exact H.out _ _ HPY.out HC.out HG.out

theorem empty_size : (((⟨#[]⟩ : ByteArray).size : Nat) : Int) ≤ 8 * ((0 : Nat) : Int) := by
  have h : (⟨#[]⟩ : ByteArray).size = 0 := rfl
  rw [h]; omega

theorem pick_small : ∀ x ∈ [(⟨#[32]⟩ : ByteArray), ⟨#[32, 32]⟩, ⟨#[9]⟩, ⟨#[10]⟩, ⟨#[127]⟩, ⟨#[233]⟩], x.size ≤ 2 := by
  intro x hx
  simp only [List.mem_cons, List.not_mem_nil, or_false] at hx
  rcases hx with rfl | rfl | rfl | rfl | rfl | rfl <;> decide

theorem small_prod (p q : Int) (p0 : 0 ≤ p) (p1 : p < 2) (q0 : 0 ≤ q) (q1 : q < 3) : 0 ≤ p * q ∧ p * q ≤ 2 := by
  have h : p = 0 ∨ p = 1 := by omega
  rcases h with rfl | rfl
  · simp
  · rw [Int.one_mul]; omega

end Go.Proofs.YthigiemgdejdhaaDoor.Draw

/- What spec.DrawWayUp draws: two texts that are not long. -/
namespace Go.Proofs.YthigiemgdejdhaaDoor.Draw
open Go.ChangeShapes Go.WideShapes Go.ChangeAt Go.RowKit
open Go.Proofs.YthigiemgdejdhaaDoor.Strip Go.Proofs.YthigiemgdejdhaaDoor.Order
set_option linter.unusedVariables false

def Short (s : ByteArray) : Prop := s.size ≤ 64
theorem grown_alloc (w : World) (o : Obj) (row : Option Nat) : w.grownBy (w.alloc o) row := World.grownBy_alloc w o row

set_option maxRecDepth 100000 in
theorem any_get (k : Nat) (ca : Option Addr) (cl cc : Nat) (w : World) (hc : Cur w k ca cl cc) {Q : Ending → World → Prop}
    (h : ∀ (s : ByteArray) (w' : World), s.size ≤ 64 → Cur w' k ca cl cc → w.grownBy w' (some k) → Q (.returned (.string s)) w') :
    Calls Tryd.prog 28 #[.pointer (some ⟨k, 0, none⟩)] w Q := by
  have H := Lib.hid h; clear h
  go_enter Tryd.func28, Tryd.ntmps28
  go_wp2_with fail
  refine strip_get k ca cl cc _ hc ?_
  intro l w1 h1 h2 h3 h4 h5 hc1 g1
  have HG := Lib.hid g1; clear g1
  have hl : l.length ≤ 16 := by
    have := cnt_sum l h1
    omega
  obtain ⟨s, hs⟩ : ∃ s : ByteArray, (⟨l.toArray⟩ : ByteArray) = s := ⟨_, rfl⟩
  have hsz : s.size ≤ 16 := by rw [← hs]; simpa [ByteArray.size] using hl
  rw [hs]
  clear h1 h2 h3 h4 h5 hl hs
  go_wp2_with fail
  refine below_get k ca cl cc 10 (by omega) _ hc1 ?_
  intro x w2 x0 x1 hc2 g2
  have HG2 := Lib.hid (grownBy_trans HG.out g2); clear g2
  by_cases e0 : x = 0
  · subst e0
    have hc3 := hc2.alloc (.cells #[.string ⟨#[120]⟩, .string ⟨#[68]⟩, .string ⟨#[32]⟩, .string ⟨#[100, 100, 100, 100, 100, 100, 100, 100]⟩, .string ⟨#[102, 102, 102, 102, 102, 102, 102, 102]⟩] 9)
    have hne : w2.heap.size ≠ k := by have := hc2.lt; omega
    have HG3 := Lib.hid (grownBy_trans HG2.out (grown_alloc w2 (.cells #[.string ⟨#[120]⟩, .string ⟨#[68]⟩, .string ⟨#[32]⟩, .string ⟨#[100, 100, 100, 100, 100, 100, 100, 100]⟩, .string ⟨#[102, 102, 102, 102, 102, 102, 102, 102]⟩] 9) (some k)))
    go_wp2_with fail
    refine pick_get k ca cl cc w2.heap.size 5 [⟨#[120]⟩, ⟨#[68]⟩, ⟨#[32]⟩, ⟨#[100, 100, 100, 100, 100, 100, 100, 100]⟩, ⟨#[102, 102, 102, 102, 102, 102, 102, 102]⟩] 9 (0, 0) (fun x => x.size ≤ 8) (by intro x hx; simp only [List.mem_cons, List.not_mem_nil, or_false] at hx; rcases hx with rfl | rfl | rfl | rfl | rfl <;> decide) rfl (by omega) (by omega) _ hc3 (heap_alloc_new _ _) hne ?_
    intro y w3 hy hc4 g3
    have HG4 := Lib.hid (grownBy_trans HG3.out g3)
    have HC4 := Lib.hid hc4
    have hsy : (s ++ y).size ≤ 64 := by rw [ByteArray.size_append]; omega
    have HSY := Lib.hid hsy
    clear g3 hc4 hsy hc3
    go_wp2
    exact H.out _ _ HSY.out HC4.out HG4.out
  · by_cases e1 : x = 1
    · subst e1
      have hc3 := hc2.alloc (.cells #[.string ⟨#[]⟩, .string ⟨#[100]⟩, .string ⟨#[102]⟩, .string ⟨#[100, 100, 100, 100, 100, 100, 100, 100]⟩, .string ⟨#[100, 100, 100, 100, 100, 100, 100, 100, 102, 102, 102, 102, 102, 102, 102, 102]⟩, .string ⟨#[100, 100, 100, 100, 100, 100, 100, 100, 100, 102]⟩] 9)
      have hne : w2.heap.size ≠ k := by have := hc2.lt; omega
      have HG3 := Lib.hid (grownBy_trans HG2.out (grown_alloc w2 (.cells #[.string ⟨#[]⟩, .string ⟨#[100]⟩, .string ⟨#[102]⟩, .string ⟨#[100, 100, 100, 100, 100, 100, 100, 100]⟩, .string ⟨#[100, 100, 100, 100, 100, 100, 100, 100, 102, 102, 102, 102, 102, 102, 102, 102]⟩, .string ⟨#[100, 100, 100, 100, 100, 100, 100, 100, 100, 102]⟩] 9) (some k)))
      go_wp2_with fail
      refine pick_get k ca cl cc w2.heap.size 6 [⟨#[]⟩, ⟨#[100]⟩, ⟨#[102]⟩, ⟨#[100, 100, 100, 100, 100, 100, 100, 100]⟩, ⟨#[100, 100, 100, 100, 100, 100, 100, 100, 102, 102, 102, 102, 102, 102, 102, 102]⟩, ⟨#[100, 100, 100, 100, 100, 100, 100, 100, 100, 102]⟩] 9 (0, 0) (fun x => x.size ≤ 16) (by intro x hx; simp only [List.mem_cons, List.not_mem_nil, or_false] at hx; rcases hx with rfl | rfl | rfl | rfl | rfl | rfl <;> decide) rfl (by omega) (by omega) _ hc3 (heap_alloc_new _ _) hne ?_
      intro y w3 hy hc4 g3
      have HG4 := Lib.hid (grownBy_trans HG3.out g3)
      have HC4 := Lib.hid hc4
      clear g3 hc4 hc3
      go_wp2
      exact H.out y _ (by omega) HC4.out HG4.out
    · have t0 : (x == 0) = false := by simpa using e0
      have t1 : (x == 1) = false := by simpa using e1
      go_wp2
      exact H.out s _ (by omega) hc2 HG2.out

end Go.Proofs.YthigiemgdejdhaaDoor.Draw

/- What laws.big returns. -/
namespace Go.Proofs.YthigiemgdejdhaaDoor.Draw
open Go.ChangeShapes Go.WideShapes Go.ChangeAt Go.RowKit
set_option linter.unusedVariables false

theorem big_at (ca : Option Addr) (cl cc : Nat) (w : World) (hm : cl ≤ maxLen) :
    Calls Tryd.prog 8 #[.slice ca cl cc] w fun e w' => e = .returned (.bool (decide (1048576 < (cl : Int)))) ∧ w = w' := by
  unfold maxLen at hm
  go_enter Tryd.func8, Tryd.ntmps8
  go_wp2
  go_ret
  exact ⟨rfl, rfl⟩
end Go.Proofs.YthigiemgdejdhaaDoor.Draw

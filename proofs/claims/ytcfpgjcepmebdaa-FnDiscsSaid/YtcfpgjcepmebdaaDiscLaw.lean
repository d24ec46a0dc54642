/- What the laws' helpers on discs return and leave alone: toDisc, szDisc, eqDisc, markDisc, heldDisc; a disc that came in. -/
import Derived.Test.YtcfpgjcepmebdaaDiscRow
import Derived.Test.YtcfpgjcepmebdaaIntTo
import Derived.ProofKit
import Derived.OpenShut
import Derived.Lib.SmallJoins
import Derived.Laws.ResultCell
namespace Go.Proofs.Ytcfpgjcepmebdaa.Disc
open Go.ChangeShapes Go.WideShapes Go.ChangeAt Go.RowKit Go.Joins
open Go.Proofs.Ytcfpgjcepmebdaa.Ints
set_option linter.unusedVariables false

/-- The three cells of a disc's variable are written. -/
def set3 (w : World) (b : Nat) (n m : Int) (v : Value) : World := ((w.setCell ⟨b, 0, none⟩ (.int .i64 n)).setCell ⟨b, 1, none⟩ (.int .i64 m)).setCell ⟨b, 2, none⟩ v
theorem DVar.set3 {w : World} {b : Nat} {n0 m0 : Int} {v0 : Value} (h : DVar w b n0 m0 v0) (n m : Int) (v : Value) : DVar (set3 w b n m v) b n m v := ((h.set0 n).set1 m).set2 v
theorem own_off {w : World} {base b j : Nat} {v u : Value} {l : List Int} (h : Own w base v l) (hb : b < base) : Own (w.setCell ⟨b, j, none⟩ u) base v l :=
  World.ownsRow.kept h (grown_set w b j u) (by
    cases hc : v.ownBlock with
    | none => exact .inl rfl
    | some k => right; intro e; have := (h.lt k hc).1; cases e; omega)
theorem own_off3 {w : World} {base b : Nat} {n m : Int} {v u : Value} {l : List Int} (h : Own w base v l) (hb : b < base) : Own (set3 w b n m u) base v l := own_off (own_off (own_off h hb) hb) hb
theorem below_set3 {B b : Nat} {w0 w : World} {n m : Int} {u : Value} (h : Below B w0 w) (hb : B ≤ b) : Below B w0 (set3 w b n m u) := ((h.setCell (p := ⟨b, 0, none⟩) hb _).setCell (p := ⟨b, 1, none⟩) hb _).setCell (p := ⟨b, 2, none⟩) hb _
/-- The result's variable is written last. -/
theorem gave_end {w1 w : World} {B0 B base : Nat} {n0 m0 n m : Int} {v0 v : Value} {l : List Int} (hb : Below B0 w w1) (hv : DVar w1 B n0 m0 v0) (hB : B0 ≤ B) (ho : Own w1 base v l) (hBb : B < base) (hbase : B0 ≤ base) :
    DVar (set3 w1 B n m v) B n m v ∧ Below B0 w (set3 w1 B n m v) ∧ Own (set3 w1 B n m v) B0 v l :=
  ⟨hv.set3 n m v, below_set3 hb hB, (own_off3 ho hBb).mono hbase⟩
/-- What a function of discs returned: a disc of memory of its own. -/
def Gave (w : World) (n m : Int) (N : Nat) (l : List Int) (e : Ending) (w' : World) : Prop :=
  ∃ g c, e = .returned (.agg #[.int .i64 n, .int .i64 m, .slice (some ⟨g, 0, none⟩) N c]) ∧ Below w.heap.size w w' ∧ Own w' w.heap.size (.slice (some ⟨g, 0, none⟩) N c) l
theorem Own.row2 {w : World} {base N c : Nat} {a : Option Addr} {l : List Int} (h : Own w base (.slice a N c) l) : IRow w a l := by
  obtain ⟨a', c', e, hr, _⟩ := h.row
  cases e; exact hr

/-- Block b is a variable that holds a disc of the laws' own type. -/
def LDisc (w : World) (b : Nat) (n m : Int) (v : Value) : Prop := w.heap[b]? = some (.cells #[.int .i64 n, .int .i64 m, v] 36 (0, 0))
section
variable {w w' : World} {b : Nat} {n m : Int} {v : Value}
theorem LDisc.new (w : World) (n m : Int) (v : Value) : LDisc (w.alloc (.cells #[.int .i64 n, .int .i64 m, v] 36)) w.heap.size n m v := heap_alloc_new w _
theorem LDisc.lt (h : LDisc w b n m v) : b < w.heap.size := (Array.getElem?_eq_some_iff.1 h).1
theorem LDisc.below (h : LDisc w b n m v) (hb : Below w.heap.size w w') : LDisc w' b n m v := (hb.block b h.lt).trans h
theorem LDisc.grown {row : Option Nat} (h : LDisc w b n m v) (hg : w.grownBy w' row) (hne : some b ≠ row) : LDisc w' b n m v := (hg.block b h.lt hne).trans h
theorem LDisc.cells (h : LDisc w b n m v) : w.cell? ⟨b, 0, none⟩ = some (.int .i64 n) ∧ w.cell? ⟨b, 1, none⟩ = some (.int .i64 m) ∧ w.cell? ⟨b, 2, none⟩ = some v := by
  unfold LDisc at h
  simp [World.cell?, h]
end

theorem sz_ints (left : Int) (h0 : 0 ≤ left) (h1 : left ≤ 1048576) (a : Option Addr) (N c : Nat) (hN : N ≤ maxLen) (w : World) :
    Calls Try.prog 36 #[.slice a N c, .int .i64 left] w fun e w' => e = .returned (.int .i64 (if left - (N : Int) < 0 then -1 else left - (N : Int))) ∧ w = w' := by
  unfold maxLen at hN
  by_cases h : left - (N : Int) < 0
  · rw [if_pos h]
    go_enter Try.func36, Try.ntmps36
    go_wp2
    go_ret
    exact ⟨rfl, rfl⟩
  · rw [if_neg h]
    go_enter Try.func36, Try.ntmps36
    go_wp2
    go_ret
    exact ⟨rfl, rfl⟩
theorem sz_disc (n m : Int) (left : Int) (h0 : 0 ≤ left) (h1 : left ≤ 1048576) (a : Option Addr) (N c : Nat) (hN : N ≤ maxLen) (w : World) :
    Calls Try.prog 19 #[.agg #[.int .i64 n, .int .i64 m, .slice a N c], .int .i64 left] w fun e w' => e = .returned (.int .i64 (if left - (N : Int) < 0 then -1 else left - (N : Int))) ∧ Below w.heap.size w w' := by
  have HS := Lib.hid (fun w => sz_ints left h0 h1 a N c hN w)
  have HB := Lib.hid (alloc_below w (.cells #[.int .i64 n, .int .i64 m, .slice a N c] 36))
  by_cases h : left - (N : Int) < 0
  · rw [if_pos h] at HS ⊢
    go_enter Try.func19, Try.ntmps19
    go_wp2_with fail
    refine (HS.out _).mono ?_
    rintro e w1 ⟨rfl, rfl⟩
    go_wp2
    go_ret
    exact ⟨rfl, HB.out⟩
  · rw [if_neg h] at HS ⊢
    generalize left - (N : Int) = v at *
    go_enter Try.func19, Try.ntmps19
    go_wp2_with fail
    refine (HS.out _).mono ?_
    rintro e w1 ⟨rfl, rfl⟩
    go_wp2
    go_ret
    exact ⟨rfl, HB.out⟩

set_option maxRecDepth 100000 in
theorem to_disc (n m : Int) (a : Option Addr) (N c : Nat) (l : List Int) (w : World) (hl : l.length = N) (hn : N ≤ 1048576) (hr : ARow w a l) :
    Calls Try.prog 21 #[.agg #[.int .i64 n, .int .i64 m, .slice a N c]] w (Gave w n m N l) := by
  subst hl
  have HR := Lib.hid hr; clear hr
  go_enter Try.func21, Try.ntmps21
  go_wp2_with fail
  have hv1 := ((DVar.new (w.alloc (.cells #[.int .i64 n, .int .i64 m, .slice a l.length c] 36)) 0 0 (.slice none 0 0)).below (alloc_below _ (.cells #[.int .i64 n, .int .i64 m, .slice none 0 0] 26)))
  have hv2 := (DVar.new ((w.alloc (.cells #[.int .i64 n, .int .i64 m, .slice a l.length c] 36)).alloc (.cells #[.int .i64 0, .int .i64 0, .slice none 0 0] 26)) n m (.slice none 0 0))
  have hb := (((Below.refl w.heap.size w).alloc (Nat.le_refl _) (.cells #[.int .i64 n, .int .i64 m, .slice a l.length c] 36)).alloc (by simp) (.cells #[.int .i64 0, .int .i64 0, .slice none 0 0] 26)).alloc (by simp; omega) (.cells #[.int .i64 n, .int .i64 m, .slice none 0 0] 26)
  rw [show (w.alloc (.cells #[.int .i64 n, .int .i64 m, .slice a l.length c] 36)).heap.size = w.heap.size + 1 by simp] at hv1
  rw [show ((w.alloc (.cells #[.int .i64 n, .int .i64 m, .slice a l.length c] 36)).alloc (.cells #[.int .i64 0, .int .i64 0, .slice none 0 0] 26)).heap.size = w.heap.size + 1 + 1 by simp] at hv2
  have HV1 := Lib.hid hv1
  have HV2 := Lib.hid hv2
  have HB := Lib.hid hb
  clear hv1 hv2 hb
  generalize (((w.alloc (.cells #[.int .i64 n, .int .i64 m, .slice a l.length c] 36)).alloc (.cells #[.int .i64 0, .int .i64 0, .slice none 0 0] 26)).alloc (.cells #[.int .i64 n, .int .i64 m, .slice none 0 0] 26)) = W at *
  have HS := Lib.hid (show w.heap.size ≤ w.heap.size + 1 ∧ w.heap.size ≤ w.heap.size + 1 + 1 by omega)
  have hne : w.heap.size + 1 ≠ w.heap.size + 1 + 1 := by omega
  generalize w.heap.size + 1 + 1 = B2 at *
  generalize w.heap.size + 1 = B1 at *
  refine (to_new a c l W hn (HR.out.below HB.out)).mono ?_
  rintro e w1 ⟨g, rfl, hb1, ho1⟩
  have HB1 := Lib.hid (HB.out.trans (hb1.mono HB.out.size))
  have HO1 := Lib.hid ho1
  have HX1 := Lib.hid (HV1.out.below hb1)
  have HX2 := Lib.hid (HV2.out.below hb1)
  clear hb1 ho1
  obtain ⟨k0, k1, k2⟩ := HX1.out.cells
  obtain ⟨m0, m1, m2⟩ := HX2.out.cells
  have f0 := HX1.out.free 0
  have f1 := HX1.out.free 1
  have f2 := HX1.out.free 2
  have g2 := HX2.out.free 2
  have HL1 := Lib.hid (show B1 < W.heap.size ∧ B2 < W.heap.size from ⟨HV1.out.lt, HV2.out.lt⟩)
  go_wp2_with fail
  have hz : DVar _ B1 n m (.slice (some ⟨g, 0, none⟩) l.length l.length) := DVar.set3 (HX1.out.other (j := 2) (u := .slice (some ⟨g, 0, none⟩) l.length l.length) hne) n m (.slice (some ⟨g, 0, none⟩) l.length l.length)
  have hbz : Below w.heap.size w _ := below_set3 (n := n) (m := m) (u := .slice (some ⟨g, 0, none⟩) l.length l.length) (HB1.out.setCell (p := ⟨B2, 2, none⟩) HS.out.2 (.slice (some ⟨g, 0, none⟩) l.length l.length)) HS.out.1
  have hoz : Own _ W.heap.size (.slice (some ⟨g, 0, none⟩) l.length l.length) l := own_off3 (n := n) (m := m) (u := .slice (some ⟨g, 0, none⟩) l.length l.length) (own_off (b := B2) (j := 2) (u := .slice (some ⟨g, 0, none⟩) l.length l.length) HO1.out HL1.out.2) HL1.out.1
  unfold set3 at hz hbz hoz
  generalize ((((w1.setCell ⟨B2, 2, none⟩ (.slice (some ⟨g, 0, none⟩) l.length l.length)).setCell ⟨B1, 0, none⟩ (.int .i64 n)).setCell ⟨B1, 1, none⟩ (.int .i64 m)).setCell ⟨B1, 2, none⟩ (.slice (some ⟨g, 0, none⟩) l.length l.length)) = Z at *
  obtain ⟨z0, z1, z2⟩ := hz.cells
  refine bodyPost_ret (v := .agg #[.int .i64 n, .int .i64 m, .slice (some ⟨g, 0, none⟩) l.length l.length]) (by simp [results, Try.results21, go_sem, z0, z1, z2]) rfl ?_
  exact ⟨g, l.length, rfl, hbz, hoz.mono HB.out.size⟩

theorem eq_disc (n m : Int) (N ca cb : Nat) (a b : Option Addr) (l : List Int) (hl : l.length = N) (hm : N ≤ 1048576) (w : World) (ha : IRow w a l) (hb : IRow w b l) :
    Calls Try.prog 22 #[.agg #[.int .i64 n, .int .i64 m, .slice a N ca], .agg #[.int .i64 n, .int .i64 m, .slice b N cb]] w fun e w' => e = .returned (.bool true) ∧ Below w.heap.size w w' := by
  have hd : (n != n) = false := by simp
  have hf : (m != m) = false := by simp
  have HL := Lib.hid hl; clear hl
  have HA := Lib.hid ha; clear ha
  have HB := Lib.hid hb; clear hb
  go_enter Try.func22, Try.ntmps22
  go_wp2_with fail
  refine (eq_yes N ca cb a b l HL.out (by unfold maxLen; omega) _ ?_ ?_).mono ?_
  · exact (HA.out.below (alloc_below _ _)).below (alloc_below _ _)
  · exact (HB.out.below (alloc_below _ _)).below (alloc_below _ _)
  rintro e w1 ⟨rfl, q, rfl⟩
  go_wp2
  go_ret
  refine ⟨rfl, ?_⟩
  exact (((Below.refl _ _).alloc (Nat.le_refl _) _).alloc (by simp) _).trans ((drewN_below _ q).mono (by simp; omega))

theorem mark_disc (n m : Int) (base : Nat) (a : Option Addr) (N cap : Nat) (l : List Int) (hl : l.length = N) (hn : N ≤ 1048576) (w : World) (h : Own w base (.slice a N cap) l) :
    Calls Try.prog 24 #[.agg #[.int .i64 n, .int .i64 m, .slice a N cap], .int .i64 1] w fun e w' => e = .returned (.int .i64 (1 + (N : Int))) ∧ Own w' base (.slice a N cap) (marks 1 N) ∧ w.grownBy w' (Value.slice a N cap).ownBlock := by
  subst hl
  have H := Lib.hid h; clear h
  go_enter Try.func24, Try.ntmps24
  go_wp2_with fail
  refine (mark_wide 1 (Nat.le_refl _) (by omega) base a cap l (by omega) _ (H.out.below (alloc_below _ _))).mono ?_
  rintro e w1 ⟨rfl, hm, hg⟩
  have HM := Lib.hid hm; clear hm
  have HG := Lib.hid (grown_trans (grown_below (alloc_below w _) _) hg); clear hg
  have he : ((1 + l.length : Nat) : Int) = 1 + (l.length : Int) := by omega
  rw [he]
  clear he
  go_wp2
  go_ret
  exact ⟨rfl, HM.out, HG.out⟩

theorem held_disc (n m : Int) (a : Option Addr) (N cap : Nat) (hn : N ≤ 1048576) (w : World) (h : IRow w a (marks 1 N)) :
    Calls Try.prog 25 #[.agg #[.int .i64 n, .int .i64 m, .slice a N cap], .int .i64 1] w fun e w' => e = .returned (.int .i64 (1 + (N : Int))) ∧ Below w.heap.size w w' := by
  have H := Lib.hid h; clear h
  go_enter Try.func25, Try.ntmps25
  go_wp2_with fail
  refine (held_wide a N cap 1 (Nat.le_refl _) (by omega) (by omega) _ (H.out.below (alloc_below _ _))).mono ?_
  rintro e w1 ⟨rfl, q, rfl⟩
  have HB := Lib.hid ((alloc_below w (.cells #[.int .i64 n, .int .i64 m, .slice a N cap] 26)).trans ((drewN_below _ q).mono (by simp)))
  have he : ((1 + N : Nat) : Int) = 1 + (N : Int) := by omega
  rw [he]
  clear he
  go_wp2
  go_ret
  exact ⟨rfl, HB.out⟩

/-- What is known of a row of ints that came in. -/
def IsIRow (w : World) (a : Option Addr) (len : Nat) (l : List Int) : Prop := l.length = len ∧ len ≤ maxLen ∧ ARow w a l
theorem lawDisc_cells : Try.prog.cellsOf 36 = 3 := by kernel_rfl
set_option maxRecDepth 100000 in
theorem open_disc {H : Type} {enc : TypeId × Value → H} {W : World} {r : Reach} {b0 : Nat} {spare : Nat → Bool} {held : Bool} {v : Value} {d : DataW H} {p : List MemPlace}
    (hv : Value.okWide Try.prog W r b0 36 v) (h : DataW.Trod enc Try.prog W 0 spare held 36 v d p) :
    ∃ (x y : Int) (a : Option Addr) (len cap : Nat) (l : List Int), v = .agg #[.int .i64 x, .int .i64 y, .slice a len cap] ∧ IsIRow W a len l := by
  obtain ⟨c0, c1, c2, y0, y1, y2, m, rfl, _, _, h0, h1, h2⟩ := open_agg3 Try.underlying36 (by kernel_rfl) lawDisc_cells hv h
  obtain ⟨x, e0, _⟩ := DataW.trod_int Try.underlying3 h0
  obtain ⟨y, e1, _⟩ := DataW.trod_int Try.underlying3 h1
  simp at e0 e1
  subst e0 e1
  rcases open_ints Try.underlying24 Try.underlying3 (by kernel_rfl) h2 with ⟨hcs, _⟩ | ⟨a, len, cap, ss, hcs, _, hl, hm, hz, _, hcell, _⟩
  · simp at hcs
    subst hcs
    exact ⟨x, y, none, 0, 0, [], rfl, rfl, Nat.zero_le _, fun j hj => by simp at hj⟩
  · simp at hcs
    subst hcs
    have hlen : len ≤ ss.length := by rw [hz]; split <;> omega
    refine ⟨x, y, some a, len, cap, ss.take len, rfl, by rw [List.length_take]; omega, by omega, fun j hj => ?_⟩
    rw [List.length_take] at hj
    have hc := hcell j (by omega)
    refine ⟨a, rfl, ?_, ?_⟩
    · have := World.block_lt_of_cell? _ _ hc
      rw [add_block] at this; exact this
    · rw [hc]
      have hj2 : j < ss.length := by omega
      simp [List.getD, List.getElem?_eq_getElem hj2]

section
variable {w0 w' w'' : World} {p1 p2 p3 p4 p5 p6 : Addr} {u1 u2 u3 u4 u5 u6 : Value}
theorem eqs_next (h : w'.cell? p1 = some u1 ∧ w'.cell? p2 = some u2 ∧ w'.cell? p3 = some u3 ∧ w'.cell? p4 = some u4 ∧ w'.cell? p5 = some u5 ∧ w'.cell? p6 = some u6 ∧ Below w0.heap.size w0 w') (hb : Below w'.heap.size w' w'') :
    w''.cell? p1 = some u1 ∧ w''.cell? p2 = some u2 ∧ w''.cell? p3 = some u3 ∧ w''.cell? p4 = some u4 ∧ w''.cell? p5 = some u5 ∧ w''.cell? p6 = some u6 ∧ Below w0.heap.size w0 w'' := by
  obtain ⟨h1, h2, h3, h4, h5, h6, h7⟩ := h
  have k : ∀ {p : Addr} {u : Value}, w'.cell? p = some u → w''.cell? p = some u := fun {p u} e => (hb.cell (p := p) (World.block_lt_of_cell? _ _ e)).trans e
  exact ⟨k h1, k h2, k h3, k h4, k h5, k h6, h7.trans (hb.mono h7.size)⟩
theorem eqs_drew (h : w'.cell? p1 = some u1 ∧ w'.cell? p2 = some u2 ∧ w'.cell? p3 = some u3 ∧ w'.cell? p4 = some u4 ∧ w'.cell? p5 = some u5 ∧ w'.cell? p6 = some u6 ∧ Below w0.heap.size w0 w') :
    w'.drew.cell? p1 = some u1 ∧ w'.drew.cell? p2 = some u2 ∧ w'.drew.cell? p3 = some u3 ∧ w'.drew.cell? p4 = some u4 ∧ w'.drew.cell? p5 = some u5 ∧ w'.drew.cell? p6 = some u6 ∧ Below w0.heap.size w0 w'.drew :=
  ⟨h.1, h.2.1, h.2.2.1, h.2.2.2.1, h.2.2.2.2.1, h.2.2.2.2.2.1, h.2.2.2.2.2.2.drew⟩
theorem eqs_below (h : w'.cell? p1 = some u1 ∧ w'.cell? p2 = some u2 ∧ w'.cell? p3 = some u3 ∧ w'.cell? p4 = some u4 ∧ w'.cell? p5 = some u5 ∧ w'.cell? p6 = some u6 ∧ Below w0.heap.size w0 w') : Below w0.heap.size w0 w' := h.2.2.2.2.2.2
end
theorem own_mark {w w' : World} {base : Nat} {v v2 : Value} {l : List Int} (h : Own w base v l) (hg : w.grownBy w' v2.ownBlock) (hne : ∀ k k2, v.ownBlock = some k → v2.ownBlock = some k2 → k ≠ k2) : Own w' base v l :=
  World.ownsRow.kept h hg (by
    cases hb : v.ownBlock with
    | none => exact .inl rfl
    | some b => right; exact fun e => hne b b hb e.symm rfl)
theorem var_mark {w w' : World} {b : Nat} {n m : Int} {v v2 : Value} (h : DVar w b n m v) (hg : w.grownBy w' v2.ownBlock) (hne : ∀ k, v2.ownBlock = some k → b ≠ k) : DVar w' b n m v :=
  h.grown hg (fun e => hne b e.symm rfl)
theorem lvar_mark {w w' : World} {b : Nat} {n m : Int} {v v2 : Value} (h : LDisc w b n m v) (hg : w.grownBy w' v2.ownBlock) (hne : ∀ k, v2.ownBlock = some k → b ≠ k) : LDisc w' b n m v :=
  h.grown hg (fun e => hne b e.symm rfl)
/-- A row that came in stands in every later world. -/
theorem arow_since {w w' : World} {a : Option Addr} {l : List Int} (h : ARow w a l) (hb : Below w.heap.size w w') : ARow w' a l := h.below hb
end Go.Proofs.Ytcfpgjcepmebdaa.Disc

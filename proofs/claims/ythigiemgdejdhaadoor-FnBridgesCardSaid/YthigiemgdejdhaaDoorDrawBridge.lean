/- What spec.l16Bridge and spec.DrawBridgeOk draw (printed by wip/gen_bridgedraw.py). -/
import Derived.Test.YthigiemgdejdhaaDoorBridgeSpec
import Derived.Test.YthigiemgdejdhaaDoorStripMany
import Derived.Test.YthigiemgdejdhaaDoorBridgesA
namespace Go.Proofs.YthigiemgdejdhaaDoor.Tab
open Go.ChangeShapes Go.WideShapes Go.ChangeAt Go.RowKit
open Go.Proofs.YthigiemgdejdhaaDoor.Strip Go.Proofs.YthigiemgdejdhaaDoor.Kerf Go.Proofs.YthigiemgdejdhaaDoor.Order Go.Proofs.YthigiemgdejdhaaDoor.Area Go.Proofs.YthigiemgdejdhaaDoor.Draw
set_option linter.unusedVariables false

theorem GVar.grown {w w' : World} {b : Nat} {p q : Int} {t : ByteArray} {row : Option Nat} (h : GVar w b p q t) (hg : w.grownBy w' row) (hne : some b ≠ row) : GVar w' b p q t := (hg.block b h.lt hne).trans h
theorem GVar.free {w : World} {b : Nat} {p q : Int} {t : ByteArray} (h : GVar w b p q t) (j : Nat) : w.frozen? ⟨b, j, none⟩ = false := by
  unfold GVar at h
  simp [World.frozen?, h]
theorem GVar.set0 {w : World} {b : Nat} {p q : Int} {t : ByteArray} (h : GVar w b p q t) (x : Int) : GVar (w.setCell ⟨b, 0, none⟩ (.int .i64 x)) b x q t := by
  unfold GVar at *
  rw [heap_setCell_at _ _ _ _ _ _ _ h]
  rfl
theorem GVar.set1 {w : World} {b : Nat} {p q : Int} {t : ByteArray} (h : GVar w b p q t) (x : Int) : GVar (w.setCell ⟨b, 1, none⟩ (.int .i64 x)) b p x t := by
  unfold GVar at *
  rw [heap_setCell_at _ _ _ _ _ _ _ h]
  rfl
theorem GVar.set2 {w : World} {b : Nat} {p q : Int} {t : ByteArray} (h : GVar w b p q t) (u : ByteArray) : GVar (w.setCell ⟨b, 2, none⟩ (.string u)) b p q u := by
  unfold GVar at *
  rw [heap_setCell_at _ _ _ _ _ _ _ h]
  rfl
/-- A block that is new since w is written. -/
theorem grown_over {w a b : World} {row : Option Nat} {R : Nat} (h : w.grownBy a row) (g : a.grownBy b (some R)) (hR : w.heap.size ≤ R) : w.grownBy b row :=
  ⟨g.os.trans h.os, g.tape.trans h.tape, g.output.trans h.output, Nat.le_trans h.size g.size,
    fun k hk hne => (g.block k (Nat.lt_of_lt_of_le hk h.size) (by simp; omega)).trans (h.block k hk hne)⟩
/-- The cursor, the world since the beginning, the result's block. -/
structure Held (w0 : World) (k : Nat) (ca : Option Addr) (cl cc R : Nat) (w : World) : Prop where
  cur : Cur w k ca cl cc
  grown : w0.grownBy w (some k)
  res : GVar w R 0 0 ⟨#[]⟩
theorem Held.next {w0 : World} {k : Nat} {ca : Option Addr} {cl cc R : Nat} {w w' : World} (h : Held w0 k ca cl cc R w) (hc : Cur w' k ca cl cc) (g : w.grownBy w' (some k)) (hne : R ≠ k) : Held w0 k ca cl cc R w' :=
  ⟨hc, grownBy_trans h.grown g, h.res.grown g (by simpa using hne)⟩
theorem Held.alloc {w0 : World} {k : Nat} {ca : Option Addr} {cl cc R : Nat} {w : World} (h : Held w0 k ca cl cc R w) (o : Obj) : Held w0 k ca cl cc R (w.alloc o) :=
  ⟨h.cur.alloc o, grownBy_trans h.grown (World.grownBy_alloc w o _), h.res.below (below_new w o)⟩
theorem Held.put {w0 : World} {k : Nat} {ca : Option Addr} {cl cc R B j : Nat} {w : World} (h : Held w0 k ca cl cc R w) (v : Value) (hk : k < w0.heap.size) (hB : w0.heap.size ≤ B) (hR : R ≠ B) : Held w0 k ca cl cc R (w.setCell ⟨B, j, none⟩ v) :=
  ⟨h.cur.kept (grownBy_setCell w B j v) (by simp; omega) (fun b hb => by simp; omega), grown_over h.grown (grownBy_setCell w B j v) hB, h.res.grown (grownBy_setCell w B j v) (by simpa using hR)⟩
/-- The bridge is laid into the result's block. -/
theorem Held.done {w0 : World} {k : Nat} {ca : Option Addr} {cl cc R : Nat} {w : World} (h : Held w0 k ca cl cc R w) (p q : Int) (t : ByteArray) (hk : k < w0.heap.size) (hR : w0.heap.size ≤ R) :
    ∃ Z, ((w.setCell ⟨R, 0, none⟩ (.int .i64 p)).setCell ⟨R, 1, none⟩ (.int .i64 q)).setCell ⟨R, 2, none⟩ (.string t) = Z ∧ Cur Z k ca cl cc ∧ w0.grownBy Z (some k) ∧ GVar Z R p q t := by
  have hc : ∀ {x : World} {j : Nat} {v : Value}, Cur x k ca cl cc → Cur (x.setCell ⟨R, j, none⟩ v) k ca cl cc := fun {x j v} c => c.kept (grownBy_setCell x R j v) (by simp; omega) (fun b hb => by simp; omega)
  have hg : ∀ {x : World} {j : Nat} {v : Value}, w0.grownBy x (some k) → w0.grownBy (x.setCell ⟨R, j, none⟩ v) (some k) := fun {x j v} c => grown_over c (grownBy_setCell x R j v) hR
  exact ⟨_, rfl, hc (hc (hc h.cur)), hg (hg (hg h.grown)), ((h.res.set0 p).set1 q).set2 t⟩

/-- What is drawn is small. -/
def Little (p q : Int) (t : ByteArray) : Prop := -1 ≤ p ∧ p ≤ 100 ∧ -1 ≤ q ∧ q ≤ 100 ∧ t.size ≤ 100

set_option maxRecDepth 100000 in
set_option maxHeartbeats 4000000 in
theorem bridge_get (k : Nat) (ca : Option Addr) (cl cc : Nat) (s : ByteArray) (hs : s.size ≤ 64) (w : World) (hc : Cur w k ca cl cc) {Q : Ending → World → Prop}
    (h : ∀ (p q : Int) (t : ByteArray) (w' : World), Little p q t → Cur w' k ca cl cc → w.grownBy w' (some k) → Q (.returned (.agg #[.int .i64 p, .int .i64 q, .string t])) w') :
    Calls Tryd.prog 29 #[.pointer (some ⟨k, 0, none⟩), .string s] w Q := by
  have H := Lib.hid h
  clear h
  have hk := hc.lt
  have hR0 : w.heap.size ≠ k := by omega
  have hh : Held w k ca cl cc w.heap.size (w.alloc (.cells #[.int .i64 0, .int .i64 0, .string ⟨#[]⟩] 25)) := ⟨hc.alloc _, World.grownBy_alloc w _ _, GVar.new w 0 0 ⟨#[]⟩⟩
  have HH := Lib.hid hh
  have HK := Lib.hid hk
  have HR0 := Lib.hid hR0
  have hst := fun w => is_spec s w (by omega)
  obtain ⟨W, hW⟩ : ∃ W, w.alloc (.cells #[.int .i64 0, .int .i64 0, .string ⟨#[]⟩] 25) = W := ⟨_, rfl⟩
  rw [hW] at hh
  have HW := Lib.hid hW
  have HH := Lib.hid hh
  have HK := Lib.hid hk
  have HR0 := Lib.hid hR0
  clear hc hk hR0 hh hW
  cases hsb : stripB s.data.toList with
  | false =>
    rw [hsb] at hst
    have HST := Lib.hid hst
    clear hst hsb
    go_enter Tryd.func29, Tryd.ntmps29
    go_wp2_with fail
    rw [HW.out]
    refine (HST.out _).mono ?_
    rintro e w1 ⟨rfl, rfl⟩
    obtain ⟨Z, hZ, hcz, hgz, hvz⟩ := HH.out.done (0) (2) ⟨#[102, 100]⟩ HK.out (Nat.le_refl _)
    obtain ⟨p0, p1, p2⟩ := HH.out.res.cells
    have f0 := HH.out.res.free 0
    have f1 := HH.out.res.free 1
    have f2 := HH.out.res.free 2
    have HZ := Lib.hid hZ
    have hbp : Q (.returned (.agg #[.int .i64 (0), .int .i64 (2), .string ⟨#[102, 100]⟩])) Z := H.out _ _ _ _ ⟨by omega, by omega, by omega, by omega, by decide⟩ hcz hgz
    have HBP := Lib.hid hbp
    have HVZ := Lib.hid hvz
    clear hZ hcz hgz hvz hbp
    go_wp2_with fail
    rw [HZ.out]
    clear HZ p0 p1 p2 f0 f1 f2
    obtain ⟨z0, z1, z2⟩ := HVZ.out.cells
    refine bodyPost_ret (v := .agg #[.int .i64 (0), .int .i64 (2), .string ⟨#[102, 100]⟩]) (by simp [results, Tryd.results29, go_sem, z0, z1, z2]) rfl ?_
    exact HBP.out
  | true =>
    have hsz := size_small hsb
    have hcs := cnt_sum _ (stripB_ok hsb)
    have hfr := stripB_frame hsb
    unfold frameB at hfr
    simp only [decide_eq_true_eq] at hfr
    have hsl : s.data.toList.length = s.size := by simp
    have HOK := Lib.hid (stripB_ok hsb)
    have hpos : 0 < s.size := by omega
    have hd8 : cnt 100 s.data.toList ≤ 8 := by omega
    have hf8 : cnt 102 s.data.toList ≤ 8 := by omega
    rw [hsb] at hst
    have HST := Lib.hid hst
    clear hst hsb hcs hfr hsl
    go_enter Tryd.func29, Tryd.ntmps29
    go_wp2_with fail
    rw [HW.out]
    refine (HST.out _).mono ?_
    rintro e w1 ⟨rfl, rfl⟩
    go_wp2_with fail
    refine below_get k ca cl cc (s.size : Int) (by omega) _ HH.out.cur ?_
    intro x w1 x0 x1 hc g
    have HH := Lib.hid (HH.out.next hc g HR0.out)
    clear hc g
    go_wp2_with fail
    refine below_get k ca cl cc (1 + x) (by omega) _ HH.out.cur ?_
    intro y w2 y0 y1 hc g
    have HH := Lib.hid (HH.out.next hc g HR0.out)
    clear hc g
    have hy2 : y ≤ 1 + x := by omega
    have hx2 : 1 + x ≤ (s.size : Int) := by omega
    have hpt := part_text s y.toNat (1 + x).toNat
    have hpz : (s.extract y.toNat (1 + x).toNat).size ≤ 16 := by rw [ByteArray.size_extract]; omega
    have hpo : okL (s.extract y.toNat (1 + x).toNat).data.toList = true := by rw [hpt]; exact part_ok HOK.out _ _
    have hpd : cnt 100 (s.extract y.toNat (1 + x).toNat).data.toList ≤ 8 := by rw [hpt]; exact Nat.le_trans (part_cnt _ _ _ _) hd8
    have hpf : cnt 102 (s.extract y.toNat (1 + x).toNat).data.toList ≤ 8 := by rw [hpt]; exact Nat.le_trans (part_cnt _ _ _ _) hf8
    clear hpt HOK hd8 hf8
    go_wp2_with fail
    generalize s.extract y.toNat (1 + x).toNat = part at *
    have HPO := Lib.hid hpo
    have hpl : part.data.toList.length = part.size := by simp
    have HPS := Lib.hid (cnt_sum _ hpo)
    have HPL := Lib.hid hpl
    have hcd := fun w => count_d part w (by omega)
    have hcf := fun w => count_f part w (by omega)
    have hnw := fun (t : ByteArray) (h1 : t.size = part.size) (h2 : okL t.data.toList = true) w => nowhere_spec t part w (by omega) h1.symm h2 hpo
    obtain ⟨D, hD⟩ : ∃ D, cnt 100 part.data.toList = D := ⟨_, rfl⟩
    obtain ⟨F, hF⟩ : ∃ F, cnt 102 part.data.toList = F := ⟨_, rfl⟩
    rw [hD] at hcd hpd HPS
    rw [hF] at hcf hpf HPS
    have HCD := Lib.hid hcd
    have HCF := Lib.hid hcf
    have HNW := Lib.hid hnw
    clear hcd hcf hnw hD hF hpo hpl
    refine (HCD.out _).mono ?_
    rintro e w3 ⟨rfl, rfl⟩
    go_wp2_with fail
    refine (HCF.out _).mono ?_
    rintro e w3 ⟨rfl, rfl⟩
    go_wp2_with fail
    refine draw_int k ca cl cc _ _ (by omega) (by omega) (by omega) (by omega) _ HH.out.cur ?_
    intro l w3 h1 h2 h3 hc g
    have HH := Lib.hid (HH.out.next hc g HR0.out)
    have HH0 := HH
    have hts : (⟨l.toArray⟩ : ByteArray).size = part.size := by
      have h4 : (⟨l.toArray⟩ : ByteArray).size = l.length := by simp [ByteArray.size]
      have h5 := cnt_sum l h1
      have h6 := HPS.out
      have h7 := HPL.out
      omega
    have hto : okL (⟨l.toArray⟩ : ByteArray).data.toList = true := h1
    have HNT := Lib.hid (fun w => HNW.out ⟨l.toArray⟩ hts hto w)
    clear hc g h1 h2 h3 hto HNW
    generalize (⟨l.toArray⟩ : ByteArray) = t at *
    go_wp2_with fail
    have hb0 := GVar.new w3 y (1 + x) t
    have HH := Lib.hid (HH.out.alloc (.cells #[.int .i64 y, .int .i64 (1 + x), .string t] 25))
    have hlt := HH.out.res.lt
    have hRB : w.heap.size < w3.heap.size := by
      have h1 := HH0.out.res.lt
      exact h1
    have HRB := Lib.hid hRB
    have HBK := Lib.hid (show w3.heap.size ≠ k by have := HK.out; omega)
    have HV := Lib.hid hb0
    clear hb0 hlt hRB HH0
    obtain ⟨B, hB⟩ : ∃ B, w3.heap.size = B := ⟨_, rfl⟩
    rw [hB] at HV HRB HBK ⊢
    generalize w3.alloc (.cells #[.int .i64 y, .int .i64 (1 + x), .string t] 25) = w4 at *
    clear hB
    have HTS := Lib.hid (show t.size ≤ 16 by omega)
    clear hts hpz
    refine below_get k ca cl cc 3 (by omega) _ HH.out.cur ?_
    intro v w5 v0 v1 hc g
    have HH := Lib.hid (HH.out.next hc g HR0.out)
    have HV := Lib.hid (HV.out.grown g (by have := HBK.out; simpa using this))
    clear hc g
    obtain ⟨u0, u1, u2⟩ := HV.out.cells
    by_cases hv : 0 < v
    · cases hnb : nowhereB t.data.toList part.data.toList with
      | true =>
        rw [hnb] at HNT
        clear hnb
        go_wp2_with fail
        refine (HNT.out _).mono ?_
        rintro e w6 ⟨rfl, rfl⟩
        clear u0 u1 u2 HNT HCD HCF hv
        go_wp2_with fail
        refine below_get k ca cl cc 12 (by omega) _ HH.out.cur ?_
        intro z w8 z0 z1 hc g
        have HH := Lib.hid (HH.out.next hc g HR0.out)
        have HV := Lib.hid (HV.out.grown g (by have := HBK.out; simpa using this))
        have htz := HTS.out
        clear hc g
        by_cases e0 : z = 0
        · subst e0
          have hlb := heap_alloc_new w8 (.cells #[.int .i64 (-1), .int .i64 0, .int .i64 (1 + x)] 3)
          have hlt := HH.out.cur.lt
          have HH2 := Lib.hid (HH.out.alloc (.cells #[.int .i64 (-1), .int .i64 0, .int .i64 (1 + x)] 3))
          have HV2 := Lib.hid (HV.out.below (below_new w8 (.cells #[.int .i64 (-1), .int .i64 0, .int .i64 (1 + x)] 3)))
          obtain ⟨u0, u1, u2⟩ := HV.out.cells
          go_wp2_with fail
          refine pickInt_get k ca cl cc w8.heap.size 3 [-1, 0, 1 + x] 3 (0, 0) (fun v => -1 ≤ v ∧ v ≤ 100) (by intro v hv; simp only [List.mem_cons, List.not_mem_nil, or_false] at hv; rcases hv with rfl | rfl | rfl <;> omega) rfl (by omega) (by omega) _ HH2.out.cur hlb (by omega) ?_
          intro pv w9 hp hc g
          obtain ⟨hp0, hp1⟩ := hp
          have HH := Lib.hid (HH2.out.next hc g HR0.out)
          have HV := Lib.hid (HV2.out.grown g (by have := HBK.out; simpa using this))
          clear hc g hlb hlt u0 u1 u2 HH2 HV2
          obtain ⟨u0, u1, u2⟩ := HV.out.cells
          have g0 := HV.out.free 0
          have hv3 := HV.out.set0 pv
          obtain ⟨m0, m1, m2⟩ := hv3.cells
          have HH := Lib.hid (HH.out.put (j := 0) (.int .i64 pv) HK.out (Nat.le_of_lt HRB.out) (Nat.ne_of_lt HRB.out))
          clear hv3
          obtain ⟨Z, hZ, hcz, hgz, hvz⟩ := HH.out.done (pv) (1 + x) t HK.out (Nat.le_refl _)
          obtain ⟨p0, p1, p2⟩ := HH.out.res.cells
          have f0 := HH.out.res.free 0
          have f1 := HH.out.res.free 1
          have f2 := HH.out.res.free 2
          have HZ := Lib.hid hZ
          have hbp : Q (.returned (.agg #[.int .i64 (pv), .int .i64 (1 + x), .string t])) Z := H.out _ _ _ _ ⟨by omega, by omega, by omega, by omega, by omega⟩ hcz hgz
          have HBP := Lib.hid hbp
          have HVZ := Lib.hid hvz
          clear hZ hcz hgz hvz hbp
          go_wp2_with fail
          rw [HZ.out]
          clear HZ p0 p1 p2 f0 f1 f2
          obtain ⟨z0, z1, z2⟩ := HVZ.out.cells
          refine bodyPost_ret (v := .agg #[.int .i64 (pv), .int .i64 (1 + x), .string t]) (by simp [results, Tryd.results29, go_sem, z0, z1, z2]) rfl ?_
          exact HBP.out
        by_cases e1 : z = 1
        · subst e1
          have hlb := heap_alloc_new w8 (.cells #[.int .i64 0, .int .i64 (s.size : Int), .int .i64 ((s.size : Int) + 1)] 3)
          have hlt := HH.out.cur.lt
          have HH2 := Lib.hid (HH.out.alloc (.cells #[.int .i64 0, .int .i64 (s.size : Int), .int .i64 ((s.size : Int) + 1)] 3))
          have HV2 := Lib.hid (HV.out.below (below_new w8 (.cells #[.int .i64 0, .int .i64 (s.size : Int), .int .i64 ((s.size : Int) + 1)] 3)))
          obtain ⟨u0, u1, u2⟩ := HV.out.cells
          go_wp2_with fail
          refine pickInt_get k ca cl cc w8.heap.size 3 [0, (s.size : Int), (s.size : Int) + 1] 3 (0, 0) (fun v => -1 ≤ v ∧ v ≤ 100) (by intro v hv; simp only [List.mem_cons, List.not_mem_nil, or_false] at hv; rcases hv with rfl | rfl | rfl <;> omega) rfl (by omega) (by omega) _ HH2.out.cur hlb (by omega) ?_
          intro pv w9 hp hc g
          obtain ⟨hp0, hp1⟩ := hp
          have HH := Lib.hid (HH2.out.next hc g HR0.out)
          have HV := Lib.hid (HV2.out.grown g (by have := HBK.out; simpa using this))
          clear hc g hlb hlt u0 u1 u2 HH2 HV2
          obtain ⟨u0, u1, u2⟩ := HV.out.cells
          have g1 := HV.out.free 1
          have hv3 := HV.out.set1 pv
          obtain ⟨m0, m1, m2⟩ := hv3.cells
          have HH := Lib.hid (HH.out.put (j := 1) (.int .i64 pv) HK.out (Nat.le_of_lt HRB.out) (Nat.ne_of_lt HRB.out))
          clear hv3
          obtain ⟨Z, hZ, hcz, hgz, hvz⟩ := HH.out.done (y) (pv) t HK.out (Nat.le_refl _)
          obtain ⟨p0, p1, p2⟩ := HH.out.res.cells
          have f0 := HH.out.res.free 0
          have f1 := HH.out.res.free 1
          have f2 := HH.out.res.free 2
          have HZ := Lib.hid hZ
          have hbp : Q (.returned (.agg #[.int .i64 (y), .int .i64 (pv), .string t])) Z := H.out _ _ _ _ ⟨by omega, by omega, by omega, by omega, by omega⟩ hcz hgz
          have HBP := Lib.hid hbp
          have HVZ := Lib.hid hvz
          clear hZ hcz hgz hvz hbp
          go_wp2_with fail
          rw [HZ.out]
          clear HZ p0 p1 p2 f0 f1 f2
          obtain ⟨z0, z1, z2⟩ := HVZ.out.cells
          refine bodyPost_ret (v := .agg #[.int .i64 (y), .int .i64 (pv), .string t]) (by simp [results, Tryd.results29, go_sem, z0, z1, z2]) rfl ?_
          exact HBP.out
        by_cases e2 : z = 2
        · subst e2
          obtain ⟨t3, ht3⟩ : ∃ t3, t ++ ⟨#[100]⟩ = t3 := ⟨_, rfl⟩
          have hz1 : (⟨#[100]⟩ : ByteArray).size = 1 := rfl
          have ht4 : t3.size ≤ 20 := by rw [← ht3, ByteArray.size_append]; omega
          obtain ⟨u0, u1, u2⟩ := HV.out.cells
          have g2 := HV.out.free 2
          have hv3 := HV.out.set2 t3
          obtain ⟨m0, m1, m2⟩ := hv3.cells
          have HH := Lib.hid (HH.out.put (j := 2) (.string t3) HK.out (Nat.le_of_lt HRB.out) (Nat.ne_of_lt HRB.out))
          clear hv3
          obtain ⟨Z, hZ, hcz, hgz, hvz⟩ := HH.out.done (y) (1 + x) t3 HK.out (Nat.le_refl _)
          obtain ⟨p0, p1, p2⟩ := HH.out.res.cells
          have f0 := HH.out.res.free 0
          have f1 := HH.out.res.free 1
          have f2 := HH.out.res.free 2
          have HZ := Lib.hid hZ
          have hbp : Q (.returned (.agg #[.int .i64 (y), .int .i64 (1 + x), .string t3])) Z := H.out _ _ _ _ ⟨by omega, by omega, by omega, by omega, by omega⟩ hcz hgz
          have HBP := Lib.hid hbp
          have HVZ := Lib.hid hvz
          clear hZ hcz hgz hvz hbp
          go_wp2_with fail
          rw [HZ.out]
          clear HZ p0 p1 p2 f0 f1 f2
          obtain ⟨z0, z1, z2⟩ := HVZ.out.cells
          refine bodyPost_ret (v := .agg #[.int .i64 (y), .int .i64 (1 + x), .string t3]) (by simp [results, Tryd.results29, go_sem, z0, z1, z2]) rfl ?_
          exact HBP.out
        have zq0 : (z == 0) = false := by simpa using e0
        have zq1 : (z == 1) = false := by simpa using e1
        have zq2 : (z == 2) = false := by simpa using e2
        obtain ⟨u0, u1, u2⟩ := HV.out.cells
        obtain ⟨Z, hZ, hcz, hgz, hvz⟩ := HH.out.done (y) (1 + x) t HK.out (Nat.le_refl _)
        obtain ⟨p0, p1, p2⟩ := HH.out.res.cells
        have f0 := HH.out.res.free 0
        have f1 := HH.out.res.free 1
        have f2 := HH.out.res.free 2
        have HZ := Lib.hid hZ
        have hbp : Q (.returned (.agg #[.int .i64 (y), .int .i64 (1 + x), .string t])) Z := H.out _ _ _ _ ⟨by omega, by omega, by omega, by omega, by omega⟩ hcz hgz
        have HBP := Lib.hid hbp
        have HVZ := Lib.hid hvz
        clear hZ hcz hgz hvz hbp
        go_wp2_with fail
        rw [HZ.out]
        clear HZ p0 p1 p2 f0 f1 f2
        obtain ⟨z0, z1, z2⟩ := HVZ.out.cells
        refine bodyPost_ret (v := .agg #[.int .i64 (y), .int .i64 (1 + x), .string t]) (by simp [results, Tryd.results29, go_sem, z0, z1, z2]) rfl ?_
        exact HBP.out
      | false =>
        rw [hnb] at HNT
        clear hnb
        go_wp2_with fail
        refine (HNT.out _).mono ?_
        rintro e w6 ⟨rfl, rfl⟩
        clear HNT hv
        go_wp2_with fail
        refine (HCF.out _).mono ?_
        rintro e w6 ⟨rfl, rfl⟩
        go_wp2_with fail
        refine (many_spec 102 (F : Int) (by omega) (by omega) _).mono ?_
        rintro e w6 ⟨rfl, rfl⟩
        have hr1 : (⟨(List.replicate (F : Int).toNat 102).toArray⟩ : ByteArray).size = F := by simp [ByteArray.size]
        generalize (⟨(List.replicate (F : Int).toNat 102).toArray⟩ : ByteArray) = ra at *
        go_wp2_with fail
        refine (HCD.out _).mono ?_
        rintro e w6 ⟨rfl, rfl⟩
        go_wp2_with fail
        refine (many_spec 100 (D : Int) (by omega) (by omega) _).mono ?_
        rintro e w6 ⟨rfl, rfl⟩
        have hr2 : (⟨(List.replicate (D : Int).toNat 100).toArray⟩ : ByteArray).size = D := by simp [ByteArray.size]
        generalize (⟨(List.replicate (D : Int).toNat 100).toArray⟩ : ByteArray) = rb at *
        obtain ⟨t2, ht2⟩ : ∃ t2, ra ++ rb = t2 := ⟨_, rfl⟩
        have HTS := Lib.hid (show t2.size ≤ 16 by rw [← ht2, ByteArray.size_append]; omega)
        have f0 := HV.out.free 2
        have HH := Lib.hid (HH.out.put (j := 2) (.string t2) HK.out (Nat.le_of_lt HRB.out) (Nat.ne_of_lt HRB.out))
        have HV := Lib.hid (HV.out.set2 t2)
        have HT2 := Lib.hid ht2
        clear ht2 HCD HCF
        go_wp2_with fail
        rw [HT2.out]
        clear f0 u0 u1 u2 hr1 hr2 HT2
        generalize w5.setCell ⟨B, 2, none⟩ (.string t2) = w6 at *
        go_wp2_with fail
        refine below_get k ca cl cc 12 (by omega) _ HH.out.cur ?_
        intro z w8 z0 z1 hc g
        have HH := Lib.hid (HH.out.next hc g HR0.out)
        have HV := Lib.hid (HV.out.grown g (by have := HBK.out; simpa using this))
        have htz := HTS.out
        clear hc g
        by_cases e0 : z = 0
        · subst e0
          have hlb := heap_alloc_new w8 (.cells #[.int .i64 (-1), .int .i64 0, .int .i64 (1 + x)] 3)
          have hlt := HH.out.cur.lt
          have HH2 := Lib.hid (HH.out.alloc (.cells #[.int .i64 (-1), .int .i64 0, .int .i64 (1 + x)] 3))
          have HV2 := Lib.hid (HV.out.below (below_new w8 (.cells #[.int .i64 (-1), .int .i64 0, .int .i64 (1 + x)] 3)))
          obtain ⟨u0, u1, u2⟩ := HV.out.cells
          go_wp2_with fail
          refine pickInt_get k ca cl cc w8.heap.size 3 [-1, 0, 1 + x] 3 (0, 0) (fun v => -1 ≤ v ∧ v ≤ 100) (by intro v hv; simp only [List.mem_cons, List.not_mem_nil, or_false] at hv; rcases hv with rfl | rfl | rfl <;> omega) rfl (by omega) (by omega) _ HH2.out.cur hlb (by omega) ?_
          intro pv w9 hp hc g
          obtain ⟨hp0, hp1⟩ := hp
          have HH := Lib.hid (HH2.out.next hc g HR0.out)
          have HV := Lib.hid (HV2.out.grown g (by have := HBK.out; simpa using this))
          clear hc g hlb hlt u0 u1 u2 HH2 HV2
          obtain ⟨u0, u1, u2⟩ := HV.out.cells
          have g0 := HV.out.free 0
          have hv3 := HV.out.set0 pv
          obtain ⟨m0, m1, m2⟩ := hv3.cells
          have HH := Lib.hid (HH.out.put (j := 0) (.int .i64 pv) HK.out (Nat.le_of_lt HRB.out) (Nat.ne_of_lt HRB.out))
          clear hv3
          obtain ⟨Z, hZ, hcz, hgz, hvz⟩ := HH.out.done (pv) (1 + x) t2 HK.out (Nat.le_refl _)
          obtain ⟨p0, p1, p2⟩ := HH.out.res.cells
          have f0 := HH.out.res.free 0
          have f1 := HH.out.res.free 1
          have f2 := HH.out.res.free 2
          have HZ := Lib.hid hZ
          have hbp : Q (.returned (.agg #[.int .i64 (pv), .int .i64 (1 + x), .string t2])) Z := H.out _ _ _ _ ⟨by omega, by omega, by omega, by omega, by omega⟩ hcz hgz
          have HBP := Lib.hid hbp
          have HVZ := Lib.hid hvz
          clear hZ hcz hgz hvz hbp
          go_wp2_with fail
          rw [HZ.out]
          clear HZ p0 p1 p2 f0 f1 f2
          obtain ⟨z0, z1, z2⟩ := HVZ.out.cells
          refine bodyPost_ret (v := .agg #[.int .i64 (pv), .int .i64 (1 + x), .string t2]) (by simp [results, Tryd.results29, go_sem, z0, z1, z2]) rfl ?_
          exact HBP.out
        by_cases e1 : z = 1
        · subst e1
          have hlb := heap_alloc_new w8 (.cells #[.int .i64 0, .int .i64 (s.size : Int), .int .i64 ((s.size : Int) + 1)] 3)
          have hlt := HH.out.cur.lt
          have HH2 := Lib.hid (HH.out.alloc (.cells #[.int .i64 0, .int .i64 (s.size : Int), .int .i64 ((s.size : Int) + 1)] 3))
          have HV2 := Lib.hid (HV.out.below (below_new w8 (.cells #[.int .i64 0, .int .i64 (s.size : Int), .int .i64 ((s.size : Int) + 1)] 3)))
          obtain ⟨u0, u1, u2⟩ := HV.out.cells
          go_wp2_with fail
          refine pickInt_get k ca cl cc w8.heap.size 3 [0, (s.size : Int), (s.size : Int) + 1] 3 (0, 0) (fun v => -1 ≤ v ∧ v ≤ 100) (by intro v hv; simp only [List.mem_cons, List.not_mem_nil, or_false] at hv; rcases hv with rfl | rfl | rfl <;> omega) rfl (by omega) (by omega) _ HH2.out.cur hlb (by omega) ?_
          intro pv w9 hp hc g
          obtain ⟨hp0, hp1⟩ := hp
          have HH := Lib.hid (HH2.out.next hc g HR0.out)
          have HV := Lib.hid (HV2.out.grown g (by have := HBK.out; simpa using this))
          clear hc g hlb hlt u0 u1 u2 HH2 HV2
          obtain ⟨u0, u1, u2⟩ := HV.out.cells
          have g1 := HV.out.free 1
          have hv3 := HV.out.set1 pv
          obtain ⟨m0, m1, m2⟩ := hv3.cells
          have HH := Lib.hid (HH.out.put (j := 1) (.int .i64 pv) HK.out (Nat.le_of_lt HRB.out) (Nat.ne_of_lt HRB.out))
          clear hv3
          obtain ⟨Z, hZ, hcz, hgz, hvz⟩ := HH.out.done (y) (pv) t2 HK.out (Nat.le_refl _)
          obtain ⟨p0, p1, p2⟩ := HH.out.res.cells
          have f0 := HH.out.res.free 0
          have f1 := HH.out.res.free 1
          have f2 := HH.out.res.free 2
          have HZ := Lib.hid hZ
          have hbp : Q (.returned (.agg #[.int .i64 (y), .int .i64 (pv), .string t2])) Z := H.out _ _ _ _ ⟨by omega, by omega, by omega, by omega, by omega⟩ hcz hgz
          have HBP := Lib.hid hbp
          have HVZ := Lib.hid hvz
          clear hZ hcz hgz hvz hbp
          go_wp2_with fail
          rw [HZ.out]
          clear HZ p0 p1 p2 f0 f1 f2
          obtain ⟨z0, z1, z2⟩ := HVZ.out.cells
          refine bodyPost_ret (v := .agg #[.int .i64 (y), .int .i64 (pv), .string t2]) (by simp [results, Tryd.results29, go_sem, z0, z1, z2]) rfl ?_
          exact HBP.out
        by_cases e2 : z = 2
        · subst e2
          obtain ⟨t3, ht3⟩ : ∃ t3, t2 ++ ⟨#[100]⟩ = t3 := ⟨_, rfl⟩
          have hz1 : (⟨#[100]⟩ : ByteArray).size = 1 := rfl
          have ht4 : t3.size ≤ 20 := by rw [← ht3, ByteArray.size_append]; omega
          obtain ⟨u0, u1, u2⟩ := HV.out.cells
          have g2 := HV.out.free 2
          have hv3 := HV.out.set2 t3
          obtain ⟨m0, m1, m2⟩ := hv3.cells
          have HH := Lib.hid (HH.out.put (j := 2) (.string t3) HK.out (Nat.le_of_lt HRB.out) (Nat.ne_of_lt HRB.out))
          clear hv3
          obtain ⟨Z, hZ, hcz, hgz, hvz⟩ := HH.out.done (y) (1 + x) t3 HK.out (Nat.le_refl _)
          obtain ⟨p0, p1, p2⟩ := HH.out.res.cells
          have f0 := HH.out.res.free 0
          have f1 := HH.out.res.free 1
          have f2 := HH.out.res.free 2
          have HZ := Lib.hid hZ
          have hbp : Q (.returned (.agg #[.int .i64 (y), .int .i64 (1 + x), .string t3])) Z := H.out _ _ _ _ ⟨by omega, by omega, by omega, by omega, by omega⟩ hcz hgz
          have HBP := Lib.hid hbp
          have HVZ := Lib.hid hvz
          clear hZ hcz hgz hvz hbp
          go_wp2_with fail
          rw [HZ.out]
          clear HZ p0 p1 p2 f0 f1 f2
          obtain ⟨z0, z1, z2⟩ := HVZ.out.cells
          refine bodyPost_ret (v := .agg #[.int .i64 (y), .int .i64 (1 + x), .string t3]) (by simp [results, Tryd.results29, go_sem, z0, z1, z2]) rfl ?_
          exact HBP.out
        have zq0 : (z == 0) = false := by simpa using e0
        have zq1 : (z == 1) = false := by simpa using e1
        have zq2 : (z == 2) = false := by simpa using e2
        obtain ⟨u0, u1, u2⟩ := HV.out.cells
        obtain ⟨Z, hZ, hcz, hgz, hvz⟩ := HH.out.done (y) (1 + x) t2 HK.out (Nat.le_refl _)
        obtain ⟨p0, p1, p2⟩ := HH.out.res.cells
        have f0 := HH.out.res.free 0
        have f1 := HH.out.res.free 1
        have f2 := HH.out.res.free 2
        have HZ := Lib.hid hZ
        have hbp : Q (.returned (.agg #[.int .i64 (y), .int .i64 (1 + x), .string t2])) Z := H.out _ _ _ _ ⟨by omega, by omega, by omega, by omega, by omega⟩ hcz hgz
        have HBP := Lib.hid hbp
        have HVZ := Lib.hid hvz
        clear hZ hcz hgz hvz hbp
        go_wp2_with fail
        rw [HZ.out]
        clear HZ p0 p1 p2 f0 f1 f2
        obtain ⟨z0, z1, z2⟩ := HVZ.out.cells
        refine bodyPost_ret (v := .agg #[.int .i64 (y), .int .i64 (1 + x), .string t2]) (by simp [results, Tryd.results29, go_sem, z0, z1, z2]) rfl ?_
        exact HBP.out
    · have hv2 : decide (0 < v) = false := by simpa using hv
      clear HNT HCD HCF hv
      go_wp2_with fail
      clear u0 u1 u2 hv2
      go_wp2_with fail
      refine below_get k ca cl cc 12 (by omega) _ HH.out.cur ?_
      intro z w8 z0 z1 hc g
      have HH := Lib.hid (HH.out.next hc g HR0.out)
      have HV := Lib.hid (HV.out.grown g (by have := HBK.out; simpa using this))
      have htz := HTS.out
      clear hc g
      by_cases e0 : z = 0
      · subst e0
        have hlb := heap_alloc_new w8 (.cells #[.int .i64 (-1), .int .i64 0, .int .i64 (1 + x)] 3)
        have hlt := HH.out.cur.lt
        have HH2 := Lib.hid (HH.out.alloc (.cells #[.int .i64 (-1), .int .i64 0, .int .i64 (1 + x)] 3))
        have HV2 := Lib.hid (HV.out.below (below_new w8 (.cells #[.int .i64 (-1), .int .i64 0, .int .i64 (1 + x)] 3)))
        obtain ⟨u0, u1, u2⟩ := HV.out.cells
        go_wp2_with fail
        refine pickInt_get k ca cl cc w8.heap.size 3 [-1, 0, 1 + x] 3 (0, 0) (fun v => -1 ≤ v ∧ v ≤ 100) (by intro v hv; simp only [List.mem_cons, List.not_mem_nil, or_false] at hv; rcases hv with rfl | rfl | rfl <;> omega) rfl (by omega) (by omega) _ HH2.out.cur hlb (by omega) ?_
        intro pv w9 hp hc g
        obtain ⟨hp0, hp1⟩ := hp
        have HH := Lib.hid (HH2.out.next hc g HR0.out)
        have HV := Lib.hid (HV2.out.grown g (by have := HBK.out; simpa using this))
        clear hc g hlb hlt u0 u1 u2 HH2 HV2
        obtain ⟨u0, u1, u2⟩ := HV.out.cells
        have g0 := HV.out.free 0
        have hv3 := HV.out.set0 pv
        obtain ⟨m0, m1, m2⟩ := hv3.cells
        have HH := Lib.hid (HH.out.put (j := 0) (.int .i64 pv) HK.out (Nat.le_of_lt HRB.out) (Nat.ne_of_lt HRB.out))
        clear hv3
        obtain ⟨Z, hZ, hcz, hgz, hvz⟩ := HH.out.done (pv) (1 + x) t HK.out (Nat.le_refl _)
        obtain ⟨p0, p1, p2⟩ := HH.out.res.cells
        have f0 := HH.out.res.free 0
        have f1 := HH.out.res.free 1
        have f2 := HH.out.res.free 2
        have HZ := Lib.hid hZ
        have hbp : Q (.returned (.agg #[.int .i64 (pv), .int .i64 (1 + x), .string t])) Z := H.out _ _ _ _ ⟨by omega, by omega, by omega, by omega, by omega⟩ hcz hgz
        have HBP := Lib.hid hbp
        have HVZ := Lib.hid hvz
        clear hZ hcz hgz hvz hbp
        go_wp2_with fail
        rw [HZ.out]
        clear HZ p0 p1 p2 f0 f1 f2
        obtain ⟨z0, z1, z2⟩ := HVZ.out.cells
        refine bodyPost_ret (v := .agg #[.int .i64 (pv), .int .i64 (1 + x), .string t]) (by simp [results, Tryd.results29, go_sem, z0, z1, z2]) rfl ?_
        exact HBP.out
      by_cases e1 : z = 1
      · subst e1
        have hlb := heap_alloc_new w8 (.cells #[.int .i64 0, .int .i64 (s.size : Int), .int .i64 ((s.size : Int) + 1)] 3)
        have hlt := HH.out.cur.lt
        have HH2 := Lib.hid (HH.out.alloc (.cells #[.int .i64 0, .int .i64 (s.size : Int), .int .i64 ((s.size : Int) + 1)] 3))
        have HV2 := Lib.hid (HV.out.below (below_new w8 (.cells #[.int .i64 0, .int .i64 (s.size : Int), .int .i64 ((s.size : Int) + 1)] 3)))
        obtain ⟨u0, u1, u2⟩ := HV.out.cells
        go_wp2_with fail
        refine pickInt_get k ca cl cc w8.heap.size 3 [0, (s.size : Int), (s.size : Int) + 1] 3 (0, 0) (fun v => -1 ≤ v ∧ v ≤ 100) (by intro v hv; simp only [List.mem_cons, List.not_mem_nil, or_false] at hv; rcases hv with rfl | rfl | rfl <;> omega) rfl (by omega) (by omega) _ HH2.out.cur hlb (by omega) ?_
        intro pv w9 hp hc g
        obtain ⟨hp0, hp1⟩ := hp
        have HH := Lib.hid (HH2.out.next hc g HR0.out)
        have HV := Lib.hid (HV2.out.grown g (by have := HBK.out; simpa using this))
        clear hc g hlb hlt u0 u1 u2 HH2 HV2
        obtain ⟨u0, u1, u2⟩ := HV.out.cells
        have g1 := HV.out.free 1
        have hv3 := HV.out.set1 pv
        obtain ⟨m0, m1, m2⟩ := hv3.cells
        have HH := Lib.hid (HH.out.put (j := 1) (.int .i64 pv) HK.out (Nat.le_of_lt HRB.out) (Nat.ne_of_lt HRB.out))
        clear hv3
        obtain ⟨Z, hZ, hcz, hgz, hvz⟩ := HH.out.done (y) (pv) t HK.out (Nat.le_refl _)
        obtain ⟨p0, p1, p2⟩ := HH.out.res.cells
        have f0 := HH.out.res.free 0
        have f1 := HH.out.res.free 1
        have f2 := HH.out.res.free 2
        have HZ := Lib.hid hZ
        have hbp : Q (.returned (.agg #[.int .i64 (y), .int .i64 (pv), .string t])) Z := H.out _ _ _ _ ⟨by omega, by omega, by omega, by omega, by omega⟩ hcz hgz
        have HBP := Lib.hid hbp
        have HVZ := Lib.hid hvz
        clear hZ hcz hgz hvz hbp
        go_wp2_with fail
        rw [HZ.out]
        clear HZ p0 p1 p2 f0 f1 f2
        obtain ⟨z0, z1, z2⟩ := HVZ.out.cells
        refine bodyPost_ret (v := .agg #[.int .i64 (y), .int .i64 (pv), .string t]) (by simp [results, Tryd.results29, go_sem, z0, z1, z2]) rfl ?_
        exact HBP.out
      by_cases e2 : z = 2
      · subst e2
        obtain ⟨t3, ht3⟩ : ∃ t3, t ++ ⟨#[100]⟩ = t3 := ⟨_, rfl⟩
        have hz1 : (⟨#[100]⟩ : ByteArray).size = 1 := rfl
        have ht4 : t3.size ≤ 20 := by rw [← ht3, ByteArray.size_append]; omega
        obtain ⟨u0, u1, u2⟩ := HV.out.cells
        have g2 := HV.out.free 2
        have hv3 := HV.out.set2 t3
        obtain ⟨m0, m1, m2⟩ := hv3.cells
        have HH := Lib.hid (HH.out.put (j := 2) (.string t3) HK.out (Nat.le_of_lt HRB.out) (Nat.ne_of_lt HRB.out))
        clear hv3
        obtain ⟨Z, hZ, hcz, hgz, hvz⟩ := HH.out.done (y) (1 + x) t3 HK.out (Nat.le_refl _)
        obtain ⟨p0, p1, p2⟩ := HH.out.res.cells
        have f0 := HH.out.res.free 0
        have f1 := HH.out.res.free 1
        have f2 := HH.out.res.free 2
        have HZ := Lib.hid hZ
        have hbp : Q (.returned (.agg #[.int .i64 (y), .int .i64 (1 + x), .string t3])) Z := H.out _ _ _ _ ⟨by omega, by omega, by omega, by omega, by omega⟩ hcz hgz
        have HBP := Lib.hid hbp
        have HVZ := Lib.hid hvz
        clear hZ hcz hgz hvz hbp
        go_wp2_with fail
        rw [HZ.out]
        clear HZ p0 p1 p2 f0 f1 f2
        obtain ⟨z0, z1, z2⟩ := HVZ.out.cells
        refine bodyPost_ret (v := .agg #[.int .i64 (y), .int .i64 (1 + x), .string t3]) (by simp [results, Tryd.results29, go_sem, z0, z1, z2]) rfl ?_
        exact HBP.out
      have zq0 : (z == 0) = false := by simpa using e0
      have zq1 : (z == 1) = false := by simpa using e1
      have zq2 : (z == 2) = false := by simpa using e2
      obtain ⟨u0, u1, u2⟩ := HV.out.cells
      obtain ⟨Z, hZ, hcz, hgz, hvz⟩ := HH.out.done (y) (1 + x) t HK.out (Nat.le_refl _)
      obtain ⟨p0, p1, p2⟩ := HH.out.res.cells
      have f0 := HH.out.res.free 0
      have f1 := HH.out.res.free 1
      have f2 := HH.out.res.free 2
      have HZ := Lib.hid hZ
      have hbp : Q (.returned (.agg #[.int .i64 (y), .int .i64 (1 + x), .string t])) Z := H.out _ _ _ _ ⟨by omega, by omega, by omega, by omega, by omega⟩ hcz hgz
      have HBP := Lib.hid hbp
      have HVZ := Lib.hid hvz
      clear hZ hcz hgz hvz hbp
      go_wp2_with fail
      rw [HZ.out]
      clear HZ p0 p1 p2 f0 f1 f2
      obtain ⟨z0, z1, z2⟩ := HVZ.out.cells
      refine bodyPost_ret (v := .agg #[.int .i64 (y), .int .i64 (1 + x), .string t]) (by simp [results, Tryd.results29, go_sem, z0, z1, z2]) rfl ?_
      exact HBP.out

set_option maxRecDepth 100000 in
theorem drawBridge_get (ca : Option Addr) (cl cc : Nat) (w : World) (hm : cl ≤ maxLen) (hr : RowIn w ca cl) {Q : Ending → World → Prop}
    (h : ∀ (s : ByteArray) (p q : Int) (t : ByteArray) (w' : World), s.size ≤ 64 → Little p q t → Below w.heap.size w w' → Q (.returned (.tuple #[.string s, .agg #[.int .i64 p, .int .i64 q, .string t]])) w') :
    Calls Tryd.prog 9 #[.slice ca cl cc] w Q := by
  have H := Lib.hid h; clear h
  have hr0 : RowIn (w.alloc (.cells #[.int .i64 0, .int .i64 0, .string ⟨#[]⟩] 25)) ca cl := by
    intro j hj
    obtain ⟨b, off, e, hlt, x, h0, h1, hx⟩ := hr j hj
    exact ⟨b, off, e, by simp; omega, x, h0, h1, (World.grownBy_alloc w _ none).cell hx (by simp)⟩
  have HR := Lib.hid hr0; clear hr hr0
  go_enter Tryd.func9, Tryd.ntmps9
  go_wp2_with fail
  refine new_get ca cl cc _ hm HR.out ?_
  intro k w1 hk hk1 hc1 hb1
  have hv1 := (GVar.new w 0 0 ⟨#[]⟩).below hb1
  have hbw : Below w.heap.size w w1 := ((Below.refl w.heap.size w).alloc (Nat.le_refl _) _).trans (hb1.mono (by simp))
  have hk2 : w.heap.size + 1 ≤ k := by simpa using hk
  have HV := Lib.hid hv1
  have HB := Lib.hid hbw
  clear hb1 hv1 hbw hk
  go_wp2_with fail
  refine any_get k ca cl cc _ hc1 ?_
  intro s w2 hs hc2 g2
  have HV := Lib.hid (HV.out.grown g2 (by simp; omega))
  have HB := Lib.hid (HB.out.grown g2 (by omega) (fun j e => by cases e; omega))
  have hk3 : k < w2.heap.size := hc2.lt
  clear g2 hc1
  go_wp2_with fail
  refine bridge_get k ca cl cc s hs _ hc2 ?_
  intro p q t w3 hl hc3 g3
  have HV := Lib.hid (HV.out.grown g3 (by simp; omega))
  have HB := Lib.hid (HB.out.grown g3 (by omega) (fun j e => by cases e; omega))
  obtain ⟨Z, hZ⟩ : ∃ Z, ((w3.setCell ⟨w.heap.size, 0, none⟩ (.int .i64 p)).setCell ⟨w.heap.size, 1, none⟩ (.int .i64 q)).setCell ⟨w.heap.size, 2, none⟩ (.string t) = Z := ⟨_, rfl⟩
  have hvz : GVar Z w.heap.size p q t := by rw [← hZ]; exact ((HV.out.set0 p).set1 q).set2 t
  have hbz : Below w.heap.size w Z := by
    rw [← hZ]
    exact ((HB.out.setCell (p := ⟨w.heap.size, 0, none⟩) (Nat.le_refl _) _).setCell (p := ⟨w.heap.size, 1, none⟩) (Nat.le_refl _) _).setCell (p := ⟨w.heap.size, 2, none⟩) (Nat.le_refl _) _
  have hbp : Q (.returned (.tuple #[.string s, .agg #[.int .i64 p, .int .i64 q, .string t]])) Z := H.out s p q t Z hs hl hbz
  obtain ⟨p0, p1, p2⟩ := HV.out.cells
  have f0 := HV.out.free 0
  have f1 := HV.out.free 1
  have f2 := HV.out.free 2
  have HZ := Lib.hid hZ
  have HVZ := Lib.hid hvz
  have HBP := Lib.hid hbp
  clear g3 hc2 hc3 hZ hvz hbz hbp hl
  go_wp2_with fail
  rw [HZ.out]
  clear HZ p0 p1 p2 f0 f1 f2
  obtain ⟨z0, z1, z2⟩ := HVZ.out.cells
  refine bodyPost_ret (v := .tuple #[.string s, .agg #[.int .i64 p, .int .i64 q, .string t]]) (by simp [results, Tryd.results9, go_sem, z0, z1, z2]) rfl ?_
  exact HBP.out
end Go.Proofs.YthigiemgdejdhaaDoor.Tab

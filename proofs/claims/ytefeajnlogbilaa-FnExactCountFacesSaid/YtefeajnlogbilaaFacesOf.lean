/- What impl.facesOf returns: the numbers of all tiles' faces in a map, and how many faces there are. -/
import Derived.Test.YtefeajnlogbilaaFaceFrom
namespace Go.Proofs.Ytefeajnlogbilaa.Face
open Go.ChangeShapes Go.WideShapes Go.ChangeAt Go.RowKit Go.Maps
open Go.Proofs.Ytefeajnlogbilaa.Strip Go.Proofs.Ytefeajnlogbilaa.Strs Go.Proofs.Ytefeajnlogbilaa.Card Go.Proofs.Ytefeajnlogbilaa.Faces
set_option linter.unusedVariables false

/-- The card's variable and the map of numbers. -/
def GS (w : World) (B0 bm : Nat) (d f : Int) (a : Option Addr) (m c n M : Nat) (Q : Nat → Bool) (v : Nat → Int) (N : Nat) (wr : World) : Prop :=
  (w.heap.size ≤ B0 ∧ B0 < bm) ∧ Var wr B0 d f (.slice a m c) ∧ MapI wr bm N n M Q v ∧ Below w.heap.size w wr

section
variable {w wr w' : World} {B0 bm m c n M N : Nat} {d f : Int} {a : Option Addr} {Q Q2 : Nat → Bool} {v : Nat → Int}
theorem GS.still (h : GS w B0 bm d f a m c n M Q v N wr) (hb : Below wr.heap.size wr w') : GS w B0 bm d f a m c n M Q v N w' := by
  obtain ⟨h0, hv, hm, hbw⟩ := h
  exact ⟨h0, hv.below hb, hm.below hb, hbw.trans (hb.mono hbw.size)⟩
theorem GS.row {l : List ByteArray} (h : GS w B0 bm d f a m c n M Q v N wr) (hr : Row w a l) : Row wr a l := hr.since (Nat.le_refl _) h.2.2.2
theorem GS.same (h : GS w B0 bm d f a m c n M Q v N wr) (hQ : ∀ t, t < M → Q t = Q2 t) {N2 : Nat} (hN : N ≤ N2) : GS w B0 bm d f a m c n M Q2 v N2 wr := ⟨h.1, h.2.1, (h.2.2.1.same hQ).mono hN, h.2.2.2⟩
theorem GS.put (h : GS w B0 bm d f a m c n M Q v N wr) (hn : 1 ≤ n) (hM : M ≤ 1000000) (hN : N ≤ 100000000) {u : Nat} (hu : u < M) (hv : wf (v u)) :
    ∃ w1, (Instr.mapUpdate numT (.map (some bm)) (.agg #[.int .i64 (px n u), .int .i64 (py n u)]) (.int .i64 (v u))).run Try.prog wr = .ok () w1 ∧ GS w B0 bm d f a m c n M (fun t => Q t || t == u) v (N + 1) w1 ∧ wr.grownBy w1 (some bm) := by
  obtain ⟨h0, hvar, hm, hbw⟩ := h
  obtain ⟨w1, hr, hm1, hg⟩ := hm.put hn hM hN hu hv
  exact ⟨w1, hr, ⟨h0, hvar.grown hg (by simp; omega), hm1, hbw.grown hg hbw.size (fun j e => by cases e; omega)⟩, hg⟩
end

section
variable {l : List ByteArray} {n M : Nat} {g : Nat → Nat} {cur : Nat} {hn : 1 ≤ n}
/-- What is numbered when all tiles ahead of cur are done. -/
def ahead (g : Nat → Nat) (cur : Nat) (t : Nat) : Bool := decide (g t < cur)
theorem ahead_known (hg : Full (net l n hn) g) (h : g cur < cur) (t : Nat) (ht : t < l.length * n) : ahead g cur t = ahead g (cur + 1) t := by
  unfold ahead
  have hne : g t ≠ cur := fun e => by
    have := hg.fixed (x := t) ht
    rw [e] at this
    omega
  rw [Bool.eq_iff_iff]
  simp only [decide_eq_true_eq]
  omega
theorem ahead_new {L : List Nat} (h : g cur = cur) (hL : ∀ t, t ∈ L ↔ t < M ∧ g t = g cur) (t : Nat) (ht : t < M) : (ahead g cur t || decide (t ∈ L)) = ahead g (cur + 1) t := by
  unfold ahead
  rw [Bool.eq_iff_iff]
  simp only [Bool.or_eq_true, decide_eq_true_eq, hL t, h]
  omega
theorem rank_known (h : g cur < cur) : rank g (cur + 1) = rank g cur := by simp only [rank]; rw [if_neg (by omega)]; rfl
theorem rank_new (h : g cur = cur) : rank g (cur + 1) = rank g cur + 1 := by simp only [rank]; rw [if_pos h]
theorem pos_of {k m i n : Nat} (hk : k < m) (hi : i < n) : k * n + i < m * n := by
  calc k * n + i < k * n + n := by omega
    _ = (k + 1) * n := by rw [Nat.add_mul]; omega
    _ ≤ m * n := Nat.mul_le_mul_right n hk
theorem px_of (hn : 1 ≤ n) {k i : Nat} (hi : i < n) : px n (k * n + i) = (k : Int) ∧ py n (k * n + i) = (i : Int) := by
  unfold px py
  rw [Nat.mul_comm k n, Nat.mul_add_div hn, Nat.div_eq_of_lt hi, Nat.add_zero, Nat.mul_add_mod, Nat.mod_eq_of_lt hi]
  exact ⟨rfl, rfl⟩
end

theorem take_mem_succ {L : List Nat} {q : Nat} (hq : q < L.length) (t : Nat) (b : Bool) : ((b || decide (t ∈ L.take q)) || t == L[q]) = (b || decide (t ∈ L.take (q + 1))) := by
  rw [List.take_succ_eq_append_getElem hq]
  rw [Bool.eq_iff_iff]
  simp only [List.mem_append, List.mem_singleton, Bool.or_eq_true, decide_eq_true_eq, beq_iff_eq, or_assoc]

set_option maxRecDepth 100000 in
theorem faces_no (d f : Int) (m c : Nat) (a : Option Addr) (l : List ByteArray) (w : World) (hl : l.length = m) (hm : m ≤ 1048576) (hz : ∀ s ∈ l, s.size ≤ 1048576) (hb : cardB d f l = false) (hr : Row w a l) :
    Calls Try.prog 54 #[.agg #[.int .i64 d, .int .i64 f, .slice a m c]] w fun e w' => e = .returned (.tuple #[.map none, .int .i64 0]) ∧ Below w.heap.size w w' := by
  have HB := Lib.hid (alloc_below w (.cells #[.int .i64 d, .int .i64 f, .slice a m c] 26))
  have HR := Lib.hid (hr.below HB.out)
  have HOK := Lib.hid (fun (w' : World) (h : Row w' a l) => ok_impl d f a m c l w' hl hm hz h)
  rw [hb] at HOK
  clear hr hz hb
  go_enter Try.func54, Try.ntmps54
  go_wp2_with fail
  refine (HOK.out _ HR.out).mono ?_
  rintro e w1 ⟨rfl, hb1⟩
  have HB := Lib.hid (HB.out.trans (hb1.mono HB.out.size))
  clear hb1
  go_wp2
  go_ret2
  exact ⟨rfl, HB.out⟩

set_option maxRecDepth 100000 in
set_option maxHeartbeats 8000000 in
theorem faces_impl (d f : Int) (n m c : Nat) (a : Option Addr) (l : List ByteArray) (g : Nat → Nat) (w : World) (hl : l.length = m) (hz : ∀ s ∈ l, s.size ≤ 1048576) (hb : cardB d f l = true) (hdf : (n : Int) = d + f) (hn : 1 ≤ n) (hg : Full (net l n hn) g) (hr : Row w a l) :
    Calls Try.prog 54 #[.agg #[.int .i64 d, .int .i64 f, .slice a m c]] w fun e w' =>
      ∃ bm N, e = .returned (.tuple #[.map (some bm), .int .i64 ((rank g (m * n) : Nat) : Int)]) ∧ Below w.heap.size w w' ∧ w.heap.size ≤ bm ∧ MapI w' bm N n (m * n) (fun _ => true) (fun t => ((num g t : Nat) : Int)) := by
  have hfr := card_frame hb
  have hm10 : m ≤ 10 := by have := (cardB_iff.1 hb).2.2.1; omega
  have hn16 : n ≤ 16 := by omega
  have hM1 : m * n ≤ 160 := Nat.mul_le_mul hm10 hn16
  have hlM : l.length * n = m * n := by rw [hl]
  obtain ⟨gs, rfl⟩ : ∃ gs, a = some ⟨gs, 0, none⟩ := by
    obtain ⟨gs, e, _⟩ := hr 0 (by have := (cardB_iff.1 hb).2.1; omega)
    exact ⟨gs, e⟩
  have HV := Lib.hid (Var.new w d f (.slice (some ⟨gs, 0, none⟩) m c))
  have HB := Lib.hid (alloc_below w (.cells #[.int .i64 d, .int .i64 f, .slice (some ⟨gs, 0, none⟩) m c] 26))
  have HR := Lib.hid hr
  have HOK := Lib.hid (fun (w' : World) (h : Row w' (some ⟨gs, 0, none⟩) l) => ok_impl d f (some ⟨gs, 0, none⟩) m c l w' hl (by omega) hz h)
  rw [hb] at HOK
  have HFACE := Lib.hid (fun (k i : Nat) (hk : k < m) (hi : i < n) (w' : World) (hrw : Row w' (some ⟨gs, 0, none⟩) l) => by
    have h := face_impl d f n m c (some ⟨gs, 0, none⟩) l (k * n + i) g w' hl hb hdf hn hg (by rw [hlM]; exact pos_of hk hi) hrw
    rw [(px_of hn hi).1, (px_of hn hi).2, hlM] at h
    exact h)
  have HSTR := Lib.hid (fun (k : Nat) (hk : k < l.length) => (strip_good hb hdf hk).2.1)
  have HKN := Lib.hid (fun (cur : Nat) (h : g cur < cur) (t : Nat) (ht : t < m * n) => ahead_known (cur := cur) hg h t (by rw [hlM]; exact ht))
  have HLE := Lib.hid (fun (t : Nat) (ht : t < m * n) => (show g t ≤ t from hg.le (by show t < l.length * n; rw [hlM]; exact ht)))
  clear hr hz hb hdf hg
  go_enter Try.func54, Try.ntmps54
  go_wp2_with fail
  refine (HOK.out _ (HR.out.below HB.out)).mono ?_
  rintro e w1 ⟨rfl, hb1⟩
  have HV := Lib.hid (HV.out.below hb1)
  have HB := Lib.hid (HB.out.trans (hb1.mono HB.out.size))
  have hmm := @run_makeMap Try.prog
  have hx := alloc_below w1 (.map #[] 0)
  have HG : Hid (GS w w.heap.size w1.heap.size d f (some ⟨gs, 0, none⟩) m c n (m * n) (ahead g 0) (fun t => ((num g t : Nat) : Int)) 0 (w1.alloc (.map #[] 0))) :=
    Lib.hid ⟨⟨Nat.le_refl _, HV.out.lt⟩, HV.out.below hx, (MapI.made w1 n (m * n) _).same (fun t _ => by unfold ahead; simp), HB.out.trans (hx.mono HB.out.size)⟩
  obtain ⟨k0, k1, k2⟩ := HG.out.2.1.cells
  clear hb1 hx HV HB HOK
  go_wp2_with fail
  obtain ⟨bm, hbm⟩ : ∃ bm, w1.heap.size = bm := ⟨_, rfl⟩
  rw [hbm] at HG
  try rw [hbm]
  generalize w1.alloc (.map #[] 0) = W at *
  clear hbm k0 k1 k2 hmm
  go_loopw [5, 20] (fun cnt i wr => ∃ (k N : Nat), k ≤ m ∧ N ≤ 160 * (k * n) ∧ cnt = .int .i64 ((rank g (k * n) : Nat) : Int) ∧ i = .int .i64 (k : Int) ∧ Hid (GS w w.heap.size bm d f (some ⟨gs, 0, none⟩) m c n (m * n) (ahead g (k * n)) (fun t => ((num g t : Nat) : Int)) N wr)) (fun _ i _ => m - (intOf i).toNat)
  case atStart => exact ⟨0, 0, Nat.zero_le _, by simp, by simp [rank], rfl, by rw [Nat.zero_mul]; exact HG⟩
  case round =>
    clear HG
    obtain ⟨k, N, hkm, hN, rfl, rfl, HG⟩ := hrel
    have hk0 : (0 : Int) ≤ (k : Int) := Int.natCast_nonneg _
    by_cases hlt : k < m
    · have hkl : k < l.length := by rw [hl]; exact hlt
      have hsz := HSTR.out k hkl
      obtain ⟨gs', hgs, _, hcell⟩ := HG.out.row HR.out k hkl
      cases hgs
      generalize l[k] = s at *
      have hlt2 : (k : Int) < (m : Int) := by omega
      have hn2 : (n : Int) ≤ 16 := by omega
      have hm2 : (m : Int) ≤ 10 := by omega
      go_wp2_with fail
      clear hcell
      go_loopw [5, 27] (fun cnt i wr => ∃ (j N : Nat), j ≤ n ∧ N ≤ 160 * (k * n + j) ∧ cnt = .int .i64 ((rank g (k * n + j) : Nat) : Int) ∧ i = .int .i64 (j : Int) ∧ Hid (GS w w.heap.size bm d f (some ⟨gs, 0, none⟩) m c n (m * n) (ahead g (k * n + j)) (fun t => ((num g t : Nat) : Int)) N wr)) (fun _ i _ => n - (intOf i).toNat)
      case atStart => exact ⟨0, N, Nat.zero_le _, by simpa using hN, by simp, rfl, by rw [Nat.add_zero]; exact HG⟩
      case round =>
        clear HG hN
        obtain ⟨j, N, hjn, hN, rfl, rfl, HG⟩ := hrel
        have hj0 : (0 : Int) ≤ (j : Int) := Int.natCast_nonneg _
        by_cases hj : j < n
        · have hj2 : (j : Int) < (n : Int) := by omega
          have hcM := pos_of hlt hj
          have hp := px_of (k := k) hn hj
          obtain ⟨cur, hcur⟩ : ∃ cur, k * n + j = cur := ⟨_, rfl⟩
          have HNX := Lib.hid (show k * n + (j + 1) = cur + 1 by omega)
          rw [hcur] at hcM hp HG hN
          have hrk : rank g cur ≤ 160 := Nat.le_trans (rank_le g cur) (by omega)
          have HLC := Lib.hid (HLE.out cur hcM)
          have HFC := Lib.hid (by have h := HFACE.out k j hlt hj; rw [hcur] at h; exact h)
          obtain ⟨cc, hr, _⟩ := HG.out.2.2.1.look hn (by omega) hcM
          rw [hp.1, hp.2] at hr
          obtain ⟨k0, k1, k2⟩ := HG.out.2.1.cells
          rw [hcur]
          by_cases known : g cur < cur
          · rw [show ahead g cur cur = true from decide_eq_true known] at hr
            go_wp2_with fail
            exact ⟨⟨j + 1, N, by omega, by rw [HNX.out]; omega, by rw [HNX.out, rank_known known], by go_num, by rw [HNX.out]; exact Lib.hid (HG.out.same (HKN.out cur known) (Nat.le_refl _))⟩, by simp [intOf]; omega⟩
          · have hgc : g cur = cur := by have := HLC.out; omega
            rw [show ahead g cur cur = false from decide_eq_false known] at hr
            go_wp2_with fail
            refine (HFC.out _ (HG.out.row HR.out)).mono ?_
            rintro e w3 ⟨a3, c3, L, rfl, hb3, ho3, hlen, hmem⟩
            obtain ⟨kl, hkl2⟩ : ∃ kl, L.length = kl := ⟨_, rfl⟩
            have HO3 := Lib.hid ho3
            have HG3 := Lib.hid (HG.out.still hb3)
            have HMEM := Lib.hid hmem
            have HKL := Lib.hid hkl2
            have HBB := Lib.hid (HG.out.2.2.1.lt)
            obtain ⟨b3, hb3'⟩ : ∃ b3, wr.heap.size = b3 := ⟨_, rfl⟩
            rw [hb3'] at HO3 HBB
            rw [hkl2] at HO3 hlen ⊢
            clear hb3 ho3 hmem hkl2 hb3' HG hr k0 k1 k2
            have hkl160 : kl ≤ 160 := Nat.le_trans hlen hM1
            go_wp2_with fail
            go_loopw [45] (fun i wr => ∃ (q N2 : Nat), q ≤ kl ∧ N2 ≤ N + q ∧ i = .int .i64 (q : Int) ∧ Hid (GS w w.heap.size bm d f (some ⟨gs, 0, none⟩) m c n (m * n) (fun t => ahead g cur t || decide (t ∈ L.take q)) (fun t => ((num g t : Nat) : Int)) N2 wr) ∧ Hid (TOwn wr b3 (.slice a3 kl c3) (L.map (pr n)))) (fun i _ => kl - (intOf i).toNat)
            case atStart => exact ⟨0, N, Nat.zero_le _, by omega, rfl, Lib.hid (HG3.out.same (fun t _ => by simp) (Nat.le_refl _)), HO3⟩
            case round =>
              clear HG3 HO3
              obtain ⟨q, N2, hq, hN2, rfl, HG, HO⟩ := hrel
              have hq0 : (0 : Int) ≤ (q : Int) := Int.natCast_nonneg _
              by_cases hql : q < kl
              · have hqL : q < L.length := by rw [HKL.out]; exact hql
                obtain ⟨u, hu⟩ : ∃ u, L[q] = u := ⟨_, rfl⟩
                have huM := (HMEM.out u).1 (by rw [← hu]; exact List.getElem_mem hqL)
                obtain ⟨g2, ha2, hg2, d0, d1⟩ := HO.out.cell (j := q) (by rw [List.length_map]; exact hqL)
                rw [List.getElem_map, hu] at d0 d1
                have d0' : wr.cell? ⟨g2, q * 2, none⟩ = some (.int .i64 (px n u)) := d0
                have d1' : wr.cell? ⟨g2, q * 2 + 1, none⟩ = some (.int .i64 (py n u)) := d1
                have hql2 : (q : Int) < (kl : Int) := by omega
                have hb8 := alloc_below wr (.cells #[.int .i64 (px n u), .int .i64 (py n u)] tileT)
                have HG8 := Lib.hid (HG.out.still hb8)
                have HO8 := Lib.hid (HO.out.below hb8)
                have HT8 := Lib.hid (TVar.new wr (px n u) (py n u))
                have hnum : num g u = rank g cur := by unfold num; rw [huM.2, hgc]
                have HU := Lib.hid hu
                clear d0 d1 hb8 hu
                subst ha2
                go_upto_region 15 with (fail)
                obtain ⟨b8, hb8⟩ : ∃ b8, wr.heap.size = b8 := ⟨_, rfl⟩
                rw [hb8] at HT8
                try rw [hb8]
                generalize wr.alloc (.cells #[.int .i64 (px n u), .int .i64 (py n u)] tileT) = W8 at *
                clear hb8 HG HO d0' d1'
                obtain ⟨t80, t81⟩ := HT8.out.cells
                obtain ⟨w9, hr9, hg9, hgr9⟩ := HG8.out.put hn (by omega) (by omega) huM.1 (wf_of (by omega) (by rw [hnum]; omega))
                rw [hnum] at hr9
                have HG9 := Lib.hid (hg9.same (Q2 := fun t => ahead g cur t || decide (t ∈ L.take (q + 1))) (fun t _ => by rw [← HU.out]; exact take_mem_succ hqL t _) (Nat.le_refl _))
                have HO9 := Lib.hid (HO8.out.kept hgr9 (by
                  right
                  intro e
                  have := (HO8.out.lt bm e).1
                  have := HBB.out
                  omega))
                clear hg9 hgr9 hnum
                go_wp2_with fail
                exact ⟨⟨q + 1, N2 + 1, by omega, by omega, by go_num, HG9, HO9⟩, by simp [intOf]; omega⟩
              · obtain rfl : q = kl := by omega
                have HGN := Lib.hid (HG.out.same (Q2 := ahead g (cur + 1)) (fun t ht => by
                  rw [List.take_of_length_le (by rw [HKL.out]; exact Nat.le_refl _)]
                  exact ahead_new hgc HMEM.out t ht) (Nat.le_refl _))
                go_wp2_with fail
                exact ⟨⟨j + 1, N2, by omega, by rw [HNX.out]; omega, by rw [HNX.out, rank_new hgc]; go_num, by go_num, by rw [HNX.out]; exact HGN⟩, by simp [intOf]; omega⟩
        · obtain rfl : j = n := by omega
          have hnx : (k + 1) * j = k * j + j := by rw [Nat.add_mul, Nat.one_mul]
          go_wp2_with fail
          exact ⟨⟨k + 1, N, by omega, by rw [hnx]; exact hN, by rw [hnx], by go_num, by rw [hnx]; exact HG⟩, by simp [intOf]; omega⟩
    · obtain rfl : k = m := by omega
      have HQ := Lib.hid (HG.out.same (Q2 := fun _ => true) (fun t ht => decide_eq_true (by have := HLE.out t ht; omega)) (Nat.le_refl N))
      go_wp2
      go_ret2
      exact ⟨bm, N, rfl, HQ.out.2.2.2, by have := HQ.out.1; omega, HQ.out.2.2.1⟩
end Go.Proofs.Ytefeajnlogbilaa.Face

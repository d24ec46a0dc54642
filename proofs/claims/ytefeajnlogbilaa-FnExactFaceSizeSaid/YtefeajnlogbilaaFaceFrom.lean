/- What impl.faceFrom returns: the tiles of a face. -/
import Derived.Test.YtefeajnlogbilaaFaceBfs
import Derived.Deep.DeepCutAuto
namespace Go.Proofs.Ytefeajnlogbilaa.Face
open Go.ChangeShapes Go.WideShapes Go.ChangeAt Go.RowKit Go.Maps
open Go.Proofs.Ytefeajnlogbilaa.Strip Go.Proofs.Ytefeajnlogbilaa.Strs Go.Proofs.Ytefeajnlogbilaa.Card Go.Proofs.Ytefeajnlogbilaa.Faces
set_option linter.unusedVariables false

section
variable {w W w1 : World} {d f : Int} {m c n M : Nat} {a : Option Addr} {t0 : Nat}
/-- The three ways in which the list and the map of a face are laid: the map first and filled; the list first; the map first, filled behind the list. -/
theorem lay1 (hv : Var W w.heap.size d f (.slice a m c)) (hb : Below w.heap.size w W) (hs : w.heap.size < W.heap.size) (hn : 1 ≤ n) (hM : M ≤ 1000000) (ht : t0 < M) :
    ∃ w1, (Instr.mapUpdate setT (.map (some W.heap.size)) (.agg #[.int .i64 (px n t0), .int .i64 (py n t0)]) (.bool true)).run Try.prog (W.alloc (.map #[] 0)).drew = .ok () w1 ∧
      FS w w.heap.size W.heap.size W.heap.size d f a m c n M (.slice (some ⟨w1.heap.size, 0, none⟩) 1 1) [t0] [t0] (w1.alloc (.cells #[.int .i64 (px n t0), .int .i64 (py n t0)] tileT)) ∧ ∀ b x y, TVar W b x y → TVar w1 b x y := by
  have hx := (alloc_below W (.map #[] 0)).drew
  have hm0 : MapB (W.alloc (.map #[] 0)).drew W.heap.size n M [] := MapB.made W n M
  obtain ⟨w1, hr, hm, hg⟩ := hm0.put hn hM (by simp) ht
  have hg2 := alloc_below w1 (.cells #[.int .i64 (px n t0), .int .i64 (py n t0)] tileT)
  have hlt := hm.lt
  have hbb : Below w.heap.size w w1 := (hb.trans (hx.mono hb.size)).grown hg (Nat.le_trans hb.size hx.size) (fun j e => by cases e; omega)
  refine ⟨w1, hr, ⟨⟨Nat.le_refl _, hs, Nat.le_refl _⟩, ((hv.below hx).grown hg (by simp; omega)).below hg2, TOwn.lit1 w1 W.heap.size _ _ (by omega), hm.below hg2, ?_, hbb.trans (hg2.mono hbb.size)⟩, fun b x y h => (h.below hx).grown hg (fun e => by have := h.lt; simp at e; omega)⟩
  simp [Value.ownBlock]
  omega
theorem lay2 (hv : Var W w.heap.size d f (.slice a m c)) (hb : Below w.heap.size w W) (hs : w.heap.size < W.heap.size) (hn : 1 ≤ n) (hM : M ≤ 1000000) (ht : t0 < M) :
    ∃ w1, (Instr.mapUpdate setT (.map (some (W.heap.size + 1))) (.agg #[.int .i64 (px n t0), .int .i64 (py n t0)]) (.bool true)).run Try.prog ((W.alloc (.cells #[.int .i64 (px n t0), .int .i64 (py n t0)] tileT)).alloc (.map #[] 0)).drew = .ok () w1 ∧
      FS w w.heap.size W.heap.size (W.heap.size + 1) d f a m c n M (.slice (some ⟨W.heap.size, 0, none⟩) 1 1) [t0] [t0] w1 := by
  have hx1 := alloc_below W (.cells #[.int .i64 (px n t0), .int .i64 (py n t0)] tileT)
  have hx := (hx1.alloc hx1.size (.map #[] 0)).drew
  have e1 : (W.alloc (.cells #[.int .i64 (px n t0), .int .i64 (py n t0)] tileT)).heap.size = W.heap.size + 1 := by simp
  have hm0 : MapB ((W.alloc (.cells #[.int .i64 (px n t0), .int .i64 (py n t0)] tileT)).alloc (.map #[] 0)).drew (W.heap.size + 1) n M [] := by
    have := MapB.made (W.alloc (.cells #[.int .i64 (px n t0), .int .i64 (py n t0)] tileT)) n M
    rw [e1] at this
    exact this
  obtain ⟨w1, hr, hm, hg⟩ := hm0.put hn hM (by simp) ht
  have ho : TOwn ((W.alloc (.cells #[.int .i64 (px n t0), .int .i64 (py n t0)] tileT)).alloc (.map #[] 0)).drew W.heap.size (.slice (some ⟨W.heap.size, 0, none⟩) 1 1) [(px n t0, py n t0)] :=
    (TOwn.lit1 W W.heap.size (px n t0) (py n t0) (Nat.le_refl _)).below ((alloc_below _ _).drew)
  have hbb : Below w.heap.size w w1 := (hb.trans (hx.mono hb.size)).grown hg (Nat.le_trans hb.size hx.size) (fun j e => by cases e; omega)
  exact ⟨w1, hr, ⟨Nat.le_refl _, hs, by omega⟩, (hv.below hx).grown hg (by simp; omega), ho.kept hg (.inr (by simp [Value.ownBlock])), hm, by simp [Value.ownBlock], hbb⟩
theorem lay3 (hv : Var W w.heap.size d f (.slice a m c)) (hb : Below w.heap.size w W) (hs : w.heap.size < W.heap.size) (hn : 1 ≤ n) (hM : M ≤ 1000000) (ht : t0 < M) :
    ∃ w1, (Instr.mapUpdate setT (.map (some W.heap.size)) (.agg #[.int .i64 (px n t0), .int .i64 (py n t0)]) (.bool true)).run Try.prog ((W.alloc (.map #[] 0)).alloc (.cells #[.int .i64 (px n t0), .int .i64 (py n t0)] tileT)).drew = .ok () w1 ∧
      FS w w.heap.size W.heap.size W.heap.size d f a m c n M (.slice (some ⟨W.heap.size + 1, 0, none⟩) 1 1) [t0] [t0] w1 := by
  have hx1 := alloc_below W (.map #[] 0)
  have hx := (hx1.alloc hx1.size (.cells #[.int .i64 (px n t0), .int .i64 (py n t0)] tileT)).drew
  have e1 : (W.alloc (.map #[] 0)).heap.size = W.heap.size + 1 := by simp
  have hm0 : MapB ((W.alloc (.map #[] 0)).alloc (.cells #[.int .i64 (px n t0), .int .i64 (py n t0)] tileT)).drew W.heap.size n M [] := (MapB.made W n M).below ((alloc_below _ _).drew)
  obtain ⟨w1, hr, hm, hg⟩ := hm0.put hn hM (by simp) ht
  have ho : TOwn ((W.alloc (.map #[] 0)).alloc (.cells #[.int .i64 (px n t0), .int .i64 (py n t0)] tileT)).drew W.heap.size (.slice (some ⟨W.heap.size + 1, 0, none⟩) 1 1) [(px n t0, py n t0)] := by
    have := TOwn.lit1 (W.alloc (.map #[] 0)) W.heap.size (px n t0) (py n t0) (by omega)
    rw [e1] at this
    exact this
  have hbb : Below w.heap.size w w1 := (hb.trans (hx.mono hb.size)).grown hg (Nat.le_trans hb.size hx.size) (fun j e => by cases e; omega)
  exact ⟨w1, hr, ⟨Nat.le_refl _, hs, Nat.le_refl _⟩, (hv.below hx).grown hg (by simp; omega), ho.kept hg (.inr (by simp [Value.ownBlock])), hm, by simp [Value.ownBlock], hbb⟩
end

theorem near_len (l : List ByteArray) (n : Nat) (x y : Int) : (nearL l n x y).length ≤ 4 := by
  unfold nearL acc
  rw [List.length_append]
  exact Nat.add_le_add (show _ ≤ 2 from List.length_filter_le (letQ l n x y) ([(x, y - 1), (x, y + 1)].take 2)) (show _ ≤ 2 from List.length_filter_le (eqQ l n x y) ([(x - 1, y), (x + 1, y)].take 2))

theorem near_step {n q u : Nat} {R : List (Int × Int)} {L L2 : List Nat} (hq : q < R.length) (hsub : ∀ v ∈ L, v ∈ L2) (h : ∀ p ∈ R.take q, ∃ v ∈ L, p = pr n v) (hu : u ∈ L2) (hp : R[q] = pr n u) : ∀ p ∈ R.take (q + 1), ∃ v ∈ L2, p = pr n v := by
  intro p hm
  rw [List.take_succ_eq_append_getElem hq] at hm
  rcases List.mem_append.1 hm with h1 | h1
  · obtain ⟨v, hv, e⟩ := h p h1
    exact ⟨v, hsub v hv, e⟩
  · rw [List.mem_singleton.1 h1]
    exact ⟨u, hu, hp⟩

set_option maxRecDepth 100000 in
set_option maxHeartbeats 8000000 in
theorem face_impl (d f : Int) (n m c : Nat) (a : Option Addr) (l : List ByteArray) (t0 : Nat) (g : Nat → Nat) (w : World) (hl : l.length = m) (hb : cardB d f l = true) (hdf : (n : Int) = d + f) (hn : 1 ≤ n) (hg : Full (net l n hn) g) (ht : t0 < l.length * n) (hr : Row w a l) :
    Calls Try.prog 77 #[.agg #[.int .i64 d, .int .i64 f, .slice a m c], .agg #[.int .i64 (px n t0), .int .i64 (py n t0)]] w fun e w' =>
      ∃ (av : Option Addr) (cv : Nat) (L : List Nat), e = .returned (.slice av L.length cv) ∧ Below w.heap.size w w' ∧ TOwn w' w.heap.size (.slice av L.length cv) (L.map (pr n)) ∧ L.length ≤ l.length * n ∧ ∀ t, t ∈ L ↔ t < l.length * n ∧ g t = g t0 := by
  have hfr := card_frame hb
  have hm10 : m ≤ 10 := by have := (cardB_iff.1 hb).2.2.1; omega
  have hn16 : n ≤ 16 := by omega
  obtain ⟨M, hM⟩ : ∃ M, l.length * n = M := ⟨_, rfl⟩
  have hM1 : M ≤ 160 := by
    rw [← hM, hl]
    calc m * n ≤ 10 * 16 := Nat.mul_le_mul hm10 hn16
      _ = 160 := rfl
  have e1 : (w.alloc (.cells #[.int .i64 d, .int .i64 f, .slice a m c] 26)).heap.size = w.heap.size + 1 := by simp
  have HV := Lib.hid ((Var.new w d f (.slice a m c)).below (alloc_below _ (.cells #[.int .i64 (px n t0), .int .i64 (py n t0)] tileT)))
  have HT := Lib.hid (e1 ▸ TVar.new (w.alloc (.cells #[.int .i64 d, .int .i64 f, .slice a m c] 26)) (px n t0) (py n t0))
  have HB := Lib.hid (((Below.refl w.heap.size w).alloc (Nat.le_refl _) (.cells #[.int .i64 d, .int .i64 f, .slice a m c] 26)).alloc (by simp) (.cells #[.int .i64 (px n t0), .int .i64 (py n t0)] tileT))
  have HR := Lib.hid hr
  have HNEAR := Lib.hid (fun (t : Nat) (h : t < M) (w' : World) (hrw : Row w' a l) => near_impl d f n m c a l (px n t) (py n t) w' hl hb hdf (tile_at hn (by rw [hM]; exact h)) hrw)
  have HSOUND := Lib.hid (fun (t : Nat) (h : t < M) (p : Int × Int) (hp : p ∈ nearL l n (px n t) (py n t)) => near_sound hn hb hdf (t := t) (by rw [hM]; exact h) hp hg)
  have HEND := Lib.hid (fun (L : List Nat) (h : Inv l n g t0 L L.length) (t : Nat) => Inv.end hn hb hdf hg h t)
  have HI := Lib.hid (Inv.begin (n := n) (l := l) (t0 := t0) g ht)
  rw [hM] at ht ⊢
  clear hr e1 hb hdf hg
  go_enter Try.func77, Try.ntmps77
  go_upto_region 1 with (fail)
  have HSZ := Lib.hid (show w.heap.size < ((w.alloc (.cells #[.int .i64 d, .int .i64 f, .slice a m c] 26)).alloc (.cells #[.int .i64 (px n t0), .int .i64 (py n t0)] tileT)).heap.size by simp; omega)
  generalize (w.alloc (.cells #[.int .i64 d, .int .i64 f, .slice a m c] 26)).alloc (.cells #[.int .i64 (px n t0), .int .i64 (py n t0)] tileT) = W at *
  go_cut [5, 6] (fun s5 s6 wx => ∃ (b5 bm : Nat), s5 = .slice (some ⟨b5, 0, none⟩) 1 1 ∧ s6 = .map (some bm) ∧ Hid (FS w w.heap.size W.heap.size bm d f a m c n M (.slice (some ⟨b5, 0, none⟩) 1 1) [t0] [t0] wx))
  case first =>
    obtain ⟨t00, t01⟩ := HT.out.cells
    obtain ⟨x00, x01⟩ := (HT.out.below (alloc_below W (.map #[] 0))).cells
    obtain ⟨y00, y01⟩ := (HT.out.below (alloc_below W (.cells #[.int .i64 (px n t0), .int .i64 (py n t0)] tileT))).cells
    obtain ⟨z00, z01⟩ := ((HT.out.below (alloc_below W (.map #[] 0))).below (alloc_below _ (.cells #[.int .i64 (px n t0), .int .i64 (py n t0)] tileT))).cells
    obtain ⟨u00, u01⟩ := ((HT.out.below (alloc_below W (.cells #[.int .i64 (px n t0), .int .i64 (py n t0)] tileT))).below (alloc_below _ (.map #[] 0))).cells
    obtain ⟨v1, hr1, hf1, hk1⟩ := lay1 (n := n) (M := M) (t0 := t0) HV.out HB.out HSZ.out hn (by omega) ht
    obtain ⟨v2, hr2, hf2⟩ := lay2 (n := n) (M := M) (t0 := t0) HV.out HB.out HSZ.out hn (by omega) ht
    obtain ⟨v3, hr3, hf3⟩ := lay3 (n := n) (M := M) (t0 := t0) HV.out HB.out HSZ.out hn (by omega) ht
    have HF1 := Lib.hid hf1
    have HF2 := Lib.hid hf2
    have HF3 := Lib.hid hf3
    obtain ⟨s00, s01⟩ := (hk1 _ _ _ HT.out).cells
    clear hf1 hf2 hf3 hk1
    have hmm := @run_makeMap Try.prog
    go_region_law ((first
      | (refine step_insert_run rfl (.tmp 12) (.tmp 13) (.const (.bool true)) _ rfl _ _ _ (by rfl) (by rfl) (by rfl) hr1 ?_)
      | (refine step_insert_run rfl (.tmp 12) (.tmp 13) (.const (.bool true)) _ rfl _ _ _ (by rfl) (by rfl) (by rfl) hr2 ?_)
      | (refine step_insert_run rfl (.tmp 12) (.tmp 13) (.const (.bool true)) _ rfl _ _ _ (by rfl) (by rfl) (by rfl) hr3 ?_)))
    all_goals
      go_wp2_with fail
      go_meet
      first
        | exact ⟨_, _, rfl, rfl, HF1⟩
        | exact ⟨_, _, rfl, rfl, HF2⟩
        | exact ⟨_, _, rfl, rfl, HF3⟩
  case rest =>
    obtain ⟨b5, bm, rfl, rfl, HF0⟩ := hcut
    obtain ⟨base, hbase⟩ : ∃ base, W.heap.size = base := ⟨_, rfl⟩
    rw [hbase] at HF0
    clear hbase
    go_wp2_with fail
    go_loopw [5, 7] (fun sl i wr => ∃ (j k : Nat) (av : Option Addr) (cv : Nat) (L : List Nat), k ≤ 160 ∧ j ≤ k ∧ sl = .slice av k cv ∧ i = .int .i64 (j : Int) ∧ Hid (L.length = k ∧ Inv l n g t0 L j) ∧ Hid (FS w w.heap.size base bm d f a m c n M (.slice av k cv) L L wr)) (fun _ i _ => 161 - (intOf i).toNat)
    case atStart => exact ⟨0, 1, _, 1, [t0], by omega, by omega, rfl, rfl, Lib.hid ⟨rfl, HI.out⟩, HF0⟩
    case round =>
      clear HF0 HI
      obtain ⟨j, k, av, cv, L, hk160, hjk, rfl, rfl, HL, HF⟩ := hrel
      have hj0 : (0 : Int) ≤ (j : Int) := Int.natCast_nonneg _
      by_cases hlt : j < k
      · obtain ⟨tj, htj⟩ : ∃ tj, L.getD j 0 = tj := ⟨_, rfl⟩
        have hjL : j < L.length := by rw [HL.out.1]; exact hlt
        have htj2 : L[j] = tj := by rw [← htj]; simp [List.getD, hjL]
        have htM : tj < M := by rw [← hM]; exact (HL.out.2.face tj (by rw [← htj2]; exact List.getElem_mem hjL)).1
        obtain ⟨gf, rfl, hgf, c0, c1⟩ := HF.out.2.2.1.cell (j := j) (by rw [List.length_map]; exact hjL)
        rw [List.getElem_map, htj2] at c0 c1
        have c0' : wr.cell? ⟨gf, j * 2, none⟩ = some (.int .i64 (px n tj)) := c0
        have c1' : wr.cell? ⟨gf, j * 2 + 1, none⟩ = some (.int .i64 (py n tj)) := c1
        clear c0 c1
        obtain ⟨k0, k1, k2⟩ := HF.out.2.1.cells
        have hlt2 : (j : Int) < (k : Int) := by omega
        have HTJ := Lib.hid (show j < k ∧ L.getD j 0 = tj from ⟨hlt, htj⟩)
        clear htj htj2 hjL
        go_upto_region 5 with (fail)
        have HNR := Lib.hid (HNEAR.out tj htM)
        generalize hR : nearL l n (px n tj) (py n tj) = R at *
        obtain ⟨rl, hrl⟩ : ∃ rl, R.length = rl := ⟨_, rfl⟩
        rw [hrl] at HNR
        have hrl4 : rl ≤ 4 := by rw [← hrl, ← hR]; exact near_len _ _ _ _
        have HRR := Lib.hid hR
        have HRL := Lib.hid hrl
        clear hR hrl
        go_cut [26, 27, 28] (fun s26 s27 s28 wx => ∃ (a2 : Option Addr) (c2 b2 : Nat), s26 = .slice a2 rl c2 ∧ s27 = .int .i64 (rl : Int) ∧ s28 = .int .i64 0 ∧ Hid (FS w w.heap.size base bm d f a m c n M (.slice (some ⟨gf, 0, none⟩) k cv) L L wx) ∧ Hid (NR (.slice a2 rl c2) R b2 (.slice (some ⟨gf, 0, none⟩) k cv) bm wx))
        case first =>
          go_region_law ((go_simp; go_at_call 85; refine (HNR.out _ ((HF.out.still (Below.refl wr.heap.size wr).drew).row HR.out)).mono ?_; rintro e w5 ⟨a2, c2, rfl, hb5, ho5⟩; have HF5 := Lib.hid (HF.out.still ((Below.refl wr.heap.size wr).drew.trans hb5)); have HN5 := Lib.hid (NR.nil HF.out ((Below.refl wr.heap.size wr).drew.trans hb5) ho5); clear hb5 ho5))
          all_goals
            go_wp2_with fail
            go_meet
            exact ⟨a2, c2, _, rfl, rfl, rfl, HF5, HN5⟩
        case rest =>
          obtain ⟨a2, c2, b2, rfl, rfl, rfl, HF5, HN5⟩ := hcut
          clear k0 k1 k2 c0' c1' HF HNR
          go_wp2_with fail
          go_loopw [5, 28] (fun sl i wr => ∃ (q k : Nat) (av : Option Addr) (cv : Nat) (L : List Nat), q ≤ rl ∧ k ≤ 160 ∧ sl = .slice av k cv ∧ i = .int .i64 (q : Int) ∧ Hid (L.length = k ∧ Inv l n g t0 L j ∧ j < k ∧ L.getD j 0 = tj) ∧ Hid (∀ p ∈ R.take q, ∃ u ∈ L, p = pr n u) ∧ Hid (FS w w.heap.size base bm d f a m c n M (.slice av k cv) L L wr ∧ NR (.slice a2 rl c2) R b2 (.slice av k cv) bm wr)) (fun _ i _ => rl - (intOf i).toNat)
          case atStart => exact ⟨0, k, _, cv, L, Nat.zero_le _, hk160, rfl, rfl, Lib.hid ⟨HL.out.1, HL.out.2, HTJ.out⟩, Lib.hid (by simp), Lib.hid ⟨HF5.out, HN5.out⟩⟩
          case round =>
            clear HF5 HN5 HL
            obtain ⟨q, k, av, cv, L, hq, hk160, rfl, rfl, HL, HNX, HFN⟩ := hrel
            have hq0 : (0 : Int) ≤ (q : Int) := Int.natCast_nonneg _
            by_cases hql : q < rl
            · have hqR : q < R.length := by rw [HRL.out]; exact hql
              obtain ⟨u, huM, hpu, hgu⟩ := HSOUND.out tj htM R[q] (by rw [HRR.out]; exact List.getElem_mem hqR)
              rw [hM] at huM
              have htjL : tj ∈ L := by
                obtain ⟨h1, h2, h3, h4⟩ := HL.out
                have h5 : j < L.length := by omega
                rw [← h4, show L.getD j 0 = L[j] by simp [List.getD, h5]]
                exact List.getElem_mem h5
              have HGU := Lib.hid (show g u = g t0 from hgu.trans (HL.out.2.1.face tj htjL).2)
              have HPU := Lib.hid hpu
              obtain ⟨g2, rfl, hg2, d0, d1⟩ := HFN.out.2.1.cell (j := q) hqR
              rw [hpu] at d0 d1
              have d0' : wr.cell? ⟨g2, q * 2, none⟩ = some (.int .i64 (px n u)) := d0
              have d1' : wr.cell? ⟨g2, q * 2 + 1, none⟩ = some (.int .i64 (py n u)) := d1
              have hql2 : (q : Int) < (rl : Int) := by omega
              have hb8 := alloc_below wr (.cells #[.int .i64 (px n u), .int .i64 (py n u)] tileT)
              have HF8 := Lib.hid (HFN.out.1.still hb8)
              have HN8 := Lib.hid (HFN.out.2.still hb8)
              have HT8 := Lib.hid (TVar.new wr (px n u) (py n u))
              clear d0 d1 hpu hgu htjL hb8
              go_upto_region 8 with (fail)
              obtain ⟨b8, hb8⟩ : ∃ b8, wr.heap.size = b8 := ⟨_, rfl⟩
              rw [hb8] at HT8
              try rw [hb8]
              generalize wr.alloc (.cells #[.int .i64 (px n u), .int .i64 (py n u)] tileT) = W8 at *
              clear hb8 HFN d0' d1'
              obtain ⟨t80, t81⟩ := HT8.out.cells
              have hlook := HF8.out.2.2.2.1.look (by omega) huM
              by_cases huL : u ∈ L
              · rw [decide_eq_true huL] at hlook
                go_wp2_with fail
                exact ⟨⟨q + 1, k, av, cv, L, by omega, hk160, rfl, by go_num, HL, Lib.hid (near_step hqR (fun v h => h) HNX.out huL HPU.out), Lib.hid ⟨HF8.out, HN8.out⟩⟩, by simp [intOf]; omega⟩
              · rw [decide_eq_false huL] at hlook
                obtain ⟨w1, hr1, hf1, hn1, hg1⟩ := HF8.out.put HN8.out hn (by omega) (by have := HL.out.1; omega) huM
                have hr1' : (Instr.mapUpdate setT (.map (some bm)) (.agg #[.int .i64 (px n u), .int .i64 (py n u)]) (.bool true)).run Try.prog W8 = .ok () w1 := hr1
                have HT1 := Lib.hid (HT8.out.grown hg1 (fun e => by
                  have e2 : b8 = bm := by simpa using e
                  subst e2
                  obtain ⟨D, ⟨es, clock, hmm, _⟩, _⟩ := HF8.out.2.2.2.1
                  have := HT8.out
                  unfold TVar at this
                  rw [this] at hmm
                  cases hmm))
                obtain ⟨t10, t11⟩ := HT1.out.cells
                obtain ⟨gg, cap, w6, hr6, hf6, hn6⟩ := hf1.push hn1 HL.out.1 (by omega) u
                have hr6' : ∀ ty, (Builtin.append_ #[92, 92] ty #[.slice av k cv, .slice (some ⟨w1.heap.size, 0, none⟩) 1 1]).run Try.prog (w1.alloc (.cells #[.int .i64 (px n u), .int .i64 (py n u)] tileT)) = .ok (.slice (some ⟨gg, 0, none⟩) (k + 1) cap) w6 := hr6
                have HF6 := Lib.hid hf6
                have HN6 := Lib.hid hn6
                clear hr1 hf1 hn1 hg1 hr6 hf6 hn6
                go_wp2_with (at_builtin; refine Lib.wpList_append_run _ rfl _ _ _ _ rfl _ _ rfl rfl _ _ (hr6' _) ?_)
                have hgrow := HL.out.2.1.grow (by rw [hM]; exact huM) HGU.out huL
                have hlen := hgrow.len
                rw [hM, List.length_append, HL.out.1] at hlen
                have hlen2 : k + 1 ≤ 160 := Nat.le_trans hlen hM1
                have hjL : j < L.length := by have := HL.out; omega
                exact ⟨⟨q + 1, k + 1, some ⟨gg, 0, none⟩, cap, L ++ [u], by omega, hlen2, rfl, by go_num, Lib.hid ⟨by rw [List.length_append, HL.out.1]; rfl, hgrow, by have := HL.out.2.2.1; omega, by rw [getD_grow hjL]; exact HL.out.2.2.2⟩, Lib.hid (near_step hqR (fun v h => List.mem_append.2 (.inl h)) HNX.out (by simp) HPU.out), Lib.hid ⟨HF6.out, HN6.out⟩⟩, by simp [intOf]; omega⟩
            · obtain rfl : q = rl := by omega
              have HALL := Lib.hid (show Inv l n g t0 L (j + 1) from by
                obtain ⟨h1, h2, h3, h4⟩ := HL.out
                refine h2.next (by omega) ?_
                rw [h4, HRR.out]
                have h5 := HNX.out
                rw [List.take_of_length_le (by rw [HRL.out]; exact Nat.le_refl _)] at h5
                exact h5)
              have hjk2 : j < k := HL.out.2.2.1
              go_wp2_with fail
              exact ⟨⟨j + 1, k, av, cv, L, hk160, by omega, rfl, by go_num, Lib.hid ⟨HL.out.1, HALL.out⟩, Lib.hid HFN.out.1⟩, by simp [intOf]; omega⟩
      · obtain rfl : j = k := by omega
        go_wp2
        go_ret
        have h1 := HL.out.1
        have hI := HL.out.2
        rw [← h1] at hI
        have hfin := HEND.out L hI
        subst h1
        exact ⟨av, cv, L, rfl, HF.out.2.2.2.2.2, HF.out.2.2.1.mono (by have := HF.out.1; omega), by rw [← hM]; exact hI.len, fun t => by rw [hfin t, hM]⟩
end Go.Proofs.Ytefeajnlogbilaa.Face

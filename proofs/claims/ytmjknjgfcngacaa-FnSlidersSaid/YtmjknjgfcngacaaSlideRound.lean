/- What pullLinked of the program returns and does: one round (printed by wip/gen_slide6.py). -/
import Derived.Test.YtmjknjgfcngacaaSlideArr8
import Derived.Laws.ResultCell
import Derived.OrdersHeld
import Derived.Deep.RegionHeld
namespace Go.Proofs.Ytmjknjgfcngacaa.Slide
open Go.ChangeShapes Go.WideShapes Go.ChangeAt Go.RowKit Go.Sort
open Go.Proofs.Ytmjknjgfcngacaa.Tri
open Go.Proofs.Ytmjknjgfcngacaa.Ints (grown_below grown_set grown_trans heap_set_at drewN_below)
set_option linter.unusedVariables false

/-- The three blocks that pullLinked begins with: what moved before, the result, what moves now. -/
theorem begin_round (w : World) (mv : Moves) : ∃ W, W = ((w.alloc (.cells #[.int .i64 (mv 0), .int .i64 (mv 1), .int .i64 (mv 2), .int .i64 (mv 3), .int .i64 (mv 4), .int .i64 (mv 5), .int .i64 (mv 6), .int .i64 (mv 7)] 69)).alloc (.cells #[.int .i64 0, .int .i64 0, .int .i64 0, .int .i64 0, .int .i64 0, .int .i64 0, .int .i64 0, .int .i64 0] 69)).alloc (.cells #[.int .i64 0, .int .i64 0, .int .i64 0, .int .i64 0, .int .i64 0, .int .i64 0, .int .i64 0, .int .i64 0] 69) ∧ Arr8 W w.heap.size mv ∧ Arr8 W (w.heap.size + 1) noMove ∧ Arr8 W (w.heap.size + 1 + 1) noMove ∧ Below w.heap.size w W ∧ W.heap.size = w.heap.size + 3 := by
  have h1 := Arr8.new w mv
  have h2 := Arr8.new (w.alloc (.cells (a8 mv) 69)) noMove
  have h3 := Arr8.new ((w.alloc (.cells (a8 mv) 69)).alloc (.cells (a8 noMove) 69)) noMove
  have b2 := alloc_below (w.alloc (.cells (a8 mv) 69)) (.cells (a8 noMove) 69)
  have b3 := alloc_below ((w.alloc (.cells (a8 mv) 69)).alloc (.cells (a8 noMove) 69)) (.cells (a8 noMove) 69)
  rw [show (w.alloc (.cells (a8 mv) 69)).heap.size = w.heap.size + 1 by simp] at h2
  rw [show ((w.alloc (.cells (a8 mv) 69)).alloc (.cells (a8 noMove) 69)).heap.size = w.heap.size + 1 + 1 by simp] at h3
  exact ⟨_, rfl, (h1.below b2).below b3, h2.below b3, h3, (alloc_below _ _).trans ((b2.trans (b3.mono (by simp))).mono (by simp)), by simp⟩
/-- A small product. -/
theorem mul_small {z x : Int} (hz : z = -1 ∨ z = 1) (h0 : -200 ≤ x) (h1 : x ≤ 200) : -200 ≤ z * x ∧ z * x ≤ 200 := by
  rcases hz with rfl | rfl <;> omega

section
variable {w0 w w' : World} {L B f t : Nat} {z x : Int} {g : Nat}
/-- What the region reads, but for the cell that it writes: the link's three cells and how far its slider moved. -/
def FourC (L B f t : Nat) (z x : Int) (w : World) : Prop := w.cell? ⟨L, 0, none⟩ = some (.int .i64 (f : Int)) ∧ w.cell? ⟨L, 1, none⟩ = some (.int .i64 (t : Int)) ∧ w.cell? ⟨L, 2, none⟩ = some (.int .i64 z) ∧ w.cell? ⟨B, f, none⟩ = some (.int .i64 x)
theorem FourC.grown (h : FourC L B f t z x w) (hg : w.grownBy w' (some g)) (n1 : L ≠ g) (n2 : B ≠ g) : FourC L B f t z x w' := by
  obtain ⟨h0, h1, h2, h3⟩ := h
  exact ⟨hg.cell h0 (by simpa using n1), hg.cell h1 (by simpa using n1), hg.cell h2 (by simpa using n1), hg.cell h3 (by simpa using n2)⟩
theorem FourC.below (h : FourC L B f t z x w) (hb : Below w.heap.size w w') : FourC L B f t z x w' := by
  obtain ⟨h0, h1, h2, h3⟩ := h
  have k : ∀ {p : Addr} {v : Value}, w.cell? p = some v → w'.cell? p = some v := fun {p v} e => (hb.cell (p := p) (World.block_lt_of_cell? _ _ e)).trans e
  exact ⟨k h0, k h1, k h2, k h3⟩
theorem FourC.drew (h : FourC L B f t z x w) : FourC L B f t z x w.drew := h
end

theorem own_other {T : TypeId} {w w' : World} {base g n c b : Nat} {l : List T3} (h : OwnT T w base (.slice (some ⟨g, 0, none⟩) n c) l) (hg : w.grownBy w' (some b)) (hne : b ≠ g) : OwnT T w' base (.slice (some ⟨g, 0, none⟩) n c) l :=
  World.ownsRow.kept h hg (by right; have h2 : ¬ g = b := fun e => hne e.symm; simpa [Value.ownBlock] using h2)
/-- What is written into a block that came later is not seen. -/
theorem grown_far {w0 w w' : World} {g c : Nat} (h : w0.grownBy w (some g)) (hg : w.grownBy w' (some c)) (hc : w0.heap.size ≤ c) : w0.grownBy w' (some g) :=
  ⟨hg.os.trans h.os, hg.tape.trans h.tape, hg.output.trans h.output, Nat.le_trans h.size hg.size, fun k hk hne => (hg.block k (Nat.lt_of_lt_of_le hk h.size) (by simp only [ne_eq, Option.some.injEq]; omega)).trans (h.block k hk hne)⟩

set_option maxRecDepth 100000 in
set_option maxHeartbeats 4000000 in
theorem round_impl (mv : Moves) (base g n c m cl : Nat) (al : Option Addr) (R ls : List T3) (w : World) (h : OwnT 33 w base (.slice (some ⟨g, 0, none⟩) n c) R) (hn : R.length = n) (hn8 : n ≤ 8) (hok : ∀ s ∈ R, okS s = true) (hmv : ∀ i, -200 ≤ mv i ∧ mv i ≤ 200) (hm : ls.length = m) (hm2 : m ≤ 1000) (hlk : ∀ l ∈ ls, linkB (n : Int) l = true) (hr : Row3 w al ls) (hal : ∀ x, al = some x → x.block ≠ g) :
    Calls Try.prog 44 #[.slice (some ⟨g, 0, none⟩) n c, .slice al m cl, .agg #[.int .i64 (mv 0), .int .i64 (mv 1), .int .i64 (mv 2), .int .i64 (mv 3), .int .i64 (mv 4), .int .i64 (mv 5), .int .i64 (mv 6), .int .i64 (mv 7)]] w fun e w' => e = .returned (.agg (a8 (part mv R ls).2)) ∧ OwnT 33 w' base (.slice (some ⟨g, 0, none⟩) n c) (part mv R ls).1 ∧ w.grownBy w' (some g) := by
  have hg : g < w.heap.size := (h.lt g rfl).2
  have HCAME := Lib.hid (show ∀ k, Came R (part mv R (ls.take k)).1 (part mv R (ls.take k)).2 from fun k => Came.part hok mv _ fun l hl => by
    have := linkB_iff.1 (hlk l (List.mem_of_mem_take hl))
    omega)
  have HOK := Lib.hid hok
  have HMV := Lib.hid hmv
  have HM := Lib.hid hm
  have HN := Lib.hid hn
  have HLK := Lib.hid hlk
  obtain ⟨W, hW, ha1, ha2, ha3, hb, hs⟩ := begin_round w mv
  have HW := Lib.hid hW
  have HS := Lib.hid hs
  have HA1 := Lib.hid ha1
  have HA2 := Lib.hid ha2
  have HA3 := Lib.hid ha3
  have HO := Lib.hid (h.below hb)
  have HG := Lib.hid (grown_below hb (some g))
  have HR := Lib.hid (fun (w' : World) (hg : w.grownBy w' (some g)) => row_mark hr hg hal)
  clear hW ha1 ha2 ha3 hb hs hok hmv hm hn hlk h hr hal
  go_enter Try.func44, Try.ntmps44
  go_wp2_with fail
  rw [← HW.out]
  clear HW
  obtain ⟨B1, hB1⟩ : ∃ B, w.heap.size = B := ⟨_, rfl⟩
  rw [hB1] at HA1 HA2 HA3 hg ⊢
  have HB1 := Lib.hid hB1
  obtain ⟨B2, hB2⟩ : ∃ B, B1 + 1 = B := ⟨_, rfl⟩
  rw [hB2] at HA2 HA3 ⊢
  obtain ⟨B3, hB3⟩ : ∃ B, B2 + 1 = B := ⟨_, rfl⟩
  rw [hB3] at HA3 ⊢
  have n12 : B1 ≠ B2 := by omega
  have n13 : B1 ≠ B3 := by omega
  have n23 : B2 ≠ B3 := by omega
  have g1 : B1 ≠ g := by omega
  have g2 : B2 ≠ g := by omega
  have g3 : B3 ≠ g := by omega
  have l2 : B1 ≤ B2 := by omega
  have l3 : B1 ≤ B3 := by omega
  clear hB1 hB2 hB3
  go_loopw [12] (fun i wr => ∃ k : Nat, k ≤ m ∧ i = .int .i64 (k : Int) ∧ Hid (Arr8 wr B1 mv) ∧ Hid (Arr8 wr B2 noMove) ∧ Hid (Arr8 wr B3 (part mv R (ls.take k)).2) ∧ Hid (OwnT 33 wr base (.slice (some ⟨g, 0, none⟩) n c) (part mv R (ls.take k)).1) ∧ Hid (w.grownBy wr (some g))) (fun i _ => m - (intOf i).toNat)
  case atStart => exact ⟨0, Nat.zero_le _, rfl, HA1, HA2, HA3, HO, HG⟩
  case round =>
    clear HA1 HA2 HA3 HO HG HS
    obtain ⟨k, hk, rfl, HA1, HA2, HA3, HO, HG⟩ := hrel
    have hk0 : (0 : Int) ≤ (k : Int) := Int.natCast_nonneg _
    by_cases hlt : k < m
    · have hk1 : (k : Int) < (m : Int) := by omega
      have hkl : k < ls.length := by rw [HM.out]; exact hlt
      obtain ⟨gl, rfl, hgl, c0, c1, c2⟩ := (HR.out _ HG.out) k hkl
      have hlk := linkB_iff.1 (HLK.out _ (List.getElem_mem hkl))
      have HT := Lib.hid (part_take mv R ls k hkl)
      have hcm := HCAME.out k
      have hcm2 := HCAME.out (k + 1)
      rw [HT.out] at hcm2
      generalize ls[k] = s at *
      obtain ⟨x, y, z⟩ := s
      simp only at c0 c1 c2 hlk
      obtain ⟨h0, h1, h2, h3, _, hz⟩ := hlk
      obtain ⟨f, rfl⟩ := Int.eq_ofNat_of_zero_le h0
      obtain ⟨t, rfl⟩ := Int.eq_ofNat_of_zero_le h2
      have hf : f < n := by omega
      have ht : t < n := by omega
      have hf8 : (f : Int) < 8 := by omega
      have ht8 : (t : Int) < 8 := by omega
      have hf0 : (0 : Int) ≤ (f : Int) := Int.natCast_nonneg _
      have ht0 : (0 : Int) ≤ (t : Int) := Int.natCast_nonneg _
      have htn : (t : Int) < (n : Int) := by omega
      have hv := VarT.new (T := 35) wr ((f : Int), (t : Int), z)
      have hb := alloc_below wr (.cells #[.int .i64 (f : Int), .int .i64 (t : Int), .int .i64 z] 35)
      have HL := Lib.hid (show B3 < wr.heap.size from HA3.out.lt)
      have HA1 := Lib.hid (HA1.out.below hb)
      have HA2 := Lib.hid (HA2.out.below hb)
      have HA3 := Lib.hid (HA3.out.below hb)
      have HO := Lib.hid (HO.out.below hb)
      have HG := Lib.hid (grown_trans HG.out (grown_below hb (some g)))
      obtain ⟨m0, m1, m2⟩ := hv.cells
      simp only at m0 m1 m2
      clear hb hv
      generalize hst : part mv R (ls.take k) = st at *
      obtain ⟨R2, mm⟩ := st
      simp only at HA3 HO hcm
      have htR : t < R2.length := by rw [hcm.len, HN.out]; exact ht
      have hmvf := HMV.out f
      have hq := mul_small hz hmvf.1 hmvf.2
      have hbd := hcm2.bound HOK.out t
      have HST := Lib.hid (show stepR mv (R2, mm) ((f : Int), (t : Int), z) = (R2.set t (pullS R2[t] (z * mv f)), fun i => if i = t then mm i + (nowV R2[t] (z * mv f) - R2[t].2.2) else mm i) from by
        unfold stepR
        simp only [Int.toNat_natCast]
        rw [getD_at htR])
      rw [HST.out] at hbd hcm2
      rw [HST.out] at HT
      simp only [if_true] at hbd
      have q3 := HA1.out.cell (j := f) (by omega)
      have qn := HA3.out.cell (j := t) (by omega)
      have qf := HA3.out.free t
      have HMOVE := Lib.hid (fun q w' hw' => move_impl q base g n c t R2 w' hw' htR)
      obtain ⟨q, hqq⟩ : ∃ q, z * mv f = q := ⟨_, rfl⟩
      rw [hqq] at hq hbd HT hcm2
      have e1 : IntKind.i64.wrap (z * mv f) = q := by rw [hqq, IntKind.wrap_i64]; omega
      have HMOVE := Lib.hid (HMOVE.out q)
      generalize mv f = xf at *
      clear HST hmvf
      obtain ⟨d, hd⟩ : ∃ d, nowV R2[t] q - R2[t].2.2 = d := ⟨_, rfl⟩
      rw [hd] at hbd HT HMOVE
      have e2 : IntKind.i64.wrap (mm t + d) = mm t + d := by rw [IntKind.wrap_i64]; omega
      have HGD := Lib.hid (grown_trans HG.out (grown_below ((Below.refl _ _).drew) (some g)))
      have HOD := Lib.hid (show OwnT 33 (wr.alloc (.cells #[.int .i64 (f : Int), .int .i64 (t : Int), .int .i64 z] 35)).drew base (.slice (some ⟨g, 0, none⟩) n c) R2 from HO.out)
      have HD1 := Lib.hid HA1.out.drew
      have HD2 := Lib.hid HA2.out.drew
      have HD3 := Lib.hid HA3.out.drew
      have HF := Lib.hid (FourC.drew (show FourC wr.heap.size B1 f t z xf _ from ⟨m0, m1, m2, q3⟩))
      have HQN := Lib.hid qn
      have HL1 : wr.heap.size ≠ B3 := by have := HL.out; omega
      have HL2 : wr.heap.size ≠ g := by have := HL.out; omega
      have HL3 : B1 ≠ g := by omega
      clear hqq hd hcm hcm2 hst hq hbd q3 HA1 HA2 HA3 HO HG
      go_wp2_with fail
      clear m0 m1 m2 c0 c1 c2 hgl
      refine wp_region_held_drew (S := FourC wr.heap.size B1 f t z xf) (by kernel_rfl) HF.out (fun hHeld => ?_)
      refine wpAnyH_take (i := 0) (v := ?_) rfl (by kernel_rfl) (by kernel_rfl) (by kernel_rfl) (fun _ _ _ h => h) (Or.inl ⟨by rfl, ?_⟩) (by assumption) ?_
      rotate_left
      · intro w hSw
        unfold FourC at hSw
        go_simp
        all_goals (with_reducible rfl)
      try simp only [Act.put, List.setIfInBounds_toArray, List.set_cons_zero, List.set_cons_succ, List.getElem_toArray, List.getElem_cons_zero]
      refine wpAnyH_take (i := 1) (v := ?_) rfl (by kernel_rfl) (by kernel_rfl) (by kernel_rfl) (fun _ _ _ h => h) (Or.inl ⟨by rfl, ?_⟩) (by assumption) ?_
      rotate_left
      · intro w hSw
        unfold FourC at hSw
        go_simp
        all_goals (with_reducible rfl)
      try simp only [Act.put, List.setIfInBounds_toArray, List.set_cons_zero, List.set_cons_succ, List.getElem_toArray, List.getElem_cons_succ, List.getElem_cons_zero]
      refine wpAnyH_take (i := 2) (v := ?_) rfl (by kernel_rfl) (by kernel_rfl) (by kernel_rfl) (fun _ _ _ h => h) (Or.inl ⟨by rfl, ?_⟩) (by assumption) ?_
      rotate_left
      · intro w hSw
        unfold FourC at hSw
        go_simp
        all_goals (with_reducible rfl)
      try simp only [Act.put, List.setIfInBounds_toArray, List.set_cons_zero, List.set_cons_succ, List.getElem_toArray, List.getElem_cons_succ, List.getElem_cons_zero]
      refine wpAnyH_take (i := 4) (v := ?_) rfl (by kernel_rfl) (by kernel_rfl) (by kernel_rfl) (fun _ _ _ h => h) (Or.inl ⟨by rfl, ?_⟩) (by assumption) ?_
      rotate_left
      · intro w hSw
        unfold FourC at hSw
        go_simp
        all_goals (with_reducible rfl)
      try simp only [Act.put, List.setIfInBounds_toArray, List.set_cons_zero, List.set_cons_succ, List.getElem_toArray, List.getElem_cons_succ, List.getElem_cons_zero]
      refine wpAnyH_take (i := 5) (v := ?_) rfl (by kernel_rfl) (by kernel_rfl) (by kernel_rfl) (fun _ _ _ h => h) (Or.inl ⟨by rfl, ?_⟩) (by assumption) ?_
      rotate_left
      · intro w hSw
        unfold FourC at hSw
        go_simp
        all_goals (with_reducible rfl)
      try simp only [Act.put, List.setIfInBounds_toArray, List.set_cons_zero, List.set_cons_succ, List.getElem_toArray, List.getElem_cons_succ, List.getElem_cons_zero]
      refine wpAnyH_take (i := 6) (v := ?_) rfl (by kernel_rfl) (by kernel_rfl) (by kernel_rfl) (fun _ _ _ h => h) (Or.inl ⟨by rfl, ?_⟩) (by assumption) ?_
      rotate_left
      · intro w hSw
        unfold FourC at hSw
        go_simp
        all_goals (with_reducible rfl)
      try simp only [Act.put, List.setIfInBounds_toArray, List.set_cons_zero, List.set_cons_succ, List.getElem_toArray, List.getElem_cons_succ, List.getElem_cons_zero]
      refine wpAnyH_take (i := 7) (v := ?_) rfl (by kernel_rfl) (by kernel_rfl) (by kernel_rfl) (fun _ _ _ h => h) (Or.inl ⟨by rfl, ?_⟩) (by assumption) ?_
      rotate_left
      · intro w hSw
        unfold FourC at hSw
        go_simp
        all_goals (with_reducible rfl)
      try simp only [Act.put, List.setIfInBounds_toArray, List.set_cons_zero, List.set_cons_succ, List.getElem_toArray, List.getElem_cons_succ, List.getElem_cons_zero]
      refine wpAnyH_take (i := 8) (v := ?_) rfl (by kernel_rfl) (by kernel_rfl) (by kernel_rfl) (fun _ _ _ h => h) (Or.inl ⟨by rfl, ?_⟩) (by assumption) ?_
      rotate_left
      · intro w hSw
        unfold FourC at hSw
        go_simp
        all_goals (with_reducible rfl)
      try simp only [Act.put, List.setIfInBounds_toArray, List.set_cons_zero, List.set_cons_succ, List.getElem_toArray, List.getElem_cons_succ, List.getElem_cons_zero]
      refine wpAnyH_take (i := 9) (v := ?_) rfl (by kernel_rfl) (by kernel_rfl) (by kernel_rfl) (fun _ _ _ h => h) (Or.inl ⟨by rfl, ?_⟩) (by assumption) ?_
      rotate_left
      · intro w hSw
        unfold FourC at hSw
        go_simp
        all_goals (with_reducible rfl)
      try simp only [Act.put, List.setIfInBounds_toArray, List.set_cons_zero, List.set_cons_succ, List.getElem_toArray, List.getElem_cons_succ, List.getElem_cons_zero]
      refine wpAnyH_take (i := 10) (v := ?_) rfl (by kernel_rfl) (by kernel_rfl) (by kernel_rfl) (fun _ _ _ h => h) (Or.inl ⟨by rfl, ?_⟩) (by assumption) ?_
      rotate_left
      · intro w hSw
        unfold FourC at hSw
        go_simp
        all_goals (with_reducible rfl)
      try simp only [Act.put, List.setIfInBounds_toArray, List.set_cons_zero, List.set_cons_succ, List.getElem_toArray, List.getElem_cons_succ, List.getElem_cons_zero]
      refine wpAnyH_take (i := 11) (v := ?_) rfl (by kernel_rfl) (by kernel_rfl) (by kernel_rfl) (fun _ _ _ h => h) (Or.inl ⟨by rfl, ?_⟩) (by assumption) ?_
      rotate_left
      · intro w hSw
        unfold FourC at hSw
        go_simp
        all_goals (with_reducible rfl)
      try simp only [Act.put, List.setIfInBounds_toArray, List.set_cons_zero, List.set_cons_succ, List.getElem_toArray, List.getElem_cons_succ, List.getElem_cons_zero]
      refine wpAnyH_take (i := 12) (v := ?_) rfl (by kernel_rfl) (by kernel_rfl) (by kernel_rfl) (fun _ _ _ h => h) (Or.inl ⟨by rfl, ?_⟩) (by assumption) ?_
      rotate_left
      · intro w hSw
        unfold FourC at hSw
        go_simp
        all_goals (with_reducible rfl)
      try simp only [Act.put, List.setIfInBounds_toArray, List.set_cons_zero, List.set_cons_succ, List.getElem_toArray, List.getElem_cons_succ, List.getElem_cons_zero]
      refine wpAnyH_take (i := 13) (v := ?_) rfl (by kernel_rfl) (by kernel_rfl) (by kernel_rfl) (fun _ _ _ h => h) (Or.inl ⟨by rfl, ?_⟩) (by assumption) ?_
      rotate_left
      · intro w hSw
        unfold FourC at hSw
        go_simp
        all_goals (with_reducible rfl)
      try simp only [Act.put, List.setIfInBounds_toArray, List.set_cons_zero, List.set_cons_succ, List.getElem_toArray, List.getElem_cons_succ, List.getElem_cons_zero]
      refine wpAnyH_take (i := 14) (v := ?_) rfl (by kernel_rfl) (by kernel_rfl) (by kernel_rfl) (fun _ _ _ h => h) (Or.inl ⟨by rfl, ?_⟩) (by assumption) ?_
      rotate_left
      · intro w hSw
        unfold FourC at hSw
        go_simp
        all_goals (with_reducible rfl)
      try simp only [Act.put, List.setIfInBounds_toArray, List.set_cons_zero, List.set_cons_succ, List.getElem_toArray, List.getElem_cons_succ, List.getElem_cons_zero]
      refine wpAnyH_ready (rs := [3, 15]) (by kernel_rfl) (by simp) ?_
      refine AllReadyH.cons rfl (fun K hK => ?_) (AllReadyH.cons rfl (fun K hK => ?_) AllReadyH.nil)
      · try simp only [Act.put, List.setIfInBounds_toArray, List.set_cons_zero, List.set_cons_succ, List.getElem_toArray, List.getElem_cons_succ, List.getElem_cons_zero]
        have qn := HQN.out
        go_simp
        refine hK.out _ _ (HF.out) (fun hHeld => ?_)
        clear hK K
        try simp only [Act.put, List.setIfInBounds_toArray, List.set_cons_zero, List.set_cons_succ, List.getElem_toArray, List.getElem_cons_succ, List.getElem_cons_zero]
        clear qn
        refine wpAnyH_ready (rs := [15]) (by kernel_rfl) (by simp) ?_
        refine AllReadyH.cons rfl (fun K hK => ?_) AllReadyH.nil
        try simp only [Act.put, List.setIfInBounds_toArray, List.set_cons_zero, List.set_cons_succ, List.getElem_toArray, List.getElem_cons_succ, List.getElem_cons_zero]
        go_simp
        go_at_call 43
        refine (HMOVE.out _ HOD.out).mono ?_
        rintro e w2 ⟨rfl, ho2, hg2⟩
        refine hK.out _ _ (HF.out.grown hg2 HL2 HL3) (fun hHeld => ?_)
        clear hK K
        try simp only [Act.put, List.setIfInBounds_toArray, List.set_cons_zero, List.set_cons_succ, List.getElem_toArray, List.getElem_cons_succ, List.getElem_cons_zero]
        have HO2 := Lib.hid ho2
        have HD1 := Lib.hid (HD1.out.grown hg2 (by simpa using g1))
        have HD2 := Lib.hid (HD2.out.grown hg2 (by simpa using g2))
        have HD3 := Lib.hid (HD3.out.grown hg2 (by simpa using g3))
        have HG2 := Lib.hid (grown_trans HGD.out hg2)
        have qn2 := HD3.out.cell (j := t) (by omega)
        have qf2 := HD3.out.free t
        refine wpAnyH_take (i := 16) (v := ?_) rfl (by kernel_rfl) (by kernel_rfl) (by kernel_rfl) (fun _ _ _ h => h) (Or.inl ⟨by rfl, ?_⟩) (by assumption) ?_
        rotate_left
        · intro w hSw
          unfold FourC at hSw
          go_simp
          all_goals (with_reducible rfl)
        try simp only [Act.put, List.setIfInBounds_toArray, List.set_cons_zero, List.set_cons_succ, List.getElem_toArray, List.getElem_cons_succ, List.getElem_cons_zero]
        refine wpAnyH_take (i := 17) (v := ?_) rfl (by kernel_rfl) (by kernel_rfl) (by kernel_rfl) (fun _ _ _ h => h) (Or.inl ⟨by rfl, ?_⟩) (by assumption) ?_
        rotate_left
        · intro w hSw
          unfold FourC at hSw
          go_simp
          all_goals (with_reducible rfl)
        try simp only [Act.put, List.setIfInBounds_toArray, List.set_cons_zero, List.set_cons_succ, List.getElem_toArray, List.getElem_cons_succ, List.getElem_cons_zero]
        refine wpAnyH_ready (rs := [18]) (by kernel_rfl) (by simp) ?_
        refine AllReadyH.cons rfl (fun K hK => ?_) AllReadyH.nil
        try simp only [Act.put, List.getElem_toArray, List.getElem_cons_succ, List.getElem_cons_zero]
        go_simp
        refine hK.out _ _ (hHeld.grown (grown_set w2 B3 t (.int .i64 (mm t + d))) HL1 n13) (fun hHeld => ?_)
        clear hK K
        refine wpAnyH_done (by kernel_rfl) ?_ _
        clear qn2 qf2 hHeld
        have HA1 := Lib.hid (HD1.out.grown (grown_set w2 B3 t (.int .i64 (mm t + d))) (by simpa using n13))
        have HA2 := Lib.hid (HD2.out.grown (grown_set w2 B3 t (.int .i64 (mm t + d))) (by simpa using n23))
        have HA3 := Lib.hid ((HD3.out.set (j := t) (by omega) (mm t + d)).congr (mv2 := (part mv R (ls.take (k + 1))).2) (fun i _ => by
          rw [HT.out]
          show (if i = t then mm t + d else mm i) = (if i = t then mm i + d else mm i)
          split
          · rename_i h; rw [h]
          · rfl))
        have HO := Lib.hid (own_other HO2.out (grown_set w2 B3 t (.int .i64 (mm t + d))) g3)
        have HG := Lib.hid (grown_far HG2.out (grown_set w2 B3 t (.int .i64 (mm t + d))) (by have := HB1.out; omega))
        have HO3 : Hid (OwnT 33 (w2.setCell ⟨B3, t, none⟩ (.int .i64 (mm t + d))) base (.slice (some ⟨g, 0, none⟩) n c) (part mv R (ls.take (k + 1))).1) := by rw [HT.out]; exact HO
        clear HO HT e1 e2 HF HQN HMOVE HOD HGD HD1 HD2 HD3 HO2 HG2 ho2 hg2
        generalize (w2.setCell ⟨B3, t, none⟩ (.int .i64 (mm t + d))) = W4 at *
        go_wp2
        exact ⟨⟨k + 1, by omega, by go_num, HA1, HA2, HA3, HO3, HG⟩, by simp [intOf]; omega⟩
      · try simp only [Act.put, List.setIfInBounds_toArray, List.set_cons_zero, List.set_cons_succ, List.getElem_toArray, List.getElem_cons_succ, List.getElem_cons_zero]
        go_simp
        go_at_call 43
        refine (HMOVE.out _ HOD.out).mono ?_
        rintro e w2 ⟨rfl, ho2, hg2⟩
        refine hK.out _ _ (HF.out.grown hg2 HL2 HL3) (fun hHeld => ?_)
        clear hK K
        try simp only [Act.put, List.setIfInBounds_toArray, List.set_cons_zero, List.set_cons_succ, List.getElem_toArray, List.getElem_cons_succ, List.getElem_cons_zero]
        have HO2 := Lib.hid ho2
        have HD1 := Lib.hid (HD1.out.grown hg2 (by simpa using g1))
        have HD2 := Lib.hid (HD2.out.grown hg2 (by simpa using g2))
        have HD3 := Lib.hid (HD3.out.grown hg2 (by simpa using g3))
        have HG2 := Lib.hid (grown_trans HGD.out hg2)
        have qn2 := HD3.out.cell (j := t) (by omega)
        have qf2 := HD3.out.free t
        refine wpAnyH_ready (rs := [3]) (by kernel_rfl) (by simp) ?_
        refine AllReadyH.cons rfl (fun K hK => ?_) AllReadyH.nil
        try simp only [Act.put, List.setIfInBounds_toArray, List.set_cons_zero, List.set_cons_succ, List.getElem_toArray, List.getElem_cons_succ, List.getElem_cons_zero]
        go_simp
        refine hK.out _ _ (hHeld) (fun hHeld => ?_)
        clear hK K
        try simp only [Act.put, List.setIfInBounds_toArray, List.set_cons_zero, List.set_cons_succ, List.getElem_toArray, List.getElem_cons_succ, List.getElem_cons_zero]
        refine wpAnyH_take (i := 16) (v := ?_) rfl (by kernel_rfl) (by kernel_rfl) (by kernel_rfl) (fun _ _ _ h => h) (Or.inl ⟨by rfl, ?_⟩) (by assumption) ?_
        rotate_left
        · intro w hSw
          unfold FourC at hSw
          go_simp
          all_goals (with_reducible rfl)
        try simp only [Act.put, List.setIfInBounds_toArray, List.set_cons_zero, List.set_cons_succ, List.getElem_toArray, List.getElem_cons_succ, List.getElem_cons_zero]
        refine wpAnyH_take (i := 17) (v := ?_) rfl (by kernel_rfl) (by kernel_rfl) (by kernel_rfl) (fun _ _ _ h => h) (Or.inl ⟨by rfl, ?_⟩) (by assumption) ?_
        rotate_left
        · intro w hSw
          unfold FourC at hSw
          go_simp
          all_goals (with_reducible rfl)
        try simp only [Act.put, List.setIfInBounds_toArray, List.set_cons_zero, List.set_cons_succ, List.getElem_toArray, List.getElem_cons_succ, List.getElem_cons_zero]
        refine wpAnyH_ready (rs := [18]) (by kernel_rfl) (by simp) ?_
        refine AllReadyH.cons rfl (fun K hK => ?_) AllReadyH.nil
        try simp only [Act.put, List.getElem_toArray, List.getElem_cons_succ, List.getElem_cons_zero]
        go_simp
        refine hK.out _ _ (hHeld.grown (grown_set w2 B3 t (.int .i64 (mm t + d))) HL1 n13) (fun hHeld => ?_)
        clear hK K
        refine wpAnyH_done (by kernel_rfl) ?_ _
        clear qn2 qf2 hHeld
        have HA1 := Lib.hid (HD1.out.grown (grown_set w2 B3 t (.int .i64 (mm t + d))) (by simpa using n13))
        have HA2 := Lib.hid (HD2.out.grown (grown_set w2 B3 t (.int .i64 (mm t + d))) (by simpa using n23))
        have HA3 := Lib.hid ((HD3.out.set (j := t) (by omega) (mm t + d)).congr (mv2 := (part mv R (ls.take (k + 1))).2) (fun i _ => by
          rw [HT.out]
          show (if i = t then mm t + d else mm i) = (if i = t then mm i + d else mm i)
          split
          · rename_i h; rw [h]
          · rfl))
        have HO := Lib.hid (own_other HO2.out (grown_set w2 B3 t (.int .i64 (mm t + d))) g3)
        have HG := Lib.hid (grown_far HG2.out (grown_set w2 B3 t (.int .i64 (mm t + d))) (by have := HB1.out; omega))
        have HO3 : Hid (OwnT 33 (w2.setCell ⟨B3, t, none⟩ (.int .i64 (mm t + d))) base (.slice (some ⟨g, 0, none⟩) n c) (part mv R (ls.take (k + 1))).1) := by rw [HT.out]; exact HO
        clear HO HT e1 e2 HF HQN HMOVE HOD HGD HD1 HD2 HD3 HO2 HG2 ho2 hg2
        generalize (w2.setCell ⟨B3, t, none⟩ (.int .i64 (mm t + d))) = W4 at *
        go_wp2
        exact ⟨⟨k + 1, by omega, by go_num, HA1, HA2, HA3, HO3, HG⟩, by simp [intOf]; omega⟩
    · obtain rfl : k = m := by omega
      have hfin : ls.take k = ls := by rw [← HM.out]; exact List.take_length
      rw [hfin] at HO HA3
      clear hfin
      generalize hst : part mv R ls = st at *
      obtain ⟨R2, mm⟩ := st
      simp only at HO HA3
      have HST := Lib.hid hst
      clear hst
      obtain ⟨a0, a1, a2, a3, a4, a5, a6, a7⟩ := HA3.out.cells
      obtain ⟨p0, p1, p2, p3, p4, p5, p6, p7⟩ := HA2.out.cells
      have f0 := HA2.out.free 0
      have f1 := HA2.out.free 1
      have f2 := HA2.out.free 2
      have f3 := HA2.out.free 3
      have f4 := HA2.out.free 4
      have f5 := HA2.out.free 5
      have f6 := HA2.out.free 6
      have f7 := HA2.out.free 7
      have HZ := Lib.hid (HA2.out.set8 mm)
      have HOZ := Lib.hid (own_other HO.out (grown_set8 wr B2 mm) g2)
      have HGZ := Lib.hid (grown_far HG.out (grown_set8 wr B2 mm) (by have := HB1.out; omega))
      clear HO HG HA1 HA2 HA3
      have HZZ := Lib.hid (show ∃ Z, Z = set8 wr B2 mm ∧ True from ⟨_, rfl, trivial⟩)
      unfold set8 at HZ HOZ HGZ
      go_wp2_with fail
      obtain ⟨z0, z1, z2, z3, z4, z5, z6, z7⟩ := HZ.out.cells
      refine bodyPost_ret (v := .agg (a8 mm)) (by simp [results, Try.results44, go_sem, z0, z1, z2, z3, z4, z5, z6, z7, a8]) rfl ⟨by rw [HST.out], by rw [HST.out]; exact HOZ.out, HGZ.out⟩
end Go.Proofs.Ytmjknjgfcngacaa.Slide

/- Longest parts without gaps: what CutRuns of the model returns. -/
import Derived.Test.YtefeajnlogbilaaKerfRuns
namespace Go.Proofs.Ytefeajnlogbilaa.Kerf
open Go.ChangeShapes Go.WideShapes Go.ChangeAt Go.RowKit
open Go.Proofs.Ytefeajnlogbilaa.Strip Go.Proofs.Ytefeajnlogbilaa.Ints Go.Proofs.Ytefeajnlogbilaa.Corner
set_option linter.unusedVariables false

theorem getD_of {l : List Int} {k : Nat} (h : k < l.length) : l.getD k 0 = l[k] := by simp [List.getD, h]
theorem run_start {l : List Int} {k : Nat} (h : k < l.length) (hg : k = 0 ∨ l.getD (k - 1) 0 ≠ l.getD k 0 - 1) : runsR (l.take (k + 1)) = runsR (l.take k) ++ [(l.getD k 0, l.getD k 0)] := by
  rw [List.take_succ_eq_append_getElem h, runsR_snoc, getD_of h]
  cases k with
  | zero => rfl
  | succ j =>
    obtain ⟨g, p, e⟩ := runsR_last l j (by omega)
    have hne : l.getD j 0 ≠ l.getD (j + 1) 0 - 1 := by
      rcases hg with h2 | h2
      · omega
      · exact h2
    rw [getD_of (by omega), getD_of h] at hne
    rw [e, addR_new _ _ _ _ hne]
theorem run_step {l : List Int} {j : Nat} {G : List (Int × Int)} {p : Int} (h : j + 1 < l.length) (e : runsR (l.take (j + 1)) = G ++ [(p, l.getD j 0)]) (hx : l.getD (j + 1) 0 = l.getD j 0 + 1) : runsR (l.take (j + 1 + 1)) = G ++ [(p, l.getD (j + 1) 0)] := by
  rw [List.take_succ_eq_append_getElem h, runsR_snoc, e, addR_join _ _ _ _ (by rw [← getD_of h]; omega), getD_of h]

/-- What the loops of the model keep: the row of cuts lies between the block b0 and those from w1 on; the rows made so far lie in b0 or from w1 on. -/
structure Mid (w w1 wr : World) (v : Value) : Prop where
  below : Below w.heap.size w wr
  mid : ∀ b, w.heap.size < b → b < w1.heap.size → wr.heap[b]? = w1.heap[b]?
  lie : ∀ b, v.ownBlock = some b → b = w.heap.size ∨ w1.heap.size ≤ b
  size : w1.heap.size ≤ wr.heap.size
  old : w.heap.size ≤ w1.heap.size
theorem Mid.drawn {w w1 wr : World} {v : Value} (h : Mid w w1 wr v) (q : Nat) : Mid w w1 (wr.drewN q) v := ⟨h.below.trans ((drewN_below wr q).mono h.below.size), h.mid, h.lie, h.size, h.old⟩
theorem Mid.push {w w1 wr W w2 : World} {v : Value} {g n cap : Nat} (h : Mid w w1 wr v) (hb : Below wr.heap.size wr W) (hg : W.grownBy w2 v.ownBlock) (hat : v.ownBlock = some g ∨ w1.heap.size ≤ g) : Mid w w1 w2 (.slice (some ⟨g, 0, none⟩) n cap) := by
  have hws := h.below.size
  have h1 := h.size
  have h0 := h.old
  refine ⟨(h.below.trans (hb.mono hws)).grown hg (Nat.le_trans hws hb.size) (fun b e => by rcases h.lie b e with h2 | h2 <;> omega), ?_, ?_, Nat.le_trans h1 (Nat.le_trans hb.size hg.size), h0⟩
  · intro b hb0 hb1
    rw [hg.block b (by have := hb.size; omega) (fun e => by rcases h.lie b e.symm with h2 | h2 <;> omega), hb.block b (by omega)]
    exact h.mid b hb0 hb1
  · intro b e
    have e2 : g = b := by simpa [Value.ownBlock] using e
    subst e2
    rcases hat with h2 | h2
    · exact h.lie g h2
    · exact .inr h2
theorem Mid.cell {w w1 wr : World} {v : Value} (h : Mid w w1 wr v) {g j : Nat} {u : Value} (h0 : w.heap.size < g) (h1 : g < w1.heap.size) (hc : w1.cell? ⟨g, j, none⟩ = some u) : wr.cell? ⟨g, j, none⟩ = some u :=
  (World.cell?_of_block (a := ⟨g, j, none⟩) (h.mid g h0 h1)).trans hc

set_option maxRecDepth 100000 in
set_option maxHeartbeats 4000000 in
theorem runs_spec (s t : ByteArray) (w : World) (hm : s.size ≤ 1048576) (hm' : t.size ≤ 1048576) :
    Calls Try.prog 45 #[.string s, .string t] w (Post2 w (runsC s.data.toList t.data.toList)) := by
  obtain ⟨i0, hi, hz0, hz1, hz2⟩ := info_parts info_row
  have HC := Lib.hid (fun w => cuts_spec s t w hm hm')
  have hlen := cuts_16 s.data.toList t.data.toList
  have hbd := cuts_bound s.data.toList t.data.toList
  unfold runsC
  generalize cutsL s.data.toList t.data.toList = l at *
  have HBD := Lib.hid hbd; clear hbd
  obtain ⟨n, hn⟩ : ∃ n, l.length = n := ⟨_, rfl⟩
  rw [hn] at hlen
  have HN := Lib.hid hn; clear hn
  go_enter Try.func45, Try.ntmps45
  go_wp2_with fail
  have HV0 := Lib.hid (Own2.made w w.heap.size (Nat.le_refl _))
  have HBA := Lib.hid ((Below.refl w.heap.size w).alloc (Nat.le_refl _) (.cells #[] 37))
  have hsz : (w.alloc (.cells #[] 37)).heap.size = w.heap.size + 1 := by simp
  have HSZ := Lib.hid hsz
  clear hsz
  generalize w.alloc (.cells #[] 37) = W0 at *
  refine (HC.out _).mono ?_
  rintro e w1 ⟨vc, rfl, hb1, hoc⟩
  have HV1 := Lib.hid (HV0.out.below hb1)
  have HB1 := Lib.hid (HBA.out.trans (hb1.mono (by rw [HSZ.out]; omega)))
  rw [HSZ.out] at hoc
  have HOC := Lib.hid hoc
  have HS1 : Hid (w.heap.size + 1 ≤ w1.heap.size) := by have := hb1.size; rw [HSZ.out] at this; exact this
  clear hb1 hoc HBA HV0 HSZ
  obtain ⟨a, cap, rfl, _, _⟩ := HOC.out.row
  rw [HN.out] at HOC ⊢
  obtain ⟨_, _, e, hrow, _⟩ := HOC.out.row
  rw [HN.out] at e
  cases e
  have HCE : Hid (∀ k, k < n → ∃ g, a = some ⟨g, 0, none⟩ ∧ w.heap.size < g ∧ g < w1.heap.size ∧ ∀ j, j < n → w1.cell? ⟨g, j, none⟩ = some (.int .i64 (l.getD j 0))) := by
    intro k hk
    obtain ⟨g, e, hg, _⟩ := hrow k (by rw [HN.out]; exact hk)
    subst e
    refine ⟨g, rfl, ?_, hg, ?_⟩
    · have := (HOC.out.lt g rfl).1; omega
    · intro j hj
      obtain ⟨g', e', _, hc⟩ := hrow j (by rw [HN.out]; exact hj)
      cases e'
      rw [getD_of (by rw [HN.out]; exact hj)]; exact hc
  have HM0 : Hid (Mid w w1 w1 (.slice (some ⟨w.heap.size, 0, none⟩) 0 0)) := ⟨HB1.out, fun _ _ _ => rfl, fun b e => .inl (by simpa [Value.ownBlock] using e.symm), Nat.le_refl _, HB1.out.size⟩
  have HXB : Hid (∀ j, 0 ≤ l.getD j 0 ∧ l.getD j 0 ≤ 16) := by
    intro j
    by_cases hj : j < l.length
    · rw [getD_of hj]; have := HBD.out _ (List.getElem_mem hj); omega
    · have : l.getD j 0 = 0 := by simp [List.getD, hj]
      rw [this]; omega
  clear hrow HC HOC
  go_wp2_with fail
  go_loopw [5, 7] (fun v i wr => ∃ (k : Nat) (vs : List Value), k ≤ n ∧ i = .int .i64 (k : Int) ∧ Hid (k < n → k = 0 ∨ l.getD (k - 1) 0 ≠ l.getD k 0 - 1) ∧ Hid (Own2 wr w.heap.size v vs ((runsR (l.take k)).map pairL)) ∧ Hid (Mid w w1 wr v)) (fun _ i _ => n - (intOf i).toNat)
  case atStart => exact ⟨0, [], Nat.zero_le _, rfl, Lib.hid (fun _ => .inl rfl), HV1, HM0⟩
  case round =>
    clear HM0 HV1
    obtain ⟨k, vs, hk, rfl, HGAP, HO, HR⟩ := hrel
    by_cases hlt : k < n
    · have hkl : k < l.length := by rw [HN.out]; exact hlt
      obtain ⟨g, rfl, hg0, hg1, hcs⟩ := HCE.out k hlt
      have hca := HR.out.cell hg0 hg1 (hcs k hlt)
      have HCS := Lib.hid hcs
      have hst := run_start hkl (HGAP.out hlt)
      have HST := Lib.hid hst
      obtain ⟨x0, x1⟩ := HXB.out k
      have hk0 : (0 : Int) ≤ (k : Int) := Int.natCast_nonneg _
      have hk1 : (k : Int) < (n : Int) := by omega
      have hrl := runsR_length l k
      obtain ⟨m, hm0⟩ : ∃ m, ((runsR (l.take k)).map pairL).length = m := ⟨_, rfl⟩
      have hmk : m ≤ 16 := by rw [List.length_map] at hm0; omega
      have HLM := Lib.hid hm0
      obtain ⟨ar, cr, rfl, _, _⟩ := HO.out.row
      rw [HLM.out] at HO HR ⊢
      clear hcs hst hrl hm0 HGAP
      obtain ⟨x, hx⟩ : ∃ x, l.getD k 0 = x := ⟨_, rfl⟩
      rw [hx] at hca x0 x1 HST
      have HX := Lib.hid hx
      clear hx
      go_wp2_with fail
      obtain ⟨wo, hwo⟩ : ∃ wo : World, wo = wr := ⟨_, rfl⟩
      clear hwo
      go_loopw [7] (fun i wr => ∃ j : Nat, k ≤ j ∧ j < n ∧ i = .int .i64 (j : Int) ∧ Hid (runsR (l.take (j + 1)) = runsR (l.take k) ++ [(x, l.getD j 0)]) ∧ Hid (Own2 wr w.heap.size (.slice ar m cr) vs ((runsR (l.take k)).map pairL)) ∧ Hid (Mid w w1 wr (.slice ar m cr))) (fun i _ => n - (intOf i).toNat)
      case atStart => exact ⟨k, Nat.le_refl _, hlt, rfl, by rw [HX.out]; exact HST, HO, HR⟩
      case round =>
        clear HO HR hca HST
        obtain ⟨j, hkj, hjn, rfl, HRUN, HO, HR⟩ := hrel
        have hcj := HR.out.cell hg0 hg1 (HCS.out j hjn)
        obtain ⟨y0, y1⟩ := HXB.out j
        have hj0 : (0 : Int) ≤ (j : Int) := Int.natCast_nonneg _
        have hjn2 : (j : Int) < (n : Int) := by omega
        obtain ⟨j1, hj1⟩ : ∃ j1, j + 1 = j1 := ⟨_, rfl⟩
        have hjx : (j : Int) + 1 = (j1 : Int) := by omega
        have HJ1 := Lib.hid hj1
        have hj1b : j1 ≤ n := by omega
        have hj10 : (0 : Int) ≤ (j1 : Int) := Int.natCast_nonneg _
        have HQO := Lib.hid (fun q => HO.out.below (drewN_below wr q))
        have HQR := Lib.hid (fun q => HR.out.drawn q)
        by_cases hl1 : j1 < n
        · have hc1 := HR.out.cell hg0 hg1 (HCS.out j1 hl1)
          have hl2 : (j1 : Int) < (n : Int) := by omega
          have hnx : l.getD (j + 1) 0 = l.getD j1 0 := by rw [hj1]
          by_cases he : l.getD j1 0 = l.getD j 0 + 1
          · have hd : (l.getD j1 0 == l.getD j 0 + 1) = true := by simpa using he
            have HNX := Lib.hid (run_step (by rw [HN.out]; omega) HRUN.out (by rw [hnx]; exact he))
            rw [hj1] at HNX
            clear hj1 hnx he
            obtain ⟨z, hz⟩ : ∃ z, l.getD j1 0 = z := ⟨_, rfl⟩
            rw [hz] at hc1 hd HNX
            have HZ := Lib.hid hz
            clear hz
            generalize l.getD j 0 = y at *
            go_wp2_with fail
            go_quiet (fail)
            go_wp2
            exact ⟨⟨j1, by omega, hl1, rfl, by rw [HZ.out]; exact HNX, Lib.hid (HQO.out _), Lib.hid (HQR.out _)⟩, by simp [intOf]; omega⟩
          · have hd : (l.getD j1 0 == l.getD j 0 + 1) = false := by simpa using he
            have HGAP : Hid (j1 < n → j1 = 0 ∨ l.getD (j1 - 1) 0 ≠ l.getD j1 0 - 1) := fun _ => .inr (by rw [show j1 - 1 = j by omega]; omega)
            clear hj1 hnx he
            obtain ⟨z, hz⟩ : ∃ z, l.getD j1 0 = z := ⟨_, rfl⟩
            rw [hz] at hc1 hd
            clear hz
            generalize l.getD j 0 = y at *
            go_wp2_with fail
            go_quiet (fail)
            have HO := Lib.hid (HQO.out nq)
            have HR := Lib.hid (HQR.out nq)
            have hcj : (wr.drewN nq).cell? ⟨g, j, none⟩ = some (.int .i64 y) := hcj
            have HS : Hid (w.heap.size ≤ (wr.drewN nq).heap.size) := HR.out.below.size
            have HW1 : Hid (w1.heap.size ≤ (wr.drewN nq).heap.size) := HR.out.size
            have hW1 := HW1.out
            clear HQO HQR
            generalize wr.drewN nq = wr at *
            have hbo : Own (wr.alloc (.cells #[.int .i64 x, .int .i64 y] 3)) w.heap.size (.slice (some ⟨wr.heap.size, 0, none⟩) 2 2) [x, y] := own_two wr w.heap.size x y HS.out
            have HBO := Lib.hid (hbo.alloc (.cells #[.slice (some ⟨wr.heap.size, 0, none⟩) 2 2] 37))
            have hw2 : ((wr.alloc (.cells #[.int .i64 x, .int .i64 y] 3)).alloc (.cells #[.slice (some ⟨wr.heap.size, 0, none⟩) 2 2] 37)).heap[wr.heap.size + 1]? = some (.cells #[.slice (some ⟨wr.heap.size, 0, none⟩) 2 2] 37 (0, 0)) := by
              have h := heap_alloc_new (wr.alloc (.cells #[.int .i64 x, .int .i64 y] 3)) (.cells #[.slice (some ⟨wr.heap.size, 0, none⟩) 2 2] 37)
              simpa using h
            have HW2 := Lib.hid hw2
            have HBB := Lib.hid (((Below.refl wr.heap.size wr).alloc (Nat.le_refl _) (.cells #[.int .i64 x, .int .i64 y] 3)).alloc (by simp) (.cells #[.slice (some ⟨wr.heap.size, 0, none⟩) 2 2] 37))
            have hout := HO.out.outer
            rw [HLM.out] at hout
            have HOUT := Lib.hid hout
            clear hbo hw2 hout
            go_wp2_with (at_builtin; refine wpList_append_lies _ rfl _ _ 40 rfl w.heap.size 37 i0 _ 1 24 Try.underlying40 hi hz0 hz1 hz2 rfl (by decide) _ m vs rfl ((HOUT.out.alloc _).alloc _) ⟨wr.heap.size + 1, 0, none⟩ 1 1 [.slice (some ⟨wr.heap.size, 0, none⟩) 2 2] rfl rfl (World.news_of_block HW2.out) (by simp [Value.oneCell']) (by decide) (by unfold maxLen; omega) (by omega) (by have := HS.out; simp; omega) _ rfl ?_)
            intro g2 cap2 w2 hown2 hgrow2 hg2 hlt2
            have HO2 := Lib.hid (HO.out.push (k := wr.heap.size) (l := [x, y]) rfl (Nat.le_refl _) (by simp; omega) HBB.out HBO.out (by rw [HLM.out]; exact hown2) hgrow2 (hg2.imp id fun h => by simpa using h))
            rw [HLM.out] at HO2
            have hat2 : (Value.slice ar m cr).ownBlock = some g2 ∨ w1.heap.size ≤ g2 := by
              rcases hg2 with h | h
              · exact .inl h
              · right
                have h2 : g2 = wr.heap.size + 1 + 1 := by simpa using h
                omega
            have HR2 := Lib.hid (HR.out.push (n := m + 1) (cap := cap2) HBB.out hgrow2 hat2)
            clear hat2
            clear hown2 hgrow2 hg2 hlt2
            go_wp2
            go_roundw
            case rel => exact ⟨j1, _, by omega, by go_num, Lib.hid HGAP.out, by rw [← HJ1.out, HRUN.out, List.map_append]; exact HO2, HR2⟩
            case measure => simp [intOf]; omega
        · have hl2 : decide ((j1 : Int) < (n : Int)) = false := by simp; omega
          clear hj1
          generalize l.getD j 0 = y at *
          go_wp2_with fail
          go_quiet (fail)
          have HO := Lib.hid (HQO.out nq)
          have HR := Lib.hid (HQR.out nq)
          have hcj : (wr.drewN nq).cell? ⟨g, j, none⟩ = some (.int .i64 y) := hcj
          have HS : Hid (w.heap.size ≤ (wr.drewN nq).heap.size) := HR.out.below.size
          have HW1 : Hid (w1.heap.size ≤ (wr.drewN nq).heap.size) := HR.out.size
          have hW1 := HW1.out
          clear HQO HQR
          generalize wr.drewN nq = wr at *
          have hbo : Own (wr.alloc (.cells #[.int .i64 x, .int .i64 y] 3)) w.heap.size (.slice (some ⟨wr.heap.size, 0, none⟩) 2 2) [x, y] := own_two wr w.heap.size x y HS.out
          have HBO := Lib.hid (hbo.alloc (.cells #[.slice (some ⟨wr.heap.size, 0, none⟩) 2 2] 37))
          have hw2 : ((wr.alloc (.cells #[.int .i64 x, .int .i64 y] 3)).alloc (.cells #[.slice (some ⟨wr.heap.size, 0, none⟩) 2 2] 37)).heap[wr.heap.size + 1]? = some (.cells #[.slice (some ⟨wr.heap.size, 0, none⟩) 2 2] 37 (0, 0)) := by
            have h := heap_alloc_new (wr.alloc (.cells #[.int .i64 x, .int .i64 y] 3)) (.cells #[.slice (some ⟨wr.heap.size, 0, none⟩) 2 2] 37)
            simpa using h
          have HW2 := Lib.hid hw2
          have HBB := Lib.hid (((Below.refl wr.heap.size wr).alloc (Nat.le_refl _) (.cells #[.int .i64 x, .int .i64 y] 3)).alloc (by simp) (.cells #[.slice (some ⟨wr.heap.size, 0, none⟩) 2 2] 37))
          have hout := HO.out.outer
          rw [HLM.out] at hout
          have HOUT := Lib.hid hout
          clear hbo hw2 hout
          go_wp2_with (at_builtin; refine wpList_append_lies _ rfl _ _ 40 rfl w.heap.size 37 i0 _ 1 24 Try.underlying40 hi hz0 hz1 hz2 rfl (by decide) _ m vs rfl ((HOUT.out.alloc _).alloc _) ⟨wr.heap.size + 1, 0, none⟩ 1 1 [.slice (some ⟨wr.heap.size, 0, none⟩) 2 2] rfl rfl (World.news_of_block HW2.out) (by simp [Value.oneCell']) (by decide) (by unfold maxLen; omega) (by omega) (by have := HS.out; simp; omega) _ rfl ?_)
          intro g2 cap2 w2 hown2 hgrow2 hg2 hlt2
          have HO2 := Lib.hid (HO.out.push (k := wr.heap.size) (l := [x, y]) rfl (Nat.le_refl _) (by simp; omega) HBB.out HBO.out (by rw [HLM.out]; exact hown2) hgrow2 (hg2.imp id fun h => by simpa using h))
          rw [HLM.out] at HO2
          have hat2 : (Value.slice ar m cr).ownBlock = some g2 ∨ w1.heap.size ≤ g2 := by
            rcases hg2 with h | h
            · exact .inl h
            · right
              have h2 : g2 = wr.heap.size + 1 + 1 := by simpa using h
              omega
          have HR2 := Lib.hid (HR.out.push (n := m + 1) (cap := cap2) HBB.out hgrow2 hat2)
          clear hat2
          clear hown2 hgrow2 hg2 hlt2
          go_wp2
          go_roundw
          case rel => exact ⟨j1, _, by omega, by go_num, Lib.hid (fun h => absurd h hl1), by rw [← HJ1.out, HRUN.out, List.map_append]; exact HO2, HR2⟩
          case measure => simp [intOf]; omega
    · obtain rfl : k = n := by omega
      go_wp2
      go_ret
      have h1 := HO.out
      rw [← HN.out, List.take_length] at h1
      exact ⟨_, vs, rfl, HR.out.below, h1⟩
end Go.Proofs.Ytefeajnlogbilaa.Kerf

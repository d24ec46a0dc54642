/- What the program of chapter 19 returns: FirstFit. -/
import Derived.Test.YtfhpbgmnekhfeaaFitSum
import Derived.Test.YtfhpbgmnekhfeaaFitFull
import Derived.BigQuiet
import Derived.Deep.RegionHeld3
import Derived.Deep.RegionLaw
namespace Go.Proofs.Ytfhpbgmnekhfeaa.Sheet
open Go.ChangeShapes Go.WideShapes Go.ChangeAt Go.RowKit
open Go.Proofs.Ytfhpbgmnekhfeaa.Ints Go.Proofs.Ytfhpbgmnekhfeaa.Corner Go.Proofs.Ytfhpbgmnekhfeaa.Order
set_option linter.unusedVariables false

theorem own_at {w w' : World} {base g n c : Nat} {l : List Int} (h : Own w base (.slice (some ⟨g, 0, none⟩) n c) l) (he : w'.heap[g]? = w.heap[g]?) : Own w' base (.slice (some ⟨g, 0, none⟩) n c) l := by
  obtain ⟨h1, ⟨e, _⟩ | ⟨g', cap, cur, e, hb, hh, rest⟩⟩ := h
  · cases e
  · cases e
    exact ⟨h1, .inr ⟨g, c, cur, rfl, hb, by rw [he]; exact hh, rest⟩⟩

/-- A step of a region that draws: an append whose run is known. -/
theorem append_stepF {P : Program} {ops : Array Oper} {o : Oper} {a : Act} {w : World} {K : Act → World → Prop} {Q : Exit → Act → World → Prop} {E : Prop}
    (hg : o.guard = none) (s x : Operand) (t tn : TypeId) (hop : o.op = .call { callee := .builtin .append, args := #[s, x], argTypes := #[t, tn] })
    (vs vx : Value) (hs : a.eval s = vs) (hx : a.eval x = vx) {v' : Value} {w' : World} (hr : ∀ ty, (Builtin.append_ #[t, tn] ty #[vs, vx]).run P w = .ok v' w') (hK : K (a.put o.dst v') w') :
    if Region.wanted o (yielded ops a.tmps) = true then Oper.wp P o a w K Q else E := by
  have hw : Region.wanted o (yielded ops a.tmps) = true := by simp [Region.wanted, hg]
  rw [if_pos hw]
  exact Lib.wp_append_run w s x t tn hop vs vx hs hx v' w' (hr _) hK

set_option maxRecDepth 100000 in
set_option maxHeartbeats 4000000 in
theorem ff_impl (W : Int) (a : Option Addr) (n c : Nat) (l : List Int) (w : World) (hl : l.length = n) (hn : n ≤ 1048576) (hnc : n ≤ c) (hr : IRow w a l) :
    Calls Try.prog 17 #[.int .i64 W, .slice a n c] w (PostRow w (ffV W l)) := by
  unfold PostRow
  have HRW := Lib.hid (fun w' (h : IRow w' a l) => rows_impl W a n c l w' hl hn h)
  have HR := Lib.hid hr
  cases hb : rowsB W l with
  | false =>
    have hv : ffV W l = [] := by unfold ffV; rw [hb]; rfl
    rw [hv]
    rw [hb] at HRW
    clear hl hr hv hb
    go_enter Try.func17, Try.ntmps17
    go_wp2_with fail
    refine (HRW.out _ HR.out).mono ?_
    rintro e w' ⟨rfl, rfl⟩
    go_wp2
    go_ret
    exact ⟨_, rfl, Below.refl _ _, Own.nil _ _⟩
  | true =>
    have hv : ffV W l = nums W l := by unfold ffV; rw [hb]; rfl
    rw [hv]
    rw [hb] at HRW
    obtain ⟨⟨w0, w1⟩, h30, hall⟩ := rowsB_iff.1 hb
    rw [hl] at h30
    have HA := Lib.hid hall
    have HL := Lib.hid hl
    obtain ⟨i0, hi, hz0, hz1, hz2⟩ := info_parts info_int8
    obtain ⟨W1, hmk, hown1, hg1⟩ := run_make_full (P := Try.prog) w w.heap.size 33 3 i0 _ 1 Try.underlying33 hi hz0 hz1 .i64 .i64 n (by rw [hz2]; omega) (by unfold maxLen; omega) (Nat.le_refl _)
    rw [made_ints] at hown1
    have HB1 := Lib.hid (show Below w.heap.size w W1 from (Below.refl _ _).grown hg1 (Nat.le_refl _) (fun t e => by cases e))
    have HO1 : Hid (Own W1 w.heap.size (.slice (some ⟨w.heap.size, 0, none⟩) n n) (numN W l 0)) := Lib.hid (by
      rw [numN_zero, hl]
      unfold Own
      rw [List.length_replicate]; exact hown1)
    obtain ⟨ga, hga⟩ : ∃ ga, ∀ k (h : k < l.length), a = some ⟨ga, 0, none⟩ ∧ ga < w.heap.size ∧ w.cell? ⟨ga, k, none⟩ = some (.int .i64 l[k]) := by
      by_cases h0 : 0 < l.length
      · obtain ⟨ga, e, hg, _⟩ := hr 0 h0
        refine ⟨ga, fun k hk => ?_⟩
        obtain ⟨g2, e2, hg2, hc⟩ := hr k hk
        rw [e] at e2
        cases e2
        exact ⟨e, hg2, hc⟩
      · exact ⟨0, fun k hk => absurd hk (by omega)⟩
    have HGA := Lib.hid hga
    clear hl hr hv hb hall hown1 hg1 hi hz0 hz1 hz2 i0 hga
    go_enter Try.func17, Try.ntmps17
    go_wp2_with fail
    refine (HRW.out _ HR.out).mono ?_
    rintro e w' ⟨rfl, rfl⟩
    clear HRW
    go_wp2_with fail
    clear hmk
    go_loopw [6, 18] (fun v i wr => ∃ (k : Nat) (vs : List Value) (ls : List (List Int)), k ≤ n ∧ i = .int .i64 (k : Int) ∧ Hid (Full k ls (loads W (l.take k))) ∧ Hid (Bands wr (w.heap.size + 1) ga v vs ls) ∧ Hid (Own wr w.heap.size (.slice (some ⟨w.heap.size, 0, none⟩) n n) (numN W l k)) ∧ Hid (Below w.heap.size w wr)) (fun _ i _ => n - (intOf i).toNat)
    case atStart => exact ⟨0, [], [], Nat.zero_le _, rfl, Lib.hid Full.nil, Lib.hid (Bands.nil _ _ _), HO1, HB1⟩
    case round =>
      clear HO1 HB1
      obtain ⟨k, vs, ls, hk, rfl, HF, HBS, HO, HB⟩ := hrel
      have k0 : (0 : Int) ≤ (k : Int) := Int.natCast_nonneg _
      by_cases hlt : k < n
      · have k1 : (k : Int) < (n : Int) := by omega
        have hkl : k < l.length := by rw [HL.out]; exact hlt
        obtain ⟨rfl, hgg, hc0⟩ := HGA.out k hkl
        have hca : wr.cell? ⟨ga, k, none⟩ = some (.int .i64 l[k]) := (HB.out.cell (p := ⟨ga, k, none⟩) hgg).trans hc0
        have hxr := HA.out _ (List.getElem_mem hkl)
        have hlo := (loads_in HA.out k (by omega)).few
        have hlen := HF.out.len
        obtain ⟨av, cv, e6⟩ := HBS.out.form
        obtain ⟨N, hN⟩ : ∃ N, ls.length = N := ⟨_, rfl⟩
        rw [hN] at e6 hlen
        subst e6
        have hNk : N ≤ k := by omega
        have HLN := Lib.hid hN
        have hfi := first_impl av N cv W l[k] ls wr hN (by omega) ⟨w0, w1⟩ (by omega) (fun b hb => ⟨by have := (HF.out.small b hb).1; omega, (HF.out.small b hb).2⟩) HBS.out.rows
        rw [HF.out.sums] at hfi
        have hset := HO.out.set (j := k) ((firstB W l[k] (loads W (l.take k)) : Nat) : Int) (by rw [numN_length W l k (by omega)]; exact hkl)
        rw [numN_set W l k hkl] at hset
        obtain ⟨J, hJ⟩ : ∃ J, firstB W l[k] (loads W (l.take k)) = J := ⟨_, rfl⟩
        have hJle := first_le W l[k] (loads W (l.take k))
        rw [hJ] at hfi hset hJle
        rw [hlen] at hJle
        have hnk : k < (numN W l k).length := by rw [numN_length W l k (by omega)]; exact hkl
        have hnk2 : k < (numN W l (k + 1)).length := by rw [numN_length W l (k + 1) (by omega)]; exact hkl
        have hcn := HO.out.cell hnk
        have hfn := HO.out.free k
        generalize (numN W l k)[k] = v0 at hcn
        have hcn2 : (wr.setCell ⟨w.heap.size, k, none⟩ (.int .i64 (J : Int))).cell? ⟨w.heap.size, k, none⟩ = some (.int .i64 (J : Int)) := by
          have h := hset.cell hnk2
          have e : (numN W l (k + 1))[k] = (J : Int) := by
            have e2 := numN_set W l k hkl
            rw [hJ] at e2
            simp only [← e2, List.getElem_set_self]
          rw [e] at h; exact h
        have HO2 := Lib.hid hset
        have HB2 := Lib.hid (HB.out.setCell (p := ⟨w.heap.size, k, none⟩) (Nat.le_refl _) (.int .i64 (J : Int)))
        have HBS2 := Lib.hid (HBS.out.kept (grown_set wr w.heap.size k (.int .i64 (J : Int))) (fun b e => by cases e; rfl))
        have HFI := Lib.hid hfi
        have HJ := Lib.hid hJ
        have HXR := Lib.hid hxr
        have hca2 : (wr.setCell ⟨w.heap.size, k, none⟩ (.int .i64 (J : Int))).cell? ⟨ga, k, none⟩ = some (.int .i64 l[k]) := (grown_set wr w.heap.size k (.int .i64 (J : Int))).cell hca (by simp; omega)
        clear hfi hset hnk hnk2 hc0 HO HB hJ hxr
        have hstep := loads_take W l k hkl
        have hsz : (wr.setCell ⟨w.heap.size, k, none⟩ (.int .i64 (J : Int))).heap.size = wr.heap.size := by simp [World.setCell]
        have hx0 : 1 ≤ l[k] ∧ l[k] ≤ 1000 := by have := HXR.out; omega
        by_cases hJN : J < N
        · have hjL : J < (loads W (l.take k)).length := by omega
          rw [step_in (by rw [HJ.out]; exact hjL)] at hstep
          simp only [HJ.out] at hstep
          have hjs : J < ls.length := by rw [HLN.out]; exact hJN
          have hlj : ls[J]? = some ls[J] := List.getElem?_eq_getElem hjs
          obtain ⟨u, hu⟩ := HBS2.out.val hlj
          obtain ⟨gO, cO, e6, hgO⟩ := HBS2.out.where_ hlj
          rw [HLN.out] at e6
          obtain ⟨rfl, rfl⟩ : av = some ⟨gO, 0, none⟩ ∧ cv = cO := by cases e6; exact ⟨rfl, rfl⟩
          clear e6
          have HF2 := Lib.hid (HF.out.inn hx0 hlj hjL)
          rw [← hstep] at HF2
          obtain ⟨hb0, au, cu, rfl, _⟩ := (HBS2.out.inner J u _ hu hlj).arow
          have hbs3 := HBS2.out.below ((Below.refl _ _).drew)
          rw [← HLN.out] at hbs3
          obtain ⟨g2, cap, w3, hrun, honto⟩ := hbs3.put hu hlj l[k] (by have := (HF.out.small _ (List.getElem_mem hjs)).1; omega) (by have h2 := (HO2.out.lt w.heap.size rfl).2; simp at h2 ⊢; omega)
          have hcu2 : (wr.setCell ⟨w.heap.size, k, none⟩ (.int .i64 (J : Int))).cell? ⟨gO, J, none⟩ = some (.slice au ls[J].length cu) := (World.ownsRow.cellAt hbs3.outer J (by omega)).trans hu
          rw [HLN.out] at honto
          generalize l[k] = x at *
          have HR3 := Lib.hid (show ∀ ty, (Builtin.append_ #[33, 33] ty #[.slice au ls[J].length cu, .slice (some ⟨(wr.setCell ⟨w.heap.size, k, none⟩ (.int .i64 (J : Int))).heap.size, 0, none⟩) 1 1]).run Try.prog (((wr.setCell ⟨w.heap.size, k, none⟩ (.int .i64 (J : Int))).alloc (.cells #[.int .i64 x] 3)).drew) = .ok (.slice (some ⟨g2, 0, none⟩) (ls[J].length + 1) cap) w3 from hrun)
          generalize ls[J].length = m at *
          have ha := below_alloc (wr.setCell ⟨w.heap.size, k, none⟩ (.int .i64 (J : Int))) (.cells #[.int .i64 x] 3)
          have hcn3 := (ha.cell (p := ⟨w.heap.size, k, none⟩) (by have h2 := (HO2.out.lt w.heap.size rfl).2; simpa using h2)).trans hcn2
          have hcu3 := (ha.cell (p := ⟨gO, J, none⟩) (World.block_lt_of_cell? _ ⟨gO, J, none⟩ hcu2)).trans hcu2
          have hcn4 : w3.cell? ⟨w.heap.size, k, none⟩ = some (.int .i64 (J : Int)) := (honto.mid.cell (p := ⟨w.heap.size, k, none⟩) (by simp)).trans hcn2
          have hcu4 := honto.cell
          have hfr4 := honto.free
          have HBS3 := Lib.hid honto.bands
          have HO3 := Lib.hid (own_at (HO2.out.below ((Below.refl _ _).drew)) (honto.below.block w.heap.size (by omega)))
          have HB3 := Lib.hid ((HB2.out.drew).trans (honto.below.mono (by omega)))
          have j0 : (0 : Int) ≤ (J : Int) := Int.natCast_nonneg _
          have j1 : (J : Int) < (N : Int) := by omega
          have q : ((J : Int) == (N : Int)) = false := by simp; omega
          clear hrun honto ha hstep hca2 hx0 HF HBS2 HO2 HB2 HXR HJ hbs3 hu hlj hb0 hjL HBS
          go_wp2_with fail
          refine HFI.out.mono ?_
          rintro e w' ⟨rfl, rfl⟩
          go_wp2_with fail
          clear hsz hcn hfn hca
          generalize (wr.setCell ⟨w.heap.size, k, none⟩ (.int .i64 (J : Int))) = w2 at *
          go_region_law (refine append_stepF rfl (.tmp 58) (.tmp 60) _ _ rfl _ _ (by rfl) (by rfl) HR3.out ?_)
          all_goals
            go_wp2
            go_roundw
            case rel => exact ⟨k + 1, _, _, by omega, by go_num, HF2, HBS3, HO3, HB3⟩
            case measure => simp [intOf]; omega
        · obtain rfl : J = N := by omega
          rw [step_new (by rw [HJ.out, hlen]; omega)] at hstep
          have q : ((J : Int) == (J : Int)) = true := by simp
          obtain ⟨g2, cap, w3, hrun, hbs, hbb⟩ := HBS2.out.add (k := k) (x := l[k]) (by omega) hca2 (by rw [HLN.out]; omega) (by have h2 := (HO2.out.lt w.heap.size rfl).2; omega)
          rw [hsz, HLN.out] at hrun
          rw [HLN.out] at hbs
          have HR3 := Lib.hid hrun
          have HBS3 := Lib.hid hbs
          have HF3 := Lib.hid (HF.out.new hx0)
          rw [← hstep] at HF3
          have HO3 := Lib.hid (own_at HO2.out (hbb.block w.heap.size (by omega)))
          have HB3 := Lib.hid (HB2.out.trans (hbb.mono (by omega)))
          clear hrun hbs hbb hstep hca2 hx0 HF HBS2 HO2 HB2 HXR HJ
          generalize l[k] = x at *
          go_wp2_with fail
          refine HFI.out.mono ?_
          rintro e w' ⟨rfl, rfl⟩
          go_wp2_with (at_builtin; refine Lib.wpList_append_run _ rfl _ _ _ _ rfl _ _ rfl rfl _ _ (HR3.out _) ?_)
          go_roundw
          case rel => exact ⟨k + 1, _, _, by omega, by go_num, HF3, HBS3, HO3, HB3⟩
          case measure => simp [intOf]; omega
      · obtain rfl : k = n := by omega
        have hown := HO.out
        have e : numN W l k = nums W l := by rw [← HL.out, numN_all]
        rw [e] at hown
        have HOE := Lib.hid hown
        clear hown e
        go_wp2
        go_ret
        exact ⟨_, rfl, HB.out, HOE.out⟩
end Go.Proofs.Ytfhpbgmnekhfeaa.Sheet

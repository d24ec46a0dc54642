/- Longest parts without gaps: what CutRuns of the model and of the program return. -/
import Derived.Test.YtefeajnlogbilaaKerfCuts
import Derived.Test.YtefeajnlogbilaaIntRows
import Derived.Deep.RegionHeld3
namespace Go.Proofs.Ytefeajnlogbilaa.Kerf
open Go.ChangeShapes Go.WideShapes Go.ChangeAt Go.RowKit
open Go.Proofs.Ytefeajnlogbilaa.Strip Go.Proofs.Ytefeajnlogbilaa.Ints Go.Proofs.Ytefeajnlogbilaa.Corner
set_option linter.unusedVariables false

/-- It returns the rows ls in memory of its own and leaves all that stood before alone. -/
def Post2 (w : World) (ls : List (List Int)) (e : Ending) (w' : World) : Prop := ∃ v vs, e = .returned v ∧ Below w.heap.size w w' ∧ Own2 w' w.heap.size v vs ls

def pairL (p : Int × Int) : List Int := [p.1, p.2]
/-- What CutRuns returns. -/
def runsC (a b : List UInt8) : List (List Int) := (runsR (cutsL a b)).map pairL

theorem addR_length (g : List (Int × Int)) (x : Int) : (addR g x).length ≤ g.length + 1 := by
  induction g with
  | nil => exact Nat.le_refl _
  | cons p r ih =>
    cases r with
    | nil => show (if p.2 = x - 1 then _ else _ : List (Int × Int)).length ≤ _; split <;> simp
    | cons q r => show (p :: addR (q :: r) x).length ≤ _; rw [List.length_cons, List.length_cons]; omega
theorem runsR_length (l : List Int) (k : Nat) : (runsR (l.take k)).length ≤ k := by
  induction k with
  | zero => simp [runsR]
  | succ k ih =>
    by_cases h : k < l.length
    · rw [List.take_succ_eq_append_getElem h, runsR_snoc]
      have := addR_length (runsR (l.take k)) l[k]
      omega
    · have e : l.take (k + 1) = l.take k := by rw [List.take_of_length_le (by omega), List.take_of_length_le (by omega)]
      rw [e]; omega
/-- The last part ends with the last number. -/
theorem runsR_last (l : List Int) (k : Nat) (h : k < l.length) : ∃ g p, runsR (l.take (k + 1)) = g ++ [(p, l[k])] := by
  induction k with
  | zero => exact ⟨[], l[0], by rw [List.take_succ_eq_append_getElem h, runsR_snoc]; rfl⟩
  | succ k ih =>
    obtain ⟨g, p, e⟩ := ih (by omega)
    rw [List.take_succ_eq_append_getElem h, runsR_snoc, e]
    by_cases hj : l[k] = l[k + 1] - 1
    · exact ⟨g, p, addR_join _ _ _ _ hj⟩
    · exact ⟨g ++ [(p, l[k])], l[k + 1], addR_new _ _ _ _ hj⟩
theorem tot_pairs (g : List (Int × Int)) : tot (g.map pairL) = 2 * g.length := by
  induction g with
  | nil => rfl
  | cons p r ih =>
    have : tot ((p :: r).map pairL) = 2 + tot (r.map pairL) := by simp [tot, pairL]
    rw [this, ih, List.length_cons]; omega
theorem runs_short (a b : List UInt8) : (runsC a b).length ≤ 1000000 := by
  unfold runsC
  rw [List.length_map]
  have h1 := runsR_length (cutsL a b) (cutsL a b).length
  rw [List.take_length] at h1
  have h2 := cuts_short a b
  omega
theorem cuts_16 (a b : List UInt8) : (cutsL a b).length ≤ 16 := by
  cases h : sameB a b with
  | false => rw [cuts_no h]; simp
  | true =>
    rw [cuts_yes h]
    have h1 := cutN_le a b a.length
    have h2 := strip_size (same_facts h).1
    omega
theorem runs_tot (a b : List UInt8) : 1 + tot (runsC a b) ≤ 1000000 := by
  unfold runsC
  rw [tot_pairs]
  have h1 := runsR_length (cutsL a b) (cutsL a b).length
  rw [List.take_length] at h1
  have h2 := cuts_16 a b
  omega
theorem cuts_bound (a b : List UInt8) : ∀ x ∈ cutsL a b, 0 ≤ x ∧ x < 16 := by
  intro x hx
  cases h : sameB a b with
  | false => rw [cuts_no h] at hx; simp at hx
  | true =>
    rw [cuts_yes h] at hx
    obtain ⟨k, hk, _, rfl⟩ := cutN_mem.1 hx
    have h2 := strip_size (same_facts h).1
    omega

/-- A block of two ints. -/
theorem own_two (w : World) (base : Nat) (x y : Int) (hb : base ≤ w.heap.size) : Own (w.alloc (.cells #[.int .i64 x, .int .i64 y] 3)) base (.slice (some ⟨w.heap.size, 0, none⟩) 2 2) [x, y] :=
  ⟨rfl, .inr ⟨w.heap.size, 2, _, rfl, hb, heap_alloc_new w _, Nat.le_refl _, by unfold maxLen; omega, rfl, rfl⟩⟩
theorem info_row : (Try.prog.info? 37).map (fun i => (i.zero, i.size, i.bytes)) = some (some (.slice none 0 0), 1, 24) := by kernel_rfl

set_option maxRecDepth 100000 in
set_option maxHeartbeats 4000000 in
theorem runs_impl (s t : ByteArray) (w : World) (hm : s.size ≤ 1048576) (hm' : t.size ≤ 1048576) :
    Calls Try.prog 26 #[.string s, .string t] w (Post2 w (runsC s.data.toList t.data.toList)) := by
  obtain ⟨i0, hi, hz0, hz1, hz2⟩ := info_parts info_row
  have HC := Lib.hid (fun w => cuts_impl s t w hm hm')
  have hlen := cuts_16 s.data.toList t.data.toList
  have hbd := cuts_bound s.data.toList t.data.toList
  unfold runsC
  generalize cutsL s.data.toList t.data.toList = l at *
  have HBD := Lib.hid hbd; clear hbd
  obtain ⟨n, hn⟩ : ∃ n, l.length = n := ⟨_, rfl⟩
  rw [hn] at hlen
  have HN := Lib.hid hn; clear hn
  go_enter Try.func26, Try.ntmps26
  go_wp2_with fail
  refine (HC.out _).mono ?_
  rintro e w1 ⟨vc, rfl, hb1, hoc⟩
  have HB1 := Lib.hid hb1
  have HOC := Lib.hid hoc
  clear hb1 hoc
  obtain ⟨a, cap, rfl, _, _⟩ := HOC.out.row
  rw [HN.out] at HOC ⊢
  obtain ⟨_, _, e, hrow, _⟩ := HOC.out.row
  rw [HN.out] at e
  cases e
  have HROW := Lib.hid hrow
  clear hrow HC
  go_wp2_with fail
  go_loopw [5, 13] (fun v i wr => ∃ (k : Nat) (vs : List Value), k ≤ n ∧ i = .int .i64 (k : Int) ∧ Hid (Own2 wr w1.heap.size v vs ((runsR (l.take k)).map pairL)) ∧ Hid (Below w1.heap.size w1 wr)) (fun _ i _ => n - (intOf i).toNat)
  case atStart => exact ⟨0, [], Nat.zero_le _, rfl, Own2.nil _ _, Below.refl _ _⟩
  case round =>
    obtain ⟨k, vs, hk, rfl, HO, HB⟩ := hrel
    have HS := Lib.hid HB.out.size
    by_cases hlt : k < n
    · have hkl : k < l.length := by rw [HN.out]; exact hlt
      obtain ⟨g, rfl, hgs, hc⟩ := HROW.out k hkl
      have hca : wr.cell? ⟨g, k, none⟩ = some (.int .i64 l[k]) := (HB.out.cell (p := ⟨g, k, none⟩) hgs).trans hc
      obtain ⟨x0, x1⟩ := HBD.out l[k] (List.getElem_mem hkl)
      have hk0 : (0 : Int) ≤ (k : Int) := Int.natCast_nonneg _
      have hk1 : (k : Int) < (n : Int) := by omega
      clear hc hgs
      by_cases hz : k = 0
      · subst hz
        have hnew : (runsR (l.take (0 + 1))).map pairL = ([] : List (List Int)) ++ [[l[0], l[0]]] := by
          rw [List.take_succ_eq_append_getElem hkl, runsR_snoc]; rfl
        have HNEW := Lib.hid hnew
        clear hnew
        have HO : Hid (Own2 wr w1.heap.size u5 vs []) := HO.out
        obtain ⟨ar, cr, rfl, _, _⟩ := HO.out.row
        have hsl : (Value.slice ar ([] : List (List Int)).length cr) = .slice ar 0 cr := rfl
        rw [hsl] at HO ⊢
        clear hsl
        have HOUT := Lib.hid HO.out.outer
        generalize l[0] = x at *
        have hbo : Own (wr.alloc (.cells #[.int .i64 x, .int .i64 x] 3)) w1.heap.size (.slice (some ⟨wr.heap.size, 0, none⟩) 2 2) [x, x] := own_two wr w1.heap.size x x HS.out
        have HBO := Lib.hid (hbo.alloc (.cells #[.slice (some ⟨wr.heap.size, 0, none⟩) 2 2] 37))
        have hw2 : ((wr.alloc (.cells #[.int .i64 x, .int .i64 x] 3)).alloc (.cells #[.slice (some ⟨wr.heap.size, 0, none⟩) 2 2] 37)).heap[wr.heap.size + 1]? = some (.cells #[.slice (some ⟨wr.heap.size, 0, none⟩) 2 2] 37 (0, 0)) := by
          have h := heap_alloc_new (wr.alloc (.cells #[.int .i64 x, .int .i64 x] 3)) (.cells #[.slice (some ⟨wr.heap.size, 0, none⟩) 2 2] 37)
          simpa using h
        have HW2 := Lib.hid hw2
        have HBB := Lib.hid (((Below.refl wr.heap.size wr).alloc (Nat.le_refl _) (.cells #[.int .i64 x, .int .i64 x] 3)).alloc (by simp) (.cells #[.slice (some ⟨wr.heap.size, 0, none⟩) 2 2] 37))
        clear hbo hw2
        go_wp2_with (at_builtin; refine wpList_append_lies _ rfl _ _ 40 rfl w1.heap.size 37 i0 _ 1 24 Try.underlying40 hi hz0 hz1 hz2 rfl (by decide) _ 0 vs rfl ((HOUT.out.alloc _).alloc _) ⟨wr.heap.size + 1, 0, none⟩ 1 1 [.slice (some ⟨wr.heap.size, 0, none⟩) 2 2] rfl rfl (World.news_of_block HW2.out) (by simp [Value.oneCell']) (by decide) (by unfold maxLen; omega) (by omega) (by have := HS.out; simp; omega) _ rfl ?_)
        intro g2 cap2 w2 hown2 hgrow2 hg2 hlt2
        have HO2 := Lib.hid (HO.out.push (k := wr.heap.size) (l := [x, x]) rfl (Nat.le_refl _) (by simp; omega) HBB.out HBO.out hown2 hgrow2 (hg2.imp id fun h => by simpa using h))
        have HB2 := Lib.hid ((HB.out.trans (HBB.out.mono HS.out)).grown hgrow2 (by have := HS.out; simp; omega) (fun t e => (World.ownsRow.lt HO.out.outer t e).1))
        clear hown2 hgrow2 hg2 hlt2
        go_wp2
        go_roundw
        case rel => exact ⟨1, _, by omega, by go_num, by rw [HNEW.out]; exact HO2, HB2⟩
        case measure => simp [intOf]; omega
      · obtain ⟨j, rfl⟩ : ∃ j, k = j + 1 := ⟨k - 1, by omega⟩
        obtain ⟨gg, p, hgg⟩ := runsR_last l j (by omega)
        have hln := runsR_length l (j + 1)
        rw [hgg] at hln
        rw [hgg] at HO
        have hmap : (gg ++ [(p, l[j])]).map pairL = gg.map pairL ++ [[p, l[j]]] := by rw [List.map_append]; rfl
        rw [hmap] at HO
        clear hmap
        obtain ⟨m, hm0⟩ : ∃ m, gg.length = m := ⟨_, rfl⟩
        have hm2 : m ≤ 16 := by rw [List.length_append, hm0] at hln; simp at hln; omega
        have hlm : (gg.map pairL ++ [[p, l[j]]]).length = m + 1 := by rw [List.length_append, List.length_map, hm0]; rfl
        have HLM := Lib.hid hlm
        have hlast : (gg.map pairL ++ [[p, l[j]]])[m]? = some [p, l[j]] := by
          rw [List.getElem?_append_right (by rw [List.length_map, hm0]; exact Nat.le_refl _), List.length_map, hm0, Nat.sub_self]; rfl
        obtain ⟨u, hu⟩ := HO.out.val hlast
        have hin := HO.out.inner m u _ hu hlast
        obtain ⟨ar, cr, rfl, _, _⟩ := HO.out.row
        rw [HLM.out] at HO ⊢
        have hcell : ∃ go, ar = some ⟨go, 0, none⟩ ∧ wr.cell? ⟨go, m, none⟩ = some u := by
          obtain ⟨hl1, h1 | ⟨go, cap', cur, e, _⟩⟩ := HO.out.outer
          · exact absurd h1.2 (by rw [HLM.out]; omega)
          · have e2 : ar = some ⟨go, 0, none⟩ := (Value.slice.inj e).1
            subst e2
            exact ⟨go, rfl, HO.out.at hu⟩
        obtain ⟨go, rfl, hcell⟩ := hcell
        obtain ⟨au, cu, rfl, hrw, _⟩ := hin.row
        obtain ⟨gu, rfl, _, hc1⟩ := hrw 1 (by simp)
        have hc1 : wr.cell? ⟨gu, 1, none⟩ = some (.int .i64 l[j]) := hc1
        have HU := Lib.hid hu
        have HIN := Lib.hid hin
        have hlu : ([p, l[j]] : List Int).length = 2 := rfl
        rw [hlu] at HU HIN hcell
        have q1 : (m : Int) + 1 - 1 = (m : Int) := by omega
        have q2 : (0 : Int) ≤ (m : Int) := Int.natCast_nonneg _
        have q3 : (m : Int) < (m : Int) + 1 := by omega
        clear hlast hu hin hrw hlu hln hz
        have hjn : runsR (l.take (j + 1 + 1)) = addR (gg ++ [(p, l[j])]) l[j + 1] := by rw [List.take_succ_eq_append_getElem hkl, runsR_snoc, hgg]
        obtain ⟨y0, y1⟩ := HBD.out l[j] (List.getElem_mem (by omega))
        by_cases hj : l[j] = l[j + 1] - 1
        · have hd : ((l[j] : Int) == l[j + 1] - 1) = true := by simpa using hj
          rw [addR_join _ _ _ _ hj] at hjn
          have hset : (gg.map pairL ++ [[p, l[j]]]).set m [p, l[j + 1]] = (runsR (l.take (j + 1 + 1))).map pairL := by
            rw [hjn, List.map_append, List.set_append_right _ _ (by rw [List.length_map, hm0]; exact Nat.le_refl _), List.length_map, hm0, Nat.sub_self]; rfl
          have HSET := Lib.hid hset
          clear hset hjn hgg hj
          generalize l[j] = y at *
          generalize l[j + 1] = x at *
          have hs := HIN.out.set (j := 1) x (by simp)
          have hfr := HIN.out.free 1
          have HO2 := Lib.hid (HO.out.turn HU.out hs (grown_set wr gu 1 (.int .i64 x)))
          have hgu := (HIN.out.lt gu rfl).1
          have HB2 := Lib.hid (HB.out.setCell (p := ⟨gu, 1, none⟩) hgu (.int .i64 x))
          clear hs hgu
          go_wp2_with fail
          refine ⟨⟨j + 1 + 1, vs, by omega, by go_num, ?_, HB2⟩, by simp [intOf]; omega⟩
          rw [← HSET.out]; exact HO2
        · have hd : ((l[j] : Int) == l[j + 1] - 1) = false := by simpa using hj
          rw [addR_new _ _ _ _ hj] at hjn
          have hnew : (runsR (l.take (j + 1 + 1))).map pairL = (gg.map pairL ++ [[p, l[j]]]) ++ [[l[j + 1], l[j + 1]]] := by
            rw [hjn, List.map_append, List.map_append]; rfl
          have HNEW := Lib.hid hnew
          have hout := HO.out.outer
          rw [HLM.out] at hout
          have HOUT := Lib.hid hout
          clear hnew hjn hgg hj HIN HU hout
          generalize l[j] = y at *
          generalize l[j + 1] = x at *
          have hbo : Own (wr.alloc (.cells #[.int .i64 x, .int .i64 x] 3)) w1.heap.size (.slice (some ⟨wr.heap.size, 0, none⟩) 2 2) [x, x] := own_two wr w1.heap.size x x HS.out
          have HBO := Lib.hid (hbo.alloc (.cells #[.slice (some ⟨wr.heap.size, 0, none⟩) 2 2] 37))
          have hw2 : ((wr.alloc (.cells #[.int .i64 x, .int .i64 x] 3)).alloc (.cells #[.slice (some ⟨wr.heap.size, 0, none⟩) 2 2] 37)).heap[wr.heap.size + 1]? = some (.cells #[.slice (some ⟨wr.heap.size, 0, none⟩) 2 2] 37 (0, 0)) := by
            have h := heap_alloc_new (wr.alloc (.cells #[.int .i64 x, .int .i64 x] 3)) (.cells #[.slice (some ⟨wr.heap.size, 0, none⟩) 2 2] 37)
            simpa using h
          have HW2 := Lib.hid hw2
          have HBB := Lib.hid (((Below.refl wr.heap.size wr).alloc (Nat.le_refl _) (.cells #[.int .i64 x, .int .i64 x] 3)).alloc (by simp) (.cells #[.slice (some ⟨wr.heap.size, 0, none⟩) 2 2] 37))
          clear hbo hw2
          go_wp2_with (at_builtin; refine wpList_append_lies _ rfl _ _ 40 rfl w1.heap.size 37 i0 _ 1 24 Try.underlying40 hi hz0 hz1 hz2 rfl (by decide) _ (m + 1) vs rfl ((HOUT.out.alloc _).alloc _) ⟨wr.heap.size + 1, 0, none⟩ 1 1 [.slice (some ⟨wr.heap.size, 0, none⟩) 2 2] rfl rfl (World.news_of_block HW2.out) (by simp [Value.oneCell']) (by decide) (by unfold maxLen; omega) (by omega) (by have := HS.out; simp; omega) _ rfl ?_)
          intro g2 cap2 w2 hown2 hgrow2 hg2 hlt2
          have HO2 := Lib.hid (HO.out.push (k := wr.heap.size) (l := [x, x]) rfl (Nat.le_refl _) (by simp; omega) HBB.out HBO.out (by rw [HLM.out]; exact hown2) hgrow2 (hg2.imp id fun h => by simpa using h))
          have HB2 := Lib.hid ((HB.out.trans (HBB.out.mono HS.out)).grown hgrow2 (by have := HS.out; simp; omega) (fun t e => (World.ownsRow.lt HO.out.outer t e).1))
          clear hown2 hgrow2 hg2 hlt2
          rw [HLM.out] at HO2
          go_wp2
          go_roundw
          case rel => exact ⟨j + 1 + 1, _, by omega, by go_num, by rw [HNEW.out]; exact HO2, HB2⟩
          case measure => simp [intOf]; omega
    · obtain rfl : k = n := by omega
      go_wp2
      go_ret
      have h1 := HO.out
      rw [← HN.out, List.take_length] at h1
      exact ⟨_, vs, rfl, HB1.out.trans (HB.out.mono HB1.out.size), h1.mono HB1.out.size⟩
end Go.Proofs.Ytefeajnlogbilaa.Kerf

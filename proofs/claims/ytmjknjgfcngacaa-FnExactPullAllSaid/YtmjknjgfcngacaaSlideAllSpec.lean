/- What PullAll of the model returns (printed by wip/gen_slide8.py). -/
import Derived.Test.YtmjknjgfcngacaaSlideRound
import Derived.Test.YtmjknjgfcngacaaSlideLkSpec
import Derived.Test.YtmjknjgfcngacaaSlideClone
import Derived.Test.YtmjknjgfcngacaaSlideGave
namespace Go.Proofs.Ytmjknjgfcngacaa.Slide
open Go.ChangeShapes Go.WideShapes Go.ChangeAt Go.RowKit Go.Sort
open Go.Proofs.Ytmjknjgfcngacaa.Tri
open Go.Proofs.Ytmjknjgfcngacaa.Arr
open Go.Proofs.Ytmjknjgfcngacaa.Strip (in_at)
open Go.Proofs.Ytmjknjgfcngacaa.Ints (grown_below grown_set grown_trans heap_set_at drewN_below)
set_option linter.unusedVariables false

def movL (n : Nat) (mv : Moves) : List Int := (List.range n).map mv
theorem movL_at {n j : Nat} (mv : Moves) (h : j < n) : (movL n mv)[j]? = some (mv j) := by unfold movL; simp [h]
theorem movL_set {n j : Nat} (mv : Moves) (x : Int) : (movL n mv).set j x = movL n (fun i => if i = j then x else mv i) := by
  unfold movL
  refine List.ext_getElem? fun i => ?_
  rw [List.getElem?_set]
  by_cases e : j = i
  · subst e
    by_cases h : j < n <;> simp [h]
  · rw [if_neg e]
    by_cases h : i < n
    · have e2 : ¬ i = j := fun x => e x.symm
      simp [h, e2]
    · simp [h]
theorem movL_zero (n : Nat) : List.replicate n (0 : Int) = movL n noMove := by
  unfold movL
  refine List.ext_getElem? fun i => ?_
  by_cases h : i < n <;> simp [h, noMove]
theorem movL_congr {n : Nat} {m1 m2 : Moves} (h : ∀ i, m1 i = m2 i) : movL n m1 = movL n m2 := by rw [funext h]

set_option maxRecDepth 100000 in
set_option maxHeartbeats 4000000 in
theorem all_spec (k q : Int) (ad : Addr) (n c m cl : Nat) (al : Option Addr) (L ls : List T3) (w : World) (hL : L.length = n) (hn : n ≤ 1048576) (hr : Row3 w (some ad) L) (hl : ls.length = m) (hm : m ≤ 1048576) (hrl : Row3 w al ls) :
    Calls Try.prog 27 #[.slice (some ad) n c, .slice al m cl, .int .i64 k, .int .i64 q] w (GaveS w n (pullL L ls k q) (pullB L ls k q)) := by
  obtain ⟨g, cap, W1, hrun, ho, hb⟩ := append_new w ad c L hr (by omega)
  rw [hL] at hrun ho
  have HL := Lib.hid hL
  have HM := Lib.hid hl
  have HR := Lib.hid hr
  have HRL := Lib.hid hrl
  have HO := Lib.hid ho
  have HB := Lib.hid hb
  have HRUN := Lib.hid hrun
  have HLK := Lib.hid (fun w' h => links_spec (n : Int) al m cl ls w' hl hm h)
  clear hL hl hr hrl ho hb hrun
  go_enter Try.func27, Try.ntmps27
  go_wp2_with (at_builtin; refine Lib.wpList_append_run _ rfl _ _ _ _ rfl _ _ rfl rfl _ _ (HRUN.out _) ?_)
  go_loopw [12] (fun i wr => ∃ j : Nat, j ≤ n ∧ i = .int .i64 (j : Int) ∧ Hid ((L.take j).all okS = true) ∧ Hid (OwnT 33 wr w.heap.size (.slice (some ⟨g, 0, none⟩) n cap) L) ∧ Hid (Below w.heap.size w wr)) (fun i _ => n - (intOf i).toNat)
  case atStart => exact ⟨0, Nat.zero_le _, rfl, Lib.hid (by rw [List.take_zero]; rfl), HO, HB⟩
  case round =>
    clear HO HB HRUN
    obtain ⟨j, hj, rfl, HA, HO, HB⟩ := hrel
    have hj0 : (0 : Int) ≤ (j : Int) := Int.natCast_nonneg _
    by_cases hlt : j < n
    · have hj1 : (j : Int) < (n : Int) := by omega
      have hjl : j < L.length := by rw [HL.out]; exact hlt
      obtain ⟨g0, e0, hg0, c0, c1, c2⟩ := (HR.out.below HB.out) j hjl
      have HT := Lib.hid (fun h => all_take (p := okS) hjl HA.out h)
      have HF := Lib.hid (fun h => all_bad (p := okS) hjl h)
      cases e0
      have HOK := Lib.hid (fun x y z => ok_spec x y z)
      generalize L[j] = s at *
      obtain ⟨x, y, z⟩ := s
      simp only at c0 c1 c2
      have HOK := Lib.hid (HOK.out x y z)
      cases hok : okS (x, y, z) with
      | false =>
        rw [hok] at HOK
        have HF := Lib.hid (HF.out hok)
        have HP := Lib.hid (pullB_no (L := L) (ls := ls) (k := k) (q := q) (fun h => by rw [List.all_eq_true.2 h.2.1] at HF; cases HF.out))
        clear HT hok
        go_wp2_with fail
        refine (HOK.out _).mono ?_
        rintro e w2 ⟨rfl, hb⟩
        have HO := Lib.hid (HO.out.below hb)
        have HB := Lib.hid (HB.out.trans (hb.mono HB.out.size))
        clear hb c0 c1 c2
        go_wp2_with fail
        go_ret2
        unfold GaveS
        rw [HP.out, pullL_no HP.out]
        exact ⟨g, cap, rfl, HB.out, HO.out⟩
      | true =>
        rw [hok] at HOK
        have HT := Lib.hid (HT.out hok)
        clear HF hok
        go_wp2_with fail
        refine (HOK.out _).mono ?_
        rintro e w2 ⟨rfl, hb⟩
        have HO := Lib.hid (HO.out.below hb)
        have HB := Lib.hid (HB.out.trans (hb.mono HB.out.size))
        clear hb c0 c1 c2
        go_wp2_with fail
        exact ⟨⟨j + 1, by omega, by go_num, HT, HO, HB⟩, by simp [intOf]; omega⟩
    · obtain rfl : j = n := by omega
      have hfin : L.take j = L := by rw [← HL.out]; exact List.take_length
      rw [hfin] at HA
      clear hfin
      cases hlk : linksB (j : Int) ls with
      | false =>
        rw [hlk] at HLK
        have HP := Lib.hid (pullB_no (L := L) (ls := ls) (k := k) (q := q) (fun h => by rw [HL.out] at h; rw [h.1] at hlk; cases hlk))
        clear hlk
        go_wp2_with fail
        refine (HLK.out _ (HRL.out.below HB.out)).mono ?_
        rintro e w2 ⟨rfl, hb⟩
        have HO := Lib.hid (HO.out.below hb)
        have HB := Lib.hid (HB.out.trans (hb.mono HB.out.size))
        clear hb
        go_wp2_with fail
        go_ret2
        unfold GaveS
        rw [HP.out, pullL_no HP.out]
        exact ⟨g, cap, rfl, HB.out, HO.out⟩
      | true =>
        rw [hlk] at HLK
        have hj8 := (linksB_iff.1 hlk).1
        obtain ⟨hj1, hj8, _⟩ := hj8
        by_cases h1 : 0 ≤ k ∧ k ≤ (j : Int) - 1
        · by_cases h2 : -100 ≤ q ∧ q ≤ 100
          · have hP : pullB L ls k q = true := pullB_iff.2 ⟨by rw [HL.out]; exact hlk, List.all_eq_true.1 HA.out, h1.1, by rw [HL.out]; omega, h2.1, h2.2⟩
            obtain ⟨hF, hk, _, _, hE⟩ := pull_fit hP
            rw [HL.out] at hF hE
            have HP := Lib.hid hP
            have HE := Lib.hid hE
            have HF := Lib.hid hF
            have D1 := decide_eq_true h1
            have D2 := decide_eq_true h2
            obtain ⟨K, rfl⟩ := Int.eq_ofNat_of_zero_le h1.1
            rw [Int.toNat_natCast] at HF HE
            have hK : K < j := HF.out.k
            have hK0 : (0 : Int) ≤ (K : Int) := Int.natCast_nonneg _
            have hK1 : (K : Int) < (j : Int) := by omega
            clear hP hF hE hk hlk
            obtain ⟨h1a, h1b⟩ := h1
            obtain ⟨h2a, h2b⟩ := h2
            go_wp2_with fail
            refine (HLK.out _ (HRL.out.below HB.out)).mono ?_
            rintro e w2 ⟨rfl, hb⟩
            have HO := Lib.hid (HO.out.below hb)
            have HB := Lib.hid (HB.out.trans (hb.mono HB.out.size))
            clear hb
            go_wp2_with fail
            refine (in_at (K : Int) 0 ((j : Int) - 1) _).mono ?_
            rintro e w3 ⟨rfl, rfl⟩
            rw [D1]
            go_wp2_with fail
            refine (in_at q (-100) 100 _).mono ?_
            rintro e w3 ⟨rfl, rfl⟩
            rw [D2]
            clear D1 D2
            obtain ⟨w4, hmk0, ha, hb⟩ := make_ints w2 j (by omega)
            have hmk := hmk0 (j : Int) rfl
            clear hmk0
            have hjl : K < L.length := by rw [HL.out]; exact hK
            obtain ⟨g0, e0, hg0, c0, c1, c2⟩ := (HR.out.below (HB.out.trans (hb.mono HB.out.size))) K hjl
            cases e0
            have HC := Lib.hid (fun (w' : World) (hb' : Below w.heap.size w w') => (HR.out.below hb') K hjl)
            have hgw : g < w2.heap.size := (HO.out.lt g rfl).2
            have hgW : w.heap.size ≤ g := (HO.out.lt g rfl).1
            have HO := Lib.hid (HO.out.below hb)
            have HB := Lib.hid (HB.out.trans (hb.mono HB.out.size))
            obtain ⟨G, hG⟩ : ∃ G, w2.heap.size = G := ⟨_, rfl⟩
            rw [hG] at hmk ha hgw
            have HGW := Lib.hid (show w.heap.size ≤ G by omega)
            rw [movL_zero] at ha
            have HA := Lib.hid ha
            clear ha hb hG
            have HST := Lib.hid (first_at (q := q) hjl)
            have hnear := nowV_near L[K] q
            have hpu : pullS L[K] q = (L[K].1, L[K].2.1, nowV L[K] q) := rfl
            rw [hpu] at HST
            clear hpu
            have hKL : K < L.length := hjl
            generalize L[K]'_ = s at *
            obtain ⟨x, y, z⟩ := s
            simp only at c0 c1 c2 hnear
            have HPU := Lib.hid (fun w' => pull_spec x y z q w')
            have ez : IntKind.i64.wrap (nowV (x, y, z) q - z) = nowV (x, y, z) q - z := by rw [IntKind.wrap_i64]; omega
            simp only at HST HC
            generalize nowV (x, y, z) q = v at *
            clear hnear
            have hKN : K < j := hK
            go_wp2_with fail
            refine (HPU.out _).mono ?_
            rintro e w5 ⟨rfl, hb⟩
            clear c0 c1 c2 hmk
            have HO := Lib.hid (HO.out.below hb)
            have HA := Lib.hid (HA.out.below hb)
            have HB := Lib.hid (HB.out.trans (hb.mono HB.out.size))
            obtain ⟨p0, p1, p2⟩ := HO.out.cell hKL
            have f0 := HO.out.free (K * 3)
            have f1 := HO.out.free (K * 3 + 1)
            have f2 := HO.out.free (K * 3 + 2)
            have hgs := grown_setB w5 g K x y v
            have HO2 := Lib.hid (HO.out.set x y v hKL)
            have HA2 : Hid (ArrT (setB w5 g K x y v) G 3 (movL j noMove)) := Lib.hid ((hgs.block G HA.out.lt (by simp only [ne_eq, Option.some.injEq]; omega)).trans HA.out)
            have HB2 := Lib.hid (HB.out.grown hgs HB.out.size (fun t e => by cases e; exact hgW))
            clear hb hgs HO HA HB
            have q2 : (setB w5 g K x y v).cell? ⟨g, K * 3 + 2, none⟩ = some (.int .i64 v) := by
              have := (HO2.out.cell (j := K) (by rw [List.length_set]; exact hKL)).2.2
              simpa using this
            obtain ⟨g1, e1, hg1, r0, r1, r2⟩ := HC.out _ HB2.out
            cases e1
            have a0 := HA2.out.cell (movL_at noMove hKN)
            have fa := HA2.out.free K
            have HBW := HB2
            unfold setB at q2 r0 r1 r2 a0 fa HO2 HA2 HB2
            clear hg1
            have HA3 := Lib.hid (HA2.out.set K (v - z))
            have HO3 := Lib.hid (own_other (b := G) HO2.out (grown_set _ G K (.int .i64 (v - z))) (by omega))
            have HB3 := Lib.hid (below_set (c := G) (j := K) (u := .int .i64 (v - z)) HB2.out HGW.out HB2.out.size)
            clear HA2 HO2 HB2 HBW
            go_wp2_with fail
            go_region
            clear q2 r0 r1 r2 a0 fa ez p0 p1 p2 f0 f1 f2
            have HA4 := Lib.hid HA3.out.drew
            have HB4 := Lib.hid HB3.out.drew
            generalize ((((w5.setCell ⟨g, K * 3, none⟩ (.int .i64 x)).setCell ⟨g, K * 3 + 1, none⟩ (.int .i64 y)).setCell ⟨g, K * 3 + 2, none⟩ (.int .i64 v)).setCell ⟨G, K, none⟩ (.int .i64 (v - z))) = w6 at *
            have HO4 : Hid (OwnT 33 w6.drew w.heap.size (.slice (some ⟨g, 0, none⟩) j cap) (L.set K (x, y, v))) := HO3
            clear HA3 HO3 HB3
            generalize w6.drew = w7 at *
            rw [movL_set] at HA4
            have HA := Lib.hid (show ArrT w7 G 3 (movL j (st L ls K q 0).2) from by rw [st_zero, HST.out]; exact HA4.out)
            have HO := Lib.hid (show OwnT 33 w7 w.heap.size (.slice (some ⟨g, 0, none⟩) j cap) (st L ls K q 0).1 from by rw [st_zero, HST.out]; exact HO4.out)
            have HB := HB4
            clear HA4 HO4 HB4 HST HPU HC
            have hgG : g ≠ G := by omega
            go_wp2_with fail
            go_loopw [13, 14] (fun mvv i wr => ∃ (r : Nat) (G : Nat), r ≤ j + 1 ∧ i = .int .i64 (r : Int) ∧ mvv = .slice (some ⟨G, 0, none⟩) j j ∧ Hid (w.heap.size ≤ G ∧ g ≠ G) ∧ Hid (ArrT wr G 3 (movL j (st L ls K q r).2)) ∧ Hid (OwnT 33 wr w.heap.size (.slice (some ⟨g, 0, none⟩) j cap) (st L ls K q r).1) ∧ Hid (Below w.heap.size w wr)) (fun _ i _ => j + 1 - (intOf i).toNat)
            case atStart => exact ⟨0, G, by omega, rfl, rfl, Lib.hid ⟨HGW.out, hgG⟩, HA, HO, HB⟩
            case round =>
              clear HA HO HB HGW hgw hgG
              obtain ⟨r, G, hr, rfl, rfl, HGG, HA, HO, HB⟩ := hrel
              have hr0 : (0 : Int) ≤ (r : Int) := Int.natCast_nonneg _
              by_cases hrn : r ≤ j
              · have hr1 : (r : Int) ≤ (j : Int) := by omega
                obtain ⟨w8, hmk0, ha, hb⟩ := make_ints wr j (by omega)
                have hmk := hmk0 (j : Int) rfl
                clear hmk0
                have hgw2 : g < wr.heap.size := (HO.out.lt g rfl).2
                have hGw : G < wr.heap.size := HA.out.lt
                have HA := Lib.hid (HA.out.below hb)
                have HO := Lib.hid (HO.out.below hb)
                have HX := Lib.hid (show w.heap.size ≤ wr.heap.size from HB.out.size)
                have HB := Lib.hid (HB.out.trans (hb.mono HB.out.size))
                obtain ⟨G2, hG2⟩ : ∃ G, wr.heap.size = G := ⟨_, rfl⟩
                rw [hG2] at hmk ha hgw2 hGw HX
                rw [movL_zero] at ha
                have HN := Lib.hid ha
                clear ha hb hG2
                obtain ⟨S, hS⟩ : ∃ S, (st L ls K q r).1 = S := ⟨_, rfl⟩
                obtain ⟨mv, hmv⟩ : ∃ mv, (st L ls K q r).2 = mv := ⟨_, rfl⟩
                have HSN := Lib.hid (show part mv S ls = st L ls K q (r + 1) by rw [st_succ, hmv, hS])
                have HCAME := Lib.hid (show ∀ u, Came S (part mv S (ls.take u)).1 (part mv S (ls.take u)).2 from fun u => by have := HF.out.came q r u; rwa [hmv, hS] at this)
                have HSO := Lib.hid (HF.out.st_ok q r)
                rw [hmv] at HA HSO
                rw [hS] at HO HSO
                clear hS hmv
                go_wp2_with fail
                clear hmk
                go_loopw [16] (fun i wr => ∃ u : Nat, u ≤ m ∧ i = .int .i64 (u : Int) ∧ Hid (ArrT wr G2 3 (movL j (part mv S (ls.take u)).2)) ∧ Hid (ArrT wr G 3 (movL j mv)) ∧ Hid (OwnT 33 wr w.heap.size (.slice (some ⟨g, 0, none⟩) j cap) (part mv S (ls.take u)).1) ∧ Hid (Below w.heap.size w wr)) (fun i _ => m - (intOf i).toNat)
                case atStart => exact ⟨0, Nat.zero_le _, rfl, HN, HA, HO, HB⟩
                case round =>
                  clear HN HA HO HB
                  obtain ⟨u, hu, rfl, HN, HA, HO, HB⟩ := hrel
                  have hu0 : (0 : Int) ≤ (u : Int) := Int.natCast_nonneg _
                  by_cases hum : u < m
                  · have hu1 : (u : Int) < (m : Int) := by omega
                    have hul : u < ls.length := by rw [HM.out]; exact hum
                    obtain ⟨gl, e1, hgl, c0, c1, c2⟩ := (HRL.out.below HB.out) u hul
                    cases e1
                    have hlk := linkB_iff.1 (HF.out.link _ (List.getElem_mem hul))
                    have HT := Lib.hid (part_take mv S ls u hul)
                    have hcm := HCAME.out u
                    have hcm2 := HCAME.out (u + 1)
                    rw [HT.out] at hcm2
                    generalize ls[u] = l at *
                    obtain ⟨x, y, z⟩ := l
                    simp only at c0 c1 c2 hlk
                    obtain ⟨h0, h1, h2, h3, _, hz⟩ := hlk
                    obtain ⟨f, rfl⟩ := Int.eq_ofNat_of_zero_le h0
                    obtain ⟨t, rfl⟩ := Int.eq_ofNat_of_zero_le h2
                    have hf : f < j := by omega
                    have ht : t < j := by omega
                    have hf0 : (0 : Int) ≤ (f : Int) := Int.natCast_nonneg _
                    have ht0 : (0 : Int) ≤ (t : Int) := Int.natCast_nonneg _
                    have hfj : (f : Int) < (j : Int) := by omega
                    have htj : (t : Int) < (j : Int) := by omega
                    have hv := VarT.new (T := 35) wr ((f : Int), (t : Int), z)
                    have hb := alloc_below wr (.cells #[.int .i64 (f : Int), .int .i64 (t : Int), .int .i64 z] 35)
                    have HL2 := Lib.hid (show G2 < wr.heap.size ∧ G < wr.heap.size ∧ g < wr.heap.size from ⟨HN.out.lt, HA.out.lt, (HO.out.lt g rfl).2⟩)
                    have HA := Lib.hid (HA.out.below hb)
                    have HN := Lib.hid (HN.out.below hb)
                    have HO := Lib.hid (HO.out.below hb)
                    have HB := Lib.hid (HB.out.trans (hb.mono HB.out.size))
                    obtain ⟨m0, m1, m2⟩ := hv.cells
                    simp only at m0 m1 m2
                    clear hb hv
                    generalize hst : part mv S (ls.take u) = sp at *
                    obtain ⟨R2, mm⟩ := sp
                    simp only at HN HO hcm
                    have q3 := HA.out.cell (movL_at mv hf)
                    by_cases hzero : mv f = 0
                    · have HSTEP := Lib.hid (step_still mv R2 mm ((f : Int), (t : Int), z) (by simp only [Int.toNat_natCast]; exact hzero))
                      rw [HSTEP.out] at HT
                      rw [hzero] at q3
                      clear hcm hcm2 hst hzero HSTEP
                      go_wp2_with fail
                      exact ⟨⟨u + 1, by omega, by go_num, by rw [HT.out]; exact HN, HA, by rw [HT.out]; exact HO, HB⟩, by simp [intOf]; omega⟩
                    · have htR : t < R2.length := by rw [hcm.len, HSO.out.1]; exact ht
                      have e0 : (mv f == 0) = false := by simp [hzero]
                      have hmvf := HSO.out.2.2.1 f
                      have hq := mul_small hz hmvf.1 hmvf.2
                      have hbd0 := hcm.bound HSO.out.2.1 t
                      have hokR := okS_iff.1 (hcm.ok _ (List.getElem_mem htR))
                      have hnear := nowV_near R2[t] (z * mv f)
                      have HST := Lib.hid (show stepR mv (R2, mm) ((f : Int), (t : Int), z) = (R2.set t (pullS R2[t] (z * mv f)), fun i => if i = t then mm i + (nowV R2[t] (z * mv f) - R2[t].2.2) else mm i) from by
                        unfold stepR
                        simp only [Int.toNat_natCast]
                        rw [getD_at htR])
                      rw [HST.out] at HT
                      obtain ⟨qq, hqq⟩ : ∃ qq, z * mv f = qq := ⟨_, rfl⟩
                      have e1 : IntKind.i64.wrap (z * mv f) = qq := by rw [hqq, IntKind.wrap_i64]; omega
                      rw [hqq] at HT hnear
                      generalize mv f = xf at *
                      have HCELL := Lib.hid (fun (w' : World) (h : OwnT 33 w' w.heap.size (.slice (some ⟨g, 0, none⟩) j cap) R2) => h.cell htR)
                      have HSET := Lib.hid (fun (w' : World) (h : OwnT 33 w' w.heap.size (.slice (some ⟨g, 0, none⟩) j cap) R2) (a b c : Int) => h.set a b c htR)
                      have hpu : pullS R2[t] qq = (R2[t].1, R2[t].2.1, nowV R2[t] qq) := rfl
                      rw [hpu] at HT
                      clear hpu
                      obtain ⟨p0, p1, p2⟩ := HCELL.out _ HO.out
                      generalize R2[t]'_ = s at *
                      obtain ⟨x, y, zn⟩ := s
                      simp only at p0 p1 p2 hnear hokR HCELL HT
                      have HPU := Lib.hid (fun w' => pull_spec x y zn qq w')
                      generalize nowV (x, y, zn) qq = v at *
                      have e2 : IntKind.i64.wrap (mm t + v) = mm t + v := by rw [IntKind.wrap_i64]; omega
                      have e3 : IntKind.i64.wrap (mm t + v - zn) = mm t + v - zn := by rw [IntKind.wrap_i64]; omega
                      have HFC := Lib.hid (FourC.drew (show FourC wr.heap.size G f t z xf _ from ⟨m0, m1, m2, q3⟩))
                      have HLG : wr.heap.size ≠ g := by have := HL2.out; omega
                      have HGG2 : G ≠ g := by have := HGG.out.2; omega
                      have HNG : G2 ≠ g := by omega
                      clear hqq hcm hcm2 hst hq hbd0 hokR hnear hmvf hzero
                      go_wp2_with fail
                      have HOD := Lib.hid (show OwnT 33 (wr.alloc (.cells #[.int .i64 (f : Int), .int .i64 (t : Int), .int .i64 z] 35)).drew w.heap.size (.slice (some ⟨g, 0, none⟩) j cap) R2 from HO.out)
                      refine wp_region_held_drew (S := FourC wr.heap.size G f t z xf) (by kernel_rfl) HFC.out (fun hHeld => ?_)
                      refine wpAnyH_take (i := 0) (v := ?_) rfl (by kernel_rfl) (by kernel_rfl) (by kernel_rfl) (fun _ _ _ h => h) (Or.inl ⟨by rfl, ?_⟩) (by assumption) ?_
                      rotate_left
                      · intro w hSw
                        unfold FourC at hSw
                        go_simp
                        all_goals (with_reducible rfl)
                      try simp only [Act.put, List.setIfInBounds_toArray, List.set_cons_zero, List.set_cons_succ, List.getElem_toArray, List.getElem_cons_zero]
                      refine wpAnyH_take (i := 1) (v := ?_) rfl (by kernel_rfl) (by kernel_rfl) (by kernel_rfl) (fun _ _ _ h => h) (Or.inl ⟨by rfl, ?_⟩) (by assumption) ?_
                      rotate_left
                      · intro w hSw
                        unfold FourC at hSw
                        go_simp
                        all_goals (with_reducible rfl)
                      try simp only [Act.put, List.setIfInBounds_toArray, List.set_cons_zero, List.set_cons_succ, List.getElem_toArray, List.getElem_cons_succ, List.getElem_cons_zero]
                      refine wpAnyH_take (i := 2) (v := ?_) rfl (by kernel_rfl) (by kernel_rfl) (by kernel_rfl) (fun _ _ _ h => h) (Or.inl ⟨by rfl, ?_⟩) (by assumption) ?_
                      rotate_left
                      · intro w hSw
                        unfold FourC at hSw
                        go_simp
                        all_goals (with_reducible rfl)
                      try simp only [Act.put, List.setIfInBounds_toArray, List.set_cons_zero, List.set_cons_succ, List.getElem_toArray, List.getElem_cons_succ, List.getElem_cons_zero]
                      refine wpAnyH_take (i := 3) (v := ?_) rfl (by kernel_rfl) (by kernel_rfl) (by kernel_rfl) (fun _ _ _ h => h) (Or.inl ⟨by rfl, ?_⟩) (by assumption) ?_
                      rotate_left
                      · intro w hSw
                        unfold FourC at hSw
                        go_simp
                        all_goals (with_reducible rfl)
                      try simp only [Act.put, List.setIfInBounds_toArray, List.set_cons_zero, List.set_cons_succ, List.getElem_toArray, List.getElem_cons_succ, List.getElem_cons_zero]
                      refine wpAnyH_take (i := 4) (v := ?_) rfl (by kernel_rfl) (by kernel_rfl) (by kernel_rfl) (fun _ _ _ h => h) (Or.inl ⟨by rfl, ?_⟩) (by assumption) ?_
                      rotate_left
                      · intro w hSw
                        unfold FourC at hSw
                        go_simp
                        all_goals (with_reducible rfl)
                      try simp only [Act.put, List.setIfInBounds_toArray, List.set_cons_zero, List.set_cons_succ, List.getElem_toArray, List.getElem_cons_succ, List.getElem_cons_zero]
                      refine wpAnyH_take (i := 5) (v := ?_) rfl (by kernel_rfl) (by kernel_rfl) (by kernel_rfl) (fun _ _ _ h => h) (Or.inl ⟨by rfl, ?_⟩) (by assumption) ?_
                      rotate_left
                      · intro w hSw
                        unfold FourC at hSw
                        go_simp
                        all_goals (with_reducible rfl)
                      try simp only [Act.put, List.setIfInBounds_toArray, List.set_cons_zero, List.set_cons_succ, List.getElem_toArray, List.getElem_cons_succ, List.getElem_cons_zero]
                      refine wpAnyH_take (i := 6) (v := ?_) rfl (by kernel_rfl) (by kernel_rfl) (by kernel_rfl) (fun _ _ _ h => h) (Or.inl ⟨by rfl, ?_⟩) (by assumption) ?_
                      rotate_left
                      · intro w hSw
                        unfold FourC at hSw
                        go_simp
                        all_goals (with_reducible rfl)
                      try simp only [Act.put, List.setIfInBounds_toArray, List.set_cons_zero, List.set_cons_succ, List.getElem_toArray, List.getElem_cons_succ, List.getElem_cons_zero]
                      refine wpAnyH_take (i := 8) (v := ?_) rfl (by kernel_rfl) (by kernel_rfl) (by kernel_rfl) (fun _ _ _ h => h) (Or.inl ⟨by rfl, ?_⟩) (by assumption) ?_
                      rotate_left
                      · intro w hSw
                        unfold FourC at hSw
                        go_simp
                        all_goals (with_reducible rfl)
                      try simp only [Act.put, List.setIfInBounds_toArray, List.set_cons_zero, List.set_cons_succ, List.getElem_toArray, List.getElem_cons_succ, List.getElem_cons_zero]
                      refine wpAnyH_take (i := 9) (v := ?_) rfl (by kernel_rfl) (by kernel_rfl) (by kernel_rfl) (fun _ _ _ h => h) (Or.inl ⟨by rfl, ?_⟩) (by assumption) ?_
                      rotate_left
                      · intro w hSw
                        unfold FourC at hSw
                        go_simp
                        all_goals (with_reducible rfl)
                      try simp only [Act.put, List.setIfInBounds_toArray, List.set_cons_zero, List.set_cons_succ, List.getElem_toArray, List.getElem_cons_succ, List.getElem_cons_zero]
                      refine wpAnyH_take (i := 10) (v := ?_) rfl (by kernel_rfl) (by kernel_rfl) (by kernel_rfl) (fun _ _ _ h => h) (Or.inl ⟨by rfl, ?_⟩) (by assumption) ?_
                      rotate_left
                      · intro w hSw
                        unfold FourC at hSw
                        go_simp
                        all_goals (with_reducible rfl)
                      try simp only [Act.put, List.setIfInBounds_toArray, List.set_cons_zero, List.set_cons_succ, List.getElem_toArray, List.getElem_cons_succ, List.getElem_cons_zero]
                      refine wpAnyH_take (i := 11) (v := ?_) rfl (by kernel_rfl) (by kernel_rfl) (by kernel_rfl) (fun _ _ _ h => h) (Or.inl ⟨by rfl, ?_⟩) (by assumption) ?_
                      rotate_left
                      · intro w hSw
                        unfold FourC at hSw
                        go_simp
                        all_goals (with_reducible rfl)
                      try simp only [Act.put, List.setIfInBounds_toArray, List.set_cons_zero, List.set_cons_succ, List.getElem_toArray, List.getElem_cons_succ, List.getElem_cons_zero]
                      refine wpAnyH_take (i := 12) (v := ?_) rfl (by kernel_rfl) (by kernel_rfl) (by kernel_rfl) (fun _ _ _ h => h) (Or.inl ⟨by rfl, ?_⟩) (by assumption) ?_
                      rotate_left
                      · intro w hSw
                        unfold FourC at hSw
                        go_simp
                        all_goals (with_reducible rfl)
                      try simp only [Act.put, List.setIfInBounds_toArray, List.set_cons_zero, List.set_cons_succ, List.getElem_toArray, List.getElem_cons_succ, List.getElem_cons_zero]
                      refine wpAnyH_take (i := 13) (v := ?_) rfl (by kernel_rfl) (by kernel_rfl) (by kernel_rfl) (fun _ _ _ h => h) (Or.inl ⟨by rfl, ?_⟩) (by assumption) ?_
                      rotate_left
                      · intro w hSw
                        unfold FourC at hSw
                        go_simp
                        all_goals (with_reducible rfl)
                      try simp only [Act.put, List.setIfInBounds_toArray, List.set_cons_zero, List.set_cons_succ, List.getElem_toArray, List.getElem_cons_succ, List.getElem_cons_zero]
                      refine wpAnyH_take (i := 14) (v := ?_) rfl (by kernel_rfl) (by kernel_rfl) (by kernel_rfl) (fun _ _ _ h => h) (Or.inl ⟨by rfl, ?_⟩) (by assumption) ?_
                      rotate_left
                      · intro w hSw
                        unfold FourC at hSw
                        go_simp
                        all_goals (with_reducible rfl)
                      try simp only [Act.put, List.setIfInBounds_toArray, List.set_cons_zero, List.set_cons_succ, List.getElem_toArray, List.getElem_cons_succ, List.getElem_cons_zero]
                      refine wpAnyH_take (i := 15) (v := ?_) rfl (by kernel_rfl) (by kernel_rfl) (by kernel_rfl) (fun _ _ _ h => h) (Or.inl ⟨by rfl, ?_⟩) (by assumption) ?_
                      rotate_left
                      · intro w hSw
                        unfold FourC at hSw
                        go_simp
                        all_goals (with_reducible rfl)
                      try simp only [Act.put, List.setIfInBounds_toArray, List.set_cons_zero, List.set_cons_succ, List.getElem_toArray, List.getElem_cons_succ, List.getElem_cons_zero]
                      refine wpAnyH_ready (rs := [7]) (by kernel_rfl) (by simp) ?_
                      refine AllReadyH.cons rfl (fun K hK => ?_) AllReadyH.nil
                      try simp only [Act.put, List.setIfInBounds_toArray, List.set_cons_zero, List.set_cons_succ, List.getElem_toArray, List.getElem_cons_succ, List.getElem_cons_zero]
                      go_simp
                      refine hK.out _ _ HFC.out (fun hHeld => ?_)
                      clear hK K
                      try simp only [Act.put, List.setIfInBounds_toArray, List.set_cons_zero, List.set_cons_succ, List.getElem_toArray, List.getElem_cons_succ, List.getElem_cons_zero]
                      refine wpAnyH_ready (rs := [16]) (by kernel_rfl) (by simp) ?_
                      refine AllReadyH.cons rfl (fun K hK => ?_) AllReadyH.nil
                      try simp only [Act.put, List.setIfInBounds_toArray, List.set_cons_zero, List.set_cons_succ, List.getElem_toArray, List.getElem_cons_succ, List.getElem_cons_zero]
                      go_simp
                      go_at_call 21
                      refine (HPU.out _).mono ?_
                      rintro e w2 ⟨rfl, hb⟩
                      have hF2 := HFC.out.below hb
                      refine hK.out _ _ hF2 (fun hHeld => ?_)
                      clear hK K
                      try simp only [Act.put, List.setIfInBounds_toArray, List.set_cons_zero, List.set_cons_succ, List.getElem_toArray, List.getElem_cons_succ, List.getElem_cons_zero]
                      have HO2 := Lib.hid (HOD.out.below hb)
                      have HA2 := Lib.hid ((show ArrT (wr.alloc (.cells #[.int .i64 (f : Int), .int .i64 (t : Int), .int .i64 z] 35)).drew G 3 (movL j mv) from HA.out).below hb)
                      have HN2 := Lib.hid ((show ArrT (wr.alloc (.cells #[.int .i64 (f : Int), .int .i64 (t : Int), .int .i64 z] 35)).drew G2 3 (movL j mm) from HN.out).below hb)
                      have HB2 := Lib.hid (HB.out.drew.trans (hb.mono HB.out.size))
                      clear hb p0 p1 p2 HO HA HN HB
                      obtain ⟨p0, p1, p2⟩ := HCELL.out _ HO2.out
                      have f0 := HO2.out.free (t * 3)
                      have f1 := HO2.out.free (t * 3 + 1)
                      have f2 := HO2.out.free (t * 3 + 2)
                      refine wpAnyH_take (i := 17) (v := ?_) rfl (by kernel_rfl) (by kernel_rfl) (by kernel_rfl) (fun _ _ _ h => h) (Or.inl ⟨by rfl, ?_⟩) (by assumption) ?_
                      rotate_left
                      · intro w hSw
                        unfold FourC at hSw
                        go_simp
                        all_goals (with_reducible rfl)
                      try simp only [Act.put, List.setIfInBounds_toArray, List.set_cons_zero, List.set_cons_succ, List.getElem_toArray, List.getElem_cons_succ, List.getElem_cons_zero]
                      refine wpAnyH_ready (rs := [18]) (by kernel_rfl) (by simp) ?_
                      refine AllReadyH.cons rfl (fun K hK => ?_) AllReadyH.nil
                      try simp only [Act.put, List.getElem_toArray, List.getElem_cons_succ, List.getElem_cons_zero]
                      go_simp
                      have hF3 : FourC wr.heap.size G f t z xf (setB w2 g t x y v) := hF2.grown (grown_setB w2 g t x y v) HLG HGG2
                      have HO3 := Lib.hid (HSET.out _ HO2.out x y v)
                      have HA3 : Hid (ArrT (setB w2 g t x y v) G 3 (movL j mv)) := Lib.hid (((grown_setB w2 g t x y v).block G HA2.out.lt (by simp only [ne_eq, Option.some.injEq]; omega)).trans HA2.out)
                      have HN3 : Hid (ArrT (setB w2 g t x y v) G2 3 (movL j mm)) := Lib.hid (((grown_setB w2 g t x y v).block G2 HN2.out.lt (by simp only [ne_eq, Option.some.injEq]; omega)).trans HN2.out)
                      have HB3 := Lib.hid (HB2.out.grown (grown_setB w2 g t x y v) HB2.out.size (fun t e => by cases e; exact hgW))
                      refine hK.out _ _ hF3 (fun hHeld => ?_)
                      clear hK K
                      refine wpAnyH_done (by kernel_rfl) ?_ _
                      clear hHeld hF2 p0 p1 p2 f0 f1 f2 m0 m1 m2 q3 c0 c1 c2 hgl e0 e1
                      have a0 := HN3.out.cell (movL_at mm ht)
                      have fa := HN3.out.free t
                      have v2 : (setB w2 g t x y v).cell? ⟨g, t * 3 + 2, none⟩ = some (.int .i64 v) := by
                        have := (HO3.out.cell (j := t) (by rw [List.length_set]; exact htR)).2.2
                        simpa using this
                      obtain ⟨r0, r1, r2, r3⟩ := hF3
                      have HN4 := Lib.hid (HN3.out.set t (mm t + v - zn))
                      have HA4 : Hid (ArrT ((setB w2 g t x y v).setCell ⟨G2, t, none⟩ (.int .i64 (mm t + v - zn))) G 3 (movL j mv)) := Lib.hid (((grown_set (setB w2 g t x y v) G2 t (.int .i64 (mm t + v - zn))).block G HA3.out.lt (by simp only [ne_eq, Option.some.injEq]; omega)).trans HA3.out)
                      have HO4 := Lib.hid (own_other HO3.out (grown_set (setB w2 g t x y v) G2 t (.int .i64 (mm t + v - zn))) HNG)
                      have HB4 := Lib.hid (below_set (c := G2) (j := t) (u := .int .i64 (mm t + v - zn)) HB3.out HX.out HB3.out.size)
                      clear HN3 HA3 HO3 HB3 HN2 HA2 HO2 HB2 HOD HFC HCELL HSET HPU
                      unfold setB at a0 fa v2 r0 r1 r2 r3 HN4 HA4 HO4 HB4
                      go_wp2_with fail
                      go_region
                      clear a0 fa v2 r0 r1 r2 r3 e2 e3
                      have HN5 := Lib.hid HN4.out.drew
                      have HA5 := Lib.hid HA4.out.drew
                      have HB5 := Lib.hid HB4.out.drew
                      generalize ((((w2.setCell ⟨g, t * 3, none⟩ (.int .i64 x)).setCell ⟨g, t * 3 + 1, none⟩ (.int .i64 y)).setCell ⟨g, t * 3 + 2, none⟩ (.int .i64 v)).setCell ⟨G2, t, none⟩ (.int .i64 (mm t + v - zn))) = w3 at *
                      have HO5 : Hid (OwnT 33 w3.drew w.heap.size (.slice (some ⟨g, 0, none⟩) j cap) (R2.set t (x, y, v))) := HO4
                      clear HN4 HA4 HO4 HB4
                      generalize w3.drew = w4 at *
                      rw [movL_set] at HN5
                      have HN6 : Hid (ArrT w4 G2 3 (movL j (part mv S (ls.take (u + 1))).2)) := by
                        rw [HT.out]
                        refine Lib.hid ?_
                        have := HN5.out
                        rwa [movL_congr (m2 := fun i => if i = t then mm i + (v - zn) else mm i) (fun i => by
                          split
                          · rename_i h; rw [h]; omega
                          · rfl)] at this
                      have HO6 : Hid (OwnT 33 w4 w.heap.size (.slice (some ⟨g, 0, none⟩) j cap) (part mv S (ls.take (u + 1))).1) := by rw [HT.out]; exact HO5
                      clear HN5 HO5 HT
                      go_wp2_with fail
                      exact ⟨⟨u + 1, by omega, by go_num, HN6, HA5, HO6, HB5⟩, by simp [intOf]; omega⟩
                  · obtain rfl : u = m := by omega
                    have hfin : ls.take u = ls := by rw [← HM.out]; exact List.take_length
                    rw [hfin, HSN.out] at HN HO
                    go_wp2_with fail
                    exact ⟨⟨r + 1, G2, by omega, by go_num, rfl, Lib.hid ⟨HX.out, by omega⟩, HN, HO, HB⟩, by simp [intOf]; omega⟩
              · obtain rfl : r = j + 1 := by omega
                go_wp2_with fail
                go_ret2
                unfold GaveS
                rw [HP.out, HE.out]
                exact ⟨g, cap, rfl, HB.out, HO.out⟩
          · have HP := Lib.hid (pullB_no (L := L) (ls := ls) (k := k) (q := q) (fun h => by rw [HL.out] at h; omega))
            go_wp2_with fail
            refine (HLK.out _ (HRL.out.below HB.out)).mono ?_
            rintro e w2 ⟨rfl, hb⟩
            have HO := Lib.hid (HO.out.below hb)
            have HB := Lib.hid (HB.out.trans (hb.mono HB.out.size))
            clear hb
            go_wp2_with fail
            refine (in_at k 0 ((j : Int) - 1) _).mono ?_
            rintro e w3 ⟨rfl, rfl⟩
            rw [decide_eq_true h1]
            go_wp2_with fail
            refine (in_at q (-100) 100 _).mono ?_
            rintro e w3 ⟨rfl, rfl⟩
            rw [decide_eq_false h2]
            go_wp2_with fail
            go_ret2
            unfold GaveS
            rw [HP.out, pullL_no HP.out]
            exact ⟨g, cap, rfl, HB.out, HO.out⟩
        · have HP := Lib.hid (pullB_no (L := L) (ls := ls) (k := k) (q := q) (fun h => by rw [HL.out] at h; omega))
          go_wp2_with fail
          refine (HLK.out _ (HRL.out.below HB.out)).mono ?_
          rintro e w2 ⟨rfl, hb⟩
          have HO := Lib.hid (HO.out.below hb)
          have HB := Lib.hid (HB.out.trans (hb.mono HB.out.size))
          clear hb
          go_wp2_with fail
          refine (in_at k 0 ((j : Int) - 1) _).mono ?_
          rintro e w3 ⟨rfl, rfl⟩
          rw [decide_eq_false h1]
          go_wp2_with fail
          go_ret2
          unfold GaveS
          rw [HP.out, pullL_no HP.out]
          exact ⟨g, cap, rfl, HB.out, HO.out⟩
end Go.Proofs.Ytmjknjgfcngacaa.Slide

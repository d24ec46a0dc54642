/- What spec.l06Faces returns: the number of each tile's face. -/
import Derived.Test.YtefeajnlogbilaaFaceLab
import Derived.Laws.MakeOwn
import Derived.Lib.MinMax
import Derived.Lib.AppendZeros
import Derived.Deep.DeepCutAuto
namespace Go.Proofs.Ytefeajnlogbilaa.Face
open Go.ChangeShapes Go.WideShapes Go.ChangeAt Go.RowKit
open Go.Proofs.Ytefeajnlogbilaa.Strip Go.Proofs.Ytefeajnlogbilaa.Strs Go.Proofs.Ytefeajnlogbilaa.Card Go.Proofs.Ytefeajnlogbilaa.Faces
set_option linter.unusedVariables false

theorem made_ints (n : Nat) : (madeCells (Value.cells (.int .i64 0)) (n * 1)).toList = Ints.icells (List.replicate n 0) := by
  rw [Nat.mul_one]
  have h := toList_madeCells_one (.int .i64 0) n
  unfold Ints.icells
  rw [List.map_replicate]
  exact h
theorem laid_zero (g : Nat → Nat) (M : Nat) : List.replicate M (0 : Int) = gl (laid g 0) M := by
  apply List.ext_getElem
  · simp [gl]
  · intro i h1 h2
    rw [gl_get]
    simp [laid]

/-- One edge of tile t: is there one, and where does it lead? -/
def Ed {l : List ByteArray} {n : Nat} (hn : 1 ≤ n) (t q : Nat) (u : Int) (jb : Bool) : Prop :=
  (q = 0 → (net l n hn).c t = jb ∧ u = (t : Int) - 1) ∧ (q = 1 → (net l n hn).e t = jb ∧ (jb = true → u = (t : Int) - n))

theorem tdiv_nat (t n : Nat) : Int.tdiv (t : Int) (n : Int) = ((t / n : Nat) : Int) := by
  rw [Int.tdiv_eq_ediv_of_nonneg (by omega)]; rfl
theorem tmod_nat (t n : Nat) : Int.tmod (t : Int) (n : Int) = ((t % n : Nat) : Int) := by
  rw [Int.tmod_eq_emod_of_nonneg (by omega)]; rfl

set_option maxRecDepth 100000 in
set_option maxHeartbeats 8000000 in
theorem label_spec (d f : Int) (n m c : Nat) (a : Option Addr) (l : List ByteArray) (w : World) (hl : l.length = m) (hb : cardB d f l = true) (hdf : (n : Int) = d + f) (hn : 1 ≤ n) (hr : Row w a l) :
    Calls Try.prog 70 #[.agg #[.int .i64 d, .int .i64 f, .slice a m c]] w fun e w' =>
      ∃ (H : Nat) (g : Nat → Nat), e = .returned (.slice (some ⟨H, 0, none⟩) (m * n) (m * n)) ∧ Below w.heap.size w w' ∧ Ints.Own w' w.heap.size (.slice (some ⟨H, 0, none⟩) (m * n) (m * n)) (gl (num g) (m * n)) ∧ Full (net l n hn) g := by
  have hfr := card_frame hb
  have hm10 : m ≤ 10 := by have := (cardB_iff.1 hb).2.2.1; omega
  have hm1 : 1 ≤ m := by have := (cardB_iff.1 hb).2.1; omega
  have hn16 : n ≤ 16 := by omega
  obtain ⟨M, hM⟩ : ∃ M, m * n = M := ⟨_, rfl⟩
  have hM1 : M ≤ 160 := by rw [← hM]; exact Nat.mul_le_mul hm10 hn16
  have hM0 : 1 ≤ M := by rw [← hM]; exact Nat.mul_le_mul hm1 hn
  have hmn : (m : Int) * (n : Int) = (M : Int) := by rw [← hM]; push_cast; rfl
  have hNm : (net l n hn).m = M := by show l.length * n = M; rw [hl, hM]
  obtain ⟨gs, rfl⟩ : ∃ gs, a = some ⟨gs, 0, none⟩ := by
    obtain ⟨gs, e, _⟩ := hr 0 (by omega)
    exact ⟨gs, e⟩
  have HV := Lib.hid (Var.new w d f (.slice (some ⟨gs, 0, none⟩) m c))
  have HB := Lib.hid (alloc_below w (.cells #[.int .i64 d, .int .i64 f, .slice (some ⟨gs, 0, none⟩) m c] 26))
  have HR := Lib.hid hr
  have HSTR := Lib.hid (fun (k : Nat) (hk : k < l.length) => strip_good hb hdf hk)
  have hdf' : d + f = (n : Int) := hdf.symm
  have HSZ := Lib.hid (show w.heap.size < (w.alloc (.cells #[.int .i64 d, .int .i64 f, .slice (some ⟨gs, 0, none⟩) m c] 26)).heap.size by simp)
  have hn2 : (n : Int) ≤ 16 := by omega
  have hm2 : (m : Int) ≤ 10 := by omega
  have hM2 : (M : Int) ≤ 160 := by omega
  rw [hM]
  clear hr hb hdf
  obtain ⟨k0, k1, k2⟩ := HV.out.cells
  go_enter Try.func70, Try.ntmps70
  go_upto_region 3 with (fail)
  generalize w.alloc (.cells #[.int .i64 d, .int .i64 f, .slice (some ⟨gs, 0, none⟩) m c] 26) = W at *
  have HLS : Hid (LS w w.heap.size W.heap.size d f (some ⟨gs, 0, none⟩) m c (.slice (some ⟨W.heap.size, 0, none⟩) 0 0) (gl (fun t => t) 0) (W.alloc (.cells #[] 3))) := by
    have hx := alloc_below W (.cells #[] 3)
    exact Lib.hid ⟨⟨Nat.le_refl _, HSZ.out⟩, HV.out.below hx, World.ownsRow_made (size := 1) W #[] 0 (Nat.le_refl _) (by unfold maxLen; omega) rfl, HB.out.trans (hx.mono HB.out.size)⟩
  have HBS := Lib.hid (show W.heap.size ≤ (W.alloc (.cells #[] 3)).heap.size by simp)
  clear k0 k1 k2 HV HB HSZ
  go_upto_region 4 with (fail)
  obtain ⟨base, hbase⟩ : ∃ base, W.heap.size = base := ⟨_, rfl⟩
  rw [hbase] at HLS HBS
  try rw [hbase]
  generalize W.alloc (.cells #[] 3) = W2 at *
  clear hbase
  go_wp2_with fail
  go_loopw [5, 6] (fun sl i wr => ∃ (t : Nat) (av : Option Addr) (cv : Nat), t ≤ M ∧ sl = .slice av t cv ∧ i = .int .i64 (t : Int) ∧ Hid (LS w w.heap.size base d f (some ⟨gs, 0, none⟩) m c (.slice av t cv) (gl (fun t => t) t) wr) ∧ Hid (base ≤ wr.heap.size)) (fun _ i _ => M - (intOf i).toNat)
  case atStart => exact ⟨0, _, 0, Nat.zero_le _, rfl, rfl, HLS, HBS⟩
  case round =>
    clear HLS HBS
    obtain ⟨t, av, cv, htM, rfl, rfl, HLS, HBS⟩ := hrel
    have ht0 : (0 : Int) ≤ (t : Int) := Int.natCast_nonneg _
    by_cases hlt : t < M
    · have hlt2 : (t : Int) < (M : Int) := by omega
      obtain ⟨gg, cap, w6, hr6, hf6, hb6⟩ := HLS.out.push HBS.out (gl_length _ _) (by omega) (t : Int)
      rw [gl_snoc (fun t => t) t] at hf6
      have HF6 := Lib.hid hf6
      have HB6 := Lib.hid hb6
      clear hf6 hb6
      go_wp2_with (at_builtin; refine Lib.wpList_append_run _ rfl _ _ _ _ rfl _ _ rfl rfl _ _ (hr6 _) ?_)
      go_roundw
      case rel => exact ⟨t + 1, some ⟨gg, 0, none⟩, cap, by omega, rfl, by go_num, HF6, HB6⟩
      case measure => simp [intOf]; omega
    · obtain rfl : t = M := by omega
      obtain ⟨G, rfl⟩ : ∃ G, av = some ⟨G, 0, none⟩ := by
        obtain ⟨_, ⟨e, _⟩ | ⟨g', cap', cur, e, _⟩⟩ := HLS.out.2.2.1
        · exact absurd (Value.slice.inj e).2.1 (by omega)
        · exact ⟨g', (Value.slice.inj e).1⟩
      have HLS0 := HLS
      clear HLS
      go_wp2_with fail
      go_loopw [7] (fun i wr => ∃ (p : Nat) (g : Nat → Nat), p ≤ t ∧ i = .int .i64 (p : Int) ∧ Hid (Sound (net l n hn) g ∧ Done (net l n hn) p 0 g) ∧ Hid (LS w w.heap.size base d f (some ⟨gs, 0, none⟩) m c (.slice (some ⟨G, 0, none⟩) t cv) (gl g t) wr)) (fun i _ => t - (intOf i).toNat)
      case atStart => exact ⟨0, fun t => t, Nat.zero_le _, rfl, Lib.hid ⟨sound_id _, done_start _ _⟩, HLS0⟩
      case round =>
        clear HLS0 hlt
        obtain ⟨p, g, hpt, rfl, HG, HLS⟩ := hrel
        have hp0 : (0 : Int) ≤ (p : Int) := Int.natCast_nonneg _
        by_cases hlt : p < t
        · have hlt2 : (p : Int) < (t : Int) := by omega
          have hq := tdiv_nat p n
          have hm := tmod_nat p n
          obtain ⟨k, hk⟩ : ∃ k, p / n = k := ⟨_, rfl⟩
          obtain ⟨i, hi⟩ : ∃ i, p % n = i := ⟨_, rfl⟩
          have hkm : k < m := by rw [← hk]; exact lt_pos hn (by rw [hM]; exact hlt)
          have hin : i < n := by rw [← hi]; exact Nat.mod_lt _ hn
          rw [hk] at hq
          rw [hi] at hm
          have HKI := Lib.hid (show p / n = k ∧ p % n = i from ⟨hk, hi⟩)
          have hne : ((n : Int) != 0) = true := by simp; omega
          have heq : ((n : Int) == 0) = false := by simp; omega
          clear hk hi
          go_wp2_with fail
          clear hq hm hne heq
          go_loopw [10] (fun st wr => ∃ (q : Nat) (g : Nat → Nat), q ≤ 2 ∧ st = .int .i64 (q : Int) ∧ Hid (Sound (net l n hn) g ∧ Done (net l n hn) p q g) ∧ Hid (LS w w.heap.size base d f (some ⟨gs, 0, none⟩) m c (.slice (some ⟨G, 0, none⟩) t cv) (gl g t) wr)) (fun st _ => 2 - (intOf st).toNat)
          case atStart => exact ⟨0, g, by omega, rfl, HG, HLS⟩
          case round =>
            clear HG HLS
            obtain ⟨q, g, hq2, rfl, HG, HLS⟩ := hrel
            have hq0 : (0 : Int) ≤ (q : Int) := Int.natCast_nonneg _
            have hkl : k < l.length := by rw [hl]; exact hkm
            have hk0 : (0 : Int) ≤ (k : Int) := Int.natCast_nonneg _
            have hi0 : (0 : Int) ≤ (i : Int) := Int.natCast_nonneg _
            have hkm2 : (k : Int) < (m : Int) := by omega
            have hin2 : (i : Int) < (n : Int) := by omega
            by_cases hql : q < 2
            · have hql2 : (q : Int) < 2 := by omega
              have hrow := HLS.out.row HR.out k hkl
              obtain ⟨s1, s2, s3⟩ := HSTR.out k hkl
              obtain ⟨gs', hgs, _, hcell⟩ := hrow
              cases hgs
              obtain ⟨k0, k1, k2⟩ := HLS.out.2.1.cells
              have hsd : l.getD k ⟨#[]⟩ = l[k] := by simp [List.getD, hkl]
              generalize hs : l[k] = s at *
              have hsi : i < s.size := by omega
              have hsz16 : s.size ≤ 1048576 := by omega
              have HS := Lib.hid (show stripB s.data.toList = true ∧ s.size = n ∧ stripL l k = s.data.toList ∧ l.getD k ⟨#[]⟩ = s from ⟨s1, s2, s3, hsd⟩)
              clear s1 s2 s3 hsd
--ROUND
              by_cases hq : q = 0
              · subst hq
                by_cases hi1 : 1 ≤ i
                · obtain ⟨i1, hii⟩ : ∃ i1, i = i1 + 1 := ⟨i - 1, by omega⟩
                  have hix : (i : Int) - 1 = (i1 : Int) := by omega
                  have hi3 : (0 : Int) < (i : Int) := by omega
                  have hi4 : 0 < i := by omega
                  have hi5 : decide ((0 : Int) < (i : Int)) = true := decide_eq_true hi3
                  have hsi1 : i1 < s.size := by omega
                  have hsi2 : (i1 : Int) < (s.size : Int) := by omega
                  have hsi3 : (i : Int) < (s.size : Int) := by omega
                  have HC := Lib.hid (show (net l n hn).c p = decide (s[i] = s[i1]) from by
                    rw [net_c_at hn, HKI.out.1, HKI.out.2, HS.out.2.2.1, get_getD s i hsi, get_getD s i1 hsi1, decide_eq_true hi1, show i - 1 = i1 by omega]
                    rfl)
                  have hp1 : 1 ≤ p := by
                    have h1 := HKI.out.2
                    have h2 := Nat.mod_le p n
                    omega
                  obtain ⟨u, hu⟩ : ∃ u, p - 1 = u := ⟨_, rfl⟩
                  have hut : u < t := by omega
                  have hui : (p : Int) - 1 = (u : Int) := by omega
                  have HUP := Lib.hid hu
                  have HII := Lib.hid hii
                  clear hii hu hp1
                  by_cases hl2 : s[i] = s[i1]
                  · have hbb := byte_eq2 hl2
                    have HEDGE := Lib.hid (show (net l n hn).c p = true by rw [HC.out]; exact decide_eq_true hl2)
                    clear hl2 HC
                    go_upto_region 17 with (fail)
                    go_quiet (fail)
                    have HL2 := Lib.hid (HLS.out.still (drewN_below _ nq))
                    generalize wr.drewN nq = W3 at *
                    clear hcell k0 k1 k2
                    go_upto_region 21 with (fail)
                    have hug : u < (gl g t).length := by rw [gl_length]; exact hut
                    have hpg : p < (gl g t).length := by rw [gl_length]; exact hlt
                    have cu := (HL2.out.cell hug).1
                    have cp := (HL2.out.cell hpg).1
                    rw [gl_get] at cu cp
                    have hut2 : (u : Int) < (t : Int) := by omega
                    have hu0 : (0 : Int) ≤ (u : Int) := Int.natCast_nonneg _
                    by_cases he : g u = g p
                    · have hbe : (((g u : Nat) : Int) == ((g p : Nat) : Int)) = true := beq_iff_eq.2 (by rw [he])
                      have HE := Lib.hid he
                      clear he hug hpg
                      go_quiet (fail)
                      have HL9 := Lib.hid (HL2.out.still (drewN_below _ nq))
                      go_wp2_with fail
                      exact ⟨⟨1, g, by omega, by go_num, Lib.hid ⟨HG.out.1, HG.out.2.one (fun _ => by show g p = g (p - 1); rw [HUP.out]; exact HE.out.symm)⟩, HL9⟩, by simp [intOf]⟩
                    · have hbe : (((g u : Nat) : Int) == ((g p : Nat) : Int)) = false := by simp only [beq_eq_false_iff_ne, ne_eq, Int.natCast_inj]; exact he
                      go_quiet (fail)
                      have HL3 := Lib.hid (HL2.out.still (drewN_below _ nq))
                      generalize W3.drewN nq = W4 at *
                      clear cu cp hbe
                      have cu := (HL3.out.cell hug).1
                      have cp := (HL3.out.cell hpg).1
                      rw [gl_get] at cu cp
                      obtain ⟨aN, haN⟩ : ∃ aN, min (g u) (g p) = aN := ⟨_, rfl⟩
                      obtain ⟨bN, hbN⟩ : ∃ bN, max (g u) (g p) = bN := ⟨_, rfl⟩
                      have hA : min ((g u : Nat) : Int) ((g p : Nat) : Int) = (aN : Int) := by omega
                      have hBB : max ((g u : Nat) : Int) ((g p : Nat) : Int) = (bN : Int) := by omega
                      have HMM := Lib.hid (show min (g u) (g p) = aN ∧ max (g u) (g p) = bN from ⟨haN, hbN⟩)
                      have HEF := Lib.hid hug
                      clear hug hpg he haN hbN
                      go_wp2_with fail
                      go_quiet (fail)
                      have HL5 := Lib.hid (HL3.out.still (drewN_below _ nq))
                      generalize W4.drewN nq = W5 at *
                      have hug : u < (gl g t).length := HEF.out
                      have hpg : p < (gl g t).length := by rw [gl_length]; exact hlt
                      clear cu cp
                      have cu := (HL5.out.cell hug).1
                      have cp := (HL5.out.cell hpg).1
                      rw [gl_get] at cu cp
                      clear hug hpg
                      go_wp2_with fail
                      go_quiet (fail)
                      have HL6 := Lib.hid (HL5.out.still (drewN_below _ nq))
                      generalize W5.drewN nq = W6 at *
                      clear cu cp hA hBB
                      go_wp2_with fail
                      go_loopw [15] (fun x wr => ∃ y : Nat, y ≤ t ∧ x = .int .i64 (y : Int) ∧ Hid (LS w w.heap.size base d f (some ⟨gs, 0, none⟩) m c (.slice (some ⟨G, 0, none⟩) t cv) (gl (mix aN bN g y) t) wr)) (fun x _ => t - (intOf x).toNat)
                      case atStart => exact ⟨0, Nat.zero_le _, rfl, by rw [gl_same (fun y _ => mix_zero aN bN g y)]; exact HL6⟩
                      case round =>
                        clear HL6 HL5 HL3
                        obtain ⟨y, hyt, rfl, HLY⟩ := hrel
                        have hy0 : (0 : Int) ≤ (y : Int) := Int.natCast_nonneg _
                        by_cases hyl : y < t
                        · have hyl2 : (y : Int) < (t : Int) := by omega
                          have hyg : y < (gl (mix aN bN g y) t).length := by rw [gl_length]; exact hyl
                          obtain ⟨cy, fy⟩ := HLY.out.cell hyg
                          rw [gl_get, show mix aN bN g y y = g y by simp [mix]] at cy
                          by_cases hgb : g y = bN
                          · have hbb : (((g y : Nat) : Int) == ((bN : Nat) : Int)) = true := beq_iff_eq.2 (by rw [hgb])
                            have hset := HLY.out.set hyg ((aN : Nat) : Int)
                            rw [gl_set, gl_same (fun z _ => mix_yes (a := aN) hgb z)] at hset
                            have HSET := Lib.hid hset
                            clear hset hgb hyg
                            go_wp2_with fail
                            exact ⟨⟨y + 1, by omega, by go_num, HSET⟩, by simp [intOf]; omega⟩
                          · have hbb : (((g y : Nat) : Int) == ((bN : Nat) : Int)) = false := by simp only [beq_eq_false_iff_ne, ne_eq, Int.natCast_inj]; exact hgb
                            have HNO := Lib.hid (show LS w w.heap.size base d f (some ⟨gs, 0, none⟩) m c (.slice (some ⟨G, 0, none⟩) t cv) (gl (mix aN bN g (y + 1)) t) wr by rw [← gl_same (fun z _ => mix_no (a := aN) hgb z)]; exact HLY.out)
                            clear hgb hyg
                            go_wp2_with fail
                            exact ⟨⟨y + 1, by omega, by go_num, HNO⟩, by simp [intOf]; omega⟩
                        · have HYT := Lib.hid (show y = t by omega)
                          have HFIN := Lib.hid (show LS w w.heap.size base d f (some ⟨gs, 0, none⟩) m c (.slice (some ⟨G, 0, none⟩) t cv) (gl (merge aN bN g) t) wr by
                            have h := HLY.out
                            rw [HYT.out, gl_same (fun z hz => mix_all aN bN g t z hz)] at h
                            exact h)
                          have HSD := Lib.hid (show Sound (net l n hn) (merge aN bN g) ∧ Done (net l n hn) p 1 (merge aN bN g) from by
                            have h1 := sound_merge HG.out.1 (t := p) (u := u) (by rw [hNm]; exact hlt) (by rw [hNm]; exact hut) (by rw [← HUP.out]; exact closed_c (by rw [hNm]; exact hlt) HEDGE.out)
                            have h2 := (HG.out.2.merged (min (g u) (g p)) (max (g u) (g p))).one (fun _ => by
                              have h3 := merge_new g u p
                              have h4 : p - 1 = u := HUP.out
                              rw [h4]; exact h3)
                            rw [HMM.out.1, HMM.out.2] at h1 h2
                            exact ⟨h1, h2⟩)
                          have hyd : decide ((y : Int) < (t : Int)) = false := decide_eq_false (by omega)
                          go_wp2_with fail
                          exact ⟨⟨1, merge aN bN g, by omega, by go_num, HSD, HFIN⟩, by simp [intOf]⟩
                  · have hbb := byte_ne2 hl2
                    have HEDGE := Lib.hid (show (net l n hn).c p = false by rw [HC.out]; exact decide_eq_false hl2)
                    clear hl2 HC
                    go_upto_region 17 with (fail)
                    go_quiet (fail)
                    have HL2 := Lib.hid (HLS.out.still (drewN_below _ nq))
                    generalize wr.drewN nq = W3 at *
                    clear hcell k0 k1 k2
                    go_upto_region 21 with (fail)
                    go_quiet (fail)
                    have HL9 := Lib.hid (HL2.out.still (drewN_below _ nq))
                    go_wp2_with fail
                    exact ⟨⟨1, g, by omega, by go_num, Lib.hid ⟨HG.out.1, HG.out.2.one (fun h => absurd h (by rw [HEDGE.out]; simp))⟩, HL9⟩, by simp [intOf]⟩
                · have hi5 : decide ((0 : Int) < (i : Int)) = false := decide_eq_false (by omega)
                  have hi6 : ¬ 0 < i := by omega
                  have HEDGE := Lib.hid (show (net l n hn).c p = false from by rw [net_c_at hn, HKI.out.2, decide_eq_false hi1]; rfl)
                  clear hi1
                  go_upto_region 17 with (fail)
                  go_quiet (fail)
                  have HL2 := Lib.hid (HLS.out.still (drewN_below _ nq))
                  generalize wr.drewN nq = W3 at *
                  clear hcell k0 k1 k2
                  go_upto_region 21 with (fail)
                  go_quiet (fail)
                  have HL9 := Lib.hid (HL2.out.still (drewN_below _ nq))
                  go_wp2_with fail
                  exact ⟨⟨1, g, by omega, by go_num, Lib.hid ⟨HG.out.1, HG.out.2.one (fun h => absurd h (by rw [HEDGE.out]; simp))⟩, HL9⟩, by simp [intOf]⟩
              · obtain rfl : q = 1 := by omega
                by_cases hk1 : 1 ≤ k
                · obtain ⟨kp, hkp⟩ : ∃ kp, k = kp + 1 := ⟨k - 1, by omega⟩
                  have hkix : (k : Int) - 1 = (kp : Int) := by omega
                  have hk3 : (0 : Int) < (k : Int) := by omega
                  have hk4 : 0 < k := by omega
                  have hk5 : decide ((0 : Int) < (k : Int)) = true := decide_eq_true hk3
                  have hnp : n ≤ p := by
                    have h1 := HKI.out.1
                    rcases Nat.lt_or_ge p n with h2 | h2
                    · rw [Nat.div_eq_of_lt h2] at h1; omega
                    · exact h2
                  obtain ⟨u, hu⟩ : ∃ u, p - n = u := ⟨_, rfl⟩
                  have hut : u < t := by omega
                  have hui : (p : Int) - (n : Int) = (u : Int) := by omega
                  have HUP := Lib.hid hu
                  have hkpl : kp < l.length := by omega
                  obtain ⟨r1, r2, r3⟩ := HSTR.out kp hkpl
                  obtain ⟨gs', hgs, _, hcell2⟩ := HLS.out.row HR.out kp hkpl
                  cases hgs
                  have HE0 := Lib.hid (show (net l n hn).e p = jrB l[kp] s i i from by
                    rw [net_e_at hn (by rw [hl, hM]; exact hlt), HKI.out.1, HKI.out.2, HS.out.2.2.2, decide_eq_true hk1, show k - 1 = kp by omega, show l.getD kp ⟨#[]⟩ = l[kp] by simp [List.getD, hkpl]]
                    rfl)
                  have hsai : i < l[kp].size := by omega
                  have HJ := Lib.hid (fun (w' : World) (ca : w'.cell? ⟨gs, kp, none⟩ = some (.string l[kp])) (cb : w'.cell? ⟨gs, k, none⟩ = some (.string s)) => jrow_spec d f gs m c kp k i i l[kp] s w' hkp hkm (by omega) hsai hsi (by omega) hsz16 ca cb)
                  generalize l[kp] = sa at *
                  have HKP := Lib.hid hkp
                  clear hkp hu hnp r1 r2 r3
                  go_upto_region 17 with (fail)
                  go_quiet (fail)
                  have HL2 := Lib.hid (HLS.out.still (drewN_below _ nq))
                  have hcell3 := (drewN_below wr nq).cell (p := ⟨gs, k, none⟩) (World.block_lt_of_cell? _ _ hcell)
                  rw [hcell] at hcell3
                  have hcell4 := (drewN_below wr nq).cell (p := ⟨gs, kp, none⟩) (World.block_lt_of_cell? _ _ hcell2)
                  rw [hcell2] at hcell4
                  generalize wr.drewN nq = W3 at *
                  clear hcell hcell2 k0 k1 k2
                  obtain ⟨k0, k1, k2⟩ := HL2.out.2.1.cells
                  go_wp2_with fail
                  refine (HJ.out _ hcell4 hcell3).mono ?_
                  rintro e w7 ⟨rfl, hb7⟩
                  have HL7 := Lib.hid (HL2.out.still hb7)
                  clear hb7 hcell3 hcell4 k0 k1 k2 HJ
                  cases hjb : jrB sa s i i with
                  | true =>
                    have HEDGE := Lib.hid (show (net l n hn).e p = true by rw [HE0.out]; exact hjb)
                    clear hjb HE0
                    go_upto_region 21 with (fail)
                    have hug : u < (gl g t).length := by rw [gl_length]; exact hut
                    have hpg : p < (gl g t).length := by rw [gl_length]; exact hlt
                    have cu := (HL7.out.cell hug).1
                    have cp := (HL7.out.cell hpg).1
                    rw [gl_get] at cu cp
                    have hut2 : (u : Int) < (t : Int) := by omega
                    have hu0 : (0 : Int) ≤ (u : Int) := Int.natCast_nonneg _
                    by_cases he : g u = g p
                    · have hbe : (((g u : Nat) : Int) == ((g p : Nat) : Int)) = true := beq_iff_eq.2 (by rw [he])
                      have HE := Lib.hid he
                      clear he hug hpg
                      go_quiet (fail)
                      have HL9 := Lib.hid (HL7.out.still (drewN_below _ nq))
                      go_wp2_with fail
                      exact ⟨⟨2, g, by omega, by go_num, Lib.hid ⟨HG.out.1, HG.out.2.two (fun _ => by show g p = g (p - n); rw [HUP.out]; exact HE.out.symm)⟩, HL9⟩, by simp [intOf]⟩
                    · have hbe : (((g u : Nat) : Int) == ((g p : Nat) : Int)) = false := by simp only [beq_eq_false_iff_ne, ne_eq, Int.natCast_inj]; exact he
                      go_quiet (fail)
                      have HL3 := Lib.hid (HL7.out.still (drewN_below _ nq))
                      generalize w7.drewN nq = W4 at *
                      clear cu cp hbe
                      have cu := (HL3.out.cell hug).1
                      have cp := (HL3.out.cell hpg).1
                      rw [gl_get] at cu cp
                      obtain ⟨aN, haN⟩ : ∃ aN, min (g u) (g p) = aN := ⟨_, rfl⟩
                      obtain ⟨bN, hbN⟩ : ∃ bN, max (g u) (g p) = bN := ⟨_, rfl⟩
                      have hA : min ((g u : Nat) : Int) ((g p : Nat) : Int) = (aN : Int) := by omega
                      have hBB : max ((g u : Nat) : Int) ((g p : Nat) : Int) = (bN : Int) := by omega
                      have HMM := Lib.hid (show min (g u) (g p) = aN ∧ max (g u) (g p) = bN from ⟨haN, hbN⟩)
                      have HEF := Lib.hid hug
                      clear hug hpg he haN hbN
                      go_wp2_with fail
                      go_quiet (fail)
                      have HL5 := Lib.hid (HL3.out.still (drewN_below _ nq))
                      generalize W4.drewN nq = W5 at *
                      have hug : u < (gl g t).length := HEF.out
                      have hpg : p < (gl g t).length := by rw [gl_length]; exact hlt
                      clear cu cp
                      have cu := (HL5.out.cell hug).1
                      have cp := (HL5.out.cell hpg).1
                      rw [gl_get] at cu cp
                      clear hug hpg
                      go_wp2_with fail
                      go_quiet (fail)
                      have HL6 := Lib.hid (HL5.out.still (drewN_below _ nq))
                      generalize W5.drewN nq = W6 at *
                      clear cu cp hA hBB
                      go_wp2_with fail
                      go_loopw [15] (fun x wr => ∃ y : Nat, y ≤ t ∧ x = .int .i64 (y : Int) ∧ Hid (LS w w.heap.size base d f (some ⟨gs, 0, none⟩) m c (.slice (some ⟨G, 0, none⟩) t cv) (gl (mix aN bN g y) t) wr)) (fun x _ => t - (intOf x).toNat)
                      case atStart => exact ⟨0, Nat.zero_le _, rfl, by rw [gl_same (fun y _ => mix_zero aN bN g y)]; exact HL6⟩
                      case round =>
                        clear HL6 HL5 HL3
                        obtain ⟨y, hyt, rfl, HLY⟩ := hrel
                        have hy0 : (0 : Int) ≤ (y : Int) := Int.natCast_nonneg _
                        by_cases hyl : y < t
                        · have hyl2 : (y : Int) < (t : Int) := by omega
                          have hyg : y < (gl (mix aN bN g y) t).length := by rw [gl_length]; exact hyl
                          obtain ⟨cy, fy⟩ := HLY.out.cell hyg
                          rw [gl_get, show mix aN bN g y y = g y by simp [mix]] at cy
                          by_cases hgb : g y = bN
                          · have hbb : (((g y : Nat) : Int) == ((bN : Nat) : Int)) = true := beq_iff_eq.2 (by rw [hgb])
                            have hset := HLY.out.set hyg ((aN : Nat) : Int)
                            rw [gl_set, gl_same (fun z _ => mix_yes (a := aN) hgb z)] at hset
                            have HSET := Lib.hid hset
                            clear hset hgb hyg
                            go_wp2_with fail
                            exact ⟨⟨y + 1, by omega, by go_num, HSET⟩, by simp [intOf]; omega⟩
                          · have hbb : (((g y : Nat) : Int) == ((bN : Nat) : Int)) = false := by simp only [beq_eq_false_iff_ne, ne_eq, Int.natCast_inj]; exact hgb
                            have HNO := Lib.hid (show LS w w.heap.size base d f (some ⟨gs, 0, none⟩) m c (.slice (some ⟨G, 0, none⟩) t cv) (gl (mix aN bN g (y + 1)) t) wr by rw [← gl_same (fun z _ => mix_no (a := aN) hgb z)]; exact HLY.out)
                            clear hgb hyg
                            go_wp2_with fail
                            exact ⟨⟨y + 1, by omega, by go_num, HNO⟩, by simp [intOf]; omega⟩
                        · have HYT := Lib.hid (show y = t by omega)
                          have HFIN := Lib.hid (show LS w w.heap.size base d f (some ⟨gs, 0, none⟩) m c (.slice (some ⟨G, 0, none⟩) t cv) (gl (merge aN bN g) t) wr by
                            have h := HLY.out
                            rw [HYT.out, gl_same (fun z hz => mix_all aN bN g t z hz)] at h
                            exact h)
                          have HSD := Lib.hid (show Sound (net l n hn) (merge aN bN g) ∧ Done (net l n hn) p 2 (merge aN bN g) from by
                            have h1 := sound_merge HG.out.1 (t := p) (u := u) (by rw [hNm]; exact hlt) (by rw [hNm]; exact hut) (by rw [← HUP.out]; exact closed_e (by rw [hNm]; exact hlt) HEDGE.out)
                            have h2 := (HG.out.2.merged (min (g u) (g p)) (max (g u) (g p))).two (fun _ => by
                              have h3 := merge_new g u p
                              have h4 : p - (net l n hn).n = u := HUP.out
                              rw [h4]; exact h3)
                            rw [HMM.out.1, HMM.out.2] at h1 h2
                            exact ⟨h1, h2⟩)
                          have hyd : decide ((y : Int) < (t : Int)) = false := decide_eq_false (by omega)
                          go_wp2_with fail
                          exact ⟨⟨2, merge aN bN g, by omega, by go_num, HSD, HFIN⟩, by simp [intOf]⟩
                  | false =>
                    have HEDGE := Lib.hid (show (net l n hn).e p = false by rw [HE0.out]; exact hjb)
                    clear hjb HE0
                    go_upto_region 21 with (fail)
                    go_quiet (fail)
                    have HL9 := Lib.hid (HL7.out.still (drewN_below _ nq))
                    go_wp2_with fail
                    exact ⟨⟨2, g, by omega, by go_num, Lib.hid ⟨HG.out.1, HG.out.2.two (fun h => absurd h (by rw [HEDGE.out]; simp))⟩, HL9⟩, by simp [intOf]⟩
                · have hk5 : decide ((0 : Int) < (k : Int)) = false := decide_eq_false (by omega)
                  have hk6 : ¬ 0 < k := by omega
                  have HEDGE := Lib.hid (show (net l n hn).e p = false from by rw [net_e_at hn (by rw [hl, hM]; exact hlt), HKI.out.1, decide_eq_false hk1]; rfl)
                  clear hk1
                  go_upto_region 17 with (fail)
                  go_quiet (fail)
                  have HL2 := Lib.hid (HLS.out.still (drewN_below _ nq))
                  generalize wr.drewN nq = W3 at *
                  clear hcell k0 k1 k2
                  go_upto_region 21 with (fail)
                  go_quiet (fail)
                  have HL9 := Lib.hid (HL2.out.still (drewN_below _ nq))
                  go_wp2_with fail
                  exact ⟨⟨2, g, by omega, by go_num, Lib.hid ⟨HG.out.1, HG.out.2.two (fun h => absurd h (by rw [HEDGE.out]; simp))⟩, HL9⟩, by simp [intOf]⟩
--ENDROUND
            · obtain rfl : q = 2 := by omega
              go_wp2_with fail
              exact ⟨⟨p + 1, g, by omega, by go_num, Lib.hid ⟨HG.out.1, HG.out.2.next⟩, HLS⟩, by simp [intOf]; omega⟩
        · have HFULL := Lib.hid (show Full (net l n hn) g from Done.full HG.out.1 (by
            have h := HG.out.2
            rw [show p = t by omega] at h
            rw [hNm]; exact h))
          have hyd : decide ((p : Int) < (t : Int)) = false := decide_eq_false (by omega)
          have hinfo : (Try.prog.info? 3).map (fun i => (i.zero, i.size, i.bytes)) = some (some (.int .i64 0), 1, 8) := by kernel_rfl
          obtain ⟨i0, hi, hz0, hz1, hz2⟩ := info_parts hinfo
          obtain ⟨w1, hmk, hown1, hg1⟩ := run_make_full (P := Try.prog) wr wr.heap.size 37 3 i0 _ 1 Try.underlying37 hi hz0 hz1 .i64 .i64 t (by rw [hz2]; omega) (by unfold maxLen; omega) (Nat.le_refl _)
          rw [made_ints, laid_zero g] at hown1
          have HL1 := Lib.hid (HLS.out.still ((Below.refl wr.heap.size wr).grown hg1 (Nat.le_refl _) (fun j e => by cases e)))
          have HN1 := Lib.hid (show Ints.Own w1 wr.heap.size (.slice (some ⟨wr.heap.size, 0, none⟩) t t) (gl (laid g 0) t) from by unfold Ints.Own; rw [gl_length]; exact hown1)
          have HGH := Lib.hid HLS.out.blk.2
          clear hown1 hg1 HLS HG
          go_wp2_with fail
          obtain ⟨H, hH⟩ : ∃ H, wr.heap.size = H := ⟨_, rfl⟩
          rw [hH] at HN1 HGH
          try rw [hH]
          clear hH hmk
          go_loopw [17, 18] (fun nx i wr => ∃ y : Nat, y ≤ t ∧ nx = .int .i64 ((rank g y : Nat) : Int) ∧ i = .int .i64 (y : Int) ∧ Hid (LS w w.heap.size base d f (some ⟨gs, 0, none⟩) m c (.slice (some ⟨G, 0, none⟩) t cv) (gl g t) wr) ∧ Hid (Ints.Own wr H (.slice (some ⟨H, 0, none⟩) t t) (gl (laid g y) t))) (fun _ i _ => t - (intOf i).toNat)
          case atStart => exact ⟨0, Nat.zero_le _, rfl, rfl, HL1, HN1⟩
          case round =>
            clear HL1 HN1
            obtain ⟨y, hyt, rfl, rfl, HL, HN⟩ := hrel
            have hy0 : (0 : Int) ≤ (y : Int) := Int.natCast_nonneg _
            by_cases hyl : y < t
            · have hyl2 : (y : Int) < (t : Int) := by omega
              have hrk := rank_le g y
              have hyg : y < (gl g t).length := by rw [gl_length]; exact hyl
              have hyn : y < (gl (laid g y) t).length := by rw [gl_length]; exact hyl
              have cg := (HL.out.cell hyg).1
              rw [gl_get] at cg
              have cn := HN.out.cell hyn
              rw [gl_get] at cn
              have fn := HN.out.free y
              have hgy := HFULL.out.le (x := y) (by rw [hNm]; exact hyl)
              have hgt : ((g y : Nat) : Int) < (t : Int) := by omega
              have hg0 : (0 : Int) ≤ ((g y : Nat) : Int) := Int.natCast_nonneg _
              have hset := HN.out.set ((num g y : Nat) : Int) hyn
              rw [gl_set, gl_same (fun z _ => laid_step g y z)] at hset
              by_cases he : g y = y
              · have hbe : (((g y : Nat) : Int) == ((y : Nat) : Int)) = true := beq_iff_eq.2 (by rw [he])
                rw [num_first he] at hset
                have HSET := Lib.hid hset
                have HO := Lib.hid (HL.out.other HGH.out (j := y) (.int .i64 ((rank g y : Nat) : Int)))
                have HRK := Lib.hid (show rank g (y + 1) = rank g y + 1 by simp only [rank]; rw [if_pos he])
                clear hset hyg hyn he
                go_wp2_with fail
                exact ⟨⟨y + 1, by omega, by rw [HRK.out]; go_num, by go_num, HO, HSET⟩, by simp [intOf]; omega⟩
              · have hbe : (((g y : Nat) : Int) == ((y : Nat) : Int)) = false := by simp only [beq_eq_false_iff_ne, ne_eq, Int.natCast_inj]; exact he
                have hgn : g y < (gl (laid g y) t).length := by rw [gl_length]; omega
                have cgn := HN.out.cell hgn
                rw [gl_get, show laid g y (g y) = num g y by unfold laid; rw [if_pos (by omega), ← num_next HFULL.out (by rw [hNm]; exact hyl)]] at cgn
                have HSET := Lib.hid hset
                have HO := Lib.hid (HL.out.other HGH.out (j := y) (.int .i64 ((num g y : Nat) : Int)))
                have HRK := Lib.hid (show rank g (y + 1) = rank g y by simp only [rank]; rw [if_neg he]; rfl)
                clear hset hyg hyn hgn he
                go_wp2_with fail
                exact ⟨⟨y + 1, by omega, by rw [HRK.out], by go_num, HO, HSET⟩, by simp [intOf]; omega⟩
            · have HFIN := Lib.hid (show Ints.Own wr H (.slice (some ⟨H, 0, none⟩) t t) (gl (num g) t) from by
                have h := HN.out
                rw [show y = t by omega, gl_same (fun z hz => laid_all g t z hz)] at h
                exact h)
              have hyd2 : decide ((y : Int) < (t : Int)) = false := decide_eq_false (by omega)
              go_wp2
              go_ret
              exact ⟨H, g, rfl, HL.out.2.2.2, HFIN.out.mono (by have := HGH.out; have := HL.out.1; have := HL.out.blk; omega), HFULL.out⟩
end Go.Proofs.Ytefeajnlogbilaa.Face

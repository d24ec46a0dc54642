/- What the model of chapter 7 returns: l07Heights, AreaBetween. -/
import Derived.Test.YthigiemgdejdhaaDoorKerfSpec
namespace Go.Proofs.YthigiemgdejdhaaDoor.Kerf
open Go.ChangeShapes Go.WideShapes Go.ChangeAt Go.RowKit
open Go.Proofs.YthigiemgdejdhaaDoor.Strip Go.Proofs.YthigiemgdejdhaaDoor.Ints Go.Proofs.YthigiemgdejdhaaDoor.Corner
set_option linter.unusedVariables false

/-- The height behind k steps. -/
def uP (l : List UInt8) (k : Nat) : Int := (cnt 100 l : Int) - ((k : Int) - (cnt 102 (l.take k) : Int))
def hP (l : List UInt8) (k : Nat) : List Int := hts (cnt 100 l) (l.take k)
theorem uP_zero (l : List UInt8) : uP l 0 = cnt 100 l := by simp [uP, cnt]
theorem hP_zero (l : List UInt8) : hP l 0 = [] := rfl
theorem hP_all (l : List UInt8) (k : Nat) (h : l.length ≤ k) : hP l k = hts (cnt 100 l) l := by unfold hP; rw [List.take_of_length_le h]
theorem hP_length (l : List UInt8) (k : Nat) : (hP l k).length ≤ k := by
  unfold hP
  rw [hts_length]
  have h := cnt_le 102 (l.take k)
  rw [List.length_take] at h
  omega
theorem uP_bound (l : List UInt8) (k : Nat) (h : k ≤ l.length) : -(k : Int) ≤ uP l k ∧ uP l k ≤ l.length := by
  unfold uP
  have h1 := cnt_le 102 (l.take k)
  rw [List.length_take] at h1
  have h2 := cnt_le 100 l
  omega
theorem hP_yes (s : ByteArray) (k : Nat) (h : k < s.size) (hx : s[k] = 102) : hP s.data.toList (k + 1) = hP s.data.toList k ++ [uP s.data.toList k] ∧ uP s.data.toList (k + 1) = uP s.data.toList k := by
  have hl : (s.data.toList.take k).length = k := by rw [List.length_take]; simp; omega
  unfold hP uP
  rw [take_snoc s k h, hts_snoc, cnt_snoc, if_pos hx, if_pos hx, hl]
  exact ⟨rfl, by omega⟩
theorem hP_no (s : ByteArray) (k : Nat) (h : k < s.size) (hx : s[k] ≠ 102) : hP s.data.toList (k + 1) = hP s.data.toList k ∧ uP s.data.toList (k + 1) = uP s.data.toList k - 1 := by
  unfold hP uP
  rw [take_snoc s k h, hts_snoc, cnt_snoc, if_neg hx, if_neg hx, List.append_nil]
  exact ⟨rfl, by omega⟩

/-- The heights lie in a small range. -/
theorem hts_bound (l : List UInt8) : ∀ (u : Int) (x : Int), x ∈ hts u l → u - l.length ≤ x ∧ x ≤ u := by
  induction l with
  | nil => intro u x h; simp [hts] at h
  | cons b l ih =>
    intro u x h
    have h2 : x ∈ (if b = 102 then u :: hts u l else hts (u - 1) l) := h
    rw [List.length_cons]
    by_cases e : b = 102
    · rw [if_pos e] at h2
      rcases List.mem_cons.1 h2 with rfl | h3
      · omega
      · have := ih u x h3; omega
    · rw [if_neg e] at h2
      have := ih (u - 1) x h2; omega

/-- The area over the first k steps forward. -/
def areaP (a b : List Int) (k : Nat) : Int := sumN k fun i => dst (a.getD i 0) (b.getD i 0)
theorem areaP_zero (a b : List Int) : areaP a b 0 = 0 := rfl
theorem areaP_succ (a b : List Int) (k : Nat) (h : k < a.length) (h' : k < b.length) : areaP a b (k + 1) = areaP a b k + dst a[k] b[k] := by
  have e1 : a.getD k 0 = a[k] := by simp [List.getD, h]
  have e2 : b.getD k 0 = b[k] := by simp [List.getD, h']
  show sumN k _ + dst (a.getD k 0) (b.getD k 0) = _
  rw [e1, e2]; rfl
theorem areaP_nonneg (a b : List Int) (k : Nat) : 0 ≤ areaP a b k := sumN_nonneg fun _ _ => dst_nonneg _ _
theorem dst_le {x y : Int} (h1 : -16 ≤ x) (h2 : x ≤ 16) (h3 : -16 ≤ y) (h4 : y ≤ 16) : dst x y ≤ 32 := by unfold dst; split <;> omega
theorem getD_in {l : List Int} (h : ∀ x ∈ l, -16 ≤ x ∧ x ≤ 16) (i : Nat) : -16 ≤ l.getD i 0 ∧ l.getD i 0 ≤ 16 := by
  by_cases hi : i < l.length
  · have : l.getD i 0 = l[i] := by simp [List.getD, hi]
    rw [this]; exact h _ (List.getElem_mem hi)
  · have : l.getD i 0 = 0 := by simp [List.getD, hi]
    rw [this]; omega
theorem areaP_le (a b : List Int) (ha : ∀ x ∈ a, -16 ≤ x ∧ x ≤ 16) (hb : ∀ x ∈ b, -16 ≤ x ∧ x ≤ 16) (k : Nat) : areaP a b k ≤ 32 * k := by
  induction k with
  | zero => exact Int.le_refl _
  | succ k ih =>
    show sumN k _ + dst (a.getD k 0) (b.getD k 0) ≤ _
    have h1 := getD_in ha k
    have h2 := getD_in hb k
    have h3 := dst_le h1.1 h1.2 h2.1 h2.2
    have h4 : areaP a b k = sumN k fun i => dst (a.getD i 0) (b.getD i 0) := rfl
    omega
theorem max_dst (x y : Int) : (if x - y < y - x then y - x else x - y) = dst x y := by unfold dst; split <;> split <;> omega
theorem areaS_P (a b : List UInt8) : areaP (hts (cnt 100 a) a) (hts (cnt 100 b) b) (cnt 102 a) = areaS a b := rfl
theorem strip_in {l : List UInt8} (h : stripB l = true) : ∀ x ∈ hts (cnt 100 l) l, -16 ≤ x ∧ x ≤ 16 := by
  intro x hx
  have h1 := hts_bound l _ x hx
  have h2 := strip_size h
  have h3 := cnt_le 100 l
  omega

set_option maxRecDepth 100000 in
set_option maxHeartbeats 2000000 in
theorem heights_spec (s : ByteArray) (w : World) (hm : s.size ≤ 1048576) :
    Calls Tryd.prog 41 #[.string s] w (PostRow w (hts (cnt 100 s.data.toList) s.data.toList)) := by
  obtain ⟨i0, hi, hz0, hz1, hz2⟩ := info_parts info_int
  have hsl : s.data.toList.length = s.size := by simp
  have HSL := Lib.hid hsl; clear hsl
  have hcn := cnt_le 100 s.data.toList
  rw [HSL.out] at hcn
  rw [← hP_all _ s.size (by rw [HSL.out]; exact Nat.le_refl _)]
  go_enter Tryd.func41, Tryd.ntmps41
  go_wp2_with fail
  refine (count_spec s 100 _ hm).mono ?_
  rintro e w' ⟨rfl, rfl⟩
  go_wp2_with fail
  go_loopw [3, 4, 5] (fun v x i wr => ∃ k : Nat, k ≤ s.size ∧ i = .int .i64 (k : Int) ∧ x = .int .i64 (uP s.data.toList k) ∧ Hid (Own wr w.heap.size v (hP s.data.toList k)) ∧ Hid (Below w.heap.size w wr)) (fun _ _ i _ => s.size - (intOf i).toNat)
  case atStart => exact ⟨0, by omega, rfl, by rw [uP_zero], World.ownsRow_made w #[] 0 (Nat.le_refl _) (by unfold maxLen; omega) rfl, (Below.refl _ _).alloc (Nat.le_refl _) _⟩
  case round =>
    obtain ⟨k, hk, rfl, rfl, HO, HB⟩ := hrel
    have hks := HB.out.size
    have HS := Lib.hid hks; clear hks
    have hle := hP_length s.data.toList k
    obtain ⟨hu1, hu2⟩ := uP_bound s.data.toList k (by rw [HSL.out]; exact hk)
    rw [HSL.out] at hu2
    by_cases hlt : k < s.size
    · have hk0 : (0 : Int) ≤ (k : Int) := Int.natCast_nonneg _
      have hk1 : (k : Int) < (s.size : Int) := by omega
      by_cases hx : s[k] = 102
      · have hb : ((s[k].toNat : Int) == 102) = true := byte_eq _ 102 hx
        obtain ⟨n1, n2⟩ := hP_yes s k hlt hx
        have HN1 := Lib.hid n1
        have HN2 := Lib.hid n2
        clear n1 n2 hx
        generalize uP s.data.toList k = u at *
        go_wp2_with (at_builtin; refine wpList_append_own _ rfl _ _ 55 rfl w.heap.size 3 i0 _ 1 8 Tryd.underlying55 hi hz0 hz1 hz2 rfl (by decide) u3 (hP s.data.toList k).length (icells (hP s.data.toList k)) rfl (HO.out.alloc _) ⟨wr.heap.size, 0, none⟩ 1 1 [.int .i64 u] rfl rfl (World.news_of_block (cs := #[.int .i64 u]) (t := 3) (fr := (0, 0)) (heap_alloc_new _ _)) (by simp [Value.oneCell']) (by unfold maxLen; omega) (by omega) (by have := HS.out; simp; omega) ?_)
        intro v1 w1 hown1 hgrow _
        have HB3 := Lib.hid ((HB.out.alloc HS.out _).grown hgrow (by have := HS.out; simp; omega) (fun t e => (HO.out.lt t e).1))
        have HO3 : Hid (Own w1 w.heap.size v1 (hP s.data.toList (k + 1))) := by
          show World.ownsRow _ _ _ _ _ _ _
          rw [HN1.out, icells_snoc, List.length_append]; exact hown1
        clear hown1 hgrow
        go_wp2
        go_roundw
        case rel => exact ⟨k + 1, by omega, by go_num, by rw [HN2.out], HO3, HB3⟩
        case measure => simp [intOf]; omega
      · have hb : ((s[k].toNat : Int) == 102) = false := byte_ne _ 102 hx
        obtain ⟨n1, n2⟩ := hP_no s k hlt hx
        have HN1 := Lib.hid n1
        have HN2 := Lib.hid n2
        clear n1 n2 hx
        generalize uP s.data.toList k = u at *
        go_wp2
        refine ⟨⟨k + 1, by omega, by go_num, by rw [HN2.out], ?_, HB⟩, by simp [intOf]; omega⟩
        rw [HN1.out]; exact HO
    · obtain rfl : k = s.size := by omega
      go_wp2
      go_ret
      exact ⟨_, rfl, HB.out, HO.out⟩

set_option maxRecDepth 100000 in
set_option maxHeartbeats 2000000 in
theorem area_spec (s t : ByteArray) (w : World) (hm : s.size ≤ 1048576) (hm' : t.size ≤ 1048576) :
    Calls Tryd.prog 43 #[.string s, .string t] w fun e w' => e = .returned (.int .i64 (areaI s.data.toList t.data.toList)) ∧ Below w.heap.size w w' := by
  have hsm := fun w => same_spec s t w hm hm'
  cases hst : sameB s.data.toList t.data.toList with
  | false =>
    rw [hst] at hsm
    have HSM := Lib.hid hsm; clear hsm
    have hv : areaI s.data.toList t.data.toList = -1 := by unfold areaI; rw [hst]; rfl
    rw [hv]
    go_enter Tryd.func43, Tryd.ntmps43
    go_wp2_with fail
    refine (HSM.out _).mono ?_
    rintro e w' ⟨rfl, rfl⟩
    go_wp2
    go_ret
    exact ⟨rfl, Below.refl _ _⟩
  | true =>
    rw [hst] at hsm
    have HSM := Lib.hid hsm; clear hsm
    have hv : areaI s.data.toList t.data.toList = areaS s.data.toList t.data.toList := by unfold areaI; rw [hst]; rfl
    rw [hv, ← areaS_P]
    obtain ⟨hs1, hs2, _, hs4, _⟩ := same_facts hst
    have hla := hts_length s.data.toList (cnt 100 s.data.toList)
    have hlb := hts_length t.data.toList (cnt 100 t.data.toList)
    have hz := strip_size hs1
    have hcl := cnt_le 102 s.data.toList
    have hia := strip_in hs1
    have hib := strip_in hs2
    have HA := Lib.hid (fun w => heights_spec s w hm)
    have HB := Lib.hid (fun w => heights_spec t w hm')
    rw [← hs4] at hlb
    clear hs1 hs2 hs4 hst hv
    generalize hts (cnt 100 s.data.toList) s.data.toList = la at *
    generalize hts (cnt 100 t.data.toList) t.data.toList = lb at *
    generalize cnt 102 s.data.toList = n at *
    have HLA := Lib.hid hla
    have HLB := Lib.hid hlb
    have HIA := Lib.hid hia
    have HIB := Lib.hid hib
    have hn : n ≤ 16 := by omega
    clear hla hlb hia hib hz hcl
    go_enter Tryd.func43, Tryd.ntmps43
    go_wp2_with fail
    refine (HSM.out _).mono ?_
    rintro e w' ⟨rfl, rfl⟩
    go_wp2_with fail
    refine (HA.out _).mono ?_
    rintro e w1 ⟨va, rfl, hb1, hoa⟩
    have HB1 := Lib.hid hb1
    have HOA := Lib.hid hoa
    clear hb1 hoa
    obtain ⟨aa, ca, rfl, _, _⟩ := HOA.out.row
    go_wp2_with fail
    refine (HB.out _).mono ?_
    rintro e w2 ⟨vb, rfl, hb2, hob⟩
    have HB2 := Lib.hid (HB1.out.trans (hb2.mono HB1.out.size))
    have HOA2 := Lib.hid (HOA.out.below hb2)
    have HOB := Lib.hid hob
    clear hb2 hob
    obtain ⟨ab, cb, rfl, _, _⟩ := HOB.out.row
    obtain ⟨_, _, e, ra, _⟩ := HOA2.out.row
    cases e
    obtain ⟨_, _, e, rb, _⟩ := HOB.out.row
    cases e
    rw [HLA.out, HLB.out]
    have HRA := Lib.hid ra
    have HRB := Lib.hid rb
    clear ra rb HOA HOA2 HOB HA HB
    go_wp2_with fail
    go_loopw [7, 8] (fun x i wr => ∃ k q : Nat, k ≤ n ∧ i = .int .i64 k ∧ x = .int .i64 (areaP la lb k) ∧ wr = w2.drewN q) (fun _ i _ => n - (intOf i).toNat)
    case atStart => exact ⟨0, 0, Nat.zero_le _, rfl, rfl, rfl⟩
    case round =>
      obtain ⟨k, q, hk, rfl, rfl, rfl⟩ := hrel
      have hp0 := areaP_nonneg la lb k
      have hp1 := areaP_le la lb HIA.out HIB.out k
      by_cases hlt : k < n
      · have ja : k < la.length := by rw [HLA.out]; exact hlt
        have jb : k < lb.length := by rw [HLB.out]; exact hlt
        obtain ⟨ga, rfl, _, hca⟩ := HRA.out k ja
        obtain ⟨gb, rfl, _, hcb⟩ := HRB.out k jb
        have HST := Lib.hid (areaP_succ la lb k ja jb)
        obtain ⟨x0, x1⟩ := HIA.out la[k] (List.getElem_mem ja)
        obtain ⟨y0, y1⟩ := HIB.out lb[k] (List.getElem_mem jb)
        generalize la[k] = x at *
        generalize lb[k] = y at *
        generalize areaP la lb k = p at *
        have hk0 : (0 : Int) ≤ (k : Int) := Int.natCast_nonneg _
        have hk1 : (k : Int) < (n : Int) := by omega
        clear ja jb
        go_wp2_with fail
        go_quiet (fail)
        go_wp2
        refine ⟨⟨k + 1, _, by omega, by go_num, ?_, rfl⟩, by simp [intOf]; omega⟩
        rw [HST.out, ← max_dst]
      · obtain rfl : k = n := by omega
        go_wp2
        go_ret
        exact ⟨rfl, HB2.out.trans ((drewN_below w2 q).mono HB2.out.size)⟩
end Go.Proofs.YthigiemgdejdhaaDoor.Kerf

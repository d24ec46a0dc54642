/- What spec.SplitFields returns. -/
import Derived.Test.YtcagffcmnpakjaaDoorSplitImpl
import Derived.Deep.AppendLies
namespace Go.Proofs.YtcagffcmnpakjaaDoor.Strs
open Go.ChangeShapes Go.WideShapes Go.ChangeAt Go.RowKit
set_option linter.unusedVariables false

/-- After i bytes: acc are the fields that have ended, the one that begins at b has not. -/
def SpRel (l : List UInt8) (i b : Nat) (acc : List (List UInt8)) : Prop :=
  (i ≤ l.length ∧ acc ++ Lib.fieldsGo ((l.take i).drop b) (l.drop i) = Lib.fields l) ∨ (i = l.length + 1 ∧ acc = Lib.fields l)

theorem SpRel.start (l : List UInt8) : SpRel l 0 0 [] := .inl ⟨Nat.zero_le _, by simp [Lib.fields]⟩

theorem SpRel.at {l : List UInt8} {i b : Nat} {acc : List (List UInt8)} (h : SpRel l i b acc) (hi : i ≤ l.length) : acc ++ Lib.fieldsGo ((l.take i).drop b) (l.drop i) = Lib.fields l := by
  rcases h with ⟨_, h⟩ | ⟨h, _⟩
  · exact h
  · omega

theorem SpRel.more {l : List UInt8} {i b : Nat} {acc : List (List UInt8)} (h : SpRel l i b acc) (hi : i < l.length) (hb : b ≤ i) (hs : Lib.isSp l[i] = false) : SpRel l (i + 1) b acc := by
  have h1 := h.at (Nat.le_of_lt hi)
  refine .inl ⟨hi, ?_⟩
  rw [List.drop_eq_getElem_cons hi, Lib.fieldsGo_more _ _ _ hs] at h1
  rw [List.take_succ_eq_append_getElem hi, List.drop_append_of_le_length (by simp; omega)]
  exact h1

theorem SpRel.skip {l : List UInt8} {i : Nat} {acc : List (List UInt8)} (h : SpRel l i i acc) (hi : i < l.length) (hs : Lib.isSp l[i] = true) : SpRel l (i + 1) (i + 1) acc := by
  have h1 := h.at (Nat.le_of_lt hi)
  refine .inl ⟨hi, ?_⟩
  have e1 : (l.take i).drop i = [] := List.drop_eq_nil_of_le (by simp; omega)
  have e2 : (l.take (i + 1)).drop (i + 1) = [] := List.drop_eq_nil_of_le (by simp; omega)
  rw [List.drop_eq_getElem_cons hi, e1, Lib.fieldsGo_sp _ _ hs] at h1
  rw [e2]; exact h1

theorem piece_ne {l : List UInt8} {i b : Nat} (hi : i ≤ l.length) (hb : b < i) : (l.take i).drop b ≠ [] := by
  intro e
  have := congrArg List.length e
  simp at this
  omega

theorem SpRel.take {l : List UInt8} {i b : Nat} {acc : List (List UInt8)} (h : SpRel l i b acc) (hi : i < l.length) (hb : b < i) (hs : Lib.isSp l[i] = true) : SpRel l (i + 1) (i + 1) (acc ++ [(l.take i).drop b]) := by
  have h1 := h.at (Nat.le_of_lt hi)
  refine .inl ⟨hi, ?_⟩
  have e2 : (l.take (i + 1)).drop (i + 1) = [] := List.drop_eq_nil_of_le (by simp; omega)
  rw [List.drop_eq_getElem_cons hi, Lib.fieldsGo_end _ _ _ hs (piece_ne (Nat.le_of_lt hi) hb)] at h1
  rw [e2, List.append_assoc]; exact h1

theorem SpRel.last {l : List UInt8} {i b : Nat} {acc : List (List UInt8)} (h : SpRel l i b acc) (hi : i = l.length) (hb : b < i) : SpRel l (i + 1) (i + 1) (acc ++ [(l.take i).drop b]) := by
  subst hi
  have h1 := h.at (Nat.le_refl _)
  refine .inr ⟨rfl, ?_⟩
  rw [List.drop_length] at h1
  rw [← h1]
  have hne := piece_ne (Nat.le_refl _) hb
  cases hc : (l.take l.length).drop b with
  | nil => exact absurd hc hne
  | cons x r => simp [Lib.fieldsGo]

theorem SpRel.lastSkip {l : List UInt8} {i : Nat} {acc : List (List UInt8)} (h : SpRel l i i acc) (hi : i = l.length) : SpRel l (i + 1) (i + 1) acc := by
  subst hi
  have h1 := h.at (Nat.le_refl _)
  refine .inr ⟨rfl, ?_⟩
  rw [List.drop_length, List.drop_eq_nil_of_le (by simp)] at h1
  rw [← h1]; simp [Lib.fieldsGo]

theorem SpRel.stop {l : List UInt8} {i b : Nat} {acc : List (List UInt8)} (h : SpRel l i b acc) (hi : ¬ i ≤ l.length) : acc = Lib.fields l := by
  rcases h with ⟨h, _⟩ | ⟨_, h⟩
  · exact absurd h hi
  · exact h

/-- Lists of bytes as strings. -/
def tobs (acc : List (List UInt8)) : List ByteArray := acc.map fun l => ⟨l.toArray⟩
theorem tobs_length (acc : List (List UInt8)) : (tobs acc).length = acc.length := by simp [tobs]
theorem tobs_snoc (acc : List (List UInt8)) (x : List UInt8) : scells (tobs (acc ++ [x])) = scells (tobs acc) ++ [.string ⟨x.toArray⟩] := by simp [tobs, scells]

theorem info_str : (Tryd.prog.info? 9).map (fun i => (i.zero, i.size, i.bytes)) = some (some (.string ⟨#[]⟩), 1, 16) := by kernel_rfl

theorem piece_eq (s : ByteArray) (b i : Nat) : s.extract b i = ⟨((s.data.toList.take i).drop b).toArray⟩ := by
  apply ByteArray.ext
  rw [ByteArray.data_extract]
  apply Array.ext'
  rw [Array.toList_extract]
  simp [List.extract, List.drop_take]

theorem sp_of (c : UInt8) (h0 : 32 ≤ c.toNat) : Lib.isSp c = decide (c.toNat = 32) := by
  unfold Lib.isSp
  have e : ∀ k : UInt8, (c == k) = decide (c.toNat = k.toNat) := fun k => by
    rw [Bool.eq_iff_iff, beq_iff_eq, decide_eq_true_eq]
    exact ⟨fun h => by rw [h], fun h => UInt8.toNat_inj.1 h⟩
  rw [e, e, e, e, e, e]
  have e9 : (9 : UInt8).toNat = 9 := rfl
  have e10 : (10 : UInt8).toNat = 10 := rfl
  have e11 : (11 : UInt8).toNat = 11 := rfl
  have e12 : (12 : UInt8).toNat = 12 := rfl
  have e13 : (13 : UInt8).toNat = 13 := rfl
  have e32 : (32 : UInt8).toNat = 32 := rfl
  rw [e9, e10, e11, e12, e13, e32, decide_eq_false (by omega), decide_eq_false (by omega), decide_eq_false (by omega), decide_eq_false (by omega), decide_eq_false (by omega)]
  simp

/-- The post, behind a name. -/
def Post_plain (s : ByteArray) (w : World) : Ending → World → Prop := (fun e w' => ∃ v, e = .returned (.tuple #[v, .bool (decide ((flds s).length ≤ 24))]) ∧ Below w.heap.size w w' ∧ (if (flds s).length ≤ 24 then w'.ownsRow w.heap.size 9 1 v (flds s).length (scells (flds s)) else ∃ a c, v = .slice a 0 c))

set_option maxRecDepth 100000 in
set_option maxHeartbeats 1000000 in
theorem split_spec_plain (s : ByteArray) (hm : s.size ≤ 600) (hpl : Plain s) (w : World) :
    Calls Tryd.prog 18 #[.string s] w (Post_plain s w) := by
  obtain ⟨i0, hi, hz0, hz1, hz2⟩ := info_parts info_str
  have hsl : s.data.toList.length = s.size := by simp
  have HSL := Lib.hid hsl; clear hsl
  have HP := Lib.hid hpl; clear hpl
  go_enter Tryd.func18, Tryd.ntmps18
  go_wp2_with fail
  go_loopw [4, 5, 6] (fun v vb vi wr => ∃ (i b : Nat) (acc : List (List UInt8)), i ≤ s.size + 1 ∧ b ≤ i ∧ acc.length ≤ b ∧ vi = .int .i64 i ∧ vb = .int .i64 b ∧ Hid (wr.ownsRow w.heap.size 9 1 v acc.length (scells (tobs acc))) ∧ Hid (Below w.heap.size w wr) ∧ Hid (SpRel s.data.toList i b acc)) (fun _ _ vi _ => s.size + 1 - (intOf vi).toNat)
  case atStart => exact ⟨0, 0, [], Nat.zero_le _, Nat.zero_le _, Nat.zero_le _, rfl, rfl, World.ownsRow_made w #[] 0 (Nat.le_refl _) (by unfold maxLen; omega) rfl, (Below.refl _ _).alloc (Nat.le_refl _) _, SpRel.start _⟩
  case round =>
    obtain ⟨i, b, acc, hil, hbi, hab, rfl, rfl, HO, HB, HR⟩ := hrel
    have hsz : w.heap.size ≤ wr.heap.size := HB.out.size
    have HS := Lib.hid hsz; clear hsz
    by_cases hlt : i < s.size
    · have hk0 : (0 : Int) ≤ (i : Int) := Int.natCast_nonneg _
      have hk1 : (i : Int) < (s.size : Int) := by omega
      have hlt' : i < s.data.toList.length := by rw [HSL.out]; exact hlt
      obtain ⟨p0, p1⟩ := HP.out i hlt
      have q0 : decide ((s[i].toNat : Int) < 32) = false := by simp; omega
      have q1 : decide ((126 : Int) < (s[i].toNat : Int)) = false := by simp; omega
      have q0' : (32 : Int) ≤ (s[i].toNat : Int) := by omega
      have q1' : (s[i].toNat : Int) ≤ 126 := by omega
      have hsp : Lib.isSp s.data.toList[i] = decide (s[i].toNat = 32) := sp_of s[i] p0
      have HSP := Lib.hid hsp; clear hsp p0 p1
      by_cases h32 : s[i].toNat = 32
      · have e32 : ((s[i].toNat : Int) != 32) = false := by simp [h32]
        have hs : Lib.isSp s.data.toList[i] = true := by rw [HSP.out]; simp [h32]
        have HS32 := Lib.hid hs; clear hs h32
        by_cases hb : b < i
        · have hrel := HR.out.take hlt' hb HS32.out
          have HREL := Lib.hid hrel; clear hrel HR
          have hpe := piece_eq s b i
          have HPE := Lib.hid hpe; clear hpe
          have hts := tobs_snoc acc ((s.data.toList.take i).drop b)
          have HTS := Lib.hid hts; clear hts
          have hb0 : (0 : Int) ≤ (b : Int) := Int.natCast_nonneg _
          have hb1 : (b : Int) ≤ (i : Int) := by omega
          go_wp2_with (at_builtin; refine wpList_append_own _ rfl _ _ 31 rfl w.heap.size 9 i0 _ 1 16 Tryd.underlying31 hi hz0 hz1 hz2 rfl (by decide) u4 acc.length (scells (tobs acc)) rfl (HO.out.alloc _) ⟨wr.heap.size, 0, none⟩ 1 1 [.string (s.extract b i)] rfl rfl (World.news_of_block (cs := #[.string (s.extract b i)]) (t := 9) (fr := (0, 0)) (heap_alloc_new wr _)) (by simp [Value.oneCell']) (by unfold maxLen; omega) (by omega) (by have := HS.out; simp; omega) ?_)
          intro v1 w1 hown1 hgrow _
          have HB2 := Lib.hid ((HB.out.alloc HS.out _).grown hgrow (by have := HS.out; simp; omega) (fun t e => (HO.out.lt t e).1))
          have HO2 : Hid (w1.ownsRow w.heap.size 9 1 v1 (acc ++ [(s.data.toList.take i).drop b]).length (scells (tobs (acc ++ [(s.data.toList.take i).drop b])))) := by
            show World.ownsRow _ _ _ _ _ _ _
            rw [HTS.out, ← HPE.out, List.length_append]; exact hown1
          clear hown1 hgrow
          go_wp2
          go_roundw
          case rel => exact ⟨i + 1, i + 1, acc ++ [(s.data.toList.take i).drop b], by omega, Nat.le_refl _, by simp; omega, by go_num, by go_num, HO2, HB2, HREL⟩
          case measure => simp [intOf]; omega
        · have hb' : ¬ (b : Int) < (i : Int) := by omega
          have hrel : SpRel s.data.toList (i + 1) (i + 1) acc := by
            have e : b = i := by omega
            have h := HR.out
            rw [e] at h
            exact h.skip hlt' HS32.out
          have HREL := Lib.hid hrel; clear hrel HR
          go_wp2
          exact ⟨⟨i + 1, i + 1, acc, by omega, Nat.le_refl _, by omega, by go_num, by go_num, HO, HB, HREL⟩, by simp [intOf]; omega⟩
      · have e32 : ((s[i].toNat : Int) != 32) = true := by simp; omega
        have hs : Lib.isSp s.data.toList[i] = false := by rw [HSP.out]; simp [h32]
        have hrel := HR.out.more hlt' hbi hs
        have HREL := Lib.hid hrel; clear hrel hs h32 HR
        go_wp2
        exact ⟨⟨i + 1, b, acc, by omega, by omega, hab, by go_num, rfl, HO, HB, HREL⟩, by simp [intOf]; omega⟩
    · have hd : decide ((i : Int) < (s.size : Int)) = false := by simp; omega
      by_cases hle : i ≤ s.size
      · have hie : i = s.data.toList.length := by rw [HSL.out]; omega
        have HIE := Lib.hid hie; clear hie
        have hle0 : (i : Int) ≤ (s.size : Int) := by omega
        by_cases hb : b < i
        · have hrel := HR.out.last HIE.out hb
          have HREL := Lib.hid hrel; clear hrel HR
          have hpe := piece_eq s b i
          have HPE := Lib.hid hpe; clear hpe
          have hts := tobs_snoc acc ((s.data.toList.take i).drop b)
          have HTS := Lib.hid hts; clear hts
          have hb0 : (0 : Int) ≤ (b : Int) := Int.natCast_nonneg _
          have hb1 : (b : Int) ≤ (i : Int) := by omega
          go_wp2_with (at_builtin; refine wpList_append_own _ rfl _ _ 31 rfl w.heap.size 9 i0 _ 1 16 Tryd.underlying31 hi hz0 hz1 hz2 rfl (by decide) u4 acc.length (scells (tobs acc)) rfl (HO.out.alloc _) ⟨wr.heap.size, 0, none⟩ 1 1 [.string (s.extract b i)] rfl rfl (World.news_of_block (cs := #[.string (s.extract b i)]) (t := 9) (fr := (0, 0)) (heap_alloc_new wr _)) (by simp [Value.oneCell']) (by unfold maxLen; omega) (by omega) (by have := HS.out; simp; omega) ?_)
          intro v1 w1 hown1 hgrow _
          have HB2 := Lib.hid ((HB.out.alloc HS.out _).grown hgrow (by have := HS.out; simp; omega) (fun t e => (HO.out.lt t e).1))
          have HO2 : Hid (w1.ownsRow w.heap.size 9 1 v1 (acc ++ [(s.data.toList.take i).drop b]).length (scells (tobs (acc ++ [(s.data.toList.take i).drop b])))) := by
            show World.ownsRow _ _ _ _ _ _ _
            rw [HTS.out, ← HPE.out, List.length_append]; exact hown1
          clear hown1 hgrow
          go_wp2
          go_roundw
          case rel => exact ⟨i + 1, i + 1, acc ++ [(s.data.toList.take i).drop b], by omega, Nat.le_refl _, by simp; omega, by go_num, by go_num, HO2, HB2, HREL⟩
          case measure => simp [intOf]; omega
        · have hb' : ¬ (b : Int) < (i : Int) := by omega
          have hrel : SpRel s.data.toList (i + 1) (i + 1) acc := by
            have e : b = i := by omega
            have h := HR.out
            rw [e] at h
            exact h.lastSkip HIE.out
          have HREL := Lib.hid hrel; clear hrel HR
          go_wp2
          exact ⟨⟨i + 1, i + 1, acc, by omega, Nat.le_refl _, by omega, by go_num, by go_num, HO, HB, HREL⟩, by simp [intOf]; omega⟩
      · have hst := HR.out.stop (by rw [HSL.out]; exact hle)
        have hfl : flds s = tobs acc := by rw [hst]; rfl
        have hln : (flds s).length = acc.length := by rw [hfl, tobs_length]
        have HFL := Lib.hid hfl; clear hfl hst
        have HLN := Lib.hid hln; clear hln
        obtain ⟨a, cap, hv, _⟩ := Row.of_owns HO.out
        rw [tobs_length] at hv
        subst hv
        by_cases h24 : 24 < acc.length
        · have d24 : decide ((24 : Int) < (acc.length : Int)) = true := by simp; omega
          go_wp2
          go_ret2
          unfold Post_plain
          have hnl : ¬ (flds s).length ≤ 24 := by rw [HLN.out]; omega
          rw [decide_eq_false hnl]
          refine ⟨_, rfl, (HB.out.alloc HS.out _), ?_⟩
          rw [if_neg hnl]
          exact ⟨_, _, rfl⟩
        · have d24 : decide ((24 : Int) < (acc.length : Int)) = false := by simp; omega
          go_wp2
          go_ret2
          unfold Post_plain
          have hnl : (flds s).length ≤ 24 := by rw [HLN.out]; omega
          rw [decide_eq_true hnl]
          refine ⟨_, rfl, HB.out, ?_⟩
          rw [if_pos hnl, HLN.out, HFL.out]
          exact HO.out

/-- The post, behind a name. -/
def Post_bad (s : ByteArray) (w : World) : Ending → World → Prop := (fun e w' => ∃ a c, e = .returned (.tuple #[.slice a 0 c, .bool false]) ∧ Below w.heap.size w w')

set_option maxRecDepth 100000 in
set_option maxHeartbeats 1000000 in
theorem split_spec_bad (s : ByteArray) (hm : s.size ≤ 600) (j0 : Nat) (hj : j0 < s.size) (hbad : s[j0].toNat < 32 ∨ 126 < s[j0].toNat) (w : World) :
    Calls Tryd.prog 18 #[.string s] w (Post_bad s w) := by
  obtain ⟨i0, hi, hz0, hz1, hz2⟩ := info_parts info_str
  have hsl : s.data.toList.length = s.size := by simp
  have HSL := Lib.hid hsl; clear hsl
  have HBAD := Lib.hid hbad; clear hbad
  go_enter Tryd.func18, Tryd.ntmps18
  go_wp2_with fail
  go_loopw [4, 5, 6] (fun v vb vi wr => ∃ (i b : Nat) (acc : List (List UInt8)), i ≤ j0 ∧ b ≤ i ∧ acc.length ≤ b ∧ vi = .int .i64 i ∧ vb = .int .i64 b ∧ Hid (wr.ownsRow w.heap.size 9 1 v acc.length (scells (tobs acc))) ∧ Hid (Below w.heap.size w wr)) (fun _ _ vi _ => s.size + 1 - (intOf vi).toNat)
  case atStart => exact ⟨0, 0, [], Nat.zero_le _, Nat.zero_le _, Nat.zero_le _, rfl, rfl, World.ownsRow_made w #[] 0 (Nat.le_refl _) (by unfold maxLen; omega) rfl, (Below.refl _ _).alloc (Nat.le_refl _) _⟩
  case round =>
    obtain ⟨i, b, acc, hil, hbi, hab, rfl, rfl, HO, HB⟩ := hrel
    have hsz : w.heap.size ≤ wr.heap.size := HB.out.size
    have HS := Lib.hid hsz; clear hsz
    have hlt : i < s.size := by omega
    have hk0 : (0 : Int) ≤ (i : Int) := Int.natCast_nonneg _
    have hk1 : (i : Int) < (s.size : Int) := by omega
    by_cases d0 : (s[i].toNat : Int) < 32
    · go_wp2
      go_ret2
      exact ⟨_, _, rfl, (HB.out.alloc HS.out _)⟩
    · have d0' : decide ((s[i].toNat : Int) < 32) = false := by simpa using d0
      by_cases d1 : (126 : Int) < (s[i].toNat : Int)
      · go_wp2
        go_ret2
        exact ⟨_, _, rfl, (HB.out.alloc HS.out _)⟩
      · have d1' : decide ((126 : Int) < (s[i].toNat : Int)) = false := by simpa using d1
        have hkj : i ≠ j0 := by
          intro e
          subst e
          have := HBAD.out
          omega
        by_cases h32 : s[i].toNat = 32
        · have e32 : ((s[i].toNat : Int) != 32) = false := by simp [h32]
          clear h32
          by_cases hb : b < i
          · skip
            have hpe := piece_eq s b i
            have HPE := Lib.hid hpe; clear hpe
            have hts := tobs_snoc acc ((s.data.toList.take i).drop b)
            have HTS := Lib.hid hts; clear hts
            have hb0 : (0 : Int) ≤ (b : Int) := Int.natCast_nonneg _
            have hb1 : (b : Int) ≤ (i : Int) := by omega
            go_wp2_with (at_builtin; refine wpList_append_own _ rfl _ _ 31 rfl w.heap.size 9 i0 _ 1 16 Tryd.underlying31 hi hz0 hz1 hz2 rfl (by decide) u4 acc.length (scells (tobs acc)) rfl (HO.out.alloc _) ⟨wr.heap.size, 0, none⟩ 1 1 [.string (s.extract b i)] rfl rfl (World.news_of_block (cs := #[.string (s.extract b i)]) (t := 9) (fr := (0, 0)) (heap_alloc_new wr _)) (by simp [Value.oneCell']) (by unfold maxLen; omega) (by omega) (by have := HS.out; simp; omega) ?_)
            intro v1 w1 hown1 hgrow _
            have HB2 := Lib.hid ((HB.out.alloc HS.out _).grown hgrow (by have := HS.out; simp; omega) (fun t e => (HO.out.lt t e).1))
            have HO2 : Hid (w1.ownsRow w.heap.size 9 1 v1 (acc ++ [(s.data.toList.take i).drop b]).length (scells (tobs (acc ++ [(s.data.toList.take i).drop b])))) := by
              show World.ownsRow _ _ _ _ _ _ _
              rw [HTS.out, ← HPE.out, List.length_append]; exact hown1
            clear hown1 hgrow
            go_wp2
            go_roundw
            case rel => exact ⟨i + 1, i + 1, acc ++ [(s.data.toList.take i).drop b], by omega, Nat.le_refl _, by simp; omega, by go_num, by go_num, HO2, HB2⟩
            case measure => simp [intOf]; omega
          · have hb' : ¬ (b : Int) < (i : Int) := by omega
            go_wp2
            exact ⟨⟨i + 1, i + 1, acc, by omega, Nat.le_refl _, by omega, by go_num, by go_num, HO, HB⟩, by simp [intOf]; omega⟩
        · have e32 : ((s[i].toNat : Int) != 32) = true := by simp; omega
          clear h32
          go_wp2
          exact ⟨⟨i + 1, b, acc, by omega, by omega, hab, by go_num, rfl, HO, HB⟩, by simp [intOf]; omega⟩

theorem split_spec_long (s : ByteArray) (hm : s.size ≤ maxLen) (h : 600 < s.size) (w : World) :
    Calls Tryd.prog 18 #[.string s] w (Post_bad s w) := by
  unfold maxLen at hm
  go_enter Tryd.func18, Tryd.ntmps18
  go_wp2
  go_ret2
  exact ⟨_, _, rfl, (Below.refl _ _).alloc (Nat.le_refl _) _⟩
end Go.Proofs.YtcagffcmnpakjaaDoor.Strs

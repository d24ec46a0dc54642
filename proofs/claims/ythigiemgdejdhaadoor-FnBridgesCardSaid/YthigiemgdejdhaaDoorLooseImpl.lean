/- What IsLoose of the program returns. -/
import Derived.Test.YthigiemgdejdhaaDoorTabImpl
namespace Go.Proofs.YthigiemgdejdhaaDoor.Tab
open Go.ChangeShapes Go.WideShapes Go.ChangeAt Go.RowKit
open Go.Proofs.YthigiemgdejdhaaDoor.Strip Go.Proofs.YthigiemgdejdhaaDoor.Kerf Go.Proofs.YthigiemgdejdhaaDoor.Order Go.Proofs.YthigiemgdejdhaaDoor.Area Go.Proofs.YthigiemgdejdhaaDoor.Errs
set_option linter.unusedVariables false

/-- IsLoose, told by the way over the bridge. -/
theorem loose_yes {l b : List UInt8} {P Q : Nat} (h : okB l P Q b = true) (hpq : P < Q) (hql : Q ≤ l.length) (hb : b.length = Q - P) (hk : ∀ k, P < k → k < Q → ff (wayL l P Q b) k ≠ ff l k) : looseB l P Q b = true := by
  unfold looseB
  rw [h, Bool.true_and, List.all_eq_true, Int.toNat_natCast, Int.toNat_natCast]
  intro j hj
  have hj := List.mem_range.1 hj
  rw [decide_eq_true_eq]
  rcases Nat.eq_zero_or_pos j with e | e
  · exact .inl e
  · exact .inr fun he => hk (P + j) (by omega) (by omega) ((loose_way hpq hql hb j).2 he)
theorem loose_not {l b : List UInt8} {P Q k : Nat} (hpq : P < Q) (hql : Q ≤ l.length) (hb : b.length = Q - P) (h1 : P < k) (h2 : k < Q) (hk : ff (wayL l P Q b) k = ff l k) : looseB l P Q b = false := by
  unfold looseB
  rw [Bool.and_eq_false_iff]
  right
  rw [← Bool.not_eq_true, List.all_eq_true]
  intro hc
  have h3 := hc (k - P) (List.mem_range.2 (by omega))
  rw [decide_eq_true_eq, Int.toNat_natCast, Int.toNat_natCast] at h3
  have h4 := (loose_way (l := l) (b := b) hpq hql hb (k - P)).1
  rw [show P + (k - P) = k from by omega] at h4
  rcases h3 with h3 | h3
  · omega
  · exact h3 (h4 hk)
theorem count_to (x : ByteArray) (k : Nat) (w : World) : Calls Tryd.prog 33 #[.string (x.extract 0 k), .string ⟨#[102]⟩] w fun e w' => e = .returned (.int .i64 (ff x.data.toList k : Int)) ∧ w = w' := by
  have h := count_one (x.extract 0 k) w
  rw [take_str] at h
  exact h

set_option maxRecDepth 100000 in
set_option maxHeartbeats 2000000 in
theorem loose_impl (s : ByteArray) (p q : Int) (t : ByteArray) (a : Addr) (w : World) (hm : s.size ≤ 1048576) (ht : t.size ≤ 1048576) (hs : Sent w a) :
    Calls Tryd.prog 13 #[.string s, .agg #[.int .i64 p, .int .i64 q, .string t]] w fun e w' =>
      e = .returned (.bool (looseB s.data.toList p q t.data.toList)) ∧ Below w.heap.size w w' := by
  obtain ⟨W, hW, hv, hb, hs⟩ := beginG w p q t hs
  have HW := Lib.hid hW
  have HB := Lib.hid hb
  have HS := Lib.hid hs
  have HV := Lib.hid hv
  have HG := Lib.hid (fun w h => glue_impl s p q t a w hm ht h)
  obtain ⟨v0, v1, v2⟩ := hv.cells
  clear hW hv hb hs
  cases hok : okB s.data.toList p q t.data.toList with
  | false =>
    have hl : looseB s.data.toList p q t.data.toList = false := by unfold looseB; rw [hok]; rfl
    rw [hok] at HG
    rw [hl]
    clear hl hok
    generalize bridgeS s p q t = z at *
    go_enter Tryd.func13, Tryd.ntmps13
    go_wp2_with fail
    rw [HW.out]
    go_wp2_with fail
    refine (HG.out _ HS.out).mono ?_
    rintro e w1 ⟨rfl, hb⟩
    have hg := (HS.out.below hb).cell
    have HB2 := Lib.hid (HB.out.trans (hb.mono HB.out.size))
    clear hb v0 v1 v2
    go_wp2_with fail
    refine (is_mis false a _).mono ?_
    rintro e w2 ⟨rfl, rfl⟩
    go_wp2
    go_ret
    exact ⟨rfl, HB2.out⟩
  | true =>
    obtain ⟨P, Q, rfl, rfl, hPQ, hql, hbl, hst, hsm, hab, hwl, _⟩ := ok_nat hok
    have hzl : (bridgeS s P Q t).data.toList = wayL s.data.toList P Q t.data.toList := by rw [bridge_text]; unfold bridgeL; rw [hok]; rfl
    have hzs : (bridgeS s P Q t).size = s.size := by
      have h1 : (bridgeS s P Q t).size = (bridgeS s P Q t).data.toList.length := by simp
      rw [h1, hzl, hwl]; simp
    have HYES := Lib.hid (fun hk => loose_yes hok hPQ hql hbl hk)
    have HNO := Lib.hid (fun k h1 h2 hk => loose_not (k := k) hPQ hql hbl h1 h2 hk)
    have hsz := size_small hst
    have hql : Q ≤ s.size := by simpa using hql
    rw [hok] at HG
    rw [← hzl] at HYES HNO
    clear hok hbl hst hsm hab hwl hzl
    generalize bridgeS s P Q t = z at *
    generalize looseB s.data.toList P Q t.data.toList = lb at *
    have hP0 : (0 : Int) ≤ (P : Int) := Int.natCast_nonneg _
    have hP1 : (P : Int) ≤ 16 := by omega
    go_enter Tryd.func13, Tryd.ntmps13
    go_wp2_with fail
    rw [HW.out]
    go_wp2_with fail
    refine (HG.out _ HS.out).mono ?_
    rintro e w1 ⟨rfl, hb⟩
    have hg := (HS.out.below hb).cell
    have HV2 := Lib.hid (HV.out.below hb)
    have HB2 := Lib.hid (HB.out.trans (hb.mono HB.out.size))
    clear hb v0 v1 v2
    go_wp2_with fail
    refine (is_mis true a _).mono ?_
    rintro e w2 ⟨rfl, rfl⟩
    obtain ⟨u0, u1, u2⟩ := HV2.out.cells
    go_wp2_with fail
    clear u0 u1 u2 hg
    go_loopw [7] (fun i wr => ∃ k : Nat, P < k ∧ k ≤ Q ∧ i = .int .i64 (k : Int) ∧ Hid (∀ j, P < j → j < k → ff z.data.toList j ≠ ff s.data.toList j) ∧ Hid (GVar wr w.heap.size P Q t) ∧ Hid (Below w.heap.size w wr)) (fun i _ => Q - (intOf i).toNat)
    case atStart => exact ⟨P + 1, by omega, by omega, by go_num, Lib.hid (fun j h1 h2 => by omega), HV2, HB2⟩
    case round =>
      clear HV2 HB2
      obtain ⟨k, h1, h2, rfl, HF, HV2, HB2⟩ := hrel
      obtain ⟨u0, u1, u2⟩ := HV2.out.cells
      have hk0 : (0 : Int) ≤ (k : Int) := Int.natCast_nonneg _
      by_cases hlt : k < Q
      · have hk1 : (k : Int) < (Q : Int) := by omega
        have hk2 : (k : Int) ≤ (s.size : Int) := by omega
        have hk3 : (k : Int) ≤ (z.size : Int) := by omega
        have hcz := fun w => count_to z k w
        have hcs := fun w => count_to s k w
        have HFK := Lib.hid (fun j (h1 : P < j) (h2 : j < k + 1) (hn : ff z.data.toList k ≠ ff s.data.toList k) => show ff z.data.toList j ≠ ff s.data.toList j by
          by_cases e : j = k
          · rw [e]; exact hn
          · exact HF.out j h1 (by omega))
        have HNK := Lib.hid (HNO.out k h1 hlt)
        clear HF HNO HYES
        generalize ff z.data.toList k = x at *
        generalize ff s.data.toList k = y at *
        have HCZ := Lib.hid hcz
        have HCS := Lib.hid hcs
        clear hcz hcs
        go_wp2_with fail
        go_quiet ((go_at_call 33; first | (with_reducible refine qsame (HCZ.out _)) | (with_reducible refine qsame (HCS.out _))))
        by_cases hxy : x = y
        · have HL := Lib.hid (HNK.out hxy)
          have hb : ((x : Int) == (y : Int)) = true := by simp [hxy]
          clear hxy
          go_wp2_with fail
          go_ret
          exact ⟨by rw [HL.out]; rfl, HB2.out.trans ((Strip.below_drewN wr _).mono HB2.out.size)⟩
        · have hb : ((x : Int) == (y : Int)) = false := by simp; omega
          have HFN := Lib.hid (fun j h1 h2 => HFK.out j h1 h2 hxy)
          clear hxy
          go_wp2
          go_roundw
          case rel => exact ⟨k + 1, by omega, by omega, by go_num, HFN, Lib.hid (HV2.out.below (Strip.below_drewN wr _)), Lib.hid (HB2.out.trans ((Strip.below_drewN wr _).mono HB2.out.size))⟩
          case measure => simp [intOf]; omega
      · obtain rfl : k = Q := by omega
        have hk1 : ¬ ((k : Int) < (k : Int)) := by omega
        have hl := HYES.out (fun j a b => HF.out j a b)
        have HL := Lib.hid hl
        clear hl
        go_wp2
        go_ret
        exact ⟨by rw [HL.out]; rfl, HB2.out⟩
end Go.Proofs.YthigiemgdejdhaaDoor.Tab

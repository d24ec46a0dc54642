/- What CardOk returns, of the model and of the program. -/
import Derived.Test.YtfhpbgmnekhfeaaCardEq
import Derived.Test.YtfhpbgmnekhfeaaStripMany
import Derived.Test.YtfhpbgmnekhfeaaStripImpl
namespace Go.Proofs.Ytfhpbgmnekhfeaa.Card
open Go.ChangeShapes Go.WideShapes Go.ChangeAt Go.RowKit
open Go.Proofs.Ytfhpbgmnekhfeaa.Strip Go.Proofs.Ytfhpbgmnekhfeaa.Strs
set_option linter.unusedVariables false

theorem cardB_frame {d f : Int} {l : List ByteArray} (h : frameB d f = false) : cardB d f l = false := by unfold cardB; rw [h]; rfl
theorem cardB_len {d f : Int} {l : List ByteArray} (h : ¬ (1 ≤ l.length ∧ l.length ≤ 10)) : cardB d f l = false := by unfold cardB; rw [decide_eq_false h]; simp
theorem cardB_bad {d f : Int} {l : List ByteArray} (k : Nat) (hk : k < l.length) (h : goodB d f l[k] = false) : cardB d f l = false := by
  cases hc : cardB d f l with
  | false => rfl
  | true =>
    have := (cardB_iff.1 hc).2.2.2 l[k] (List.getElem_mem hk)
    rw [h] at this; cases this
theorem cardB_all {d f : Int} {l : List ByteArray} (hf : frameB d f = true) (h1 : 1 ≤ l.length) (h2 : l.length ≤ 10) (h : ∀ j (hj : j < l.length), goodB d f l[j] = true) : cardB d f l = true :=
  cardB_iff.2 ⟨hf, h1, h2, fun s hs => by obtain ⟨j, hj, rfl⟩ := List.mem_iff_getElem.1 hs; exact h j hj⟩

theorem Row.at {w : World} {a : Option Addr} {l : List ByteArray} (h : Row w a l) {w' : World} (hb : Below w.heap.size w w') (j : Nat) (hj : j < l.length) : ∃ g, a = some ⟨g, 0, none⟩ ∧ g < w.heap.size ∧ w'.cell? ⟨g, j, none⟩ = some (.string l[j]) := by
  obtain ⟨g, e, hg, hc⟩ := h j hj
  exact ⟨g, e, hg, by rw [hb.cell (p := ⟨g, j, none⟩) hg]; exact hc⟩

theorem calls_below {P : Program} {f : FuncId} {args : Array Value} {w : World} {v : Value} (h : Calls P f args w fun e w' => e = .returned v ∧ w = w') : Calls P f args w fun e w' => e = .returned v ∧ Below w.heap.size w w' :=
  h.mono fun _ _ ⟨a, b⟩ => ⟨a, b ▸ Below.refl _ _⟩

set_option maxRecDepth 100000 in
set_option maxHeartbeats 1000000 in
theorem ok_spec (d f : Int) (a : Option Addr) (n c : Nat) (l : List ByteArray) (w : World) (hl : l.length = n) (hn : n ≤ 1048576) (hz : ∀ s ∈ l, s.size ≤ 1048576) (hr : Row w a l) :
    Calls Try.prog 38 #[.agg #[.int .i64 d, .int .i64 f, .slice a n c]] w fun e w' => e = .returned (.bool (cardB d f l)) ∧ Below w.heap.size w w' := by
  have HL := Lib.hid hl; clear hl
  have HR := Lib.hid hr; clear hr
  have HZ := Lib.hid hz; clear hz
  have HW := Lib.hid (alloc_below w (.cells #[.int .i64 d, .int .i64 f, .slice a n c] 26))
  cases hfr : frameB d f with
  | false =>
    have hres := cardB_frame (l := l) hfr
    rw [hres]
    go_enter Try.func38, Try.ntmps38
    go_wp2_with fail
    refine (frame_spec d f _).mono ?_
    rintro e w1 ⟨rfl, rfl⟩
    rw [hfr]
    go_wp2
    go_ret
    exact ⟨rfl, HW.out⟩
  | true =>
    by_cases hq : 1 ≤ (n : Int) ∧ (n : Int) ≤ 10
    · have hqd : decide (1 ≤ (n : Int) ∧ (n : Int) ≤ 10) = true := by simpa using hq
      obtain ⟨q1, q2⟩ := hq
      have HF := Lib.hid hfr
      go_enter Try.func38, Try.ntmps38
      go_wp2_with fail
      refine (frame_spec d f _).mono ?_
      rintro e w1 ⟨rfl, rfl⟩
      rw [hfr]
      clear hfr
      go_wp2_with fail
      refine (in_at _ 1 10 _).mono ?_
      rintro e w1 ⟨rfl, rfl⟩
      rw [hqd]
      clear hqd
      go_wp2_with fail
      have HV := Lib.hid (Var.new w d f (.slice a n c))
      generalize (w.alloc (.cells #[.int .i64 d, .int .i64 f, .slice a n c] 26)) = W at *
      go_loopw [3] (fun i wr => ∃ k : Nat, k ≤ n ∧ i = .int .i64 (k : Int) ∧ Hid (Var wr w.heap.size d f (.slice a n c)) ∧ Hid (Below w.heap.size w wr) ∧ Hid (∀ j (hj : j < l.length), j < k → goodB d f l[j] = true)) (fun i _ => n - (intOf i).toNat)
      case atStart => exact ⟨0, Nat.zero_le _, rfl, HV, HW, fun j _ hj => by omega⟩
      case round =>
        obtain ⟨k, hk, rfl, HVR, HBR, HG⟩ := hrel
        obtain ⟨k0, k1, k2⟩ := HVR.out.cells
        clear HV HW
        by_cases hlt : k < n
        · have hk0 : (0 : Int) ≤ (k : Int) := Int.natCast_nonneg _
          have hk1 : (k : Int) < (n : Int) := by omega
          have hkl : k < l.length := by rw [HL.out]; exact hlt
          obtain ⟨g, rfl, hg, hc⟩ := Row.at HR.out HBR.out k hkl
          have hsz : l[k].size ≤ 1048576 := HZ.out _ (List.getElem_mem hkl)
          have HX := Lib.hid (fun w' : World => down_spec l[k] w' hsz)
          have HY := Lib.hid (fun w' : World => forward_spec l[k] w' hsz)
          by_cases hx : numV 100 l[k].data.toList = d
          · by_cases hy : numV 102 l[k].data.toList = f
            · have hgood : goodB d f l[k] = true := by unfold goodB; simp [hx, hy]
              have HN := Lib.hid (show ∀ j (hj : j < l.length), j < k + 1 → goodB d f l[j] = true from fun j hj hjk => by
                by_cases e : j = k
                · subst e; exact hgood
                · exact HG.out j hj (by omega))
              clear hgood
              rw [hx] at HX
              rw [hy] at HY
              clear hx hy
              generalize l[k] = s at *
              have hxd : (d != d) = false := by simp
              have hyf : (f != f) = false := by simp
              go_wp2_with fail
              go_quiet ((first | (go_at_call 50; refine qsame (HX.out _)) | (go_at_call 51; refine qsame (HY.out _))))
              go_wp2
              go_roundw
              case rel => exact ⟨k + 1, by omega, by go_num, HVR.out.below (drewN_below _ _), HBR.out.trans ((drewN_below _ _).mono HBR.out.size), HN⟩
              case measure => simp [intOf]; omega
            · have hgood : goodB d f l[k] = false := by unfold goodB; simp [hx, hy]
              have HRES := Lib.hid (cardB_bad k hkl hgood)
              clear hgood HG
              rw [hx] at HX
              clear hx
              generalize numV 102 l[k].data.toList = y at *
              generalize l[k] = s at *
              have hxd : (d != d) = false := by simp
              have hyf : (y != f) = true := by simpa using hy
              clear hy
              go_wp2_with fail
              go_quiet ((first | (go_at_call 50; refine qsame (HX.out _)) | (go_at_call 51; refine qsame (HY.out _))))
              go_wp2
              go_ret
              rw [HRES.out]
              exact ⟨rfl, HBR.out.trans ((drewN_below _ _).mono HBR.out.size)⟩
          · have hgood : goodB d f l[k] = false := by unfold goodB; simp [hx]
            have HRES := Lib.hid (cardB_bad k hkl hgood)
            clear hgood HG
            generalize numV 100 l[k].data.toList = x at *
            generalize l[k] = s at *
            have hxd : (x != d) = true := by simpa using hx
            clear hx
            go_wp2_with fail
            go_quiet ((first | (go_at_call 50; refine qsame (HX.out _)) | (go_at_call 51; refine qsame (HY.out _))))
            go_wp2
            go_ret
            rw [HRES.out]
            exact ⟨rfl, HBR.out.trans ((drewN_below _ _).mono HBR.out.size)⟩
        · obtain rfl : k = n := by omega
          have HRES := Lib.hid (show cardB d f l = true from cardB_all HF.out (by rw [HL.out]; omega) (by rw [HL.out]; omega) (fun j hj => HG.out j hj (by rw [← HL.out]; exact hj)))
          go_wp2
          go_ret
          rw [HRES.out]
          exact ⟨rfl, HBR.out⟩
    · have hqd : decide (1 ≤ (n : Int) ∧ (n : Int) ≤ 10) = false := by simpa using hq
      have HRES := Lib.hid (show cardB d f l = false from cardB_len (by rw [HL.out]; omega))
      clear hq
      go_enter Try.func38, Try.ntmps38
      go_wp2_with fail
      refine (frame_spec d f _).mono ?_
      rintro e w1 ⟨rfl, rfl⟩
      rw [hfr]
      go_wp2_with fail
      refine (in_at _ 1 10 _).mono ?_
      rintro e w1 ⟨rfl, rfl⟩
      rw [hqd]
      go_wp2
      go_ret
      rw [HRES.out]
      exact ⟨rfl, HW.out⟩
end Go.Proofs.Ytfhpbgmnekhfeaa.Card

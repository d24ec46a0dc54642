/- For every input the Go function laws.FnNumbers returns true, and each argument reads afterwards as it read before. Condition: the package-level variables of the Go library that the row lists hold, when the call begins, what the program text lays in them; the card ties this to the text of the pruned copy of the project.
   The frame is the kit's proof skeleton, the walk is mine. -/
import Derived.Test.YtcagffcmnpakjaaDoorCards
import Derived.Test.YtcagffcmnpakjaaDoorTie
import Derived.Test.YtcagffcmnpakjaaDoorDrawFmt
import Derived.Test.YtcagffcmnpakjaaDoorBig
import Derived.Test.YtcagffcmnpakjaaDoorPuImpl
import Derived.Lib.ItoaLen
import Derived.WalkKit
import Derived.LaidMore
import Derived.Stop.Joined
import Derived.SevenTiedAt
import Derived.MakeChecks
import Derived.ProofKit
import Derived.OpenShut
import Derived.ShutString
import Derived.ChangeOld
import Derived.Below
namespace Go.Proofs.YtcagffcmnpakjaaDoor.fnNumbers
open Go.ChangeShapes Go.WideShapes Go.ChangeAt Go.RowKit
open Go.ChangeMaps (open_string shut_string)
set_option linter.unusedVariables false

theorem own : ownKnob Tryd.prog.godebug = none := by kernel_rfl
theorem laidOut : laidOutB Tryd.prog = true := by kernel_rfl

/-- WHAT THE WALK IS TOLD OF A SLICE OF INTEGERS THAT CAME IN: it is nil; or it leads to a row of 'cap' cells, the numbers 'zs' (the first 'len' are its elements, the rest its spare room), each fitting its kind. -/
def IsRow (k : IntKind) (w : World) (a : Option Addr) (len cap : Nat) (zs : List Int) : Prop :=
  (a = none ∧ len = 0 ∧ cap = 0 ∧ zs = []) ∨
  ∃ x, a = some x ∧ len ≤ cap ∧ cap ≤ maxLen ∧ zs.length = cap ∧ (∀ i, i < zs.length → w.cell? (x.add i) = some (.int k (zs.getD i 0))) ∧ ∀ n ∈ zs, (Lit.int k n).wf = true

open Go.Proofs.YtcagffcmnpakjaaDoor.Draw Go.Proofs.YtcagffcmnpakjaaDoor.Bytes Go.Proofs.YtcagffcmnpakjaaDoor.Laid Go.Proofs.YtcagffcmnpakjaaDoor.Decimal

theorem i64_bounds {n : Int} (h : (Lit.int .i64 n).wf = true) : -9223372036854775808 ≤ n ∧ n ≤ 9223372036854775807 := by
  simp [Lit.wf, IntKind.min, IntKind.max, IntKind.signed, IntKind.bits] at h
  omega

theorem itoa_ne_nil (n : Int) : Lib.itoa n ≠ [] := by
  unfold Lib.itoa
  split
  · simp
  · intro e
    have := digits_pos n.toNat
    rw [e] at this
    simp at this

theorem itoa_pu {n : Int} {m : Nat} (h : PU (Lib.itoa n) m) : n = (m : Int) := by
  have hv := h.value
  unfold Lib.itoa at hv
  split at hv
  · obtain ⟨d, hd⟩ := Lib.digit_of_decFrom _ 0 m hv 0 45 rfl
    rw [show Lib.digitVal 45 = none from by decide] at hd
    cases hd
  · rw [decFrom_digits] at hv
    have : n.toNat = m := by simpa using hv
    omega

theorem itoa_size (n : Int) (h0 : -9223372036854775808 ≤ n) (h1 : n ≤ 9223372036854775807) : (⟨(Lib.itoa n).toArray⟩ : ByteArray).size ≤ 281474976710656 := by
  show (Lib.itoa n).toArray.size ≤ _
  have h := Lib.nDigits_le20 n.natAbs (by omega)
  unfold Lib.itoa
  split
  · simp only [List.size_toArray, List.length_cons, Lib.decDigits_length]; omega
  · rename_i hn
    simp only [List.size_toArray, Lib.decDigits_length]
    have e : n.toNat = n.natAbs := by omega
    rw [e]; omega

theorem numbers (ca : Option Addr) (cl cc : Nat) (w : World) (hm : cl ≤ maxLen) (hr : RowIn w ca cl) (hp : Pow10 w) (hse : Sent w) (h3 : 4 < w.heap.size) (h4 : 3 < w.heap.size) :
    Calls Tryd.prog 4 #[.slice ca cl cc] w fun e w' => e = .returned (.bool true) ∧ Below w.heap.size w w' := by
  have hlt := hp.lt
  have HP := Lib.hid hp; clear hp
  have HS := Lib.hid hse; clear hse
  by_cases hbig : 1048576 < cl
  · have hd : decide (1048576 < (cl : Int)) = true := by simp; omega
    go_enter Tryd.func4, Tryd.ntmps4
    go_wp2_with fail
    refine (big_at ca cl cc w hm).mono ?_
    rintro e w' ⟨rfl, rfl⟩
    rw [hd]
    go_wp2
    go_ret
    exact ⟨rfl, Below.refl _ _⟩
  · have hd : decide (1048576 < (cl : Int)) = false := by simp; omega
    go_enter Tryd.func4, Tryd.ntmps4
    go_wp2_with fail
    refine (big_at ca cl cc w hm).mono ?_
    rintro e w' ⟨rfl, rfl⟩
    rw [hd]
    clear hd hbig
    go_wp2_with fail
    refine drawFmt_get ca cl cc w hm hr ?_
    intro n w1 hn hb1
    obtain ⟨n0, n1⟩ := i64_bounds hn
    clear hn
    have HP1 := Lib.hid (HP.out.below hb1 hlt)
    have HS1 := Lib.hid (HS.out.below hb1 h3 h4)
    have HB1 := Lib.hid hb1; clear hb1
    have hlt1 := HP1.out.lt
    have hs1 : w.heap.size ≤ w1.heap.size := HB1.out.size
    go_wp2_with fail
    refine (fmt_impl n n0 n1 w1 HP1.out).mono ?_
    rintro e w2 ⟨rfl, hb2⟩
    have HP2 := Lib.hid (HP1.out.below hb2 hlt1)
    have HS2 := Lib.hid (HS1.out.below hb2 (by omega) (by omega))
    have HB2 := Lib.hid (HB1.out.trans (hb2.mono hs1)); clear hb2 hs1
    have hne : (Lib.itoa n).isEmpty = false := by simpa using itoa_ne_nil n
    by_cases hin : 0 ≤ n ∧ n ≤ 1000000000
    · obtain ⟨i0, i1⟩ := hin
      obtain ⟨m, rfl⟩ := Int.eq_ofNat_of_zero_le i0
      have hpu : PU (Lib.itoa (m : Int)) m := ⟨by omega, Lib.itoa_nonneg m⟩
      have HPU := Lib.hid hpu; clear hpu
      generalize Lib.itoa (m : Int) = tx at *
      go_wp2_with fail
      refine (pu_impl_yes ⟨tx.toArray⟩ m HPU.out w2 HP2.out HS2.out).mono ?_
      rintro e w3 ⟨rfl, hb3⟩
      have HB3 := Lib.hid (HB2.out.trans (hb3.mono HB2.out.size)); clear hb3
      go_wp2
      go_ret
      exact ⟨rfl, HB3.out⟩
    · have hno : ∀ m, ¬ PU (Lib.itoa n) m := fun m h => hin (by have := itoa_pu h; have := h.1; omega)
      have HNO := Lib.hid hno; clear hno
      have hsz := itoa_size n n0 n1
      have HSZ := Lib.hid hsz; clear hsz
      have d0 : n < 0 ∨ 1000000000 < n := by omega
      clear hin
      rcases d0 with d0 | d0
      · have d0' : decide (0 ≤ n) = false := by simp; omega
        go_wp2_with fail
        refine (pu_impl_no ⟨(Lib.itoa n).toArray⟩ HSZ.out HNO.out w2 HP2.out HS2.out).mono ?_
        rintro e w3 ⟨rfl, hb3⟩
        have HB3 := Lib.hid (HB2.out.trans (hb3.mono HB2.out.size)); clear hb3
        go_wp2
        go_ret
        exact ⟨rfl, HB3.out⟩
      · have d0' : decide (n ≤ 1000000000) = false := by simp; omega
        have d1' : decide (0 ≤ n) = true := by simp; omega
        go_wp2_with fail
        refine (pu_impl_no ⟨(Lib.itoa n).toArray⟩ HSZ.out HNO.out w2 HP2.out HS2.out).mono ?_
        rintro e w3 ⟨rfl, hb3⟩
        have HB3 := Lib.hid (HB2.out.trans (hb3.mono HB2.out.size)); clear hb3
        go_wp2
        go_ret
        exact ⟨rfl, HB3.out⟩

/-! ### STEP 1: THE WALK: the Go text returns true, AND WRITES NOTHING THAT WAS THERE: 'Below w.heap.size w w'' (Derived/Below.lean: '.refl', '.alloc', '.drew', '.setCell' at a new block, '.trans'). Open each 'IsRow' by 'rcases' AHEAD of 'go_enter'; part every test ahead of the walk. -/
theorem walk (a0 : Option Addr) (len0 cap0 : Nat) (z0 : List Int) (w : World) (hL : laidMetH Tryd.prog Rows.fnNumbersRow.laid w) (w0 : IsRow .u8 w a0 len0 cap0 z0) :
    Calls Tryd.prog 4 #[.slice a0 len0 cap0] w fun e w' => e = .returned (.bool true) ∧ Below w.heap.size w w' := by
  rw [MakeChecks.laidMetH_plain _ _ _ (by kernel_rfl)] at hL
  have hp := pow10_third hL
  have hlt := hp.lt
  exact numbers a0 len0 cap0 w (rowIn_of w0).1 (rowIn_of w0).2 hp (sent_behind hL) (by omega) (by omega)

/-- The door's own heap meets the condition: closed facts. -/
theorem door_met (os : Os) (args : Array Value) : laidMetH Tryd.prog Rows.fnNumbersRow.laid ((World.doorLaid Tryd.prog 86 os).forCall (fun _ _ => 0) ⟨#[], args, []⟩).memory :=
  laidMetH_of_parts3 (fuel := 8) (laidMet_of_run' 8 (by kernel_rfl) (by kernel_rfl)) (by kernel_rfl) (by kernel_rfl)

/-! ### THE ROW's STEP: WRITTEN OUT: LEAVE IT -/
set_option maxRecDepth 100000 in
theorem lifted (os : Os) (started : os.Started) (H : Type) (enc : TypeId × Value → H) :
    ReturnsInHanded {} Tryd.checked os 4 .any (fun w args => (Rows.fnNumbersSpec.pre enc Tryd.prog Tryd.f4 [] false w args ∧ laidMetH Tryd.prog Rows.fnNumbersRow.laid w) ∧ sizedMet enc Tryd.prog Tryd.f4 (OpenSpec.ofChange Rows.fnNumbersSpec) false w args) (Rows.fnNumbersSpec.post enc Tryd.prog Tryd.f4 false true false false) := by
  refine returnsInHanded_of_change_and (C := Tryd.checked) (X := fun w _ => laidMetH Tryd.prog Rows.fnNumbersRow.laid w) (fun _ _ _ hh h => h.of_heap hh) own started (by kernel_rfl) Tryd.func4
    (ChangeSpec.witness_shaped (enc := enc) (C := Tryd.checked) (os := os) (X := fun w _ => laidMetH Tryd.prog Rows.fnNumbersRow.laid w) false (World.doorLaid Tryd.prog 86 os) #[.slice none 0 0] 8 rfl (World.shaped_of_RefB (by kernel_rfl) (by kernel_rfl)) (by kernel_rfl) (by kernel_rfl) (by kernel_rfl) (door_met os _)) ?_
  intro W base args ds gs before hval0 hW _ _ hL _
  have hval : ∀ (j : Nat) t v, Tryd.f4.params[j]? = some t → args[j]? = some v → Value.okWide Tryd.prog W .any base t v := hval0
  have hW' := hW
  obtain ⟨p, q, hA0, hV, rfl, hfz, hnd⟩ := hW
  have hA : DataW.TrodAll enc Tryd.prog W 0 (fun _ => true) true Tryd.f4.params.toList args.toList ds p := hA0
  rw [Tryd.params4] at hA hval
  obtain ⟨v0, vs0, d0, ds0, p0, q0, hargs, rfl, rfl, h0, r0⟩ := trodAll_cons hA
  obtain ⟨rfl, rfl, rfl⟩ := trodAll_nil r0
  obtain rfl : args = #[v0] := by cases args; simp_all
  obtain ⟨rfl, rfl⟩ := trodVars_none hV
  obtain ⟨a0, len0, cap0, rfl⟩ := okWide_slice Tryd.underlying22 (hval 0 22 v0 rfl rfl)
  have k0 := h0
  have lt0 : ∀ x ∈ p0, x.block < W.heap.size := by obtain ⟨m, hm⟩ := k0; exact DataW.trod_lt m _ _ _ hm
  obtain ⟨z0, w0⟩ : ∃ zs, IsRow .u8 W a0 len0 cap0 zs := by
    obtain ⟨fuel, hf⟩ := h0
    rcases open_ints Tryd.underlying22 Tryd.underlying5 (by kernel_rfl) hf with ⟨hcs, _⟩ | ⟨x, l, c, zs, hcs, _, hl, hm, hz, _, hcell, hwz⟩
    · simp [Value.cells] at hcs
      obtain ⟨rfl, rfl, rfl⟩ := hcs
      exact ⟨[], .inl ⟨rfl, rfl, rfl, rfl⟩⟩
    · simp [Value.cells] at hcs
      obtain ⟨rfl, rfl, rfl⟩ := hcs
      exact ⟨zs, .inr ⟨_, rfl, hl, hm, by simpa using hz, hcell, hwz⟩⟩
  clear hA0 hval0
  refine (walk a0 len0 cap0 z0 W hL w0).mono fun e W' ⟨he, bel⟩ => ?_
  subst he
  exact ⟨_, rfl, _, _, _, [], _, [], hW', trodAll_mk1 (shut_bool Tryd.underlying4 _), (trodAll_cons_mk (Below.trod laidOut (by kernel_rfl) (of_decide_eq_true (by kernel_rfl)) k0 bel lt0) trodAll_mk0), rfl, bel.frame _, fun h => by cases h⟩

theorem over : Rows.fnNumbersRow.holds Tryd.pinned (OpenSpec.ofChange Rows.fnNumbersSpec) :=
  OpenClaim.holds_of_wide 4 Tryd.f4 rfl rfl rfl rfl rfl rfl rfl ⟨rfl, rfl, rfl, rfl, rfl⟩ rfl rfl rfl rfl rfl (by kernel_rfl) Tryd.func4 (by kernel_rfl)
    (of_decide_eq_true (by kernel_rfl)) (by unfold Func.isWrapper; first | (rw [if_pos (by decide +kernel)]; kernel_rfl) | (rw [if_neg (by decide +kernel)]; exact ⟨rfl, rfl⟩))
    (fun os started H enc _ => lifted os started H enc)

theorem row_holds : Rows.FnNumbersSaid := over

/-- ████ THE STATEMENT ████ -/
theorem proved : Rows.FnNumbersCardSaid :=
  Claim7.holds_tied_plain_at .later [] [.data, .data, .data, .sentinel, .sentinel] true (true, "5ab4c72e58f0035ee6c7c6cc86ac4eac72340139f75b194051a78f0d649c7957") true
    row_holds (fun _ h => by cases h) (by kernel_rfl) (fun _ h => by cases h) fnNumbers_row_tie rfl ⟨rfl, rfl⟩ (by kernel_rfl) rfl
    (fun f fn hf hfn => by
      obtain rfl : f = 4 := Option.some.inj ((show Tryd.prog.funcNamed "loop.example/g03305/laws.FnNumbers" = some 4 by kernel_rfl).symm.trans hf) |>.symm
      obtain rfl : fn = Tryd.f4 := (Option.some.inj (Tryd.func4.symm.trans hfn)).symm
      exact ⟨by kernel_rfl, fun j t ht => by
        rw [Tryd.params4] at ht
        have hm : t ∈ [22] := by simpa using Array.mem_of_getElem? ht
        have hall : ([22].all fun u => !Tryd.prog.wantsStandIn u) = true := by kernel_rfl
        exact (show Tryd.prog.wantsStandIn t = false by simpa using List.all_eq_true.1 hall t hm)⟩)
    (by kernel_rfl)
#print axioms proved
end Go.Proofs.YtcagffcmnpakjaaDoor.fnNumbers

/- For every input the Go function laws.FnHexText returns true, and each argument reads afterwards as it read before. Condition: the package-level variables of the Go library that the row lists hold, when the call begins, what the program text lays in them; the card ties this to the text of the pruned copy of the project.
   The frame is the kit's proof skeleton, the walk is mine. -/
import Derived.Test.YtcagffcmnpakjaaDoorCards
import Derived.Test.YtcagffcmnpakjaaDoorTie
import Derived.Test.YtcagffcmnpakjaaDoorDrawEnc
import Derived.Test.YtcagffcmnpakjaaDoorBig
import Derived.Test.YtcagffcmnpakjaaDoorHexImpl
import Derived.Test.YtcagffcmnpakjaaDoorDecImpl
import Derived.Test.YtcagffcmnpakjaaDoorFmtImpl
import Derived.WalkKit
import Derived.LaidMore
import Derived.Stop.Joined
import Derived.SevenTiedAt
import Derived.MakeChecks
import Derived.ProofKit
import Derived.OpenShut
import Derived.ShutString
import Derived.ChangeOld
import Derived.Below
namespace Go.Proofs.YtcagffcmnpakjaaDoor.fnHexText
open Go.ChangeShapes Go.WideShapes Go.ChangeAt Go.RowKit
open Go.ChangeMaps (open_string shut_string)
set_option linter.unusedVariables false

theorem own : ownKnob Tryd.prog.godebug = none := by kernel_rfl
theorem laidOut : laidOutB Tryd.prog = true := by kernel_rfl

/-- WHAT THE WALK IS TOLD OF A SLICE OF INTEGERS THAT CAME IN: it is nil; or it leads to a row of 'cap' cells, the numbers 'zs' (the first 'len' are its elements, the rest its spare room), each fitting its kind. -/
def IsRow (k : IntKind) (w : World) (a : Option Addr) (len cap : Nat) (zs : List Int) : Prop :=
  (a = none ∧ len = 0 ∧ cap = 0 ∧ zs = []) ∨
  ∃ x, a = some x ∧ len ≤ cap ∧ cap ≤ maxLen ∧ zs.length = cap ∧ (∀ i, i < zs.length → w.cell? (x.add i) = some (.int k (zs.getD i 0))) ∧ ∀ n ∈ zs, (Lit.int k n).wf = true

open Go.Proofs.YtcagffcmnpakjaaDoor.Draw Go.Proofs.YtcagffcmnpakjaaDoor.Bytes Go.Proofs.YtcagffcmnpakjaaDoor.Laid

theorem val_dig_all : ∀ x : Fin 16, valI ((digU x.val).toNat : Int) = (x.val : Int) := by decide +kernel
theorem val_dig (x : Nat) (h : x < 16) : valI ((digU x).toNat : Int) = (x : Int) := val_dig_all ⟨x, h⟩

theorem hexL_get : ∀ (l : List UInt8) (j : Nat) (h : j < l.length), (hexL l).getD (2 * j) 0 = digU (l[j].toNat / 16) ∧ (hexL l).getD (2 * j + 1) 0 = digU (l[j].toNat % 16)
  | c :: r, 0, _ => by simp [hexL]
  | c :: r, j + 1, h => by
    have hj : j < r.length := by simpa using h
    have ih := hexL_get r j hj
    have e : hexL (c :: r) = digU (c.toNat / 16) :: digU (c.toNat % 16) :: hexL r := by simp [hexL]
    rw [e, show 2 * (j + 1) = 2 * j + 1 + 1 from by omega]
    simpa using ih

theorem hex_vals (l : List UInt8) (j : Nat) (h : j < l.length) : valI (bt ⟨(hexL l).toArray⟩ (2 * j)) = ((l[j].toNat / 16 : Nat) : Int) ∧ valI (bt ⟨(hexL l).toArray⟩ (2 * j + 1)) = ((l[j].toNat % 16 : Nat) : Int) := by
  obtain ⟨h1, h2⟩ := hexL_get l j h
  have hb := l[j].toNat_lt
  unfold bt
  constructor
  · show valI (((hexL l).getD (2 * j) 0).toNat : Int) = _
    rw [h1]; exact val_dig _ (by omega)
  · show valI (((hexL l).getD (2 * j + 1) 0).toNat : Int) = _
    rw [h2]; exact val_dig _ (by omega)

theorem hex_good (l : List UInt8) (j : Nat) (h : j < l.length) : good ⟨(hexL l).toArray⟩ j := by
  obtain ⟨h1, h2⟩ := hex_vals l j h
  unfold good
  rw [h1, h2]; omega

theorem hex_outs (l : List UInt8) : outs ⟨(hexL l).toArray⟩ l.length = l := by
  unfold outs
  apply List.ext_getElem
  · simp
  · intro i h1 h2
    obtain ⟨v1, v2⟩ := hex_vals l i h2
    have hb := l[i].toNat_lt
    simp only [List.getElem_map, List.getElem_range]
    unfold pairI
    rw [v1, v2]
    have e : (16 * ((l[i].toNat / 16 : Nat) : Int) + ((l[i].toNat % 16 : Nat) : Int)).toNat = l[i].toNat := by omega
    rw [e]; simp

theorem ten : Lib.itoa 10 = [49, 48] := by
  unfold Lib.itoa
  rw [if_neg (by omega)]
  show Lib.decDigits 10 = _
  rw [Lib.decDigits_two (by omega) (by omega)]; rfl

theorem hexText (ca : Option Addr) (cl cc : Nat) (w : World) (hm : cl ≤ maxLen) (hr : RowIn w ca cl) (hp : Pow10 w) :
    Calls Tryd.prog 3 #[.slice ca cl cc] w fun e w' => e = .returned (.bool true) ∧ Below w.heap.size w w' := by
  have hlt := hp.lt
  have HP := Lib.hid hp; clear hp
  by_cases hbig : 1048576 < cl
  · have hd : decide (1048576 < (cl : Int)) = true := by simp; omega
    go_enter Tryd.func3, Tryd.ntmps3
    go_wp2_with fail
    refine (big_at ca cl cc w hm).mono ?_
    rintro e w' ⟨rfl, rfl⟩
    rw [hd]
    go_wp2
    go_ret
    exact ⟨rfl, Below.refl _ _⟩
  · have hd : decide (1048576 < (cl : Int)) = false := by simp; omega
    go_enter Tryd.func3, Tryd.ntmps3
    go_wp2_with fail
    refine (big_at ca cl cc w hm).mono ?_
    rintro e w' ⟨rfl, rfl⟩
    rw [hd]
    clear hd hbig
    go_wp2_with fail
    refine drawEnc_get ca cl cc w hm hr ?_
    intro s w1 hs hb1
    have HP1 := Lib.hid (HP.out.below hb1 hlt)
    have HB1 := Lib.hid hb1; clear hb1
    have hlt1 := HP1.out.lt
    by_cases hlong : 20000 < s.size
    · go_wp2_with fail
      refine (enc_impl_long s w1 hlong (by unfold maxLen; omega)).mono ?_
      rintro e w2 ⟨rfl, rfl⟩
      go_wp2_with fail
      refine (fmt_impl 10 (by omega) (by omega) w1 HP1.out).mono ?_
      rintro e w2 ⟨rfl, hb2⟩
      have HB2 := Lib.hid (HB1.out.trans (hb2.mono HB1.out.size)); clear hb2
      rw [ten]
      go_wp2
      go_ret
      exact ⟨rfl, HB2.out⟩
    · have hshort : s.size ≤ 20000 := by omega
      have hsl : s.data.toList.length = s.size := by simp
      have hhs : (⟨(hexL s.data.toList).toArray⟩ : ByteArray).size = 2 * s.size := by
        show (hexL s.data.toList).toArray.size = _
        simp only [List.size_toArray, hexL_length, hsl]
      have HHS := Lib.hid hhs; clear hhs
      have hout := hex_outs s.data.toList
      rw [hsl] at hout
      have HOUT := Lib.hid hout; clear hout
      have hgd : ∀ j, j < s.size → good ⟨(hexL s.data.toList).toArray⟩ j := fun j hj => hex_good _ j (by rw [hsl]; exact hj)
      have HGD := Lib.hid hgd; clear hgd hsl
      go_wp2_with fail
      refine (enc_impl s w1 hshort).mono ?_
      rintro e w2 ⟨rfl, hb2⟩
      have HB2 := Lib.hid (HB1.out.trans (hb2.mono HB1.out.size)); clear hb2
      generalize (⟨(hexL s.data.toList).toArray⟩ : ByteArray) = hx at *
      have hle : hx.size ≤ 40000 := by have := HHS.out; omega
      have heq : ((hx.size : Int) == 2 * (s.size : Int)) = true := by have := HHS.out; simp; omega
      go_wp2_with fail
      refine (dec_impl_yes hx w2 hle (by have := HHS.out; omega) s.size HGD.out (by have := HHS.out; omega)).mono ?_
      rintro e w3 ⟨rfl, hb3⟩
      have HB3 := Lib.hid (HB2.out.trans (hb3.mono HB2.out.size)); clear hb3
      rw [HOUT.out]
      have hsm : (⟨s.data.toList.toArray⟩ : ByteArray) = s := rfl
      rw [hsm]; clear hsm
      go_wp2
      go_ret
      exact ⟨rfl, HB3.out⟩

/-! ### STEP 1: THE WALK: the Go text returns true, AND WRITES NOTHING THAT WAS THERE: 'Below w.heap.size w w'' (Derived/Below.lean: '.refl', '.alloc', '.drew', '.setCell' at a new block, '.trans'). Open each 'IsRow' by 'rcases' AHEAD of 'go_enter'; part every test ahead of the walk. -/
theorem walk (a0 : Option Addr) (len0 cap0 : Nat) (z0 : List Int) (w : World) (hL : laidMetH Tryd.prog Rows.fnHexTextRow.laid w) (w0 : IsRow .u8 w a0 len0 cap0 z0) :
    Calls Tryd.prog 3 #[.slice a0 len0 cap0] w fun e w' => e = .returned (.bool true) ∧ Below w.heap.size w w' := by
  rw [MakeChecks.laidMetH_plain _ _ _ (by kernel_rfl)] at hL
  exact hexText a0 len0 cap0 w (rowIn_of w0).1 (rowIn_of w0).2 (pow10_third hL)

/-- The door's own heap meets the condition: closed facts. -/
theorem door_met (os : Os) (args : Array Value) : laidMetH Tryd.prog Rows.fnHexTextRow.laid ((World.doorLaid Tryd.prog 86 os).forCall (fun _ _ => 0) ⟨#[], args, []⟩).memory :=
  laidMetH_of_parts3 (fuel := 8) (laidMet_of_run' 8 (by kernel_rfl) (by kernel_rfl)) (by kernel_rfl) (by kernel_rfl)

/-! ### THE ROW's STEP: WRITTEN OUT: LEAVE IT -/
set_option maxRecDepth 100000 in
theorem lifted (os : Os) (started : os.Started) (H : Type) (enc : TypeId × Value → H) :
    ReturnsInHanded {} Tryd.checked os 3 .any (fun w args => (Rows.fnHexTextSpec.pre enc Tryd.prog Tryd.f3 [] false w args ∧ laidMetH Tryd.prog Rows.fnHexTextRow.laid w) ∧ sizedMet enc Tryd.prog Tryd.f3 (OpenSpec.ofChange Rows.fnHexTextSpec) false w args) (Rows.fnHexTextSpec.post enc Tryd.prog Tryd.f3 false true false false) := by
  refine returnsInHanded_of_change_and (C := Tryd.checked) (X := fun w _ => laidMetH Tryd.prog Rows.fnHexTextRow.laid w) (fun _ _ _ hh h => h.of_heap hh) own started (by kernel_rfl) Tryd.func3
    (ChangeSpec.witness_shaped (enc := enc) (C := Tryd.checked) (os := os) (X := fun w _ => laidMetH Tryd.prog Rows.fnHexTextRow.laid w) false (World.doorLaid Tryd.prog 86 os) #[.slice none 0 0] 8 rfl (World.shaped_of_RefB (by kernel_rfl) (by kernel_rfl)) (by kernel_rfl) (by kernel_rfl) (by kernel_rfl) (door_met os _)) ?_
  intro W base args ds gs before hval0 hW _ _ hL _
  have hval : ∀ (j : Nat) t v, Tryd.f3.params[j]? = some t → args[j]? = some v → Value.okWide Tryd.prog W .any base t v := hval0
  have hW' := hW
  obtain ⟨p, q, hA0, hV, rfl, hfz, hnd⟩ := hW
  have hA : DataW.TrodAll enc Tryd.prog W 0 (fun _ => true) true Tryd.f3.params.toList args.toList ds p := hA0
  rw [Tryd.params3] at hA hval
  obtain ⟨v0, vs0, d0, ds0, p0, q0, hargs, rfl, rfl, h0, r0⟩ := trodAll_cons hA
  obtain ⟨rfl, rfl, rfl⟩ := trodAll_nil r0
  obtain rfl : args = #[v0] := by cases args; simp_all
  obtain ⟨rfl, rfl⟩ := trodVars_none hV
  obtain ⟨a0, len0, cap0, rfl⟩ := okWide_slice Tryd.underlying22 (hval 0 22 v0 rfl rfl)
  have k0 := h0
  have lt0 : ∀ x ∈ p0, x.block < W.heap.size := by obtain ⟨m, hm⟩ := k0; exact DataW.trod_lt m _ _ _ hm
  obtain ⟨z0, w0⟩ : ∃ zs, IsRow .u8 W a0 len0 cap0 zs := by
    obtain ⟨fuel, hf⟩ := h0
    rcases open_ints Tryd.underlying22 Tryd.underlying5 (by kernel_rfl) hf with ⟨hcs, _⟩ | ⟨x, l, c, zs, hcs, _, hl, hm, hz, _, hcell, hwz⟩
    · simp [Value.cells] at hcs
      obtain ⟨rfl, rfl, rfl⟩ := hcs
      exact ⟨[], .inl ⟨rfl, rfl, rfl, rfl⟩⟩
    · simp [Value.cells] at hcs
      obtain ⟨rfl, rfl, rfl⟩ := hcs
      exact ⟨zs, .inr ⟨_, rfl, hl, hm, by simpa using hz, hcell, hwz⟩⟩
  clear hA0 hval0
  refine (walk a0 len0 cap0 z0 W hL w0).mono fun e W' ⟨he, bel⟩ => ?_
  subst he
  exact ⟨_, rfl, _, _, _, [], _, [], hW', trodAll_mk1 (shut_bool Tryd.underlying4 _), (trodAll_cons_mk (Below.trod laidOut (by kernel_rfl) (of_decide_eq_true (by kernel_rfl)) k0 bel lt0) trodAll_mk0), rfl, bel.frame _, fun h => by cases h⟩

theorem over : Rows.fnHexTextRow.holds Tryd.pinned (OpenSpec.ofChange Rows.fnHexTextSpec) :=
  OpenClaim.holds_of_wide 3 Tryd.f3 rfl rfl rfl rfl rfl rfl rfl ⟨rfl, rfl, rfl, rfl, rfl⟩ rfl rfl rfl rfl rfl (by kernel_rfl) Tryd.func3 (by kernel_rfl)
    (of_decide_eq_true (by kernel_rfl)) (by unfold Func.isWrapper; first | (rw [if_pos (by decide +kernel)]; kernel_rfl) | (rw [if_neg (by decide +kernel)]; exact ⟨rfl, rfl⟩))
    (fun os started H enc _ => lifted os started H enc)

theorem row_holds : Rows.FnHexTextSaid := over

/-- ████ THE STATEMENT ████ -/
theorem proved : Rows.FnHexTextCardSaid :=
  Claim7.holds_tied_plain_at .later [] [.data, .data, .data] true (true, "5ab4c72e58f0035ee6c7c6cc86ac4eac72340139f75b194051a78f0d649c7957") true
    row_holds (fun _ h => by cases h) (by kernel_rfl) (fun _ h => by cases h) fnHexText_row_tie rfl ⟨rfl, rfl⟩ (by kernel_rfl) rfl
    (fun f fn hf hfn => by
      obtain rfl : f = 3 := Option.some.inj ((show Tryd.prog.funcNamed "loop.example/g03305/laws.FnHexText" = some 3 by kernel_rfl).symm.trans hf) |>.symm
      obtain rfl : fn = Tryd.f3 := (Option.some.inj (Tryd.func3.symm.trans hfn)).symm
      exact ⟨by kernel_rfl, fun j t ht => by
        rw [Tryd.params3] at ht
        have hm : t ∈ [22] := by simpa using Array.mem_of_getElem? ht
        have hall : ([22].all fun u => !Tryd.prog.wantsStandIn u) = true := by kernel_rfl
        exact (show Tryd.prog.wantsStandIn t = false by simpa using List.all_eq_true.1 hall t hm)⟩)
    (by kernel_rfl)
#print axioms proved
end Go.Proofs.YtcagffcmnpakjaaDoor.fnHexText

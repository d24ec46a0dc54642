/- For every input the Go function laws.FnExactPutStrip returns true, and each argument reads afterwards as it read before. No condition.
   The frame is the kit's proof skeleton, the walk is mine. -/
import Derived.Test.YtofljefeimmabaaRows
import Derived.Test.YtofljefeimmabaaPutStripLaw
import Derived.Test.YtofljefeimmabaaCardOkLaw
import Derived.Test.YtofljefeimmabaaPutSpec
import Derived.Test.YtofljefeimmabaaCardArg
import Derived.WalkKit
import Derived.ProofKit
import Derived.OpenShut
import Derived.ShutString
import Derived.ChangeOld
import Derived.Below
namespace Go.Proofs.Ytofljefeimmabaa.fnExactPutStrip
open Go.ChangeShapes Go.WideShapes Go.ChangeAt Go.RowKit
open Go.ChangeMaps (open_string shut_string)
set_option linter.unusedVariables false

theorem own : ownKnob Try.prog.godebug = none := by kernel_rfl
theorem laidOut : laidOutB Try.prog = true := by kernel_rfl

/-- WHAT THE WALK IS TOLD OF A SLICE OF INTEGERS THAT CAME IN: it is nil; or it leads to a row of 'cap' cells, the numbers 'zs' (the first 'len' are its elements, the rest its spare room), each fitting its kind. -/
def IsRow (k : IntKind) (w : World) (a : Option Addr) (len cap : Nat) (zs : List Int) : Prop :=
  (a = none ∧ len = 0 ∧ cap = 0 ∧ zs = []) ∨
  ∃ x, a = some x ∧ len ≤ cap ∧ cap ≤ maxLen ∧ zs.length = cap ∧ (∀ i, i < zs.length → w.cell? (x.add i) = some (.int k (zs.getD i 0))) ∧ ∀ n ∈ zs, (Lit.int k n).wf = true

open Go.Proofs.Ytofljefeimmabaa.Strip Go.Proofs.Ytofljefeimmabaa.Strs Go.Proofs.Ytofljefeimmabaa.Card

theorem short_new (d f : Int) (l : List ByteArray) (k : Int) (s : ByteArray) (h : l.length ≤ 1048576) : (putL d f l k s).length ≤ 1048576 := by
  unfold putL
  split
  · rename_i hb
    unfold putB at hb
    simp only [Bool.and_eq_true, decide_eq_true_eq] at hb
    have := (cardB_iff.1 hb.1.1).2.2.1
    rw [putIn_length _ _ _ (by omega)]; omega
  · exact h

set_option maxRecDepth 100000 in
set_option maxHeartbeats 1000000 in
theorem exactLaw (d f : Int) (a : Option Addr) (c : Nat) (l : List ByteArray) (k : Int) (s : ByteArray) (w : World) (hn : l.length ≤ maxLen) (hz : ∀ s ∈ l, s.size ≤ maxLen) (hr : ARow w a l) (hsm : s.size ≤ maxLen) :
    Calls Try.prog 7 #[.agg #[.int .i64 d, .int .i64 f, .slice a l.length c], .int .i64 k, .string s] w fun e w' => e = .returned (.bool true) ∧ Below w.heap.size w w' := by
  unfold maxLen at hsm
  by_cases hbig : 1048576 < s.size
  · clear hz hr
    go_enter Try.func7, Try.ntmps7
    go_wp2
    go_ret
    exact ⟨rfl, alloc_below _ _⟩
  have hs : s.size ≤ 1048576 := by omega
  have HSZ := Lib.hid (fun (w' : World) (hr : ARow w' a l) => sz_card 1048576 (by omega) (by omega) d f a l.length c l w' rfl hn hz hr)
  have HR := Lib.hid hr
  have hnx := hn
  unfold maxLen at hnx
  by_cases hneg : szV 1048576 l < 0
  · rw [sz_big hneg] at HSZ
    clear hr hz hneg
    go_enter Try.func7, Try.ntmps7
    go_wp2_with fail
    refine (HSZ.out _ (HR.out.below (alloc_below _ _))).mono ?_
    rintro e w1 ⟨rfl, hb⟩
    go_wp2
    go_ret
    exact ⟨rfl, (alloc_below w _).trans (hb.mono (by simp))⟩
  · obtain ⟨g1, g2, g3, g4⟩ := szV_ok hneg
    have hlen : l.length ≤ 1048576 := by omega
    have hsizes : ∀ s ∈ l, s.size ≤ 1048576 := fun s hs => by have := g2 s hs; omega
    exact walkPutStrip d f a c l k s d f (putL d f l k s) (putB d f l k s) w hlen hr _ g3 HSZ.out hs (short_new d f l k s hlen)
      (fun w' base a' c' h => put_spec d f base l.length c' a' l k s w' hlen h hsizes hs) (fun w' base a' c' h => put_impl d f base l.length c' a' l k s w' hlen h hsizes hs)

/-! ### STEP 1: THE WALK: the Go text returns true, AND WRITES NOTHING THAT WAS THERE: 'Below w.heap.size w w'' (Derived/Below.lean: '.refl', '.alloc', '.drew', '.setCell' at a new block, '.trans'). Open each 'IsRow' by 'rcases' AHEAD of 'go_enter'; part every test ahead of the walk. -/
theorem walk (x0 y0 : Int) (a0 : Option Addr) (len0 cap0 : Nat) (z0 : List ByteArray) (a1 : Int) (a2 : ByteArray) (w : World) (w0 : IsSRow w a0 len0 z0) (w1 : (Lit.int .i64 a1).wf = true) (w2 : a2.size ≤ maxLen) :
    Calls Try.prog 7 #[.agg #[.int .i64 x0, .int .i64 y0, .slice a0 len0 cap0], .int .i64 a1, .string a2] w fun e w' => e = .returned (.bool true) ∧ Below w.heap.size w w' := by
  obtain ⟨hl, hn, hz, hr⟩ := w0
  subst hl
  exact exactLaw x0 y0 a0 cap0 z0 a1 a2 w hn hz hr w2

/-! ### THE ROW's STEP: WRITTEN OUT: LEAVE IT -/
set_option maxRecDepth 100000 in
theorem lifted (os : Os) (started : os.Started) (H : Type) (enc : TypeId × Value → H) :
    ReturnsInHanded {} Try.checked os 7 .any (Rows.fnExactPutStripSpec.pre6 enc Try.prog Try.f7 Rows.fnExactPutStripRow.domain false) (Rows.fnExactPutStripSpec.post enc Try.prog Try.f7 false true false false) := by
  refine returnsInHanded_of_change (C := Try.checked) own started (by kernel_rfl) Try.func7
    (ChangeSpec.witness6 (enc := enc) (C := Try.checked) false ⟨#[], #[.agg #[.int .i64 0, .int .i64 0, .slice none 0 0], .int .i64 0, .string ByteArray.empty], []⟩ 8 (by kernel_rfl) (by kernel_rfl) (by kernel_rfl) (by kernel_rfl)) ?_
  intro W base args ds gs before hval0 hW hcnd _
  have hval : ∀ (j : Nat) t v, Try.f7.params[j]? = some t → args[j]? = some v → Value.okWide Try.prog W .any base t v := hval0
  have hW' := hW
  obtain ⟨p, q, hA0, hV, rfl, hfz, hnd⟩ := hW
  have hA : DataW.TrodAll enc Try.prog W 0 (fun _ => true) true Try.f7.params.toList args.toList ds p := hA0
  rw [Try.params7] at hA hval
  obtain ⟨v0, vs0, d0, ds0, p0, q0, hargs, rfl, rfl, h0, r0⟩ := trodAll_cons hA
  obtain ⟨v1, vs1, d1, ds1, p1, q1, rfl, rfl, rfl, h1, r1⟩ := trodAll_cons r0
  obtain ⟨v2, vs2, d2, ds2, p2, q2, rfl, rfl, rfl, h2, r2⟩ := trodAll_cons r1
  obtain ⟨rfl, rfl, rfl⟩ := trodAll_nil r2
  obtain rfl : args = #[v0, v1, v2] := by cases args; simp_all
  obtain ⟨rfl, rfl⟩ := trodVars_none hV
  have k0 := h0
  have lt0 : ∀ x ∈ p0, x.block < W.heap.size := by obtain ⟨m, hm⟩ := k0; exact DataW.trod_lt m _ _ _ hm
  obtain ⟨x0, y0, a0, len0, cap0, z0, rfl, w0⟩ := open_card (hval 0 37 v0 rfl rfl) h0
  obtain ⟨a1, rfl, rfl, rfl, w1⟩ := open_int Try.underlying3 (hval 1 3 v1 rfl rfl) h1
  obtain ⟨a2, rfl, rfl, rfl, w2⟩ := open_string Try.underlying9 (hval 2 9 v2 rfl rfl) h2
  clear hA0 hval0
  refine (walk x0 y0 a0 len0 cap0 z0 a1 a2 W w0 w1 w2).mono fun e W' ⟨he, bel⟩ => ?_
  subst he
  exact ⟨_, rfl, _, _, _, [], _, [], hW', trodAll_mk1 (shut_bool Try.underlying4 _), (trodAll_cons_mk (Below.trod laidOut (by kernel_rfl) (of_decide_eq_true (by kernel_rfl)) k0 bel lt0) (trodAll_cons_mk (shut_int Try.underlying3 w1) (trodAll_cons_mk (shut_string Try.underlying9 w2) trodAll_mk0))), rfl, bel.frame _, fun h => by cases h⟩

theorem over : Rows.fnExactPutStripRow.holds Try.pinned (OpenSpec.ofChange Rows.fnExactPutStripSpec) :=
  OpenClaim.holds_of_wide 7 Try.f7 rfl rfl rfl rfl rfl rfl rfl ⟨rfl, rfl, rfl, rfl, rfl⟩ rfl rfl rfl rfl rfl (by kernel_rfl) Try.func7 (by kernel_rfl)
    (of_decide_eq_true (by kernel_rfl)) (by unfold Func.isWrapper; first | (rw [if_pos (by decide +kernel)]; kernel_rfl) | (rw [if_neg (by decide +kernel)]; exact ⟨rfl, rfl⟩))
    (fun os started H enc _ => lifted os started H enc)

/-- ████ THE STATEMENT ████ -/
theorem proved : Rows.FnExactPutStripSaid := over
#print axioms proved
end Go.Proofs.Ytofljefeimmabaa.fnExactPutStrip

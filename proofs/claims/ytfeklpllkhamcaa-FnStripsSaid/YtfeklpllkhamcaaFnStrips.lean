/- For every input the Go function laws.FnStrips returns true, and each argument reads afterwards as it read before. No condition.
   The frame is the kit's proof skeleton, the walk is mine. -/
import Derived.Test.YtfeklpllkhamcaaRows
import Derived.Test.YtfeklpllkhamcaaStripImpl2
import Derived.Test.YtfeklpllkhamcaaStripMany
import Derived.Test.YtfeklpllkhamcaaDrawStrip
import Derived.Test.YtfeklpllkhamcaaAt
import Derived.Test.YtfeklpllkhamcaaBig
import Derived.WalkKit
import Derived.ProofKit
import Derived.OpenShut
import Derived.ShutString
import Derived.ChangeOld
import Derived.Below
namespace Go.Proofs.Ytfeklpllkhamcaa.fnStrips
open Go.ChangeShapes Go.WideShapes Go.ChangeAt Go.RowKit
open Go.ChangeMaps (open_string shut_string)
set_option linter.unusedVariables false

theorem own : ownKnob Try.prog.godebug = none := by kernel_rfl
theorem laidOut : laidOutB Try.prog = true := by kernel_rfl

/-- WHAT THE WALK IS TOLD OF A SLICE OF INTEGERS THAT CAME IN: it is nil; or it leads to a row of 'cap' cells, the numbers 'zs' (the first 'len' are its elements, the rest its spare room), each fitting its kind. -/
def IsRow (k : IntKind) (w : World) (a : Option Addr) (len cap : Nat) (zs : List Int) : Prop :=
  (a = none ∧ len = 0 ∧ cap = 0 ∧ zs = []) ∨
  ∃ x, a = some x ∧ len ≤ cap ∧ cap ≤ maxLen ∧ zs.length = cap ∧ (∀ i, i < zs.length → w.cell? (x.add i) = some (.int k (zs.getD i 0))) ∧ ∀ n ∈ zs, (Lit.int k n).wf = true

open Go.Proofs.Ytfeklpllkhamcaa.Draw Go.Proofs.Ytfeklpllkhamcaa.Strip

theorem cnt_take_le (x : UInt8) (l : List UInt8) (k : Nat) : cnt x (l.take k) ≤ cnt x l := by
  unfold cnt; exact (List.take_sublist k l).count_le x

theorem cnt_rep (x y : UInt8) (n : Nat) : cnt x (List.replicate n y) = if y = x then n else 0 := by
  unfold cnt
  rw [List.count_replicate]
  simp

theorem okL_rep (n : Nat) (y : UInt8) (h : (y == 100 || y == 102) = true) : okL (List.replicate n y) = true := by
  unfold okL
  rw [List.all_eq_true]
  intro x hx
  rw [List.eq_of_mem_replicate hx]; exact h

theorem okL_app (a b : List UInt8) (ha : okL a = true) (hb : okL b = true) : okL (a ++ b) = true := by
  unfold okL at *; rw [List.all_append, ha, hb]; rfl

theorem cnt_app (x : UInt8) (a b : List UInt8) : cnt x (a ++ b) = cnt x a + cnt x b := by unfold cnt; exact List.count_append

theorem flat_facts (d f : Nat) (h : frameB d f = true) : okL (flatL d f) = true ∧ cnt 100 (flatL d f) = d ∧ cnt 102 (flatL d f) = f := by
  unfold flatL
  rw [if_pos h]
  refine ⟨okL_app _ _ (okL_rep _ _ rfl) (okL_rep _ _ rfl), ?_, ?_⟩
  · rw [cnt_app, cnt_rep, cnt_rep, if_pos rfl, if_neg (by decide)]; simp
  · rw [cnt_app, cnt_rep, cnt_rep, if_neg (by decide), if_pos rfl]; simp

theorem high_facts (d f : Nat) (h : frameB d f = true) : okL (highL d f) = true ∧ cnt 100 (highL d f) = d ∧ cnt 102 (highL d f) = f := by
  unfold highL
  rw [if_pos h]
  refine ⟨okL_app _ _ (okL_rep _ _ rfl) (okL_rep _ _ rfl), ?_, ?_⟩
  · rw [cnt_app, cnt_rep, cnt_rep, if_neg (by decide), if_pos rfl]; simp
  · rw [cnt_app, cnt_rep, cnt_rep, if_pos rfl, if_neg (by decide)]; simp

theorem flat_head (d f : Nat) (h : frameB d f = true) : ∃ r, flatL d f = 100 :: r := by
  have hq := frameB_iff.mp h
  obtain ⟨n, rfl⟩ : ∃ n, d = n + 1 := ⟨d - 1, by omega⟩
  unfold flatL
  rw [if_pos h]
  exact ⟨_, by simp [List.replicate_succ]; rfl⟩

theorem high_head (d f : Nat) (h : frameB d f = true) : ∃ r, highL d f = 102 :: r := by
  have hq := frameB_iff.mp h
  obtain ⟨n, rfl⟩ : ∃ n, f = n + 1 := ⟨f - 1, by omega⟩
  unfold highL
  rw [if_pos h]
  exact ⟨_, by simp [List.replicate_succ]; rfl⟩

/-- A text with d letters d and f letters f, that fit a frame, and its first letter. -/
structure Shape (t : ByteArray) (d f : Nat) : Prop where
  ok : okL t.data.toList = true
  down : cnt 100 t.data.toList = d
  forward : cnt 102 t.data.toList = f

theorem Shape.size {t : ByteArray} {d f : Nat} (h : Shape t d f) : t.size = d + f := by
  have := cnt_sum _ h.ok
  rw [h.down, h.forward] at this
  rw [this]; simp

theorem Shape.strip {t : ByteArray} {d f : Nat} (h : Shape t d f) (hf : frameB d f = true) : stripB t.data.toList = true := by
  unfold stripB; rw [h.ok, h.down, h.forward, hf]; rfl

theorem Shape.same {t u : ByteArray} {d f : Nat} (h : Shape t d f) (g : Shape u d f) (hf : frameB d f = true) : sameB t.data.toList u.data.toList = true := by
  unfold sameB; rw [h.strip hf, g.strip hf, h.down, h.forward, g.down, g.forward]; simp

set_option maxRecDepth 100000 in
set_option maxHeartbeats 4000000 in
theorem strips (ca : Option Addr) (cl cc : Nat) (w : World) (hm : cl ≤ maxLen) (hr : RowIn w ca cl) :
    Calls Try.prog 3 #[.slice ca cl cc] w fun e w' => e = .returned (.bool true) ∧ Below w.heap.size w w' := by
  by_cases hbig : 1048576 < cl
  · have hd : decide (1048576 < (cl : Int)) = true := by simp; omega
    go_enter Try.func3, Try.ntmps3
    go_wp2_with fail
    refine (big_at ca cl cc w hm).mono ?_
    rintro e w' ⟨rfl, rfl⟩
    rw [hd]
    go_wp2
    go_ret
    exact ⟨rfl, Below.refl _ _⟩
  · have hd : decide (1048576 < (cl : Int)) = false := by simp; omega
    go_enter Try.func3, Try.ntmps3
    go_wp2_with fail
    refine (big_at ca cl cc w hm).mono ?_
    rintro e w' ⟨rfl, rfl⟩
    rw [hd]
    clear hd hbig
    go_wp2_with fail
    refine drawStrip_get ca cl cc w hm hr ?_
    intro l w1 hok h1 h2 h3 h4 hb1
    have HR1 := Lib.hid (hr.below hb1 (Nat.le_refl _))
    have HB1 := Lib.hid hb1; clear hb1 hr
    obtain ⟨d, hd⟩ : ∃ d, cnt 100 l = d := ⟨_, rfl⟩
    obtain ⟨f, hf⟩ : ∃ f, cnt 102 l = f := ⟨_, rfl⟩
    obtain ⟨s, hs⟩ : ∃ s : ByteArray, (⟨l.toArray⟩ : ByteArray) = s := ⟨_, rfl⟩
    have hsl : s.data.toList = l := by rw [← hs]
    rw [hs]
    rw [hd] at h1 h2
    rw [hf] at h3 h4
    have SH := Lib.hid (show Shape s d f from ⟨by rw [hsl]; exact hok, by rw [hsl]; exact hd, by rw [hsl]; exact hf⟩)
    clear hok hd hf hs hsl
    have hfr : frameB d f = true := frameB_iff.mpr ⟨by omega, by omega, by omega, by omega⟩
    have hst := SH.out.strip hfr
    have hsz : s.size = d + f := SH.out.size
    have hsm : s.size ≤ 1048576 := by omega
    have nd : numV 100 s.data.toList = d := by unfold numV; rw [if_pos hst, SH.out.down]
    have nf : numV 102 s.data.toList = f := by unfold numV; rw [if_pos hst, SH.out.forward]
    have HFR := Lib.hid hfr; clear hfr
    have HST := Lib.hid hst; clear hst
    have ND := Lib.hid nd; clear nd
    have NF := Lib.hid nf; clear nf
    go_wp2_with fail
    refine (down_impl s _ hsm).mono ?_
    rintro e w2 ⟨rfl, hb⟩
    have HB2 := Lib.hid (HB1.out.trans (hb.mono HB1.out.size))
    have HR2 := Lib.hid (HR1.out.below hb (Nat.le_refl _)); clear hb
    rw [ND.out]
    go_wp2_with fail
    refine (forward_impl s _ hsm).mono ?_
    rintro e w3 ⟨rfl, hb⟩
    have HB3 := Lib.hid (HB2.out.trans (hb.mono HB2.out.size))
    have HR3 := Lib.hid (HR2.out.below hb (Nat.le_refl _)); clear hb
    rw [NF.out]
    go_wp2_with fail
    refine (at_any ca cl cc 0 (by omega) _ hm HR3.out).mono ?_
    rintro e w4 ⟨⟨n, hn0, hn1, rfl⟩, hb⟩
    have HB4 := Lib.hid (HB3.out.trans (hb.mono HB3.out.size)); clear hb
    obtain ⟨k, hk⟩ : ∃ k : Nat, (k : Int) = n % ((d : Int) + (f : Int) + 1) := ⟨(n % ((d : Int) + (f : Int) + 1)).toNat, by
      have := Int.emod_nonneg n (show (d : Int) + (f : Int) + 1 ≠ 0 by omega)
      omega⟩
    have hkl : k ≤ d + f := by
      have := Int.emod_lt_of_pos n (show (0 : Int) < (d : Int) + (f : Int) + 1 by omega)
      omega
    have hlen : s.data.toList.length = d + f := by rw [← hsz]; simp
    obtain ⟨x, hx⟩ : ∃ x : Nat, cnt 102 (s.data.toList.take k) = x := ⟨_, rfl⟩
    obtain ⟨y, hy⟩ : ∃ y : Nat, cnt 100 (s.data.toList.take k) = y := ⟨_, rfl⟩
    have hxf : (x : Int) ≤ (f : Int) := by
      have := cnt_take_le 102 s.data.toList k
      rw [hx, SH.out.forward] at this; omega
    have hyd : (y : Int) ≤ (d : Int) := by
      have := cnt_take_le 100 s.data.toList k
      rw [hy, SH.out.down] at this; omega
    have hxy : ((x : Int) + (y : Int) == (k : Int)) = true := by
      have := cnt_sum _ (okL_take _ k SH.out.ok)
      rw [hx, hy, List.length_take, hlen] at this
      simp; omega
    have hat : atV s.data.toList (k : Int) = .tuple #[.int .i64 x, .int .i64 y, .bool true] := by
      unfold atV
      rw [if_pos ⟨HST.out, by omega, by rw [hlen]; omega⟩]
      rw [show (k : Int).toNat = k from rfl, hx, hy]
    have HAT := Lib.hid hat; clear hat
    have HK := Lib.hid hk; clear hk
    clear hx hy hlen
    obtain ⟨r, hr⟩ := flat_head d f HFR.out
    obtain ⟨q, hq⟩ := high_head d f HFR.out
    obtain ⟨a, ha⟩ : ∃ a : ByteArray, (⟨(flatL d f).toArray⟩ : ByteArray) = a := ⟨_, rfl⟩
    obtain ⟨b, hb⟩ : ∃ b : ByteArray, (⟨(highL d f).toArray⟩ : ByteArray) = b := ⟨_, rfl⟩
    have SA := Lib.hid (show Shape a d f from by have h := flat_facts d f HFR.out; rw [← ha]; exact ⟨h.1, h.2.1, h.2.2⟩)
    have SB := Lib.hid (show Shape b d f from by have h := high_facts d f HFR.out; rw [← hb]; exact ⟨h.1, h.2.1, h.2.2⟩)
    have haz : a.size = d + f := SA.out.size
    have hbz : b.size = d + f := SB.out.size
    have ham : a.size ≤ 1048576 := by omega
    have hbm : b.size ≤ 1048576 := by omega
    have ha0 : ∀ h : 0 < a.size, ((a[0]'h).toNat : Int) = 100 := by
      rw [hr] at ha; subst ha; intro h; rfl
    have hb0 : ∀ h : 0 < b.size, ((b[0]'h).toNat : Int) = 102 := by
      rw [hq] at hb; subst hb; intro h; rfl
    have HA := Lib.hid ha; clear ha
    have HBH := Lib.hid hb; clear hb
    clear hr hq
    go_wp2_with fail
    rw [← HK.out]
    refine (at_impl s _ _ hsm).mono ?_
    rintro e w5 ⟨rfl, hb⟩
    have HB5 := Lib.hid (HB4.out.trans (hb.mono HB4.out.size)); clear hb
    rw [HAT.out]
    go_wp2_with fail
    refine (flat_impl d f _).mono ?_
    rintro e w6 ⟨rfl, hb⟩
    have HB6 := Lib.hid (HB5.out.trans (hb.mono HB5.out.size)); clear hb
    rw [HA.out]
    go_wp2_with fail
    refine (high_impl d f _).mono ?_
    rintro e w7 ⟨rfl, hb⟩
    have HB7 := Lib.hid (HB6.out.trans (hb.mono HB6.out.size)); clear hb
    rw [HBH.out]
    go_wp2_with fail
    refine (is_impl s _ hsm).mono ?_
    rintro e w8 ⟨rfl, hb⟩
    have HB8 := Lib.hid (HB7.out.trans (hb.mono HB7.out.size)); clear hb
    rw [HST.out]
    go_wp2_with fail
    refine (same_impl s a _ hsm ham).mono ?_
    rintro e w9 ⟨rfl, hb⟩
    have HB9 := Lib.hid (HB8.out.trans (hb.mono HB8.out.size)); clear hb
    rw [SH.out.same SA.out HFR.out]
    go_wp2_with fail
    refine (same_impl a b _ ham hbm).mono ?_
    rintro e w10 ⟨rfl, hb⟩
    have HB10 := Lib.hid (HB9.out.trans (hb.mono HB9.out.size)); clear hb
    rw [SA.out.same SB.out HFR.out]
    have ha0' := ha0 (by omega)
    have hb0' := hb0 (by omega)
    clear ha0 hb0
    go_wp2_with fail
    refine (flat_impl 2 3 _).mono ?_
    rintro e w11 ⟨rfl, hb⟩
    have HB11 := Lib.hid (HB10.out.trans (hb.mono HB10.out.size)); clear hb
    rw [show flatL 2 3 = [100, 100, 102, 102, 102] from by decide]
    go_wp2
    go_ret
    exact ⟨rfl, HB11.out⟩
--BELOW

/-! ### STEP 1: THE WALK: the Go text returns true, AND WRITES NOTHING THAT WAS THERE: 'Below w.heap.size w w'' (Derived/Below.lean: '.refl', '.alloc', '.drew', '.setCell' at a new block, '.trans'). Open each 'IsRow' by 'rcases' AHEAD of 'go_enter'; part every test ahead of the walk. -/
theorem walk (a0 : Option Addr) (len0 cap0 : Nat) (z0 : List Int) (w : World) (w0 : IsRow .u8 w a0 len0 cap0 z0) :
    Calls Try.prog 3 #[.slice a0 len0 cap0] w fun e w' => e = .returned (.bool true) ∧ Below w.heap.size w w' := by
  exact strips a0 len0 cap0 w (rowIn_of w0).1 (rowIn_of w0).2

/-! ### THE ROW's STEP: WRITTEN OUT: LEAVE IT -/
set_option maxRecDepth 100000 in
theorem lifted (os : Os) (started : os.Started) (H : Type) (enc : TypeId × Value → H) :
    ReturnsInHanded {} Try.checked os 3 .any (Rows.fnStripsSpec.pre6 enc Try.prog Try.f3 Rows.fnStripsRow.domain false) (Rows.fnStripsSpec.post enc Try.prog Try.f3 false true false false) := by
  refine returnsInHanded_of_change (C := Try.checked) own started (by kernel_rfl) Try.func3
    (ChangeSpec.witness6 (enc := enc) (C := Try.checked) false ⟨#[], #[.slice none 0 0], []⟩ 8 (by kernel_rfl) (by kernel_rfl) (by kernel_rfl) (by kernel_rfl)) ?_
  intro W base args ds gs before hval0 hW hcnd _
  have hval : ∀ (j : Nat) t v, Try.f3.params[j]? = some t → args[j]? = some v → Value.okWide Try.prog W .any base t v := hval0
  have hW' := hW
  obtain ⟨p, q, hA0, hV, rfl, hfz, hnd⟩ := hW
  have hA : DataW.TrodAll enc Try.prog W 0 (fun _ => true) true Try.f3.params.toList args.toList ds p := hA0
  rw [Try.params3] at hA hval
  obtain ⟨v0, vs0, d0, ds0, p0, q0, hargs, rfl, rfl, h0, r0⟩ := trodAll_cons hA
  obtain ⟨rfl, rfl, rfl⟩ := trodAll_nil r0
  obtain rfl : args = #[v0] := by cases args; simp_all
  obtain ⟨rfl, rfl⟩ := trodVars_none hV
  obtain ⟨a0, len0, cap0, rfl⟩ := okWide_slice Try.underlying22 (hval 0 22 v0 rfl rfl)
  have k0 := h0
  have lt0 : ∀ x ∈ p0, x.block < W.heap.size := by obtain ⟨m, hm⟩ := k0; exact DataW.trod_lt m _ _ _ hm
  obtain ⟨z0, w0⟩ : ∃ zs, IsRow .u8 W a0 len0 cap0 zs := by
    obtain ⟨fuel, hf⟩ := h0
    rcases open_ints Try.underlying22 Try.underlying5 (by kernel_rfl) hf with ⟨hcs, _⟩ | ⟨x, l, c, zs, hcs, _, hl, hm, hz, _, hcell, hwz⟩
    · simp [Value.cells] at hcs
      obtain ⟨rfl, rfl, rfl⟩ := hcs
      exact ⟨[], .inl ⟨rfl, rfl, rfl, rfl⟩⟩
    · simp [Value.cells] at hcs
      obtain ⟨rfl, rfl, rfl⟩ := hcs
      exact ⟨zs, .inr ⟨_, rfl, hl, hm, by simpa using hz, hcell, hwz⟩⟩
  clear hA0 hval0
  refine (walk a0 len0 cap0 z0 W w0).mono fun e W' ⟨he, bel⟩ => ?_
  subst he
  exact ⟨_, rfl, _, _, _, [], _, [], hW', trodAll_mk1 (shut_bool Try.underlying4 _), (trodAll_cons_mk (Below.trod laidOut (by kernel_rfl) (of_decide_eq_true (by kernel_rfl)) k0 bel lt0) trodAll_mk0), rfl, bel.frame _, fun h => by cases h⟩

theorem over : Rows.fnStripsRow.holds Try.pinned (OpenSpec.ofChange Rows.fnStripsSpec) :=
  OpenClaim.holds_of_wide 3 Try.f3 rfl rfl rfl rfl rfl rfl rfl ⟨rfl, rfl, rfl, rfl, rfl⟩ rfl rfl rfl rfl rfl (by kernel_rfl) Try.func3 (by kernel_rfl)
    (of_decide_eq_true (by kernel_rfl)) (by unfold Func.isWrapper; first | (rw [if_pos (by decide +kernel)]; kernel_rfl) | (rw [if_neg (by decide +kernel)]; exact ⟨rfl, rfl⟩))
    (fun os started H enc _ => lifted os started H enc)

/-- ████ THE STATEMENT ████ -/
theorem proved : Rows.FnStripsSaid := over
#print axioms proved
end Go.Proofs.Ytfeklpllkhamcaa.fnStrips

/- append onto a row of strings of one's own, out of any row, empty ones too. -/
import Derived.Test.YtfhpbgmnekhfeaaSRow
import Derived.Lib.AppendZeros
import Derived.Deep.AppendLies
import Derived.Deep.Upon
import Derived.Deep.RegionLaw
namespace Go.Proofs.Ytfhpbgmnekhfeaa.Strs
open Go.ChangeShapes Go.WideShapes Go.ChangeAt Go.RowKit
set_option linter.unusedVariables false

/-- What append leaves. -/
def Appended (w : World) (base g0 n0 c0 : Nat) (xs ms : List ByteArray) (sp : Option Addr) (m c n1 : Nat) : Prop :=
  ∃ g cap w', (∀ ty, (Builtin.append_ #[24, 24] ty #[.slice (some ⟨g0, 0, none⟩) n0 c0, .slice sp m c]).run Try.prog w = .ok (.slice (some ⟨g, 0, none⟩) n1 cap) w') ∧
    Own w' base (.slice (some ⟨g, 0, none⟩) n1 cap) (xs ++ ms) ∧ w.grownBy w' (some g0) ∧ (g = g0 ∨ g = w.heap.size)

theorem append_any {w : World} {base g0 n0 c0 n1 : Nat} {xs ms : List ByteArray} {sp : Option Addr} {m c : Nat} (hn1 : n0 + m = n1) (ho : Own w base (.slice (some ⟨g0, 0, none⟩) n0 c0) xs) (hm : ms.length = m)
    (hsrc : ∀ ad, sp = some ad → ∀ j u, (scells ms)[j]? = some u → w.cell? (ad.add j) = some u) (hnil : sp = none → m = 0) (hbd : n0 + m ≤ 2097152) (hbase : base ≤ w.heap.size) : Appended w base g0 n0 c0 xs ms sp m c n1 := by
  subst hn1
  obtain ⟨i0, hi, hz0, hz1, hz2⟩ := info_parts info_str16
  have hx := ho.row2.1
  by_cases h0 : m = 0
  · subst h0
    have hms := List.eq_nil_of_length_eq_zero hm
    subst hms
    have hle : n0 ≤ c0 := by
      obtain ⟨_, h1 | ⟨g', cap', cur, e, _, _, hnc, _⟩⟩ := ho
      · cases h1.1
      · cases e; exact hx ▸ hnc
    refine ⟨g0, c0, w, fun ty => ?_, by simpa using ho, World.grownBy.refl _ _, .inl rfl⟩
    rw [Nat.add_zero]
    refine run_append_nothing w _ _ ty 9 i0 Try.underlying24 hi (some ⟨g0, 0, none⟩) n0 c0 hle (.slice sp 0 c) ?_
    cases sp with
    | none => exact Src.ofNil w Try.underlying24 c
    | some ad => exact Src.ofSlice w Try.underlying24 ad 0 c [] (by simp) (fun j u hj => by simp at hj) (fun u hu => by simp at hu)
  · cases sp with
    | none => exact absurd (hnil rfl) h0
    | some ad =>
      unfold Own at ho
      rw [← hx] at ho
      have h1 := fun ty => run_append_lies (P := Try.prog) w 24 ty base 9 i0 _ 1 16 Try.underlying24 hi hz0 hz1 hz2 rfl (by omega) _ n0 (scells xs) ho ad m c (scells ms) (by rw [scells_length, hm, Nat.mul_one]) (hsrc ad rfl) (scells_one ms) (by omega) (by unfold maxLen; omega) (by omega) hbase w.heap.size rfl
      obtain ⟨g, cap, w', hr, hown, hg, hat, _⟩ := h1 0
      refine ⟨g, cap, w', fun ty => ?_, ?_, hg, ?_⟩
      · rw [← hr]; rfl
      · unfold Own
        rw [scells_append, List.length_append, ← hx, hm]
        exact hown
      · rcases hat with h | h
        · left; simpa [Value.ownBlock] using h.symm
        · exact .inr h

/-- One string more, onto a row of one's own, the nil slice too. -/
theorem push_own {w : World} {base k c b : Nat} {a : Option Addr} {l : List ByteArray} {s : ByteArray} (ho : Own w base (.slice a k c) l) (hv : w.heap[b]? = some (.cells #[.string s] 9 (0, 0))) (hbd : k ≤ 2097151) (hbase : base ≤ w.heap.size) :
    ∃ g cap w', (∀ ty, (Builtin.append_ #[24, 24] ty #[.slice a k c, .slice (some ⟨b, 0, none⟩) 1 1]).run Try.prog w = .ok (.slice (some ⟨g, 0, none⟩) (k + 1) cap) w') ∧
      Own w' base (.slice (some ⟨g, 0, none⟩) (k + 1) cap) (l ++ [s]) ∧ w.grownBy w' (Value.slice a k c).ownBlock := by
  obtain ⟨i0, hi, hz0, hz1, hz2⟩ := info_parts info_str16
  have hx := ho.row2.1
  unfold Own at ho
  rw [← hx] at ho
  have h1 := fun ty => run_append_lies (P := Try.prog) w 24 ty base 9 i0 _ 1 16 Try.underlying24 hi hz0 hz1 hz2 rfl (by omega) _ k (scells l) ho ⟨b, 0, none⟩ 1 1 [.string s] rfl (World.news_of_block (cs := #[.string s]) hv) (by simp [Value.oneCell']) (by omega) (by unfold maxLen; omega) (by omega) hbase w.heap.size rfl
  obtain ⟨g, cap, w', hr, hown, hg, _, _⟩ := h1 0
  refine ⟨g, cap, w', fun ty => ?_, ?_, hg⟩
  · rw [← hr]; rfl
  · unfold Own
    rw [scells_snoc, List.length_append, ← hx]
    exact hown

/-- A step of a region that draws: an append whose run is known. -/
theorem step_append_run {P : Program} {ops : Array Oper} {o : Oper} {a : Act} {w : World} {K : Act → World → Prop} {Q : Exit → Act → World → Prop} {E : Prop}
    (hg : o.guard = none) (s x : Operand) (t tn : TypeId) (hop : o.op = .call { callee := .builtin .append, args := #[s, x], argTypes := #[t, tn] })
    (vs vx : Value) (hs : a.eval s = vs) (hx : a.eval x = vx) {v' : Value} {w' : World} (hr : ∀ ty, (Builtin.append_ #[t, tn] ty #[vs, vx]).run P w = .ok v' w') (hK : K (a.put o.dst v') w') :
    if Region.wanted o (yielded ops a.tmps) = true then Oper.wp P o a w K Q else E := by
  have hw : Region.wanted o (yielded ops a.tmps) = true := by simp [Region.wanted, hg]
  rw [if_pos hw]
  exact Lib.wp_append_run w s x t tn hop vs vx hs hx v' w' (hr _) hK

/-- A part of a row that came in, as the source of an append: its beginning. -/
theorem src_take {w : World} {a : Option Addr} {l : List ByteArray} (h : Row w a l) (k : Nat) : ∀ ad, a = some ad → ∀ j u, (scells (l.take k))[j]? = some u → w.cell? (ad.add j) = some u := by
  intro ad e j u hj
  subst e
  have hjl : j < (l.take k).length := by
    have := (List.getElem?_eq_some_iff.1 hj).1
    rwa [scells_length] at this
  rw [scells_get _ j hjl] at hj
  rw [List.length_take] at hjl
  obtain ⟨g, e, _, hc⟩ := h j (by omega)
  cases e
  have hadd : (⟨g, 0, none⟩ : Addr).add j = ⟨g, j, none⟩ := by unfold Addr.add; split <;> simp_all
  rw [hadd, hc, ← hj]
  simp
/-- .. its end. -/
theorem src_drop {w : World} {g : Nat} {l : List ByteArray} (h : Row w (some ⟨g, 0, none⟩) l) (k : Nat) : ∀ ad, some (⟨g, k, none⟩ : Addr) = some ad → ∀ j u, (scells (l.drop k))[j]? = some u → w.cell? (ad.add j) = some u := by
  intro ad e j u hj
  cases e
  have hjl : j < (l.drop k).length := by
    have := (List.getElem?_eq_some_iff.1 hj).1
    rwa [scells_length] at this
  rw [scells_get _ j hjl] at hj
  rw [List.length_drop] at hjl
  obtain ⟨g', e, _, hc⟩ := h (k + j) (by omega)
  cases e
  have hadd : (⟨g, k, none⟩ : Addr).add j = ⟨g, k + j, none⟩ := by unfold Addr.add; split <;> simp_all
  rw [hadd, hc, ← hj]
  simp
/-- .. no part at all, wherever it lies. -/
theorem src_none {w : World} {a : Option Addr} : ∀ ad, a = some ad → ∀ j u, (scells [])[j]? = some u → w.cell? (ad.add j) = some u := by
  intro ad _ j u hj
  simp [scells] at hj
end Go.Proofs.Ytfhpbgmnekhfeaa.Strs

/- Strips with numbers: what is added to one of them, what is taken away. Pure mathematics. -/
import Derived.Test.YtbfbjolggilfoaaFlipLev
namespace Go.Proofs.Ytbfbjolggilfoaa.Flip
open Go.Proofs.Ytbfbjolggilfoaa.Strip Go.Proofs.Ytbfbjolggilfoaa.Kerf Go.Proofs.Ytbfbjolggilfoaa.Order Go.Proofs.Ytbfbjolggilfoaa.Corner
set_option linter.unusedVariables false

/-- The ways that lead from a strip to the last one. -/
def wA (t x : ByteArray) : Nat := wy (areaI x.data.toList t.data.toList).toNat x.data.toList t.data.toList
def msum (f : ByteArray → Nat) (val : ByteArray → Int) : List ByteArray → Int
  | [] => 0
  | x :: r => val x * (f x : Int) + msum f val r
def upd (val : ByteArray → Int) (y : ByteArray) (c : Int) : ByteArray → Int := fun s => if s = y then c else val s
def insB (ns : List ByteArray) (y : ByteArray) : List ByteArray := if (ns.any fun z => decide (z = y)) = true then ns else ns ++ [y]
def outB (ns : List ByteArray) (y : ByteArray) : List ByteArray := ns.filter fun z => decide (z ≠ y)

theorem any_mem {ns : List ByteArray} {y : ByteArray} : (ns.any fun z => decide (z = y)) = true ↔ y ∈ ns := by
  rw [List.any_eq_true]
  exact ⟨fun ⟨z, h1, h2⟩ => (of_decide_eq_true h2) ▸ h1, fun h => ⟨y, h, decide_eq_true rfl⟩⟩
theorem ins_yes {ns : List ByteArray} {y : ByteArray} (h : y ∈ ns) : insB ns y = ns := by unfold insB; rw [if_pos (any_mem.2 h)]
theorem ins_no {ns : List ByteArray} {y : ByteArray} (h : y ∉ ns) : insB ns y = ns ++ [y] := by unfold insB; rw [if_neg (fun h2 => h (any_mem.1 h2))]
theorem upd_same (val : ByteArray → Int) (y : ByteArray) (c : Int) : upd val y c y = c := by unfold upd; rw [if_pos rfl]
theorem upd_other (val : ByteArray → Int) {y z : ByteArray} (h : z ≠ y) (c : Int) : upd val y c z = val z := by unfold upd; rw [if_neg h]
theorem ins_mem {ns : List ByteArray} {y z : ByteArray} : z ∈ insB ns y ↔ z ∈ ns ∨ z = y := by
  by_cases h : y ∈ ns
  · rw [ins_yes h]
    exact ⟨.inl, fun h2 => h2.elim id (fun e => e ▸ h)⟩
  · rw [ins_no h]; simp
theorem out_mem {ns : List ByteArray} {y z : ByteArray} : z ∈ outB ns y ↔ z ∈ ns ∧ z ≠ y := by unfold outB; simp
theorem out_len {s : ByteArray} : ∀ ns : List ByteArray, ns.Nodup → s ∈ ns → (outB ns s).length + 1 = ns.length
  | [], _, h => by cases h
  | z :: r, hd, h => by
    obtain ⟨hz, hr⟩ := List.nodup_cons.1 hd
    by_cases e : z = s
    · subst e
      have h3 : outB (z :: r) z = r := by
        unfold outB
        rw [List.filter_cons, if_neg (by simp), List.filter_eq_self]
        intro y hy
        simp only [decide_eq_true_eq]
        exact fun e => hz (e ▸ hy)
      rw [h3]; rfl
    · have h3 : outB (z :: r) s = z :: outB r s := by
        unfold outB
        rw [List.filter_cons, if_pos (by simpa using e)]
      rw [h3, List.length_cons, List.length_cons, out_len r hr ((List.mem_cons.1 h).resolve_left (fun e2 => e e2.symm))]
theorem ins_nodup {ns : List ByteArray} (h : ns.Nodup) (y : ByteArray) : (insB ns y).Nodup := by
  by_cases hy : y ∈ ns
  · rw [ins_yes hy]; exact h
  · rw [ins_no hy, List.nodup_append]
    refine ⟨h, by simp, fun a ha b hb e => ?_⟩
    rw [List.mem_singleton.1 hb] at e
    exact hy (e ▸ ha)
theorem out_nodup {ns : List ByteArray} (h : ns.Nodup) (y : ByteArray) : (outB ns y).Nodup := List.Nodup.sublist List.filter_sublist h

theorem msum_away (f : ByteArray → Nat) (val : ByteArray → Int) (y : ByteArray) (c : Int) : ∀ ns : List ByteArray, y ∉ ns → msum f (upd val y c) ns = msum f val ns
  | [], _ => rfl
  | x :: r, h => by
    show upd val y c x * _ + msum f (upd val y c) r = val x * _ + msum f val r
    rw [upd_other val (fun e => h (by rw [e]; simp)), msum_away f val y c r (fun hr => h (List.mem_cons_of_mem _ hr))]
theorem msum_upd (f : ByteArray → Nat) (val : ByteArray → Int) (y : ByteArray) (d : Int) : ∀ ns : List ByteArray, ns.Nodup → y ∈ ns → msum f (upd val y (val y + d)) ns = msum f val ns + d * (f y : Int)
  | [], _, h => by cases h
  | x :: r, hd, h => by
    show upd val y (val y + d) x * _ + msum f (upd val y (val y + d)) r = val x * _ + msum f val r + _
    obtain ⟨hx, hr⟩ := List.nodup_cons.1 hd
    by_cases e : x = y
    · subst e
      rw [upd_same, msum_away f val x _ r hx, Int.add_mul]; omega
    · rw [upd_other val e, msum_upd f val y d r hr ((List.mem_cons.1 h).resolve_left (fun e2 => e e2.symm))]; omega
theorem msum_append (f : ByteArray → Nat) (val : ByteArray → Int) (y : ByteArray) : ∀ ns : List ByteArray, msum f val (ns ++ [y]) = msum f val ns + val y * (f y : Int)
  | [] => by show val y * _ + 0 = 0 + val y * _; omega
  | x :: r => by
    show val x * _ + msum f val (r ++ [y]) = val x * _ + msum f val r + _
    rw [msum_append f val y r]; omega
theorem msum_out (f : ByteArray → Nat) (val : ByteArray → Int) (y : ByteArray) : ∀ ns : List ByteArray, ns.Nodup → y ∈ ns → msum f val (outB ns y) = msum f val ns - val y * (f y : Int)
  | [], _, h => by cases h
  | x :: r, hd, h => by
    obtain ⟨hx, hr⟩ := List.nodup_cons.1 hd
    by_cases e : x = y
    · subst e
      have h1 : outB (x :: r) x = r := by
        unfold outB
        rw [List.filter_cons, if_neg (by simp)]
        rw [List.filter_eq_self]
        intro z hz
        simp only [decide_eq_true_eq]
        exact fun e => hx (e ▸ hz)
      rw [h1]
      show _ = val x * _ + msum f val r - _
      omega
    · have h1 : outB (x :: r) y = x :: outB r y := by
        unfold outB
        rw [List.filter_cons, if_pos (by simpa using e)]
      rw [h1]
      show val x * _ + msum f val (outB r y) = val x * _ + msum f val r - _
      rw [msum_out f val y r hr ((List.mem_cons.1 h).resolve_left (fun e2 => e e2.symm))]; omega

structure Bag (t : ByteArray) (ns : List ByteArray) (val : ByteArray → Int) (T : Int) : Prop where
  dup : ns.Nodup
  above : ∀ x ∈ ns, aboveB t.data.toList x.data.toList = true
  pos : ∀ x ∈ ns, 1 ≤ val x
  zero : ∀ x, x ∉ ns → val x = 0
  sum : msum (wA t) val ns = T

theorem wA_pos {t x : ByteArray} (h : aboveB t.data.toList x.data.toList = true) : 1 ≤ wA t x := by
  unfold wA
  have h0 := above_nonneg h
  exact wy_pos _ h (by omega)
theorem bag_bounds {t : ByteArray} {val : ByteArray → Int} : ∀ ns : List ByteArray, (∀ x ∈ ns, aboveB t.data.toList x.data.toList = true) → (∀ x ∈ ns, 1 ≤ val x) → (ns.length : Int) ≤ msum (wA t) val ns ∧ ∀ x ∈ ns, val x ≤ msum (wA t) val ns
  | [], _, _ => ⟨by show (0 : Int) ≤ 0; omega, fun x h => (by cases h)⟩
  | y :: r, ha, hp => by
    obtain ⟨h1, h2⟩ := bag_bounds r (fun x hx => ha x (List.mem_cons_of_mem _ hx)) (fun x hx => hp x (List.mem_cons_of_mem _ hx))
    obtain ⟨h3, h4⟩ := mul_ge (hp y List.mem_cons_self) (wA_pos (ha y List.mem_cons_self))
    refine ⟨?_, fun x hx => ?_⟩
    · show ((r.length + 1 : Nat) : Int) ≤ val y * (wA t y : Int) + msum (wA t) val r
      omega
    · show val x ≤ val y * (wA t y : Int) + msum (wA t) val r
      rcases List.mem_cons.1 hx with rfl | hx
      · omega
      · have := h2 x hx; omega
theorem Bag.len {t : ByteArray} {ns : List ByteArray} {val : ByteArray → Int} {T : Int} (h : Bag t ns val T) : (ns.length : Int) ≤ T := by
  rw [← h.sum]; exact (bag_bounds ns h.above h.pos).1
theorem Bag.le {t : ByteArray} {ns : List ByteArray} {val : ByteArray → Int} {T : Int} (h : Bag t ns val T) (x : ByteArray) : 0 ≤ val x ∧ val x ≤ T := by
  by_cases hx : x ∈ ns
  · have := h.pos x hx
    have h2 := (bag_bounds ns h.above h.pos).2 x hx
    rw [h.sum] at h2
    omega
  · rw [h.zero x hx]
    have := h.len
    omega
theorem Bag.add {t : ByteArray} {ns : List ByteArray} {val : ByteArray → Int} {T : Int} (h : Bag t ns val T) {y : ByteArray} (hy : aboveB t.data.toList y.data.toList = true) {d : Int} (hd : 1 ≤ d) :
    Bag t (insB ns y) (upd val y (val y + d)) (T + d * (wA t y : Int)) := by
  have h0 := (h.le y).1
  refine ⟨ins_nodup h.dup y, fun x hx => ?_, fun x hx => ?_, fun x hx => ?_, ?_⟩
  · rcases ins_mem.1 hx with hx | rfl
    · exact h.above x hx
    · exact hy
  · by_cases e : x = y
    · subst e; rw [upd_same]; omega
    · rw [upd_other val e]
      rcases ins_mem.1 hx with hx | hx
      · exact h.pos x hx
      · exact absurd hx e
  · have hx2 := fun h2 => hx (ins_mem.2 h2)
    rw [upd_other val (fun e => hx2 (.inr e))]
    exact h.zero x fun h3 => hx2 (.inl h3)
  · by_cases hm : y ∈ ns
    · rw [ins_yes hm, msum_upd _ _ _ _ _ h.dup hm, h.sum]
    · rw [ins_no hm, msum_append, msum_away _ _ _ _ _ hm, upd_same, h.zero y hm, h.sum, Int.zero_add]
theorem Bag.del {t : ByteArray} {ns : List ByteArray} {val : ByteArray → Int} {T : Int} (h : Bag t ns val T) {x : ByteArray} (hx : x ∈ ns) :
    Bag t (outB ns x) (upd val x 0) (T - val x * (wA t x : Int)) := by
  have hx0 : x ∉ outB ns x := fun h2 => (out_mem.1 h2).2 rfl
  refine ⟨out_nodup h.dup x, fun z hz => h.above z (out_mem.1 hz).1, fun z hz => ?_, fun z hz => ?_, ?_⟩
  · rw [upd_other val (out_mem.1 hz).2]; exact h.pos z (out_mem.1 hz).1
  · by_cases e : z = x
    · subst e; exact upd_same _ _ _
    · rw [upd_other val e]
      exact h.zero z fun h2 => hz (out_mem.2 ⟨h2, e⟩)
  · rw [msum_away _ _ _ _ _ hx0, msum_out _ _ _ _ h.dup hx, h.sum]

/-- Within a level: those of 'rest' are to come, all others stand one square higher. -/
structure Mid (t : ByteArray) (ns : List ByteArray) (m : Nat) (rest : List ByteArray) : Prop where
  here : ∀ x ∈ rest, x ∈ ns ∧ areaI x.data.toList t.data.toList = (m : Int) + 1
  all : ∀ x ∈ ns, areaI x.data.toList t.data.toList = (m : Int) ∨ x ∈ rest
  dup : rest.Nodup
theorem Mid.add {t : ByteArray} {ns : List ByteArray} {m : Nat} {rest : List ByteArray} (h : Mid t ns m rest) {y : ByteArray} (hy : areaI y.data.toList t.data.toList = (m : Int)) : Mid t (insB ns y) m rest := by
  refine ⟨fun x hx => ⟨ins_mem.2 (.inl (h.here x hx).1), (h.here x hx).2⟩, fun x hx => ?_, h.dup⟩
  rcases ins_mem.1 hx with hx | rfl
  · exact h.all x hx
  · exact .inl hy
theorem Mid.del {t : ByteArray} {ns : List ByteArray} {m : Nat} {x : ByteArray} {rest : List ByteArray} (h : Mid t ns m (x :: rest)) : Mid t (outB ns x) m rest := by
  obtain ⟨hx, hr⟩ := List.nodup_cons.1 h.dup
  refine ⟨fun z hz => ?_, fun z hz => ?_, hr⟩
  · obtain ⟨h1, h2⟩ := h.here z (List.mem_cons_of_mem _ hz)
    exact ⟨out_mem.2 ⟨h1, fun e => hx (e ▸ hz)⟩, h2⟩
  · obtain ⟨h1, h2⟩ := out_mem.1 hz
    rcases h.all z h1 with h3 | h3
    · exact .inl h3
    · exact .inr ((List.mem_cons.1 h3).resolve_left h2)
theorem mid_start {t : ByteArray} {ns ss : List ByteArray} {m : Nat} (hp : ss.Perm ns) (hd : ns.Nodup) (h : ∀ x ∈ ns, areaI x.data.toList t.data.toList = (m : Int) + 1) : Mid t ns m ss :=
  ⟨fun x hx => ⟨hp.mem_iff.1 hx, h x (hp.mem_iff.1 hx)⟩, fun x hx => .inr (hp.mem_iff.2 hx), (hp.nodup_iff).2 hd⟩
theorem mid_end {t : ByteArray} {ns : List ByteArray} {m : Nat} (h : Mid t ns m []) : ∀ x ∈ ns, areaI x.data.toList t.data.toList = (m : Int) := fun x hx => by
  rcases h.all x hx with h1 | h1
  · exact h1
  · cases h1
/-- At the end: the last strip alone. -/
theorem bag_end {t : ByteArray} {ns : List ByteArray} {val : ByteArray → Int} {T : Int} (h : Bag t ns val T) (hT : 1 ≤ T) (ha : ∀ x ∈ ns, areaI x.data.toList t.data.toList = 0) : val t = T := by
  have hall : ∀ x ∈ ns, x = t := fun x hx => of_list (above_zero (h.above x hx) (ha x hx))
  have hs := h.sum
  cases ns with
  | nil => have : (0 : Int) = T := hs; omega
  | cons x r =>
    cases r with
    | cons y r =>
      have e1 := hall x (by simp)
      have e2 := hall y (by simp)
      have hd := h.dup
      rw [e1, e2] at hd
      simp at hd
    | nil =>
      obtain rfl : x = t := hall x (by simp)
      have h1 : val x * (wA x x : Int) + 0 = T := hs
      have h2 : wA x x = 1 := by
        unfold wA
        rw [ha x (by simp)]
        show (if x.data.toList = x.data.toList then 1 else 0) = 1
        rw [if_pos rfl]
      rw [h2] at h1
      omega
theorem bag_start {s t : ByteArray} (h : aboveB t.data.toList s.data.toList = true) : Bag t [s] (upd (fun _ => 0) s 1) (wA t s : Int) := by
  refine ⟨by simp, fun x hx => by rw [List.mem_singleton.1 hx]; exact h, fun x hx => by rw [List.mem_singleton.1 hx, upd_same]; omega, fun x hx => by rw [upd_other _ (fun e => hx (by rw [e]; simp))], ?_⟩
  show upd (fun _ => 0) s 1 s * (wA t s : Int) + 0 = _
  rw [upd_same]; omega

/-- The ways through the first of the valleys that lead on. -/
def partT (m : Nat) (x t : List UInt8) (q : Nat) : Nat := (((nexts x t).take q).map fun j => wy m (raiseL x j) t).sum
theorem partT_zero (m : Nat) (x t : List UInt8) : partT m x t 0 = 0 := rfl
theorem partT_succ {m : Nat} {x t : List UInt8} {q : Nat} (h : q < (nexts x t).length) : partT m x t (q + 1) = partT m x t q + wy m (raiseL x (nexts x t)[q]) t := by
  unfold partT
  rw [List.take_succ_eq_append_getElem h, List.map_append, List.sum_append]; simp
theorem partT_all (m : Nat) (x t : List UInt8) : partT m x t (nexts x t).length = wy (m + 1) x t := by
  unfold partT; rw [List.take_length]; rfl
theorem partT_le (m : Nat) (x t : List UInt8) : ∀ d q, q + d = (nexts x t).length → partT m x t q ≤ wy (m + 1) x t
  | 0, q, h => by rw [← partT_all, ← h]; exact Nat.le_refl _
  | d + 1, q, h => by
    have h1 := partT_le m x t d (q + 1) (by omega)
    rw [partT_succ (by omega)] at h1
    omega
theorem wA_at {t x : ByteArray} {m : Nat} (h : areaI x.data.toList t.data.toList = (m : Int)) : wA t x = wy m x.data.toList t.data.toList := by unfold wA; rw [h]; rfl
end Go.Proofs.Ytbfbjolggilfoaa.Flip

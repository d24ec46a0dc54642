/- What a search through joined tiles keeps: in memory and in numbers. -/
import Derived.Test.YtefeajnlogbilaaFaceSet
import Derived.Test.YtefeajnlogbilaaFaceNear
namespace Go.Proofs.Ytefeajnlogbilaa.Face
open Go.ChangeShapes Go.WideShapes Go.ChangeAt Go.RowKit Go.Maps
open Go.Proofs.Ytefeajnlogbilaa.Strip Go.Proofs.Ytefeajnlogbilaa.Strs Go.Proofs.Ytefeajnlogbilaa.Card Go.Proofs.Ytefeajnlogbilaa.Faces
set_option linter.unusedVariables false

/-! ### numbers -/
structure Inv (l : List ByteArray) (n : Nat) (g : Nat → Nat) (t0 : Nat) (L : List Nat) (j : Nat) : Prop where
  nodup : L.Nodup
  face : ∀ t ∈ L, t < l.length * n ∧ g t = g t0
  start : t0 ∈ L
  le : j ≤ L.length
  done : ∀ i, i < j → ∀ p ∈ nearL l n (px n (L.getD i 0)) (py n (L.getD i 0)), ∃ u ∈ L, p = pr n u

section
variable {l : List ByteArray} {n : Nat} {g : Nat → Nat} {t0 j u : Nat} {L : List Nat}
theorem Inv.begin (g : Nat → Nat) (ht : t0 < l.length * n) : Inv l n g t0 [t0] 0 :=
  ⟨by simp, fun t h => by simp at h; subst h; exact ⟨ht, rfl⟩, by simp, by simp, fun i h => by omega⟩
theorem Inv.len (h : Inv l n g t0 L j) : L.length ≤ l.length * n := nodup_len _ _ h.nodup (fun t ht => (h.face t ht).1)
theorem Inv.grow (h : Inv l n g t0 L j) (hu : u < l.length * n) (hg : g u = g t0) (hn : u ∉ L) : Inv l n g t0 (L ++ [u]) j := by
  refine ⟨?_, fun t ht => ?_, by simp [h.start], by have := h.le; simp; omega, fun i hi p hp => ?_⟩
  · rw [List.nodup_append]
    exact ⟨h.nodup, by simp, fun a ha b hb => by simp at hb; subst hb; exact fun e => hn (e ▸ ha)⟩
  · rcases List.mem_append.1 ht with h1 | h1
    · exact h.face t h1
    · simp at h1; subst h1; exact ⟨hu, hg⟩
  · have hil : i < L.length := Nat.lt_of_lt_of_le hi h.le
    rw [show (L ++ [u]).getD i 0 = L.getD i 0 by simp [List.getD, List.getElem?_append_left hil]] at hp
    obtain ⟨v, hv, e⟩ := h.done i hi p hp
    exact ⟨v, by simp [hv], e⟩
theorem Inv.next (h : Inv l n g t0 L j) (hj : j < L.length) (hd : ∀ p ∈ nearL l n (px n (L.getD j 0)) (py n (L.getD j 0)), ∃ u ∈ L, p = pr n u) : Inv l n g t0 L (j + 1) :=
  ⟨h.nodup, h.face, h.start, hj, fun i hi p hp => by
    by_cases e : i = j
    · subst e; exact hd p hp
    · exact h.done i (by omega) p hp⟩
theorem Inv.end (hn : 1 ≤ n) {d f : Int} (hb : cardB d f l = true) (hdf : (n : Int) = d + f) (hg : Full (net l n hn) g) (h : Inv l n g t0 L L.length) (t : Nat) : t ∈ L ↔ t < l.length * n ∧ g t = g t0 := by
  refine ⟨h.face t, fun ⟨ht, he⟩ => ?_⟩
  have hcl := closed_of hn hb hdf (L := L) (fun t ht => (h.face t ht).1) (fun t ht p hp => by
    obtain ⟨i, hi, rfl⟩ := List.getElem_of_mem ht
    exact h.done i hi p (by rw [show L.getD i 0 = L[i] by simp [List.getD, hi]]; exact hp))
  have h0 := (h.face t0 h.start).1
  have h1 : g t0 ∈ L := ((hg.1 t0 h0).2 _ hcl).2 h.start
  have h2 : g t ∈ L := by rw [he]; exact h1
  exact ((hg.1 t ht).2 _ hcl).1 h2
theorem getD_grow (hj : j < L.length) (u : Nat) : (L ++ [u]).getD j 0 = L.getD j 0 := by simp [List.getD, List.getElem?_append_left hj]
end

/-! ### memory -/
/-- The card's variable, the list of the face and the map of what is found. -/
def FS (w : World) (B0 base bm : Nat) (d f : Int) (a : Option Addr) (m c n M : Nat) (sl : Value) (L Lm : List Nat) (wr : World) : Prop :=
  (w.heap.size ≤ B0 ∧ B0 < base ∧ base ≤ bm) ∧ Var wr B0 d f (.slice a m c) ∧ TOwn wr base sl (L.map (pr n)) ∧ MapB wr bm n M Lm ∧ sl.ownBlock ≠ some bm ∧ Below w.heap.size w wr

section
variable {w wr w' : World} {B0 base bm m c n M k cc : Nat} {d f : Int} {a av : Option Addr} {sl sl2 : Value} {L Lm : List Nat} {base2 : Nat} {R : List (Int × Int)}
theorem FS.still (h : FS w B0 base bm d f a m c n M sl L Lm wr) (hb : Below wr.heap.size wr w') : FS w B0 base bm d f a m c n M sl L Lm w' := by
  obtain ⟨h0, hv, ho, hm, hn, hbw⟩ := h
  exact ⟨h0, hv.below hb, ho.below hb, hm.below hb, hn, hbw.trans (hb.mono hbw.size)⟩
theorem FS.row {l : List ByteArray} (h : FS w B0 base bm d f a m c n M sl L Lm wr) (hr : Row w a l) : Row wr a l := hr.since (Nat.le_refl _) h.2.2.2.2.2

/-- A row of its own besides: what is near. -/
def NR (sl2 : Value) (R : List (Int × Int)) (base2 : Nat) (sl : Value) (bm : Nat) (wr : World) : Prop := TOwn wr base2 sl2 R ∧ (sl2.ownBlock = none ∨ sl2.ownBlock ≠ sl.ownBlock) ∧ sl2.ownBlock ≠ some bm
theorem NR.still (h : NR sl2 R base2 sl bm wr) (hb : Below wr.heap.size wr w') : NR sl2 R base2 sl bm w' := ⟨h.1.below hb, h.2⟩
theorem NR.nil (h : FS w B0 base bm d f a m c n M sl L Lm wr) (hb : Below wr.heap.size wr w') (ho : TOwn w' wr.heap.size sl2 R) : NR sl2 R wr.heap.size sl bm w' := by
  refine ⟨ho, ?_, fun e => ?_⟩
  · cases e : sl2.ownBlock with
    | none => exact .inl rfl
    | some b =>
      right
      intro e2
      have h1 := (ho.lt b e).1
      have h2 := (h.2.2.1.lt b e2.symm).2
      omega
  · have h1 := (ho.lt bm e).1
    have h2 := h.2.2.2.1.lt
    omega

theorem FS.put (h : FS w B0 base bm d f a m c n M sl L Lm wr) (hr : NR sl2 R base2 sl bm wr) (hn : 1 ≤ n) (hM : M ≤ 1000000) (hL : Lm.length ≤ 1000000) {u : Nat} (hu : u < M) :
    ∃ w1, (Instr.mapUpdate setT (.map (some bm)) (.agg #[.int .i64 (pr n u).1, .int .i64 (pr n u).2]) (.bool true)).run Try.prog wr = .ok () w1 ∧ FS w B0 base bm d f a m c n M sl L (Lm ++ [u]) w1 ∧ NR sl2 R base2 sl bm w1 ∧ wr.grownBy w1 (some bm) := by
  obtain ⟨h0, hv, ho, hm, hne, hbw⟩ := h
  obtain ⟨w1, hr1, hm1, hg⟩ := hm.put hn hM hL hu
  refine ⟨w1, hr1, ⟨h0, hv.grown hg (by simp; omega), ho.kept hg (.inr hne), hm1, hne, ?_⟩, ⟨hr.1.kept hg (.inr hr.2.2), hr.2⟩, hg⟩
  exact hbw.grown hg hbw.size (fun j e => by cases e; omega)

theorem FS.push (h : FS w B0 base bm d f a m c n M (.slice av k cc) L Lm wr) (hr : NR sl2 R base2 (.slice av k cc) bm wr) (hk : L.length = k) (hk2 : k ≤ 1000000) (u : Nat) :
    ∃ gg cap w6, (∀ ty, (Builtin.append_ #[92, 92] ty #[.slice av k cc, .slice (some ⟨wr.heap.size, 0, none⟩) 1 1]).run Try.prog (wr.alloc (.cells #[.int .i64 (pr n u).1, .int .i64 (pr n u).2] tileT)) = .ok (.slice (some ⟨gg, 0, none⟩) (k + 1) cap) w6) ∧
      FS w B0 base bm d f a m c n M (.slice (some ⟨gg, 0, none⟩) (k + 1) cap) (L ++ [u]) Lm w6 ∧ NR sl2 R base2 (.slice (some ⟨gg, 0, none⟩) (k + 1) cap) bm w6 := by
  have hx := alloc_below wr (.cells #[.int .i64 (pr n u).1, .int .i64 (pr n u).2] tileT)
  obtain ⟨h0, hv, ho, hm, hne, hbw⟩ := h.still hx
  obtain ⟨hr1, hr2, hr3⟩ := hr.still hx
  obtain ⟨gg, cap, w6, hr6, ho6, hg6, hat⟩ := tpush (b := wr.heap.size) ho (by rw [List.length_map]; exact hk) (heap_alloc_new wr _) (by omega) (Nat.le_trans h0.2.2 (Nat.le_of_lt hm.lt))
  have hsz : (wr.alloc (.cells #[.int .i64 (pr n u).1, .int .i64 (pr n u).2] tileT)).heap.size = wr.heap.size + 1 := by simp
  have hbm := h.2.2.2.1.lt
  refine ⟨gg, cap, w6, hr6, ⟨h0, hv.grown hg6 (fun e => by have := (ho.lt _ e.symm).1; omega), by rw [List.map_append]; exact ho6, hm.kept hg6 (fun e => hne e.symm), fun e => ?_, hbw.grown hg6 hbw.size (fun j e => by have := (ho.lt j e).1; omega)⟩, hr1.kept hg6 hr2, ?_, hr3⟩
  · have e2 : gg = bm := by simpa [Value.ownBlock] using e
    subst e2
    rcases hat with h6 | h6
    · exact hne h6
    · omega
  · cases e : sl2.ownBlock with
    | none => exact .inl rfl
    | some b =>
      right
      intro e2
      have e3 : b = gg := by simpa [Value.ownBlock] using e2
      subst e3
      have h1 := (hr1.lt b e).2
      rcases hat with h6 | h6
      · rcases hr2 with h7 | h7
        · rw [e] at h7; cases h7
        · exact h7 (by rw [e, h6])
      · have h8 := (hr.1.lt b e).2
        omega
end

/-- A step of a region that draws: a store into a map whose run is known. -/
theorem step_insert_run {P : Program} {ops : Array Oper} {o : Oper} {a : Act} {w : World} {K : Act → World → Prop} {Q : Exit → Act → World → Prop} {E : Prop}
    (hg : o.guard = none) (m k x : Operand) (t : TypeId) (hop : o.op = .insert t m k x)
    (vm vk vx : Value) (hm : a.eval m = vm) (hk : a.eval k = vk) (hx : a.eval x = vx) {w' : World} (hr : (Instr.mapUpdate t vm vk vx).run P w = .ok () w') (hK : K (a.put o.dst undef) w') :
    if Region.wanted o (yielded ops a.tmps) = true then Oper.wp P o a w K Q else E := by
  have hw : Region.wanted o (yielded ops a.tmps) = true := by simp [Region.wanted, hg]
  rw [if_pos hw]
  unfold Oper.wp
  simp [execOp, hop, hm, hk, hx, hr, Result.andThen]
  exact hK
end Go.Proofs.Ytefeajnlogbilaa.Face

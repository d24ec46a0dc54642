/- The model's labels in memory, and what each of its steps does to them. -/
import Derived.Test.YtefeajnlogbilaaFaceJoin
import Derived.Test.YtefeajnlogbilaaFaceNet
import Derived.Test.YtefeajnlogbilaaIntRow
namespace Go.Proofs.Ytefeajnlogbilaa.Face
open Go.ChangeShapes Go.WideShapes Go.ChangeAt Go.RowKit
open Go.Proofs.Ytefeajnlogbilaa.Strip Go.Proofs.Ytefeajnlogbilaa.Strs Go.Proofs.Ytefeajnlogbilaa.Card Go.Proofs.Ytefeajnlogbilaa.Faces
set_option linter.unusedVariables false

/-! ### lists of labels -/
def gl (h : Nat → Nat) (M : Nat) : List Int := (List.range M).map fun t => ((h t : Nat) : Int)
theorem gl_length (h : Nat → Nat) (M : Nat) : (gl h M).length = M := by simp [gl]
theorem gl_get (h : Nat → Nat) (M t : Nat) (ht : t < (gl h M).length) : (gl h M)[t] = ((h t : Nat) : Int) := by simp [gl]
theorem gl_snoc (h : Nat → Nat) (M : Nat) : gl h M ++ [((h M : Nat) : Int)] = gl h (M + 1) := by simp [gl, List.range_succ]
theorem gl_same {h h' : Nat → Nat} {M : Nat} (e : ∀ t, t < M → h t = h' t) : gl h M = gl h' M := by
  unfold gl
  apply List.map_congr_left
  intro t ht
  rw [e t (List.mem_range.1 ht)]
theorem gl_set (h : Nat → Nat) (M x v : Nat) : (gl h M).set x ((v : Nat) : Int) = gl (fun y => if y = x then v else h y) M := by
  apply List.ext_getElem
  · simp [gl]
  · intro i h1 h2
    rw [List.getElem_set, gl_get _ _ _ h2]
    by_cases e : x = i
    · subst e; rw [if_pos rfl, if_pos rfl]
    · rw [if_neg e, gl_get, if_neg (fun e2 => e e2.symm)]

/-- x of the labels are turned. -/
def mix (a b : Nat) (g : Nat → Nat) (x : Nat) (y : Nat) : Nat := if y < x then merge a b g y else g y
theorem mix_zero (a b : Nat) (g : Nat → Nat) (y : Nat) : mix a b g 0 y = g y := by simp [mix]
theorem mix_all (a b : Nat) (g : Nat → Nat) (M y : Nat) (h : y < M) : mix a b g M y = merge a b g y := by simp [mix, h]
theorem mix_yes {a b : Nat} {g : Nat → Nat} {x : Nat} (h : g x = b) (y : Nat) : (if y = x then a else mix a b g x y) = mix a b g (x + 1) y := by
  unfold mix merge
  by_cases e : y = x
  · subst e; simp [h]
  · by_cases e2 : y < x
    · rw [if_neg e, if_pos e2, if_pos (show y < x + 1 by omega)]
    · rw [if_neg e, if_neg e2, if_neg (show ¬ y < x + 1 by omega)]
theorem mix_no {a b : Nat} {g : Nat → Nat} {x : Nat} (h : g x ≠ b) (y : Nat) : mix a b g x y = mix a b g (x + 1) y := by
  unfold mix merge
  by_cases e : y = x
  · subst e; simp [h]
  · by_cases e2 : y < x
    · rw [if_pos e2, if_pos (show y < x + 1 by omega)]
    · rw [if_neg e2, if_neg (show ¬ y < x + 1 by omega)]

/-- k of the numbers are laid. -/
def laid (g : Nat → Nat) (t : Nat) (y : Nat) : Nat := if y < t then num g y else 0
theorem laid_step (g : Nat → Nat) (t y : Nat) : (if y = t then num g t else laid g t y) = laid g (t + 1) y := by
  unfold laid
  by_cases e : y = t
  · subst e; simp
  · by_cases e2 : y < t
    · rw [if_neg e, if_pos e2, if_pos (show y < t + 1 by omega)]
    · rw [if_neg e, if_neg e2, if_neg (show ¬ y < t + 1 by omega)]
theorem laid_all (g : Nat → Nat) (M y : Nat) (h : y < M) : laid g M y = num g y := by simp [laid, h]

theorem rank_congr {g g' : Nat → Nat} : ∀ {b : Nat}, (∀ t, t < b → g t = g' t) → rank g b = rank g' b
  | 0, _ => rfl
  | b + 1, h => by simp only [rank]; rw [rank_congr (fun t ht => h t (by omega)), h b (by omega)]
theorem num_congr {N : Net} {g g' : Nat → Nat} (h : Full N g) (h' : Full N g') {t : Nat} (ht : t < N.m) : num g t = num g' t := by
  unfold num
  rw [← h.unique h' ht]
  exact rank_congr (fun s hs => h.unique h' (by have := h.le ht; omega))

/-! ### what is joined, in the model's words -/
theorem lt_pos {m n t : Nat} (hn : 1 ≤ n) (ht : t < m * n) : t / n < m := Nat.div_lt_of_lt_mul (by rw [Nat.mul_comm]; exact ht)

theorem net_c_at {l : List ByteArray} {n : Nat} (hn : 1 ≤ n) (t : Nat) :
    (net l n hn).c t = (decide (1 ≤ t % n) && decide ((stripL l (t / n)).getD (t % n) 0 = (stripL l (t / n)).getD (t % n - 1) 0)) := by
  show (decide (1 ≤ t % n) && (letter l n t == letter l n (t - 1))) = _
  by_cases h : 1 ≤ t % n
  · have hd := Nat.div_add_mod t n
    have e : t - 1 = n * (t / n) + (t % n - 1) := by omega
    have hlt : t % n - 1 < n := by have := Nat.mod_lt t hn; omega
    have h1 : (t - 1) / n = t / n := by rw [e, Nat.mul_add_div hn, Nat.div_eq_of_lt hlt, Nat.add_zero]
    have h2 : (t - 1) % n = t % n - 1 := by rw [e, Nat.mul_add_mod, Nat.mod_eq_of_lt hlt]
    unfold letter
    rw [h1, h2, Bool.eq_iff_iff]
    simp
  · rw [decide_eq_false h]; rfl

theorem net_e_at {l : List ByteArray} {n : Nat} (hn : 1 ≤ n) {t : Nat} (ht : t < l.length * n) :
    (net l n hn).e t = (decide (1 ≤ t / n) && jrB (l.getD (t / n - 1) ⟨#[]⟩) (l.getD (t / n) ⟨#[]⟩) (t % n) (t % n)) := by
  show (decide (n ≤ t) && ((letter l n t == letter l n (t - n)) && decide (fwd l n t = fwd l n (t - n)))) = _
  by_cases h : n ≤ t
  · have hk : 1 ≤ t / n := Nat.div_pos h hn
    have h1 : (t - n) / n = t / n - 1 := by
      have := Nat.sub_mul_div (a := t) (b := n) (c := 1)
      simpa using this
    have h2 : (t - n) % n = t % n := (Nat.mod_eq_sub_mod h).symm
    unfold letter fwd jrB stripL
    rw [h1, h2, decide_eq_true h, decide_eq_true hk, Bool.eq_iff_iff]
    simp only [Bool.true_and, Bool.and_eq_true, decide_eq_true_eq, beq_iff_eq]
    constructor
    · rintro ⟨a, b⟩; exact ⟨trivial, a.symm, b.symm⟩
    · rintro ⟨_, a, b⟩; exact ⟨a.symm, b.symm⟩
  · have hk : t / n = 0 := Nat.div_eq_of_lt (by omega)
    rw [decide_eq_false h, hk]; rfl

/-! ### memory -/
/-- The card's variable and a row of ints of the call's own. -/
def LS (w : World) (B0 base : Nat) (d f : Int) (a : Option Addr) (m c : Nat) (sl : Value) (L : List Int) (wr : World) : Prop :=
  (w.heap.size ≤ B0 ∧ B0 < base) ∧ Var wr B0 d f (.slice a m c) ∧ Ints.Own wr base sl L ∧ Below w.heap.size w wr

section
variable {w wr w' : World} {B0 base m c G n cap : Nat} {d f : Int} {a : Option Addr} {sl : Value} {L : List Int}
theorem LS.still (h : LS w B0 base d f a m c sl L wr) (hb : Below wr.heap.size wr w') : LS w B0 base d f a m c sl L w' := by
  obtain ⟨h0, hv, ho, hbw⟩ := h
  exact ⟨h0, hv.below hb, ho.below hb, hbw.trans (hb.mono hbw.size)⟩
theorem LS.row {l : List ByteArray} (h : LS w B0 base d f a m c sl L wr) (hr : Row w a l) : Row wr a l := hr.since (Nat.le_refl _) h.2.2.2
theorem LS.blk (h : LS w B0 base d f a m c (.slice (some ⟨G, 0, none⟩) n cap) L wr) : base ≤ G ∧ G < wr.heap.size := h.2.2.1.lt G rfl
theorem LS.cell (h : LS w B0 base d f a m c (.slice (some ⟨G, 0, none⟩) n cap) L wr) {j : Nat} (hj : j < L.length) : wr.cell? ⟨G, j, none⟩ = some (.int .i64 L[j]) ∧ wr.frozen? ⟨G, j, none⟩ = false := ⟨h.2.2.1.cell hj, h.2.2.1.free j⟩
theorem LS.set (h : LS w B0 base d f a m c (.slice (some ⟨G, 0, none⟩) n cap) L wr) {j : Nat} (hj : j < L.length) (x : Int) :
    LS w B0 base d f a m c (.slice (some ⟨G, 0, none⟩) n cap) (L.set j x) (wr.setCell ⟨G, j, none⟩ (.int .i64 x)) := by
  have hG := h.blk
  obtain ⟨h0, hv, ho, hbw⟩ := h
  exact ⟨h0, hv.grown (grown_set wr G j _) (by simp; omega), ho.set x hj, hbw.setCell (by show w.heap.size ≤ G; omega) _⟩
end

theorem LS.other {w wr : World} {B0 base m c G H n cap j : Nat} {d f : Int} {a : Option Addr} {L : List Int} (h : LS w B0 base d f a m c (.slice (some ⟨G, 0, none⟩) n cap) L wr) (hH : G < H) (x : Value) :
    LS w B0 base d f a m c (.slice (some ⟨G, 0, none⟩) n cap) L (wr.setCell ⟨H, j, none⟩ x) := by
  have hG := h.blk
  obtain ⟨h0, hv, ho, hbw⟩ := h
  exact ⟨h0, hv.grown (grown_set wr H j _) (by simp; omega), World.ownsRow.kept ho (grown_set wr H j _) (.inr (by simp [Value.ownBlock]; omega)), hbw.setCell (by show w.heap.size ≤ H; omega) _⟩

/-- One int more, onto a row of one's own. -/
theorem ipush {w : World} {base k c b : Nat} {a : Option Addr} {l : List Int} {x : Int} (ho : Ints.Own w base (.slice a k c) l) (hk : l.length = k) (hv : w.heap[b]? = some (.cells #[.int .i64 x] 3 (0, 0))) (hbd : k ≤ 2097151) (hbase : base ≤ w.heap.size) :
    ∃ g cap w', (∀ ty, (Builtin.append_ #[37, 37] ty #[.slice a k c, .slice (some ⟨b, 0, none⟩) 1 1]).run Try.prog w = .ok (.slice (some ⟨g, 0, none⟩) (k + 1) cap) w') ∧
      Ints.Own w' base (.slice (some ⟨g, 0, none⟩) (k + 1) cap) (l ++ [x]) ∧ w.grownBy w' (Value.slice a k c).ownBlock := by
  have hinfo : (Try.prog.info? 3).map (fun i => (i.zero, i.size, i.bytes)) = some (some (.int .i64 0), 1, 8) := by kernel_rfl
  obtain ⟨i0, hi, hz0, hz1, hz2⟩ := info_parts hinfo
  unfold Ints.Own at ho
  rw [hk] at ho
  have h1 := fun ty => run_append_lies (P := Try.prog) w 37 ty base 3 i0 _ 1 8 Try.underlying37 hi hz0 hz1 hz2 rfl (by omega) _ k (Ints.icells l) ho ⟨b, 0, none⟩ 1 1 [.int .i64 x] rfl (World.news_of_block (cs := #[.int .i64 x]) hv) (by intro u hu; simp at hu; subst hu; rfl) (by omega) (by unfold maxLen; omega) (by omega) hbase w.heap.size rfl
  obtain ⟨g, cap, w', hr, hown, hg, _, _⟩ := h1 0
  refine ⟨g, cap, w', fun ty => ?_, ?_, hg⟩
  · rw [← hr]; rfl
  · unfold Ints.Own
    rw [Ints.icells_snoc, List.length_append, hk]
    exact hown

theorem LS.push {w wr : World} {B0 base m c k cc : Nat} {d f : Int} {a av : Option Addr} {L : List Int} (h : LS w B0 base d f a m c (.slice av k cc) L wr) (hb : base ≤ wr.heap.size) (hk : L.length = k) (hk2 : k ≤ 1000000) (x : Int) :
    ∃ gg cap w6, (∀ ty, (Builtin.append_ #[37, 37] ty #[.slice av k cc, .slice (some ⟨wr.heap.size, 0, none⟩) 1 1]).run Try.prog (wr.alloc (.cells #[.int .i64 x] 3)) = .ok (.slice (some ⟨gg, 0, none⟩) (k + 1) cap) w6) ∧
      LS w B0 base d f a m c (.slice (some ⟨gg, 0, none⟩) (k + 1) cap) (L ++ [x]) w6 ∧ base ≤ w6.heap.size := by
  have hx := alloc_below wr (.cells #[.int .i64 x] 3)
  obtain ⟨h0, hv, ho, hbw⟩ := h.still hx
  obtain ⟨gg, cap, w6, hr6, ho6, hg6⟩ := ipush (b := wr.heap.size) ho hk (heap_alloc_new wr _) (by omega) (Nat.le_trans hb hx.size)
  exact ⟨gg, cap, w6, hr6, ⟨h0, hv.grown hg6 (fun e => by have := (ho.lt _ e.symm).1; omega), ho6, hbw.grown hg6 hbw.size (fun j e => by have := (ho.lt j e).1; omega)⟩, Nat.le_trans hb (Nat.le_trans hx.size hg6.size)⟩
end Go.Proofs.Ytefeajnlogbilaa.Face

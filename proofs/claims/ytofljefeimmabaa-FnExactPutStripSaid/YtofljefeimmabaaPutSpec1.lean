/- What spec.PutStrip returns of a card and a place in it. -/
import Derived.Test.YtofljefeimmabaaPutImpl
import Derived.Test.YtofljefeimmabaaAppAny
namespace Go.Proofs.Ytofljefeimmabaa.Card
open Go.ChangeShapes Go.WideShapes Go.ChangeAt Go.RowKit
open Go.Proofs.Ytofljefeimmabaa.Strip Go.Proofs.Ytofljefeimmabaa.Strs
set_option linter.unusedVariables false

theorem own_of_block {X : World} {base e : Nat} (hb : base ≤ e) (hh : X.heap[e]? = some (.cells #[] 9 (0, 0))) : Own X base (.slice (some ⟨e, 0, none⟩) 0 0) [] :=
  ⟨by simp [scells], .inr ⟨e, 0, #[], rfl, hb, hh, Nat.le_refl _, by unfold maxLen; omega, by simp, by simp [scells]⟩⟩
theorem b_alloc {W X : World} (h : Below W.heap.size W X) (o : Obj) : Below W.heap.size W (X.alloc o) := h.alloc h.size o
theorem b_set {W X : World} {p : Addr} {v : Value} (h : Below W.heap.size W X) (hp : W.heap.size ≤ p.block) : Below W.heap.size W (X.setCell p v) := h.setCell hp v
theorem s_of {W w' : World} {B : Nat} {d f : Int} {v : Value} (h : Var W B d f v) (hb : Below W.heap.size W w') :
    w'.cell? ⟨B, 0, none⟩ = some (.int .i64 d) ∧ w'.cell? ⟨B, 1, none⟩ = some (.int .i64 f) ∧ w'.cell? ⟨B, 2, none⟩ = some v ∧ Below W.heap.size W w' :=
  ⟨(h.below hb).cells.1, (h.below hb).cells.2.1, (h.below hb).cells.2.2, hb⟩
theorem s_out {W w' : World} {p1 p2 p3 : Addr} {u1 u2 u3 : Value} (h : w'.cell? p1 = some u1 ∧ w'.cell? p2 = some u2 ∧ w'.cell? p3 = some u3 ∧ Below W.heap.size W w') : Below W.heap.size W w' := h.2.2.2
theorem heap_keep {W X : World} {b : Nat} {o : Obj} (h : W.heap[b]? = some o) (hb : Below W.heap.size W X) : X.heap[b]? = some o := (hb.block b (Array.getElem?_eq_some_iff.1 h).1).trans h
theorem scell_of {X : World} {b : Nat} {s : ByteArray} (h : X.heap[b]? = some (.cells #[.string s] 9 (0, 0))) : ∀ ad, some (⟨b, 0, none⟩ : Addr) = some ad → ∀ j u, (scells [s])[j]? = some u → X.cell? (ad.add j) = some u := by
  intro ad e j u hj
  cases e
  cases j with
  | zero => simp [scells] at hj; subst hj; simp [Addr.add, World.cell?, h]
  | succ j => simp [scells] at hj

theorem ha_new {X : World} {o : Obj} {e : Nat} (he : X.heap.size = e) : (X.alloc o).heap[e]? = some o := by subst he; exact heap_alloc_new X o
theorem ha_old {X : World} {o O : Obj} {e : Nat} (h : X.heap[e]? = some O) : (X.alloc o).heap[e]? = some O := (heap_alloc_old X o (Array.getElem?_eq_some_iff.1 h).1).trans h
theorem ha_drew {X : World} {O : Obj} {e : Nat} (h : X.heap[e]? = some O) : X.drew.heap[e]? = some O := h

theorem o_alloc {X : World} {o : Obj} {base : Nat} {v : Value} {l : List ByteArray} (h : Own X base v l) : Own (X.alloc o) base v l := h.below (alloc_below _ _)
theorem o_drew {X : World} {base : Nat} {v : Value} {l : List ByteArray} (h : Own X base v l) : Own X.drew base v l := h.below (Below.refl _ _).drew
theorem v_alloc {X : World} {o : Obj} {b : Nat} {d f : Int} {v : Value} (h : Var X b d f v) : Var (X.alloc o) b d f v := h.below (alloc_below _ _)
theorem v_drew {X : World} {b : Nat} {d f : Int} {v : Value} (h : Var X b d f v) : Var X.drew b d f v := h.below (Below.refl _ _).drew
theorem with_hid {P G : Prop} (hp : P) (h : Hid P → G) : G := h (Lib.hid hp)
theorem keep_blk {X w' : World} {e b : Nat} {O : Obj} {G : Prop} (hk : ∀ b O, b ≠ e → X.heap[b]? = some O → w'.heap[b]? = some O) (h : X.heap[b]? = some O) (hne : b ≠ e) (hg : Hid (w'.heap[b]? = some O) → G) : G := hg (Lib.hid (hk b O hne h))
theorem keep_var {X w' : World} {b : Nat} {d f : Int} {v : Value} {G : Prop} (hv : ∀ b d f v, Var X b d f v → Var w' b d f v) (h : Var X b d f v) (hg : Hid (Var w' b d f v) → G) : G := hg (Lib.hid (hv _ _ _ _ h))
theorem carry_var {W X w' : World} {b : Nat} {d f : Int} {v : Value} {G : Prop} (hv : ∀ b d f v, Var X b d f v → Var w' b d f v) (h : Var W b d f v) (hb : Below W.heap.size W X) (hg : Hid (Var w' b d f v) → G) : G := hg (Lib.hid (hv _ _ _ _ (h.below hb)))
theorem v_new {X : World} {b : Nat} {d f : Int} {v : Value} (hb : X.heap.size = b) : Var (X.alloc (.cells #[.int .i64 d, .int .i64 f, v] 26)) b d f v := by subst hb; exact Var.new X d f v

/-- Where the new card's variable stands: what is said of the world behind its last store. -/
def PutEnd (w Z : World) (b : Nat) (d f : Int) (v vc : Value) (l2 : List ByteArray) : Prop :=
  w.heap.size + 1 < b ∧ Var Z b d f v ∧ Var Z w.heap.size d f vc ∧ Var Z (w.heap.size + 1) 0 0 (.slice none 0 0) ∧ Below w.heap.size w Z ∧ Own Z w.heap.size v l2
theorem put_end {w w3 w7 : World} {b : Nat} {d f : Int} {v vc : Value} {t r l2 : List ByteArray} {s : ByteArray} (hB3 : Below w.heap.size w w3) (hv1 : Var w3 w.heap.size d f vc) (hv2 : Var w3 (w.heap.size + 1) 0 0 (.slice none 0 0)) (hu : Var w7 b 0 0 (.slice none 0 0)) (h7 : Below w3.heap.size w3 w7)
    (hl : l2 = (t ++ [s]) ++ r) (ho : Own w7 w3.heap.size v ((([] ++ t) ++ [s]) ++ r)) (hb : w3.heap.size ≤ b) : PutEnd w (((w7.setCell ⟨b, 0, none⟩ (.int .i64 d)).setCell ⟨b, 1, none⟩ (.int .i64 f)).setCell ⟨b, 2, none⟩ v) b d f v vc l2 := by
  have hZ : Below w3.heap.size w3 (Card.set3 w7 b d f v) := below_set3 h7 hb
  refine ⟨by have := hv2.lt; omega, hu.set3 d f v, hv1.below hZ, hv2.below hZ, hB3.trans (hZ.mono hB3.size), ?_⟩
  rw [hl]
  exact (Own.aside3 ho hu).mono hB3.size
theorem put_last {w w3 w7 : World} {d f : Int} {v vc : Value} {t r l2 : List ByteArray} {s : ByteArray} (hB3 : Below w.heap.size w w3) (hv1 : Var w3 w.heap.size d f vc) (hv2 : Var w3 (w.heap.size + 1) 0 0 (.slice none 0 0)) (h7 : Below w3.heap.size w3 w7)
    (hl : l2 = (t ++ [s]) ++ r) (ho : Own w7 w3.heap.size v ((([] ++ t) ++ [s]) ++ r)) : PutEnd w (w7.alloc (.cells #[.int .i64 d, .int .i64 f, v] 26)) w7.heap.size d f v vc l2 := by
  have hZ := b_alloc h7 (.cells #[.int .i64 d, .int .i64 f, v] 26)
  refine ⟨by have := hv2.lt; have := h7.size; omega, Var.new w7 d f v, hv1.below hZ, hv2.below hZ, hB3.trans (hZ.mono hB3.size), ?_⟩
  rw [hl]
  exact (o_alloc ho).mono hB3.size

/-- An append onto a row of one's own, as a step of a region that draws: what it keeps. -/
theorem step_put {P : Program} (hP : P = Try.prog) {ops : Array Oper} {o : Oper} {a : Act} {W X : World} {K : Act → World → Prop} {Q : Exit → Act → World → Prop} {E : Prop}
    (hg : o.guard = none) (s x : Operand) (hop : o.op = .call { callee := .builtin .append, args := #[s, x], argTypes := #[24, 24] })
    {e n0 c0 n1 m c : Nat} {sp : Option Addr} {xs ms : List ByteArray} (hs : a.eval s = .slice (some ⟨e, 0, none⟩) n0 c0) (hx : a.eval x = .slice sp m c)
    (hb : Below W.heap.size W X) (ho : Own X W.heap.size (.slice (some ⟨e, 0, none⟩) n0 c0) xs) (H : Own X W.heap.size (.slice (some ⟨e, 0, none⟩) n0 c0) xs → Appended X W.heap.size e n0 c0 xs ms sp m c n1)
    (hK : ∀ g cap w', Own w' W.heap.size (.slice (some ⟨g, 0, none⟩) n1 cap) (xs ++ ms) → Below W.heap.size W w' → (∀ b O, b ≠ e → X.heap[b]? = some O → w'.heap[b]? = some O) → (∀ b d f v, Var X b d f v → Var w' b d f v) → X.heap.size ≤ w'.heap.size → K (a.put o.dst (.slice (some ⟨g, 0, none⟩) n1 cap)) w') :
    if Region.wanted o (yielded ops a.tmps) = true then Oper.wp P o a X K Q else E := by
  subst hP
  obtain ⟨g, cap, w', hr, hown, hg2, hat⟩ := H ho
  refine step_append_run hg s x _ _ hop _ _ hs hx hr (hK g cap w' hown (ho.write_below hb (Nat.le_refl _) hb.size hg2) (fun b O hne h => ?_) (fun b d f v hv => hv.written ho hg2) hg2.size)
  refine (hg2.block b (Array.getElem?_eq_some_iff.1 h).1 ?_).trans h
  simp
  omega

set_option maxRecDepth 100000 in
set_option maxHeartbeats 16000000 in
theorem putSpec_in (d f : Int) (base n c g k : Nat) (l : List ByteArray) (s : ByteArray) (w : World) (hn : n ≤ 1048576) (h : Own w base (.slice (some ⟨g, 0, none⟩) n c) l) (hz : ∀ s ∈ l, s.size ≤ 1048576) (hs : s.size ≤ 1048576) (hcard : cardB d f l = true) (hk : k ≤ n)
    (sp : Option Addr) (hsp : (if c = k then (some ⟨g, 0, none⟩ : Option Addr) else some ⟨g, k, none⟩) = sp) :
    Calls Try.prog 30 #[.agg #[.int .i64 d, .int .i64 f, .slice (some ⟨g, 0, none⟩) n c], .int .i64 (k : Int), .string s] w (Swapped w d f l (putIn l k s)) := by
  have hln : n = l.length := h.row2.1
  have hnc : n ≤ c := by
    obtain ⟨_, q1 | ⟨g', cap', cur, e, _, _, hnc, _⟩⟩ := h
    · cases q1.1
    · cases e; rw [hln]; exact hnc
  have hcm : c ≤ maxLen := by
    obtain ⟨_, q1 | ⟨g', cap', cur, e, _, _, _, hcm, _⟩⟩ := h
    · cases q1.1
    · cases e; exact hcm
  unfold maxLen at hcm
  obtain ⟨W, hW, hv1, hv2, hb, hs0⟩ := begin2 w d f (.slice (some ⟨g, 0, none⟩) n c)
  have hoW : Own W base (.slice (some ⟨g, 0, none⟩) n c) l := by rw [hW]; exact (h.below (alloc_below _ _)).below (alloc_below _ _)
  have hcl := putIn_length l k s (by omega)
  have HN := Lib.hid hln
  have HOA := Lib.hid h
  have HOW := Lib.hid hoW
  have HV1 := Lib.hid hv1
  have HV2 := Lib.hid hv2
  have HB := Lib.hid hb
  have HS := Lib.hid hs0
  have HZ := Lib.hid hz
  have HZS := Lib.hid hs
  have HW := Lib.hid hW
  have hd : decide (0 ≤ (k : Int) ∧ (k : Int) ≤ (n : Int)) = true := decide_eq_true (by omega)
  have hk0 : (0 : Int) ≤ (k : Int) := Int.natCast_nonneg _
  have hk1 : (k : Int) ≤ (n : Int) := by omega
  have hk3 : (n : Int) ≤ (c : Int) := by omega
  have hk4 : (c : Int) ≤ 9223372036854775807 := by omega
  have s6 : (k : Int) ≤ (c : Int) := by omega
  have s7 : k ≤ c := by omega
  have HSP := Lib.hid (show ∀ w1 : World, Below w.heap.size w w1 → (∀ ad, sp = some ad → ∀ j u, (scells (l.drop k))[j]? = some u → w1.cell? (ad.add j) = some u) ∧ (sp = none → n - k = 0) from fun w1 hb => by
    have hr := (h.below hb).row2.2
    subst hsp
    split
    · rename_i hc
      have : l.drop k = [] := List.drop_eq_nil_of_le (by omega)
      rw [this]
      exact ⟨src_none, fun e => by cases e⟩
    · exact ⟨src_drop hr k, fun e => by cases e⟩)
  have HLEN := Lib.hid (show k + 1 + (n - k) = (putIn l k s).length by rw [hcl]; omega)
  have HKN := Lib.hid hk
  have HCD := Lib.hid (show putIn l k s = (l.take k ++ [s]) ++ l.drop k by unfold putIn; simp)
  have HSZ := Lib.hid (show ∀ t ∈ putIn l k s, t.size ≤ 1048576 from fun t ht => by
    unfold putIn at ht
    rcases List.mem_append.1 ht with h1 | h1
    · exact hz t (List.mem_of_mem_take h1)
    · rcases List.mem_cons.1 h1 with h2 | h2
      · rw [h2]; exact hs
      · exact hz t (List.mem_of_mem_drop h2))
  have HL2 := Lib.hid (show (putIn l k s).length ≤ 1048576 by rw [hcl]; have := (cardB_iff.1 hcard).2.2.1; omega)
  generalize putIn l k s = l2 at *
  clear hv1 hv2 hb hs0 hz hs hW hoW h hln hcl
  go_enter Try.func30, Try.ntmps30
  go_wp2_with fail
  rw [← HW.out]
  clear HW
  have HNE := Lib.hid (show w.heap.size + 1 < W.heap.size ∧ w.heap.size < W.heap.size by have := HS.out; omega)
  obtain ⟨k0, k1, k2⟩ := HV1.out.cells
  go_wp2_with fail
  clear k0 k1 k2
  refine (ok_spec d f (some ⟨g, 0, none⟩) n c l _ HN.out.symm hn HZ.out HOW.out.row2.2).mono ?_
  rintro e w3 ⟨rfl, hb3⟩
  have HV1 := Lib.hid (HV1.out.below hb3)
  have HV2 := Lib.hid (HV2.out.below hb3)
  have HB3 := Lib.hid (HB.out.trans (hb3.mono HB.out.size))
  clear hb3 HB HOW
  rw [hcard]
  obtain ⟨k0, k1, k2⟩ := HV1.out.cells
  go_wp2_with fail
  refine (in_at (k : Int) 0 (n : Int) _).mono ?_
  rintro e w4 ⟨rfl, rfl⟩
  rw [hd]
  clear hd
  go_upto_region 3 with (fail)
  go_cut [8] from 22 to 40 (fun s8 wx => ∃ (b g1 p1 : Nat), s8 = .pointer (some ⟨b, 0, none⟩) ∧ w.heap.size + 1 < b ∧ Var wx b d f (.slice (some ⟨g1, 0, none⟩) l2.length p1) ∧ Var wx w.heap.size d f (.slice (some ⟨g, 0, none⟩) n c) ∧ Var wx (w.heap.size + 1) 0 0 (.slice none 0 0) ∧ Below w.heap.size w wx ∧ Own wx w.heap.size (.slice (some ⟨g1, 0, none⟩) l2.length p1) l2)
  case first =>
    have S0 := s_of HV1.out (Below.refl w3.heap.size w3)
    have HA1 := Lib.hid (fun (X : World) (e : Nat) (hb : Below w3.heap.size w3 X) (ho : Own X w3.heap.size (.slice (some ⟨e, 0, none⟩) 0 0) []) => append_any (n1 := k) (c := c) (m := k) (ms := l.take k) (sp := some ⟨g, 0, none⟩) (by omega) ho (by rw [List.length_take]; have := HN.out; omega) (src_take (HOA.out.below (HB3.out.trans (hb.mono HB3.out.size))).row2.2 k) (fun e => by cases e) (by omega) hb.size)
    have HA2 := Lib.hid (fun (X : World) (e p b : Nat) (hb : Below w3.heap.size w3 X) (hc : X.heap[b]? = some (.cells #[.string s] 9 (0, 0))) (ho : Own X w3.heap.size (.slice (some ⟨e, 0, none⟩) k p) ([] ++ l.take k)) => append_any (n1 := k + 1) (c := 1) (m := 1) (ms := [s]) (sp := some ⟨b, 0, none⟩) rfl ho rfl (scell_of hc) (fun e => by cases e) (by omega) hb.size)
    have HA3 := Lib.hid (fun (X : World) (e p : Nat) (hb : Below w3.heap.size w3 X) (ho : Own X w3.heap.size (.slice (some ⟨e, 0, none⟩) (k + 1) p) (([] ++ l.take k) ++ [s])) => append_any (c := c - k) (m := n - k) (sp := sp) (ms := l.drop k) HLEN.out ho (by rw [List.length_drop]; have := HN.out; omega) (HSP.out X (HB3.out.trans (hb.mono HB3.out.size))).1 (HSP.out X (HB3.out.trans (hb.mono HB3.out.size))).2 (by omega) hb.size)
    go_region_held3 (fun w' => w'.cell? ⟨w.heap.size, 0, none⟩ = some (.int .i64 d) ∧ w'.cell? ⟨w.heap.size, 1, none⟩ = some (.int .i64 f) ∧ w'.cell? ⟨w.heap.size, 2, none⟩ = some (.slice (some ⟨g, 0, none⟩) n c) ∧ Below w3.heap.size w3 w')
      (first | exact S0 | (refine s_of HV1.out ?_; repeat (first | with_reducible exact Below.refl _ _ | with_reducible exact B5.out | with_reducible exact B6.out | with_reducible exact B7.out | with_reducible refine Below.drew ?_ | with_reducible refine b_alloc ?_ _ | with_reducible refine b_set ?_ (by first | (dsimp only; omega) | omega | (simp; omega) | (simp; done)))))
      ((first
        | (refine step_put rfl rfl (.tmp 26) (.tmp 30) rfl (by rfl) (by rfl) (W := w3) (by repeat (first | with_reducible exact Below.refl _ _ | with_reducible exact B5.out | with_reducible exact B6.out | with_reducible exact B7.out | with_reducible refine Below.drew ?_ | with_reducible refine b_alloc ?_ _)) (own_of_block (by first | omega | (simp; done) | (simp; omega)) (by repeat (first | with_reducible exact ha_new (by first | (with_reducible rfl) | (simp; done)) | with_reducible refine ha_drew ?_ | with_reducible refine ha_old ?_))) (fun ho => HA1.out _ _ (by repeat (first | with_reducible exact Below.refl _ _ | with_reducible exact B5.out | with_reducible exact B6.out | with_reducible exact B7.out | with_reducible refine Below.drew ?_ | with_reducible refine b_alloc ?_ _)) ho) ?_
           intro g1 p1 w5 ho1 hb1 hk1' hv1' hz1'
           (first | (refine keep_blk (b := w3.heap.size) (O := .cells #[.string s] 9 (0, 0)) hk1' ?_ ?_ ?_; (· ((repeat (first | (with_reducible refine ha_new ?_; (first | with_reducible rfl | (simp; done))) | with_reducible refine ha_drew ?_ | with_reducible refine ha_old ?_)); done)); (· (first | (simp; done) | omega)); intro HS5) | (refine keep_blk (b := w3.heap.size + 1) (O := .cells #[.string s] 9 (0, 0)) hk1' ?_ ?_ ?_; (· ((repeat (first | (with_reducible refine ha_new ?_; (first | with_reducible rfl | (simp; done))) | with_reducible refine ha_drew ?_ | with_reducible refine ha_old ?_)); done)); (· (first | (simp; done) | omega)); intro HS5) | (refine keep_blk (b := w3.heap.size + 1 + 1) (O := .cells #[.string s] 9 (0, 0)) hk1' ?_ ?_ ?_; (· ((repeat (first | (with_reducible refine ha_new ?_; (first | with_reducible rfl | (simp; done))) | with_reducible refine ha_drew ?_ | with_reducible refine ha_old ?_)); done)); (· (first | (simp; done) | omega)); intro HS5) | skip)
           (first | (refine keep_var (b := w3.heap.size) (d := 0) (f := 0) (v := .slice none 0 0) hv1' ?_ ?_; (· ((repeat (first | (with_reducible refine v_new ?_; (first | with_reducible rfl | (simp; done))) | with_reducible refine v_drew ?_ | with_reducible refine v_alloc ?_)); done)); intro HU5) | (refine keep_var (b := w3.heap.size + 1) (d := 0) (f := 0) (v := .slice none 0 0) hv1' ?_ ?_; (· ((repeat (first | (with_reducible refine v_new ?_; (first | with_reducible rfl | (simp; done))) | with_reducible refine v_drew ?_ | with_reducible refine v_alloc ?_)); done)); intro HU5) | (refine keep_var (b := w3.heap.size + 1 + 1) (d := 0) (f := 0) (v := .slice none 0 0) hv1' ?_ ?_; (· ((repeat (first | (with_reducible refine v_new ?_; (first | with_reducible rfl | (simp; done))) | with_reducible refine v_drew ?_ | with_reducible refine v_alloc ?_)); done)); intro HU5) | skip)
           have B5 := Lib.hid hb1
           have O5 := Lib.hid ho1
           have z5 := hb1.size
           clear ho1 hb1 hk1' hv1' hz1')
        | (refine step_put rfl rfl (.tmp 31) (.tmp 33) rfl (by rfl) (by rfl) (W := w3) (by repeat (first | with_reducible exact Below.refl _ _ | with_reducible exact B5.out | with_reducible exact B6.out | with_reducible exact B7.out | with_reducible refine Below.drew ?_ | with_reducible refine b_alloc ?_ _)) (by repeat (first | with_reducible exact O5.out | with_reducible refine o_drew ?_ | with_reducible refine o_alloc ?_)) (fun ho => HA2.out _ _ _ _ (by repeat (first | with_reducible exact Below.refl _ _ | with_reducible exact B5.out | with_reducible exact B6.out | with_reducible exact B7.out | with_reducible refine Below.drew ?_ | with_reducible refine b_alloc ?_ _)) (by repeat (first | with_reducible exact ha_new (by first | (with_reducible rfl) | (simp; done)) | with_reducible refine ha_drew ?_ | with_reducible refine ha_old ?_ | with_reducible exact HS5.out)) ho) ?_
           intro g2 p2 w6 ho2 hb2 hk2' hv2' hz2'
           (first | (refine carry_var hv2' HU5.out ?_ ?_; (· ((repeat (first | with_reducible exact Below.refl _ _ | with_reducible refine Below.drew ?_ | with_reducible refine b_alloc ?_ _)); done)); intro HU6) | (refine keep_var (b := w5.heap.size) (d := 0) (f := 0) (v := .slice none 0 0) hv2' ?_ ?_; (· ((repeat (first | (with_reducible refine v_new ?_; (first | with_reducible rfl | (simp; done))) | with_reducible refine v_drew ?_ | with_reducible refine v_alloc ?_)); done)); intro HU6) | (refine keep_var (b := w5.heap.size + 1) (d := 0) (f := 0) (v := .slice none 0 0) hv2' ?_ ?_; (· ((repeat (first | (with_reducible refine v_new ?_; (first | with_reducible rfl | (simp; done))) | with_reducible refine v_drew ?_ | with_reducible refine v_alloc ?_)); done)); intro HU6) | skip)
           have B6 := Lib.hid hb2
           have O6 := Lib.hid ho2
           have z6 := hb2.size
           clear ho2 hb2 hk2' hv2' hz2')
        | (refine step_put rfl rfl (.tmp 34) (.tmp 38) rfl (by rfl) (by rfl) (W := w3) (by repeat (first | with_reducible exact Below.refl _ _ | with_reducible exact B5.out | with_reducible exact B6.out | with_reducible exact B7.out | with_reducible refine Below.drew ?_ | with_reducible refine b_alloc ?_ _)) (by repeat (first | with_reducible exact O6.out | with_reducible refine o_drew ?_ | with_reducible refine o_alloc ?_)) (fun ho => HA3.out _ _ _ (by repeat (first | with_reducible exact Below.refl _ _ | with_reducible exact B5.out | with_reducible exact B6.out | with_reducible exact B7.out | with_reducible refine Below.drew ?_ | with_reducible refine b_alloc ?_ _)) ho) ?_
           intro g3 p3 w7 ho3 hb3 hk3' hv3' hz3'
           (first | (refine carry_var hv3' HU6.out ?_ ?_; (· ((repeat (first | with_reducible exact Below.refl _ _ | with_reducible refine Below.drew ?_ | with_reducible refine b_alloc ?_ _)); done)); intro HU7) | (refine keep_var (b := w6.heap.size) (d := 0) (f := 0) (v := .slice none 0 0) hv3' ?_ ?_; (· ((repeat (first | (with_reducible refine v_new ?_; (first | with_reducible rfl | (simp; done))) | with_reducible refine v_drew ?_ | with_reducible refine v_alloc ?_)); done)); intro HU7) | skip)
           have B7 := Lib.hid hb3
           have O7 := Lib.hid ho3
           have z7 := hb3.size
           clear ho3 hb3 hk3' hv3' hz3'
           (first | (obtain ⟨v0, v1, v2⟩ := HU7.out.cells; have f0 := HU7.out.free 0; have f1 := HU7.out.free 1; have f2 := HU7.out.free 2) | skip))))
    all_goals
      go_wp2_with fail
      go_meet
      first
        | exact ⟨_, _, _, rfl, put_end HB3.out HV1.out HV2.out HU7.out B7.out HCD.out O7.out (by omega)⟩
        | exact ⟨_, _, _, rfl, put_last HB3.out HV1.out HV2.out B7.out HCD.out O7.out⟩
  case rest =>
    obtain ⟨b, g1, p1, rfl, hlt, hu0, hv1, hv2, hb, ho⟩ := hcut
    have HU := Lib.hid hu0
    have HV1 := Lib.hid hv1
    have HV2 := Lib.hid hv2
    have HB4 := Lib.hid hb
    have HO4 := Lib.hid ho
    have HLT := Lib.hid hlt
    clear hu0 hv1 hv2 hb ho hlt k0 k1 k2
    obtain ⟨u0, u1, u2⟩ := HU.out.cells
    go_wp2_with fail
    clear u0 u1 u2
    refine (ok_spec d f (some ⟨g1, 0, none⟩) l2.length p1 l2 _ rfl HL2.out HSZ.out HO4.out.row2.2).mono ?_
    rintro e w6 ⟨rfl, hb6⟩
    have HU := Lib.hid (HU.out.below hb6)
    have HV1 := Lib.hid (HV1.out.below hb6)
    have HV2 := Lib.hid (HV2.out.below hb6)
    have HO6 := Lib.hid (HO4.out.below hb6)
    have HB6 := Lib.hid (HB4.out.trans (hb6.mono HB4.out.size))
    clear hb6 HB4 HO4
    cases hc : cardB d f l2 with
    | true =>
      have HC := Lib.hid hc
      clear hc
      obtain ⟨u0, u1, u2⟩ := HU.out.cells
      have hx : ∃ Z, Z = Card.set3 w6 (w.heap.size + 1) d f (.slice (some ⟨g1, 0, none⟩) l2.length p1) ∧ Var Z (w.heap.size + 1) d f (.slice (some ⟨g1, 0, none⟩) l2.length p1) ∧ Below w.heap.size w Z ∧ Own Z w.heap.size (.slice (some ⟨g1, 0, none⟩) l2.length p1) l2 := ⟨_, rfl, gave_last HB6.out HV2.out (by omega) HO6.out (Nat.le_refl _)⟩
      obtain ⟨Z, hZ, hz1, hz2, hz3⟩ := hx
      unfold set3 at hZ
      obtain ⟨p0, p1', p2⟩ := HV2.out.cells
      have f0 := HV2.out.free 0
      have f1 := HV2.out.free 1
      have f2 := HV2.out.free 2
      have HZZ := Lib.hid hZ
      have HZ1 := Lib.hid hz1
      have HZ2 := Lib.hid hz2
      have HZ3 := Lib.hid hz3
      clear hZ hz1 hz2 hz3
      go_wp2_with fail
      clear u0 u1 u2
      rw [← HZZ.out]
      clear HZZ p0 p1' p2 f0 f1 f2
      obtain ⟨z0, z1, z2⟩ := HZ1.out.cells
      refine bodyPost_ret (v := .tuple #[.agg #[.int .i64 d, .int .i64 f, .slice (some ⟨g1, 0, none⟩) l2.length p1], .bool true]) (by simp [results, Try.results30, go_sem, z0, z1, z2]) rfl ?_
      exact swapped_yes HC.out ⟨_, p1, rfl, HZ2.out, HZ3.out⟩
    | false =>
      have HC := Lib.hid hc
      clear hc
      obtain ⟨k0, k1, k2⟩ := HV1.out.cells
      go_wp2_with fail
      clear k0 k1 k2
      refine (copy_spec d f base n c (some ⟨g, 0, none⟩) l _ hn (HOA.out.below HB6.out)).mono ?_
      rintro e w7 ⟨a7, c7, rfl, hb7, ho7⟩
      have HV2 := Lib.hid (HV2.out.below hb7)
      have HB7 := Lib.hid (HB6.out.trans (hb7.mono HB6.out.size))
      have HO7 := Lib.hid (ho7.mono (base2 := w.heap.size) HB6.out.size)
      clear hb7 ho7
      have hx : ∃ Z, Z = Card.set3 w7 (w.heap.size + 1) d f (.slice a7 l.length c7) ∧ Var Z (w.heap.size + 1) d f (.slice a7 l.length c7) ∧ Below w.heap.size w Z ∧ Own Z w.heap.size (.slice a7 l.length c7) l := ⟨_, rfl, gave_last HB7.out HV2.out (by omega) HO7.out (Nat.le_refl _)⟩
      obtain ⟨Z, hZ, hz1, hz2, hz3⟩ := hx
      unfold set3 at hZ
      obtain ⟨p0, p1', p2⟩ := HV2.out.cells
      have f0 := HV2.out.free 0
      have f1 := HV2.out.free 1
      have f2 := HV2.out.free 2
      have HZZ := Lib.hid hZ
      have HZ1 := Lib.hid hz1
      have HZ2 := Lib.hid hz2
      have HZ3 := Lib.hid hz3
      clear hZ hz1 hz2 hz3
      go_wp2_with fail
      rw [← HZZ.out]
      clear HZZ p0 p1' p2 f0 f1 f2
      obtain ⟨z0, z1, z2⟩ := HZ1.out.cells
      refine bodyPost_ret (v := .tuple #[.agg #[.int .i64 d, .int .i64 f, .slice a7 l.length c7], .bool false]) (by simp [results, Try.results30, go_sem, z0, z1, z2]) rfl ?_
      exact swapped_no HC.out ⟨_, c7, rfl, HZ2.out, HZ3.out⟩
end Go.Proofs.Ytofljefeimmabaa.Card

/- Maps of one's own with tiles as keys: what is found, what is numbered. -/
import Derived.Test.YtefeajnlogbilaaFaceNb
import Derived.Test.YtefeajnlogbilaaFaceKey
namespace Go.Proofs.Ytefeajnlogbilaa.Face
open Go.ChangeShapes Go.WideShapes Go.ChangeAt Go.RowKit Go.Maps
set_option linter.unusedVariables false

abbrev setT : TypeId := 99
abbrev numT : TypeId := 61
abbrev boolT : TypeId := 4
abbrev intT : TypeId := 3

theorem zero_bool (w : World) : (zeroValue boolT).run Try.prog w = .ok (.bool false) w := by kernel_rfl
theorem zero_int (w : World) : (zeroValue intT).run Try.prog w = .ok (.int .i64 0) w := by kernel_rfl

theorem plain_bool_inv {v : Value} {z : DataW Unit × List MemPlace} (h : plainElem Try.prog boolT v = some z) : ∃ b, v = .bool b ∧ z = (.lit (.bool b), []) := by
  unfold plainElem at h
  rw [show Try.prog.underlying boolT = some .bool from Try.underlying4] at h
  cases v <;> simp at h
  exact ⟨_, rfl, h.symm⟩

def tkey (n t : Nat) : Lit := tk (px n t) (py n t)
theorem wf_px (n t : Nat) (h : t ≤ 1000000) : wf (px n t) ∧ wf (py n t) := by
  have h1 : t / n ≤ t := Nat.div_le_self t n
  have h2 : t % n ≤ t := Nat.mod_le t n
  have i1 : ((t / n : Nat) : Int) ≤ (t : Int) := Int.ofNat_le.2 h1
  have i2 : ((t % n : Nat) : Int) ≤ (t : Int) := Int.ofNat_le.2 h2
  have j1 : (0 : Int) ≤ ((t / n : Nat) : Int) := Int.natCast_nonneg _
  have j2 : (0 : Int) ≤ ((t % n : Nat) : Int) := Int.natCast_nonneg _
  unfold px py
  exact ⟨wf_of (by omega) (by omega), wf_of (by omega) (by omega)⟩
theorem tkey_inj {n t u : Nat} (hn : 1 ≤ n) (ht : t ≤ 1000000) (hu : u ≤ 1000000) (h : tkey n t = tkey n u) : t = u := by
  have := tk_inj (wf_px n t ht).1 (wf_px n t ht).2 (wf_px n u hu).1 (wf_px n u hu).2 h
  exact px_inj hn this.1 this.2

/-! ### found tiles -/
def MapB (w : World) (bm n M : Nat) (L : List Nat) : Prop :=
  ∃ D : DataW Unit, w.ownsMap Try.prog tileT (plainElem Try.prog boolT) bm L.length D ∧ ∀ t, t < M → D.atKey (tkey n t) (.lit (.bool false)) = .lit (.bool (decide (t ∈ L)))

section
variable {w w' : World} {bm n M : Nat} {L : List Nat}
theorem MapB.made (w : World) (n M : Nat) : MapB (w.alloc (.map #[] 0)) w.heap.size n M [] := ⟨.map [], World.ownsMap_made _ _ _ _, fun t _ => rfl⟩
theorem MapB.kept {row : Option Nat} (h : MapB w bm n M L) (hg : w.grownBy w' row) (hne : some bm ≠ row) : MapB w' bm n M L := by
  obtain ⟨D, h1, h2⟩ := h
  exact ⟨D, h1.kept hg hne, h2⟩
theorem MapB.lt (h : MapB w bm n M L) : bm < w.heap.size := by
  obtain ⟨D, h1, _⟩ := h
  exact h1.lt
theorem MapB.below (h : MapB w bm n M L) (hb : Below w.heap.size w w') : MapB w' bm n M L := h.kept (⟨hb.os, hb.tape, hb.output, hb.size, fun k hk _ => hb.block k hk⟩ : w.grownBy w' none) (by simp)

theorem MapB.look (h : MapB w bm n M L) (hM : M ≤ 1000000) {t : Nat} (ht : t < M) :
    (Instr.lookup setT (.map (some bm)) (.agg #[.int .i64 (px n t), .int .i64 (py n t)]) false).run Try.prog w = .ok (.bool (decide (t ∈ L))) w := by
  obtain ⟨D, h1, h2⟩ := h
  have hw := wf_px n t (by omega)
  obtain ⟨v, ps, hr, hv⟩ := h1.lookup tile_keyed (t := setT) Try.underlying99 (zero_bool w) (plainElem_bool Try.underlying4 false) (tk_key hw.1 hw.2)
  obtain ⟨b, rfl, hz⟩ := plain_bool_inv hv
  have h3 := h2 t ht
  unfold tkey at h3
  rw [h3] at hz
  have : decide (t ∈ L) = b := (show decide (t ∈ L) = b ∧ ps = [] by simpa using hz).1
  rw [this]
  exact hr

theorem MapB.put (h : MapB w bm n M L) (hn : 1 ≤ n) (hM : M ≤ 1000000) (hL : L.length ≤ 1000000) {u : Nat} (hu : u < M) :
    ∃ w1, (Instr.mapUpdate setT (.map (some bm)) (.agg #[.int .i64 (px n u), .int .i64 (py n u)]) (.bool true)).run Try.prog w = .ok () w1 ∧ MapB w1 bm n M (L ++ [u]) ∧ w.grownBy w1 (some bm) := by
  obtain ⟨D, h1, h2⟩ := h
  have hw := wf_px n u (by omega)
  obtain ⟨w1, hr, hown, hg⟩ := h1.update tile_keyed (t := setT) Try.underlying99 (by unfold maxLen; omega) (tk_key hw.1 hw.2) (plainElem_bool Try.underlying4 true)
  refine ⟨w1, hr, ⟨_, by rw [List.length_append]; exact hown, fun t ht => ?_⟩, hg⟩
  by_cases e : t = u
  · subst e
    rw [show tkey n t = tk (px n t) (py n t) from rfl, atKey_put_same h1.isMap (tk_lit hw.1 hw.2)]
    simp
  · rw [atKey_put_other (show tkey n t ≠ tk (px n u) (py n u) from fun e2 => e (tkey_inj hn (by omega) (by omega) e2)), h2 t ht]
    simp [e]
end

/-! ### numbered tiles -/
def MapI (w : World) (bm N n M : Nat) (Q : Nat → Bool) (v : Nat → Int) : Prop :=
  ∃ D : DataW Unit, w.ownsMap Try.prog tileT (plainElem Try.prog intT) bm N D ∧ (∀ kl, Maps.has D kl = true ↔ ∃ t, t < M ∧ Q t = true ∧ kl = tkey n t) ∧ ∀ t, t < M → Q t = true → ∀ z, D.atKey (tkey n t) z = .lit (.int .i64 (v t))

section
variable {w w' : World} {bm N n M : Nat} {Q : Nat → Bool} {v : Nat → Int}
theorem MapI.made (w : World) (n M : Nat) (v : Nat → Int) : MapI (w.alloc (.map #[] 0)) w.heap.size 0 n M (fun _ => false) v :=
  ⟨.map [], World.ownsMap_made _ _ _ _, fun kl => by simp [Maps.has], fun t _ h => by simp at h⟩
theorem MapI.kept {row : Option Nat} (h : MapI w bm N n M Q v) (hg : w.grownBy w' row) (hne : some bm ≠ row) : MapI w' bm N n M Q v := by
  obtain ⟨D, h1, h2⟩ := h
  exact ⟨D, h1.kept hg hne, h2⟩
theorem MapI.lt (h : MapI w bm N n M Q v) : bm < w.heap.size := by
  obtain ⟨D, h1, _⟩ := h
  exact h1.lt
theorem MapI.below (h : MapI w bm N n M Q v) (hb : Below w.heap.size w w') : MapI w' bm N n M Q v := h.kept (⟨hb.os, hb.tape, hb.output, hb.size, fun k hk _ => hb.block k hk⟩ : w.grownBy w' none) (by simp)
theorem MapI.mono (h : MapI w bm N n M Q v) {N2 : Nat} (hN : N ≤ N2) : MapI w bm N2 n M Q v := by
  obtain ⟨D, h1, h2⟩ := h
  exact ⟨D, h1.mono hN, h2⟩
theorem MapI.same (h : MapI w bm N n M Q v) {Q2 : Nat → Bool} (hQ : ∀ t, t < M → Q t = Q2 t) : MapI w bm N n M Q2 v := by
  obtain ⟨D, h1, h2, h3⟩ := h
  refine ⟨D, h1, fun kl => ?_, fun t ht hq => h3 t ht (by rw [hQ t ht]; exact hq)⟩
  rw [h2 kl]
  exact ⟨fun ⟨t, a, b, c⟩ => ⟨t, a, by rw [← hQ t a]; exact b, c⟩, fun ⟨t, a, b, c⟩ => ⟨t, a, by rw [hQ t a]; exact b, c⟩⟩

/-- 'face, ok := faces[t]' at a tile of the card. -/
theorem MapI.look (h : MapI w bm N n M Q v) (hn : 1 ≤ n) (hM : M ≤ 1000000) {t : Nat} (ht : t < M) :
    ∃ c : Int, (Instr.lookup numT (.map (some bm)) (.agg #[.int .i64 (px n t), .int .i64 (py n t)]) true).run Try.prog w = .ok (.tuple #[.int .i64 c, .bool (Q t)]) w ∧ (Q t = true → c = v t) := by
  obtain ⟨D, h1, h2, h3⟩ := h
  have hw := wf_px n t (by omega)
  obtain ⟨x, ps, hr, hv⟩ := h1.look_ok tile_keyed (t := numT) Try.underlying61 (zero_int w) (plainElem_int Try.underlying3 (by decide)) (tk_key hw.1 hw.2)
  obtain ⟨c, rfl, hz, hwc⟩ := plainElem_int_inv Try.underlying3 hv
  have hh : Maps.has D (tk (px n t) (py n t)) = Q t := by
    rw [Bool.eq_iff_iff, h2]
    constructor
    · rintro ⟨u, hu, hq, e⟩
      rw [tkey_inj hn (by omega) (by omega) (show tkey n t = tkey n u from e)]; exact hq
    · exact fun hq => ⟨t, ht, hq, rfl⟩
  rw [hh] at hr
  refine ⟨c, hr, fun hq => ?_⟩
  have h4 := h3 t ht hq (.lit (.int .i64 0))
  have h5 := congrArg Prod.fst hz
  simp only at h5
  rw [show tkey n t = tk (px n t) (py n t) from rfl] at h4
  rw [h4] at h5
  simpa using h5.symm

/-- .. where there is none. -/
theorem MapI.look_out (h : MapI w bm N n M Q v) (hM : M ≤ 1000000) {x y : Int} (hx : wf x) (hy : wf y) (ho : ∀ t, t < M → ¬ (x = px n t ∧ y = py n t)) :
    ∃ c : Int, (Instr.lookup numT (.map (some bm)) (.agg #[.int .i64 x, .int .i64 y]) true).run Try.prog w = .ok (.tuple #[.int .i64 c, .bool false]) w := by
  obtain ⟨D, h1, h2, h3⟩ := h
  obtain ⟨z, ps, hr, hv⟩ := h1.look_ok tile_keyed (t := numT) Try.underlying61 (zero_int w) (plainElem_int Try.underlying3 (by decide)) (tk_key hx hy)
  obtain ⟨c, rfl, hz, hwc⟩ := plainElem_int_inv Try.underlying3 hv
  have hh : Maps.has D (tk x y) = false := by
    cases hc : Maps.has D (tk x y) with
    | false => rfl
    | true =>
      obtain ⟨t, ht, _, e⟩ := (h2 _).1 hc
      have hw := wf_px n t (by omega)
      exact absurd (tk_inj hx hy hw.1 hw.2 e) (ho t ht)
  rw [hh] at hr
  exact ⟨c, hr⟩

theorem MapI.put (h : MapI w bm N n M Q v) (hn : 1 ≤ n) (hM : M ≤ 1000000) (hN : N ≤ 100000000) {u : Nat} (hu : u < M) (hv : wf (v u)) :
    ∃ w1, (Instr.mapUpdate numT (.map (some bm)) (.agg #[.int .i64 (px n u), .int .i64 (py n u)]) (.int .i64 (v u))).run Try.prog w = .ok () w1 ∧ MapI w1 bm (N + 1) n M (fun t => Q t || t == u) v ∧ w.grownBy w1 (some bm) := by
  obtain ⟨D, h1, h2, h3⟩ := h
  have hw := wf_px n u (by omega)
  have hlit := tk_lit hw.1 hw.2
  obtain ⟨w1, hr, hown, hg⟩ := h1.update tile_keyed (t := numT) Try.underlying61 (by unfold maxLen; omega) (tk_key hw.1 hw.2) (plainElem_int Try.underlying3 hv)
  refine ⟨w1, hr, ⟨_, hown, fun kl => ?_, fun t ht hq z => ?_⟩, hg⟩
  · by_cases e : kl = tkey n u
    · subst e
      rw [show tkey n u = tk (px n u) (py n u) from rfl, has_put_same h1.isMap hlit]
      exact ⟨fun _ => ⟨u, hu, by simp, rfl⟩, fun _ => rfl⟩
    · rw [has_put_other (show kl ≠ tk (px n u) (py n u) from e), h2]
      constructor
      · rintro ⟨t, a, b, c⟩
        exact ⟨t, a, by simp [b], c⟩
      · rintro ⟨t, a, b, c⟩
        refine ⟨t, a, ?_, c⟩
        simp only [Bool.or_eq_true, beq_iff_eq] at b
        rcases b with b | b
        · exact b
        · subst b; exact absurd c e
  · by_cases e : t = u
    · subst e
      rw [show tkey n t = tk (px n t) (py n t) from rfl, atKey_put_same h1.isMap hlit]
    · rw [atKey_put_other (show tkey n t ≠ tk (px n u) (py n u) from fun e2 => e (tkey_inj hn (by omega) (by omega) e2))]
      refine h3 t ht ?_ z
      simpa [e] using hq
end
end Go.Proofs.Ytefeajnlogbilaa.Face

/- What joinedTo finds are the neighbors of the net of tiles. -/
import Derived.Test.YtefeajnlogbilaaFaceNearDef
namespace Go.Proofs.Ytefeajnlogbilaa.Face
open Go.Proofs.Ytefeajnlogbilaa.Strip Go.Proofs.Ytefeajnlogbilaa.Card Go.Proofs.Ytefeajnlogbilaa.Faces
set_option linter.unusedVariables false

def pr (n t : Nat) : Int × Int := (px n t, py n t)

variable {l : List ByteArray} {n : Nat}

theorem pr_sum (n t : Nat) : (t : Int) = px n t * n + py n t := by
  unfold px py
  have h := Nat.div_add_mod t n
  rw [Nat.mul_comm] at h
  exact_mod_cast h.symm

theorem pr_inj (hn : 1 ≤ n) {t u : Nat} (h : pr n t = pr n u) : t = u := px_inj hn (congrArg Prod.fst h) (congrArg Prod.snd h)

/-- A pair in the ranges is the pair of the tile that its numbers give. -/
theorem pr_of (hn : 1 ≤ n) {k i : Int} {u : Nat} (h : tileB l n k i = true) (hu : (u : Int) = k * n + i) : u < l.length * n ∧ pr n u = (k, i) := by
  obtain ⟨t, ht, h1, h2, h3⟩ := tile_mk hn h
  have e : u = t := by omega
  subst e
  exact ⟨ht, by unfold pr; rw [← h1, ← h2]⟩

theorem spS_in (hn : 1 ≤ n) {t : Nat} (ht : t < l.length * n) {k i : Int} (h : spS l n k i = spS l n (px n t) (py n t)) : tileB l n k i = true := by
  cases hb : tileB l n k i with
  | true => rfl
  | false =>
    rw [(sp_out hb).2.2, (sp_at hn ht).2.2] at h
    exact absurd h.symm (one_ne _)

theorem py_nat (n t : Nat) : py n t = ((t % n : Nat) : Int) := rfl
theorem px_nat (n t : Nat) : px n t = ((t / n : Nat) : Int) := rfl

theorem net_c (hn : 1 ≤ n) (t : Nat) : (net l n hn).c t = (decide (1 ≤ t % n) && (letter l n t == letter l n (t - 1))) := rfl
theorem net_e (hn : 1 ≤ n) (t : Nat) : (net l n hn).e t = (decide (n ≤ t) && ((letter l n t == letter l n (t - n)) && decide (fwd l n t = fwd l n (t - n)))) := rfl

theorem mem_acc {Q : Int × Int → Bool} {p q r : Int × Int} : r ∈ acc Q [p, q] 2 ↔ (r = p ∨ r = q) ∧ Q r = true := by
  unfold acc
  rw [List.mem_filter]
  simp

/-- What is found is joined. -/
theorem near_sound (hn : 1 ≤ n) {d f : Int} (hb : cardB d f l = true) (hdf : (n : Int) = d + f) {t : Nat} (ht : t < l.length * n) {p : Int × Int} (hp : p ∈ nearL l n (px n t) (py n t)) {g : Nat → Nat} (hg : Full (net l n hn) g) :
    ∃ u, u < l.length * n ∧ p = pr n u ∧ g u = g t := by
  have hs := pr_sum n t
  unfold nearL at hp
  rcases List.mem_append.1 hp with h | h
  · obtain ⟨h1, h2⟩ := mem_acc.1 h
    have hq : spS l n p.1 p.2 = spS l n (px n t) (py n t) := by unfold letQ at h2; exact of_decide_eq_true h2
    have hin := spS_in hn ht hq
    obtain ⟨u, hu, e1, e2, e3⟩ := tile_mk hn hin
    refine ⟨u, hu, Prod.ext e1 e2, ?_⟩
    rw [e1, e2, (sp_at hn hu).2.2, (sp_at hn ht).2.2, one_inj] at hq
    rcases h1 with rfl | rfl
    · have e4 : u + 1 = t := by simp only at e3; omega
      have h0 : 0 ≤ py n t - 1 := by unfold tileB at hin; simp only [decide_eq_true_eq] at hin; exact hin.2.2.1
      have hc : (net l n hn).c t = true := by
        rw [net_c, show t - 1 = u by omega, hq]
        rw [py_nat] at h0
        simp
        omega
      have := (hg.2 t ht).1 hc
      rw [this, show t - 1 = u by omega]
    · have e4 : u = t + 1 := by simp only at e3; omega
      have hc : (net l n hn).c u = true := by
        rw [net_c, show u - 1 = t by omega, hq]
        have e2' : py n t + 1 = py n u := e2
        rw [py_nat, py_nat] at e2'
        simp
        omega
      have := (hg.2 u hu).1 hc
      rw [this, show u - 1 = t by omega]
  · obtain ⟨h1, h2⟩ := mem_acc.1 h
    have hq : spF l n p.1 p.2 = spF l n (px n t) (py n t) ∧ spD l n p.1 p.2 = spD l n (px n t) (py n t) ∧ spS l n p.1 p.2 = spS l n (px n t) (py n t) := by unfold eqQ eqB at h2; exact of_decide_eq_true h2
    have hin := spS_in hn ht hq.2.2
    obtain ⟨u, hu, e1, e2, e3⟩ := tile_mk hn hin
    refine ⟨u, hu, Prod.ext e1 e2, ?_⟩
    have hl := hq.2.2
    have hf := hq.1
    rw [e1, e2, (sp_at hn hu).2.2, (sp_at hn ht).2.2, one_inj] at hl
    rw [e1, e2, (sp_at hn hu).1, (sp_at hn ht).1] at hf
    have hf' : fwd l n u = fwd l n t := by omega
    rcases h1 with rfl | rfl
    · have e4 : u + n = t := by simp only [Int.sub_mul, Int.one_mul] at e3; omega
      have hc : (net l n hn).e t = true := by
        rw [net_e, show t - n = u by omega, hl, hf']
        simp
        omega
      have := (hg.2 t ht).2 hc
      rw [this, show t - (net l n hn).n = u from by show t - n = u; omega]
    · have e4 : u = t + n := by simp only [Int.add_mul, Int.one_mul] at e3; omega
      have hc : (net l n hn).e u = true := by
        rw [net_e, show u - n = t by omega, hl, hf']
        simp
        omega
      have := (hg.2 u hu).2 hc
      rw [this, show u - (net l n hn).n = t from by show u - n = t; omega]

/-- What is joined is found, from both sides. -/
theorem near_c (hn : 1 ≤ n) {t : Nat} (ht : t < l.length * n) (hc : (net l n hn).c t = true) :
    pr n (t - 1) ∈ nearL l n (px n t) (py n t) ∧ pr n t ∈ nearL l n (px n (t - 1)) (py n (t - 1)) := by
  rw [net_c] at hc
  simp only [Bool.and_eq_true, decide_eq_true_eq, beq_iff_eq] at hc
  have hs := pr_sum n t
  have h1 : 1 ≤ t := by have := Nat.mod_le t n; omega
  have hin := tile_at hn ht
  have hin' : tileB l n (px n t) (py n t - 1) = true := by
    unfold tileB at *
    simp only [decide_eq_true_eq] at *
    rw [py_nat] at *
    omega
  obtain ⟨hu, e⟩ := pr_of (u := t - 1) hn hin' (by omega)
  have e1 : px n (t - 1) = px n t := congrArg Prod.fst e
  have e2 : py n (t - 1) = py n t - 1 := congrArg Prod.snd e
  have hS : spS l n (px n (t - 1)) (py n (t - 1)) = spS l n (px n t) (py n t) := by rw [(sp_at hn ht).2.2, (sp_at hn hu).2.2, hc.2]
  refine ⟨List.mem_append.2 (.inl (mem_acc.2 ⟨.inl e, ?_⟩)), List.mem_append.2 (.inl (mem_acc.2 ⟨.inr ?_, ?_⟩))⟩
  · unfold letQ pr; exact decide_eq_true hS
  · unfold pr; rw [e1, e2]; exact Prod.ext rfl (by show py n t = py n t - 1 + 1; omega)
  · unfold letQ pr; exact decide_eq_true hS.symm

theorem near_e (hn : 1 ≤ n) {d f : Int} (hb : cardB d f l = true) (hdf : (n : Int) = d + f) {t : Nat} (ht : t < l.length * n) (hc : (net l n hn).e t = true) :
    pr n (t - n) ∈ nearL l n (px n t) (py n t) ∧ pr n t ∈ nearL l n (px n (t - n)) (py n (t - n)) := by
  rw [net_e] at hc
  simp only [Bool.and_eq_true, decide_eq_true_eq, beq_iff_eq] at hc
  obtain ⟨hc1, hc2, hc3⟩ := hc
  have hs := pr_sum n t
  have hin := tile_at hn ht
  have hpx : 1 ≤ px n t := by
    have : 1 ≤ t / n := Nat.div_pos hc1 hn
    rw [px_nat]; omega
  have hin' : tileB l n (px n t - 1) (py n t) = true := by
    unfold tileB at *
    simp only [decide_eq_true_eq] at *
    omega
  obtain ⟨hu, e⟩ := pr_of (u := t - n) hn hin' (by rw [Int.sub_mul, Int.one_mul]; omega)
  have e1 : px n (t - n) = px n t - 1 := congrArg Prod.fst e
  have e2 : py n (t - n) = py n t := congrArg Prod.snd e
  have hm : t % n = (t - n) % n := by rw [py_nat, py_nat] at e2; omega
  have s1 := (both_sum hb hdf ht).2.2
  have s2 := (both_sum hb hdf hu).2.2
  have hF : spF l n (px n (t - n)) (py n (t - n)) = spF l n (px n t) (py n t) := by rw [(sp_at hn ht).1, (sp_at hn hu).1, hc3]
  have hD : spD l n (px n (t - n)) (py n (t - n)) = spD l n (px n t) (py n t) := by rw [(sp_at hn ht).2.1, (sp_at hn hu).2.1]; omega
  have hS : spS l n (px n (t - n)) (py n (t - n)) = spS l n (px n t) (py n t) := by rw [(sp_at hn ht).2.2, (sp_at hn hu).2.2, hc2]
  refine ⟨List.mem_append.2 (.inr (mem_acc.2 ⟨.inl e, ?_⟩)), List.mem_append.2 (.inr (mem_acc.2 ⟨.inr ?_, ?_⟩))⟩
  · unfold eqQ eqB pr; exact decide_eq_true ⟨hF, hD, hS⟩
  · unfold pr; rw [e1, e2]; exact Prod.ext (by show px n t = px n t - 1 + 1; omega) rfl
  · unfold eqQ eqB pr; exact decide_eq_true ⟨hF.symm, hD.symm, hS.symm⟩

/-- A list that holds what is found from each of its tiles is closed. -/
theorem closed_of (hn : 1 ≤ n) {d f : Int} (hb : cardB d f l = true) (hdf : (n : Int) = d + f) {L : List Nat} (hL : ∀ t ∈ L, t < l.length * n) (h : ∀ t ∈ L, ∀ p ∈ nearL l n (px n t) (py n t), ∃ u ∈ L, p = pr n u) :
    Closed (net l n hn) (fun t => t ∈ L) := by
  intro t ht
  have step : ∀ {a b : Nat}, a ∈ L → pr n b ∈ nearL l n (px n a) (py n a) → b ∈ L := by
    intro a b ha hp
    obtain ⟨u, hu, e⟩ := h a ha _ hp
    rw [pr_inj hn e]; exact hu
  refine ⟨fun hc => ?_, fun hc => ?_⟩
  · obtain ⟨h1, h2⟩ := near_c hn ht hc
    exact ⟨fun q => step q h1, fun q => step q h2⟩
  · obtain ⟨h1, h2⟩ := near_e hn hb hdf ht hc
    exact ⟨fun q => step q h1, fun q => step q h2⟩

theorem nodup_len : ∀ (m : Nat) (L : List Nat), L.Nodup → (∀ t ∈ L, t < m) → L.length ≤ m
  | 0, L, _, h => by
    cases L with
    | nil => exact Nat.le_refl _
    | cons a L => exact absurd (h a (by simp)) (by omega)
  | m + 1, L, hd, h => by
    by_cases hm : m ∈ L
    · have h1 := nodup_len m (L.erase m) (hd.erase m) (fun t ht => by
        have h2 := h t (List.mem_of_mem_erase ht)
        have h3 : t ≠ m := fun e => by subst e; exact (List.Nodup.not_mem_erase hd) ht
        omega)
      rw [List.length_erase_of_mem hm] at h1
      omega
    · have h1 := nodup_len m L hd (fun t ht => by
        have h2 := h t ht
        have h3 : t ≠ m := fun e => hm (e ▸ ht)
        omega)
      omega
end Go.Proofs.Ytefeajnlogbilaa.Face

/- The mathematics of chapter 9: beginnings of strips that stay above another, tables of rooms, numbers of strips. -/
import Derived.Test.YthigiemgdejdhaaOrderMath
namespace Go.Proofs.Ythigiemgdejdhaa.Area
open Go.Proofs.Ythigiemgdejdhaa.Strip Go.Proofs.Ythigiemgdejdhaa.Kerf Go.Proofs.Ythigiemgdejdhaa.Order
set_option linter.unusedVariables false

/-! ### beginnings with n steps, x of them forward, that stay where ok says -/
def dg (ok : Nat → Nat → Bool) : Nat → Nat → Nat
  | 0, 0 => 1
  | 0, _ + 1 => 0
  | n + 1, 0 => if ok (n + 1) 0 = true then dg ok n 0 else 0
  | n + 1, x + 1 => if ok (n + 1) (x + 1) = true then dg ok n (x + 1) + dg ok n x else 0

theorem dg_not {ok : Nat → Nat → Bool} {n x : Nat} (h : ok (n + 1) x = false) : dg ok (n + 1) x = 0 := by
  cases x with
  | zero => show (if ok (n + 1) 0 = true then _ else 0) = 0; rw [h]; rfl
  | succ x => show (if ok (n + 1) (x + 1) = true then _ else 0) = 0; rw [h]; rfl
theorem dg_zero {ok : Nat → Nat → Bool} {n : Nat} (h : ok (n + 1) 0 = true) : dg ok (n + 1) 0 = dg ok n 0 := by
  show (if ok (n + 1) 0 = true then _ else 0) = _; rw [h]; rfl
theorem dg_succ {ok : Nat → Nat → Bool} {n x : Nat} (h : ok (n + 1) (x + 1) = true) : dg ok (n + 1) (x + 1) = dg ok n (x + 1) + dg ok n x := by
  show (if ok (n + 1) (x + 1) = true then _ else 0) = _; rw [h]; rfl
theorem dg_far (ok : Nat → Nat → Bool) : ∀ n x, n < x → dg ok n x = 0
  | 0, 0, h => by omega
  | 0, x + 1, _ => rfl
  | n + 1, 0, h => by omega
  | n + 1, x + 1, h => by
    cases e : ok (n + 1) (x + 1) with
    | false => exact dg_not e
    | true => rw [dg_succ e, dg_far ok n (x + 1) (by omega), dg_far ok n x (by omega)]
theorem dg_bound (ok : Nat → Nat → Bool) : ∀ n x, dg ok n x ≤ 2 ^ n
  | 0, 0 => Nat.le_refl _
  | 0, x + 1 => Nat.zero_le _
  | n + 1, 0 => by
    cases e : ok (n + 1) 0 with
    | false => rw [dg_not e]; exact Nat.zero_le _
    | true => rw [dg_zero e, Nat.pow_succ]; have := dg_bound ok n 0; omega
  | n + 1, x + 1 => by
    cases e : ok (n + 1) (x + 1) with
    | false => rw [dg_not e]; exact Nat.zero_le _
    | true =>
      rw [dg_succ e, Nat.pow_succ]
      have h1 := dg_bound ok n (x + 1)
      have h2 := dg_bound ok n x
      omega
theorem dg_mono {ok ok' : Nat → Nat → Bool} (h : ∀ n x, ok n x = true → ok' n x = true) : ∀ n x, dg ok n x ≤ dg ok' n x
  | 0, 0 => Nat.le_refl _
  | 0, x + 1 => Nat.le_refl _
  | n + 1, 0 => by
    cases e : ok (n + 1) 0 with
    | false => rw [dg_not e]; exact Nat.zero_le _
    | true => rw [dg_zero e, dg_zero (h _ _ e)]; exact dg_mono h n 0
  | n + 1, x + 1 => by
    cases e : ok (n + 1) (x + 1) with
    | false => rw [dg_not e]; exact Nat.zero_le _
    | true => rw [dg_succ e, dg_succ (h _ _ e)]; exact Nat.add_le_add (dg_mono h n (x + 1)) (dg_mono h n x)
/-- A way: n steps, p n of them forward. -/
def Way (p : Nat → Nat) (m : Nat) : Prop := p 0 = 0 ∧ ∀ n, n < m → p (n + 1) = p n ∨ p (n + 1) = p n + 1
/-- A way that stays inside is counted. -/
theorem dg_pos {ok : Nat → Nat → Bool} {p : Nat → Nat} {m : Nat} (hp : Way p m) (h : ∀ n, 1 ≤ n → n ≤ m → ok n (p n) = true) : ∀ n, n ≤ m → 1 ≤ dg ok n (p n)
  | 0, _ => by rw [hp.1]; exact Nat.le_refl _
  | n + 1, hn => by
    have ih := dg_pos hp h n (by omega)
    have ho := h (n + 1) (by omega) hn
    rcases hp.2 n (by omega) with e | e
    · rw [e] at ho ⊢
      generalize p n = x at *
      cases x with
      | zero => rw [dg_zero ho]; exact ih
      | succ x => rw [dg_succ ho]; omega
    · rw [e] at ho ⊢
      rw [dg_succ ho]; omega
/-- .. and where the smaller room does not hold it, it counts fewer. -/
theorem dg_less {ok ok' : Nat → Nat → Bool} (hm : ∀ n x, ok n x = true → ok' n x = true) {p : Nat → Nat} {m : Nat} (hp : Way p m) (h : ∀ n, 1 ≤ n → n ≤ m → ok' n (p n) = true) {k : Nat} (hk : ok (k + 1) (p (k + 1)) = false) :
    ∀ n, k + 1 ≤ n → n ≤ m → dg ok n (p n) < dg ok' n (p n) := by
  intro n
  induction n with
  | zero => intro h1; omega
  | succ n ih =>
    intro h1 h2
    by_cases e : n = k
    · subst e
      rw [dg_not hk]
      exact dg_pos hp h (n + 1) h2
    · have ih := ih (by omega) (by omega)
      have ho := h (n + 1) (by omega) h2
      have m1 := dg_mono hm n
      rcases hp.2 n (by omega) with e | e
      · rw [e] at ho ⊢
        generalize p n = x at *
        cases x with
        | zero =>
          cases e2 : ok (n + 1) 0 with
          | false => rw [dg_not e2, dg_zero ho]; omega
          | true => rw [dg_zero e2, dg_zero ho]; exact ih
        | succ x =>
          have := m1 x
          cases e2 : ok (n + 1) (x + 1) with
          | false => rw [dg_not e2, dg_succ ho]; omega
          | true => rw [dg_succ e2, dg_succ ho]; omega
      · rw [e] at ho ⊢
        generalize p n = x at *
        have := m1 (x + 1)
        cases e2 : ok (n + 1) (x + 1) with
        | false => rw [dg_not e2, dg_succ ho]; omega
        | true => rw [dg_succ e2, dg_succ ho]; omega

/-! ### strips above a strip -/
def okA (l : List UInt8) (n x : Nat) : Bool := decide (ff l n ≤ x ∧ n ≤ cnt 100 l + x)
/-- What CountAbove returns. -/
def aboveN (l : List UInt8) : Nat := dg (okA l) l.length (cnt 102 l)
def aboveI (l : List UInt8) : Int := if stripB l = true then (aboveN l : Int) else 0
theorem okA_iff {l : List UInt8} {n x : Nat} : okA l n x = true ↔ ff l n ≤ x ∧ n ≤ cnt 100 l + x := by unfold okA; simp
theorem okA_not {l : List UInt8} {n x : Nat} : okA l n x = false ↔ ¬ (ff l n ≤ x ∧ n ≤ cnt 100 l + x) := by unfold okA; simp
theorem ff_way (l : List UInt8) : Way (ff l) l.length := ⟨ff_zero l, fun n hn => by
  have := ff_succ l n hn
  split at this
  · exact .inr this
  · exact .inl this⟩
theorem ff_end (l : List UInt8) : ff l l.length = cnt 102 l := ff_all l _ (Nat.le_refl _)
theorem ff_down {l : List UInt8} (h : okL l = true) (n : Nat) (hn : n ≤ l.length) : n ≤ cnt 100 l + ff l n := by
  have h1 := dd_eq h n hn
  have h2 : cnt 100 (l.take n) ≤ cnt 100 l := List.Sublist.count_le _ (List.take_sublist n l)
  omega
theorem above_pos {l : List UInt8} (h : okL l = true) : 1 ≤ aboveN l := by
  unfold aboveN
  rw [← ff_end]
  exact dg_pos (ff_way l) (fun n _ hn => okA_iff.2 ⟨Nat.le_refl _, ff_down h n hn⟩) _ (Nat.le_refl _)
/-- All strips of a frame. -/
def okF (d n x : Nat) : Bool := decide (n ≤ d + x)
def allN (d f : Nat) : Nat := dg (okF d) (d + f) f
theorem okA_F {l : List UInt8} (n x : Nat) (h : okA l n x = true) : okF (cnt 100 l) n x = true := by
  have := okA_iff.1 h
  unfold okF
  simp only [decide_eq_true_eq]
  exact this.2
theorem above_all {l : List UInt8} (h : okL l = true) : aboveN l ≤ allN (cnt 100 l) (cnt 102 l) := by
  unfold aboveN allN
  rw [cnt_sum l h]
  exact dg_mono okA_F _ _
/-- The flat strip's steps forward. -/
def flatP (d n : Nat) : Nat := n - d
theorem flat_way (d m : Nat) : Way (flatP d) m := ⟨by unfold flatP; omega, fun n _ => by unfold flatP; omega⟩
theorem above_flat {l : List UInt8} (h : okL l = true) : aboveN l = allN (cnt 100 l) (cnt 102 l) ↔ ∀ n, n ≤ l.length → ff l n ≤ flatP (cnt 100 l) n := by
  have hs := cnt_sum l h
  unfold aboveN allN
  rw [hs]
  constructor
  · intro he n hn
    by_cases hc : ff l n ≤ flatP (cnt 100 l) n
    · exact hc
    · exfalso
      obtain ⟨k, rfl⟩ : ∃ k, n = k + 1 := ⟨n - 1, by
        have : n ≠ 0 := fun e => by subst e; rw [ff_zero] at hc; omega
        omega⟩
      have hl := dg_less okA_F (flat_way (cnt 100 l) l.length) (fun n _ hn => by unfold okF flatP; simp only [decide_eq_true_eq]; omega) (k := k) (okA_not.2 fun q => hc q.1) l.length hn (Nat.le_refl _)
      rw [show flatP (cnt 100 l) l.length = cnt 102 l from by unfold flatP; omega] at hl
      omega
  · intro ha
    refine Nat.le_antisymm (dg_mono okA_F _ _) ?_
    have key : ∀ n, n ≤ l.length → ∀ x, dg (okF (cnt 100 l)) n x ≤ dg (okA l) n x := by
      intro n
      induction n with
      | zero =>
        intro _ x
        cases x with
        | zero => exact Nat.le_refl _
        | succ x => exact Nat.le_refl _
      | succ n ih =>
        intro hn x
        have hi := ih (by omega)
        cases e : okF (cnt 100 l) (n + 1) x with
        | false => rw [dg_not e]; exact Nat.zero_le _
        | true =>
          have e2 : okA l (n + 1) x = true := okA_iff.2 (by
            have h1 := ha (n + 1) hn
            unfold okF at e
            unfold flatP at h1
            simp only [decide_eq_true_eq] at e
            omega)
          cases x with
          | zero => rw [dg_zero e, dg_zero e2]; exact hi 0
          | succ x => rw [dg_succ e, dg_succ e2]; exact Nat.add_le_add (hi (x + 1)) (hi x)
    exact key _ (Nat.le_refl _) _
/-- The high strip's steps forward. -/
def highP (f n : Nat) : Nat := min n f
def okH (d f n x : Nat) : Bool := decide (highP f n ≤ x ∧ n ≤ d + x)
theorem high_one (d f : Nat) : ∀ n, n ≤ d + f → (dg (okH d f) n (highP f n) = 1 ∧ ∀ x, x < highP f n → dg (okH d f) n x = 0) := by
  intro n
  induction n with
  | zero => intro _; exact ⟨by unfold highP; rw [Nat.zero_min]; rfl, fun x hx => by unfold highP at hx; omega⟩
  | succ n ih =>
    intro hn
    obtain ⟨h1, h2⟩ := ih (by omega)
    have z : ∀ x, x < highP f (n + 1) → dg (okH d f) (n + 1) x = 0 := fun x hx => dg_not (by unfold okH; simp; omega)
    refine ⟨?_, z⟩
    by_cases hf : f ≤ n
    · have e1 : highP f n = f := by unfold highP; omega
      have e2 : highP f (n + 1) = f := by unfold highP; omega
      have ho : okH d f (n + 1) f = true := by unfold okH; rw [e2]; simp; omega
      rw [e1] at h1 h2
      rw [e2]
      cases f with
      | zero => rw [dg_zero ho]; exact h1
      | succ f => rw [dg_succ ho, h1, h2 f (by omega)]
    · have e1 : highP f n = n := by unfold highP; omega
      have e2 : highP f (n + 1) = n + 1 := by unfold highP; omega
      have ho : okH d f (n + 1) (n + 1) = true := by unfold okH; rw [e2]; simp only [decide_eq_true_eq]; omega
      rw [e1] at h1
      rw [e2, dg_succ ho, h1, dg_far _ n (n + 1) (by omega)]
theorem ff_high (l : List UInt8) (n : Nat) : ff l n ≤ highP (cnt 102 l) n := by
  have h1 := ff_le l n
  have h2 := ff_le_all l n
  unfold highP
  omega
theorem above_high {l : List UInt8} (h : okL l = true) : aboveN l = 1 ↔ ∀ n, n ≤ l.length → highP (cnt 102 l) n ≤ ff l n := by
  have hs := cnt_sum l h
  have hone := (high_one (cnt 100 l) (cnt 102 l) l.length (by omega)).1
  rw [show highP (cnt 102 l) l.length = cnt 102 l from by unfold highP; omega] at hone
  have hm : ∀ n x, okH (cnt 100 l) (cnt 102 l) n x = true → okA l n x = true := fun n x e => by
    unfold okH at e
    simp only [decide_eq_true_eq] at e
    exact okA_iff.2 ⟨Nat.le_trans (ff_high l n) e.1, e.2⟩
  unfold aboveN
  constructor
  · intro he n hn
    by_cases hc : highP (cnt 102 l) n ≤ ff l n
    · exact hc
    · exfalso
      obtain ⟨k, rfl⟩ : ∃ k, n = k + 1 := ⟨n - 1, by
        have : n ≠ 0 := fun e => by subst e; unfold highP at hc; omega
        omega⟩
      have hl := dg_less hm (ff_way l) (fun n _ hn => okA_iff.2 ⟨Nat.le_refl _, ff_down h n hn⟩) (k := k) (by unfold okH; simp; omega) l.length hn (Nat.le_refl _)
      rw [ff_end] at hl
      omega
  · intro ha
    refine Nat.le_antisymm ?_ (above_pos h)
    have key : ∀ n, n ≤ l.length → ∀ x, dg (okA l) n x ≤ dg (okH (cnt 100 l) (cnt 102 l)) n x := by
      intro n
      induction n with
      | zero =>
        intro _ x
        cases x with
        | zero => exact Nat.le_refl _
        | succ x => exact Nat.le_refl _
      | succ n ih =>
        intro hn x
        have hi := ih (by omega)
        cases e : okA l (n + 1) x with
        | false => rw [dg_not e]; exact Nat.zero_le _
        | true =>
          have e2 : okH (cnt 100 l) (cnt 102 l) (n + 1) x = true := by
            have h1 := ha (n + 1) hn
            have h2 := okA_iff.1 e
            unfold okH
            simp only [decide_eq_true_eq]
            omega
          cases x with
          | zero => rw [dg_zero e, dg_zero e2]; exact hi 0
          | succ x => rw [dg_succ e, dg_succ e2]; exact Nat.add_le_add (hi (x + 1)) (hi x)
    have := key _ (Nat.le_refl _) (cnt 102 l)
    omega

/-! ### the flat and the high strip -/
theorem ff_flat (d f n : Nat) : ff (List.replicate d 100 ++ List.replicate f 102) n = min (n - d) f := by
  unfold ff cnt
  rw [List.take_append, List.count_append, List.take_replicate, List.take_replicate, List.count_replicate, List.count_replicate, List.length_replicate]
  simp
theorem ff_hgh (d f n : Nat) : ff (List.replicate f 102 ++ List.replicate d 100) n = min n f := by
  unfold ff cnt
  rw [List.take_append, List.count_append, List.take_replicate, List.take_replicate, List.count_replicate, List.count_replicate, List.length_replicate]
  simp
theorem flat_same {l : List UInt8} (h : stripB l = true) : sameB l (List.replicate (cnt 100 l) 100 ++ List.replicate (cnt 102 l) 102) = true := by
  have c1 : cnt 100 (List.replicate (cnt 100 l) 100 ++ List.replicate (cnt 102 l) 102) = cnt 100 l := by
    show List.count _ _ = _
    rw [List.count_append, List.count_replicate, List.count_replicate]; simp
  have c2 : cnt 102 (List.replicate (cnt 100 l) 100 ++ List.replicate (cnt 102 l) 102) = cnt 102 l := by
    show List.count _ _ = _
    rw [List.count_append, List.count_replicate, List.count_replicate]; simp
  refine same_of h ?_ c1.symm c2.symm
  unfold stripB
  rw [c1, c2, stripB_frame h]
  simp only [Bool.and_true]
  unfold okL
  simp
theorem high_same {l : List UInt8} (h : stripB l = true) : sameB l (List.replicate (cnt 102 l) 102 ++ List.replicate (cnt 100 l) 100) = true := by
  have c1 : cnt 100 (List.replicate (cnt 102 l) 102 ++ List.replicate (cnt 100 l) 100) = cnt 100 l := by
    show List.count _ _ = _
    rw [List.count_append, List.count_replicate, List.count_replicate]; simp
  have c2 : cnt 102 (List.replicate (cnt 102 l) 102 ++ List.replicate (cnt 100 l) 100) = cnt 102 l := by
    show List.count _ _ = _
    rw [List.count_append, List.count_replicate, List.count_replicate]; simp
  refine same_of h ?_ c1.symm c2.symm
  unfold stripB
  rw [c1, c2, stripB_frame h]
  simp only [Bool.and_true]
  unfold okL
  simp
theorem is_flat {l : List UInt8} (h : stripB l = true) : aboveN l = allN (cnt 100 l) (cnt 102 l) ↔ l = List.replicate (cnt 100 l) 100 ++ List.replicate (cnt 102 l) 102 := by
  rw [above_flat (stripB_ok h)]
  have hs := cnt_sum l (stripB_ok h)
  constructor
  · intro ha
    refine eq_of_ff (flat_same h) fun k hk => ?_
    rw [ff_flat]
    have h1 := ha k hk
    have h2 := ff_down (stripB_ok h) k hk
    unfold flatP at h1
    omega
  · intro e n hn
    rw [e, ff_flat, ← e]
    unfold flatP
    omega
theorem is_high {l : List UInt8} (h : stripB l = true) : aboveN l = 1 ↔ l = List.replicate (cnt 102 l) 102 ++ List.replicate (cnt 100 l) 100 := by
  rw [above_high (stripB_ok h)]
  constructor
  · intro ha
    refine eq_of_ff (high_same h) fun k hk => ?_
    rw [ff_hgh]
    have h1 := ha k hk
    have h2 := ff_high l k
    unfold highP at h1 h2
    omega
  · intro e n hn
    rw [e, ff_hgh, ← e]
    unfold highP
    omega

/-! ### the heights' way of counting -/
/-- ways[h] behind i steps forward, among heights up to d. -/
def wy (l : List UInt8) (i h : Nat) : Nat :=
  if cnt 100 l < h then 0 else if i = 0 then (if h = cnt 100 l then 1 else 0) else dg (okA l) (i - 1 + (cnt 100 l - h)) (i - 1)
theorem diag_one {l : List UInt8} : ∀ i, dg (okA l) i i = 1
  | 0 => rfl
  | i + 1 => by
    have h := ff_le l (i + 1)
    rw [dg_succ (okA_iff.2 ⟨h, by omega⟩), dg_far _ i (i + 1) (by omega), diag_one i]
theorem wy_far {l : List UInt8} {i h : Nat} (hh : cnt 100 l < h) : wy l i h = 0 := by unfold wy; rw [if_pos hh]
theorem wy_first {l : List UInt8} {h : Nat} (hh : h ≤ cnt 100 l) : wy l 0 h = if h = cnt 100 l then 1 else 0 := by unfold wy; rw [if_neg (Nat.not_lt.2 hh), if_pos rfl]
theorem wy_next {l : List UInt8} {i h : Nat} (hh : h ≤ cnt 100 l) : wy l (i + 1) h = dg (okA l) (i + (cnt 100 l - h)) i := by unfold wy; rw [if_neg (Nat.not_lt.2 hh), if_neg (Nat.succ_ne_zero i)]; rfl
theorem wy_top (l : List UInt8) (i : Nat) : wy l i (cnt 100 l) = 1 := by
  cases i with
  | zero => rw [wy_first (Nat.le_refl _), if_pos rfl]
  | succ i => rw [wy_next (Nat.le_refl _), Nat.sub_self, Nat.add_zero, diag_one]
/-- A height at which the strip may take its step i. -/
theorem wy_in {l : List UInt8} {i h : Nat} (hh : h < cnt 100 l) (hf : ff l (i + (cnt 100 l - h)) ≤ i) : wy l (i + 1) h = wy l i h + wy l (i + 1) (h + 1) := by
  obtain ⟨y, hy⟩ : ∃ y, cnt 100 l - h = y + 1 := ⟨cnt 100 l - h - 1, by omega⟩
  have hy2 : cnt 100 l - (h + 1) = y := by omega
  rw [wy_next (show h ≤ cnt 100 l by omega), wy_next (show h + 1 ≤ cnt 100 l by omega), hy, hy2]
  rw [hy] at hf
  have ho : okA l (i + y + 1) i = true := okA_iff.2 ⟨hf, by omega⟩
  cases i with
  | zero =>
    rw [wy_first (by omega), if_neg (by omega)]
    show dg (okA l) (0 + y + 1) 0 = _
    rw [dg_zero ho]
    omega
  | succ i =>
    rw [wy_next (show h ≤ cnt 100 l by omega), hy]
    show dg (okA l) (i + 1 + y + 1) (i + 1) = _
    rw [dg_succ ho, Nat.add_comm]
    congr 2
    omega
/-- .. and one at which it may not. -/
theorem wy_out {l : List UInt8} {i h : Nat} (hf : i < ff l (i + (cnt 100 l - h))) : wy l (i + 1) h = wy l i h := by
  by_cases hd : cnt 100 l < h
  · rw [wy_far hd, wy_far hd]
  have hle : h ≤ cnt 100 l := by omega
  by_cases e : h = cnt 100 l
  · rw [e, Nat.sub_self, Nat.add_zero] at hf
    have := ff_le l i
    omega
  rw [wy_next hle]
  obtain ⟨y, hy⟩ : ∃ y, cnt 100 l - h = y + 1 := ⟨cnt 100 l - h - 1, by omega⟩
  rw [hy] at hf ⊢
  rw [show i + (y + 1) = i + y + 1 from rfl] at hf ⊢
  rw [dg_not (okA_not.2 fun q => by have := q.1; omega)]
  cases i with
  | zero => rw [wy_first hle, if_neg e]
  | succ i =>
    rw [wy_next hle, hy]
    have : ff l (i + 1 + y + 1) ≤ ff l (i + y + 1) + 1 := by
      by_cases hl : i + y + 1 < l.length
      · have := ff_succ l (i + y + 1) hl
        rw [show i + 1 + y + 1 = i + y + 1 + 1 from by omega, this]
        split <;> omega
      · rw [ff_all l (i + 1 + y + 1) (by omega), ff_all l (i + y + 1) (by omega)]; omega
    rw [show i + (y + 1) = i + y + 1 from rfl, dg_not (okA_not.2 fun q => by have := q.1; omega)]
theorem wy_bound (l : List UInt8) (i h : Nat) (hi : i ≤ 9) (hd : cnt 100 l ≤ 8) : wy l i h ≤ 65536 := by
  unfold wy
  split
  · omega
  · split
    · split <;> omega
    · refine Nat.le_trans (dg_bound _ _ _) ?_
      exact Nat.le_trans (Nat.pow_le_pow_right (by omega) (show i - 1 + (cnt 100 l - h) ≤ 16 by omega)) (by decide)
/-- The lowest height of the step i says which. -/
theorem low_iff {l : List UInt8} (hok : okL l = true) {i : Nat} (hi : i < cnt 102 l) (u : Int) : ∃ p : Nat, (hts u l)[i]? = some (u - (p : Int)) ∧ p ≤ cnt 100 l ∧ ∀ y, y ≤ cnt 100 l → (y ≤ p ↔ ff l (i + y) ≤ i) := by
  have hs := cnt_sum l hok
  obtain ⟨p, h1, h2, h3⟩ := hts_at hok u l.length (Nat.le_refl _) i (by rw [ff_end]; exact hi)
  rw [List.take_length] at h1
  have hp : p ≤ cnt 100 l := by
    have h4 := (h3 (p + i) h2).1 (Nat.le_refl _)
    have h5 := ff_le l (p + i)
    by_cases hc : p + i = 0
    · omega
    · have h6 : ff l (p + i) ≤ i := by
        by_cases hq : i < ff l (p + i - 1 + 1)
        · have := (h3 (p + i - 1) (by omega)).2 hq; omega
        · rw [show p + i - 1 + 1 = p + i from by omega] at hq; omega
      have h7 := dd_eq hok (p + i) (by omega)
      have h8 : cnt 100 (l.take (p + i)) ≤ cnt 100 l := List.Sublist.count_le _ (List.take_sublist _ l)
      omega
  refine ⟨p, h1, hp, fun y hy => ?_⟩
  by_cases hc : i + y = 0
  · rw [hc, ff_zero]; constructor <;> intro _ <;> omega
  · have := h3 (i + y - 1) (by omega)
    rw [show i + y - 1 + 1 = i + y from by omega] at this
    omega
/-- In the end all of them are counted. -/
theorem wy_sum {l : List UInt8} (hok : okL l = true) (hf : 1 ≤ cnt 102 l) : ((List.range (cnt 100 l + 1)).map fun h => wy l (cnt 102 l) h).sum = aboveN l := by
  have hs := cnt_sum l hok
  obtain ⟨f, hF⟩ : ∃ f, cnt 102 l = f + 1 := ⟨cnt 102 l - 1, by omega⟩
  have key : ∀ y, y ≤ cnt 100 l → ((List.range (y + 1)).map fun j => wy l (f + 1) (cnt 100 l - j)).sum = dg (okA l) (f + 1 + y) (f + 1) := by
    intro y
    induction y with
    | zero =>
      intro _
      rw [List.range_one]
      simp only [List.map_cons, List.map_nil, List.sum_cons, List.sum_nil, Nat.sub_zero, Nat.add_zero]
      rw [wy_top, diag_one]
    | succ y ih =>
      intro hy
      rw [List.range_succ, List.map_append, List.sum_append, ih (by omega)]
      simp only [List.map_cons, List.map_nil, List.sum_cons, List.sum_nil, Nat.add_zero]
      have ho : okA l (f + 1 + y + 1) (f + 1) = true := okA_iff.2 ⟨by rw [← hF]; exact ff_le_all _ _, by omega⟩
      show _ = dg (okA l) (f + 1 + y + 1) (f + 1)
      rw [dg_succ ho]
      congr 1
      unfold wy
      rw [if_neg (by omega), if_neg (by omega), show cnt 100 l - (cnt 100 l - (y + 1)) = y + 1 from by omega]
      congr 1
      omega
  have h1 := key (cnt 100 l) (Nat.le_refl _)
  have h2 : ((List.range (cnt 100 l + 1)).map fun j => wy l (f + 1) (cnt 100 l - j)).sum = ((List.range (cnt 100 l + 1)).map fun h => wy l (f + 1) h).sum := by
    have e : (List.range (cnt 100 l + 1)).map (fun j => wy l (f + 1) (cnt 100 l - j)) = ((List.range (cnt 100 l + 1)).map fun h => wy l (f + 1) h).reverse := by
      refine List.ext_getElem (by simp) fun j h1 h2 => ?_
      simp at h1 h2
      simp [List.getElem_reverse]
    rw [e, List.sum_reverse]
  rw [hF, ← h2, h1]
  unfold aboveN
  rw [hF, show f + 1 + cnt 100 l = l.length from by omega]

/-! ### tables of rooms -/
/-- Strips with heights up to u and f steps forward whose room is r. -/
def rtRow (g : Nat → Nat → Nat) (u : Nat) : Nat → Nat → Nat
  | 0, r => if r = 0 then 1 else 0
  | f + 1, r => g (f + 1) r + (if u + 1 ≤ r then rtRow g u f (r - (u + 1)) else 0)
def rt : Nat → Nat → Nat → Nat
  | 0 => fun _ r => if r = 0 then 1 else 0
  | u + 1 => rtRow (rt u) u
theorem rt_u0 (f r : Nat) : rt 0 f r = if r = 0 then 1 else 0 := rfl
theorem rt_f0 (u r : Nat) : rt u 0 r = if r = 0 then 1 else 0 := by cases u <;> rfl
theorem rt_step (u f r : Nat) : rt (u + 1) (f + 1) r = rt u (f + 1) r + (if u + 1 ≤ r then rt (u + 1) f (r - (u + 1)) else 0) := rfl
theorem rt_bound : ∀ u f r, rt u f r ≤ 2 ^ (u + f)
  | 0, f, r => by rw [rt_u0]; have := Nat.one_le_two_pow (n := 0 + f); split <;> omega
  | u + 1, 0, r => by rw [rt_f0]; have := Nat.one_le_two_pow (n := u + 1 + 0); split <;> omega
  | u + 1, f + 1, r => by
    rw [rt_step]
    have h1 := rt_bound u (f + 1) r
    have h2 := rt_bound (u + 1) f (r - (u + 1))
    rw [show u + (f + 1) = u + f + 1 from by omega] at h1
    rw [show u + 1 + f = u + f + 1 from by omega] at h2
    rw [show u + 1 + (f + 1) = u + f + 1 + 1 from by omega, Nat.pow_succ 2 (u + f + 1)]
    split <;> omega
theorem rt_small {u f : Nat} (r : Nat) (hu : u ≤ 8) (hf : f ≤ 8) : rt u f r ≤ 65536 :=
  Nat.le_trans (rt_bound u f r) (Nat.le_trans (Nat.pow_le_pow_right (by omega) (show u + f ≤ 16 by omega)) (by decide))
/-- What RoomTable returns. -/
def tabN (d f : Nat) : List Int := (List.range (d * f + 1)).map fun r => (rt d f r : Int)
def tabL (d f : Int) : List Int := if frameB d f = true then tabN d.toNat f.toNat else []
theorem tabN_length (d f : Nat) : (tabN d f).length = d * f + 1 := by unfold tabN; simp

/-! ### numbers of strips -/
def chs (a : Nat) : Nat → Nat
  | 0 => 1
  | k + 1 => chs a k * (a + (k + 1)) / (k + 1)
def numI (d f : Int) : Int := if frameB d f = true then (chs f.toNat d.toNat : Int) else 0
def below9 (p : Nat → Nat → Bool) : Bool := (List.range 9).all fun a => (List.range 9).all fun b => p a b
theorem below9_at {p : Nat → Nat → Bool} (h : below9 p = true) {a b : Nat} (ha : a ≤ 8) (hb : b ≤ 8) : p a b = true := by
  unfold below9 at h
  rw [List.all_eq_true] at h
  have h1 := h a (List.mem_range.2 (by omega))
  rw [List.all_eq_true] at h1
  exact h1 b (List.mem_range.2 (by omega))
theorem chs_small {a k : Nat} (ha : a ≤ 8) (hk : k ≤ 8) : chs a k ≤ 12870 := by
  have := below9_at (p := fun a k => decide (chs a k ≤ 12870)) (by decide +kernel) ha hk
  simpa using this
theorem chs_both {a k : Nat} (ha : a ≤ 8) (hk : k ≤ 8) : chs a k = chs k a := by
  have := below9_at (p := fun a k => decide (chs a k = chs k a)) (by decide +kernel) ha hk
  simpa using this
/-- What the law asks of a table. -/
def tabOk (d f : Nat) : Bool :=
  (List.range (d * f + 1)).all (fun r => decide (1 ≤ rt d f r) && decide (rt d f r = rt d f (d * f - r))) && decide (((List.range (d * f + 1)).map fun r => rt d f r).sum = chs f d) && decide (allN d f = chs f d)
def below6 (p : Nat → Nat → Bool) : Bool := (List.range 5).all fun a => (List.range 5).all fun b => p (a + 1) (b + 1)
theorem below6_at {p : Nat → Nat → Bool} (h : below6 p = true) {a b : Nat} (ha : a ≤ 5) (hb : b ≤ 5) (ha1 : 1 ≤ a) (hb1 : 1 ≤ b) : p a b = true := by
  unfold below6 at h
  rw [List.all_eq_true] at h
  have h1 := h (a - 1) (List.mem_range.2 (by omega))
  rw [List.all_eq_true] at h1
  have h2 := h1 (b - 1) (List.mem_range.2 (by omega))
  rwa [show a - 1 + 1 = a from by omega, show b - 1 + 1 = b from by omega] at h2
theorem tab_ok {d f : Nat} (hd : d ≤ 5) (hf : f ≤ 5) (hd1 : 1 ≤ d) (hf1 : 1 ≤ f) : tabOk d f = true := below6_at (p := tabOk) (by decide +kernel) hd hf hd1 hf1
end Go.Proofs.Ythigiemgdejdhaa.Area

/-
  FACES AS A LABELLING: a labelling g of the tiles 0 .. m-1 that never rises, is alike at neighbors and goes only along neighbors
  gives each tile the least tile of its face; the number of a face is how many such least tiles lie before it. Pure mathematics.
-/
import Derived.Test.YtmmlaelllpnchaaStrip
namespace Go.Proofs.Ytmmlaelllpnchaa.Faces

/-- c t: is t joined to the tile before it (step 0); e t: .. to the tile n before it (step 1). -/
structure Net where
  m : Nat
  n : Nat
  c : Nat → Bool
  e : Nat → Bool
  hc : ∀ t, c t = true → 1 ≤ t
  he : ∀ t, e t = true → n ≤ t
  hn : 1 ≤ n

def Closed (N : Net) (S : Nat → Prop) : Prop := ∀ t, t < N.m → (N.c t = true → (S t ↔ S (t - 1))) ∧ (N.e t = true → (S t ↔ S (t - N.n)))

/-- The labelling is sound: it never rises and stays in whatever is closed. -/
def Sound (N : Net) (g : Nat → Nat) : Prop := ∀ x, x < N.m → g x ≤ x ∧ ∀ S, Closed N S → (S (g x) ↔ S x)

/-- The edges of the tiles before p are done, and of p the first q. -/
def Done (N : Net) (p q : Nat) (g : Nat → Nat) : Prop := ∀ t, t < N.m → ((t < p ∨ (t = p ∧ 0 < q)) → N.c t = true → g t = g (t - 1)) ∧ ((t < p ∨ (t = p ∧ 1 < q)) → N.e t = true → g t = g (t - N.n))

def Full (N : Net) (g : Nat → Nat) : Prop := Sound N g ∧ ∀ t, t < N.m → (N.c t = true → g t = g (t - 1)) ∧ (N.e t = true → g t = g (t - N.n))

theorem sound_id (N : Net) : Sound N (fun t => t) := fun _ _ => ⟨Nat.le_refl _, fun _ _ => Iff.rfl⟩

def merge (a b : Nat) (g : Nat → Nat) : Nat → Nat := fun x => if g x = b then a else g x

theorem sound_merge {N : Net} {g : Nat → Nat} (h : Sound N g) {t u : Nat} (ht : t < N.m) (hu : u < N.m) (hj : ∀ S, Closed N S → (S t ↔ S u)) :
    Sound N (merge (min (g u) (g t)) (max (g u) (g t)) g) := by
  intro x hx
  have hs : ∀ S, Closed N S → (S (min (g u) (g t)) ↔ S (max (g u) (g t))) := by
    intro S hS
    have e1 := (h t ht).2 S hS
    have e2 := (h u hu).2 S hS
    have e3 := hj S hS
    rcases Nat.le_total (g u) (g t) with hl | hl
    · rw [Nat.min_eq_left hl, Nat.max_eq_right hl]; rw [e1, e2, e3]
    · rw [Nat.min_eq_right hl, Nat.max_eq_left hl]; rw [e1, e2, e3]
  unfold merge
  split
  · rename_i hb
    refine ⟨?_, fun S hS => ?_⟩
    · have := (h x hx).1; omega
    · rw [hs S hS, ← hb]; exact (h x hx).2 S hS
  · exact h x hx

theorem merge_eq {g : Nat → Nat} {a b x y : Nat} (h : g x = g y) : merge a b g x = merge a b g y := by simp [merge, h]

theorem merge_new (g : Nat → Nat) (u t : Nat) : merge (min (g u) (g t)) (max (g u) (g t)) g t = merge (min (g u) (g t)) (max (g u) (g t)) g u := by
  unfold merge
  rcases Nat.le_total (g u) (g t) with hl | hl
  · rw [Nat.min_eq_left hl, Nat.max_eq_right hl]; split <;> split <;> omega
  · rw [Nat.min_eq_right hl, Nat.max_eq_left hl]; split <;> split <;> omega

theorem merge_ext {g g' : Nat → Nat} {a b x : Nat} (h : g x = g' x) : merge a b g x = merge a b g' x := by simp [merge, h]

theorem Done.mono {N : Net} {p q q' : Nat} {g : Nat → Nat} (h : Done N p q' g) (hq : q ≤ q') : Done N p q g := fun t ht => ⟨fun h1 h2 => (h t ht).1 (by omega) h2, fun h1 h2 => (h t ht).2 (by omega) h2⟩

theorem Done.merged {N : Net} {p q : Nat} {g : Nat → Nat} (a b : Nat) (h : Done N p q g) : Done N p q (merge a b g) :=
  fun t ht => ⟨fun h1 h2 => merge_eq ((h t ht).1 h1 h2), fun h1 h2 => merge_eq ((h t ht).2 h1 h2)⟩

/-- The first edge of p is done. -/
theorem Done.one {N : Net} {p : Nat} {g : Nat → Nat} (h : Done N p 0 g) (h1 : N.c p = true → g p = g (p - 1)) : Done N p 1 g := by
  intro t ht
  refine ⟨fun hp hc => ?_, fun hp hc => (h t ht).2 (by omega) hc⟩
  by_cases e : t = p
  · subst e; exact h1 hc
  · exact (h t ht).1 (by omega) hc

theorem Done.two {N : Net} {p : Nat} {g : Nat → Nat} (h : Done N p 1 g) (h1 : N.e p = true → g p = g (p - N.n)) : Done N p 2 g := by
  intro t ht
  refine ⟨fun hp hc => (h t ht).1 (by omega) hc, fun hp hc => ?_⟩
  by_cases e : t = p
  · subst e; exact h1 hc
  · exact (h t ht).2 (by omega) hc

theorem Done.next {N : Net} {p : Nat} {g : Nat → Nat} (h : Done N p 2 g) : Done N (p + 1) 0 g :=
  fun t ht => ⟨fun hp hc => (h t ht).1 (by omega) hc, fun hp hc => (h t ht).2 (by omega) hc⟩

theorem Done.full {N : Net} {g : Nat → Nat} (hs : Sound N g) (h : Done N N.m 0 g) : Full N g :=
  ⟨hs, fun t ht => ⟨fun hc => (h t ht).1 (Or.inl ht) hc, fun hc => (h t ht).2 (Or.inl ht) hc⟩⟩

theorem done_start (N : Net) (g : Nat → Nat) : Done N 0 0 g := fun t _ => ⟨fun h => by omega, fun h => by omega⟩

theorem closed_c {N : Net} {t : Nat} (ht : t < N.m) (hc : N.c t = true) (S : Nat → Prop) (hS : Closed N S) : S t ↔ S (t - 1) := (hS t ht).1 hc
theorem closed_e {N : Net} {t : Nat} (ht : t < N.m) (hc : N.e t = true) (S : Nat → Prop) (hS : Closed N S) : S t ↔ S (t - N.n) := (hS t ht).2 hc

/-! ### the full labelling -/
theorem Full.le {N : Net} {g : Nat → Nat} (h : Full N g) {x : Nat} (hx : x < N.m) : g x ≤ x := (h.1 x hx).1

theorem Full.fixed {N : Net} {g : Nat → Nat} (h : Full N g) {x : Nat} (hx : x < N.m) : g (g x) = g x := by
  have := (h.1 x hx).2 (fun y => g y = g x) (fun t ht => ⟨fun hc => by show _ = _ ↔ _ = _; rw [(h.2 t ht).1 hc], fun hc => by show _ = _ ↔ _ = _; rw [(h.2 t ht).2 hc]⟩)
  exact this.2 rfl

/-- Two full labellings are one. -/
theorem Full.unique {N : Net} {g g' : Nat → Nat} (h : Full N g) (h' : Full N g') {x : Nat} (hx : x < N.m) : g x = g' x := by
  have key : ∀ {g g' : Nat → Nat}, Full N g → Full N g' → g' x ≤ g x := by
    intro g g' h h'
    have hcl : Closed N (fun y => g' y = g' x) := fun t ht => ⟨fun hc => by show _ = _ ↔ _ = _; rw [(h'.2 t ht).1 hc], fun hc => by show _ = _ ↔ _ = _; rw [(h'.2 t ht).2 hc]⟩
    have h1 : g' (g x) = g' x := ((h.1 x hx).2 _ hcl).2 rfl
    have hgx : g x < N.m := Nat.lt_of_le_of_lt (h.le hx) hx
    rw [← h1]; exact h'.le hgx
  exact Nat.le_antisymm (key h' h) (key h h')

/-! ### numbers of faces -/
def first (g : Nat → Nat) (t : Nat) : Bool := g t == t
def rank (g : Nat → Nat) : Nat → Nat
  | 0 => 0
  | t + 1 => rank g t + (if g t = t then 1 else 0)

theorem rank_mono (g : Nat → Nat) {a b : Nat} (h : a ≤ b) : rank g a ≤ rank g b := by
  induction b with
  | zero => obtain rfl : a = 0 := by omega
            exact Nat.le_refl _
  | succ b ih =>
    by_cases e : a = b + 1
    · subst e; exact Nat.le_refl _
    · exact Nat.le_trans (ih (by omega)) (by simp only [rank]; omega)

theorem rank_le (g : Nat → Nat) (a : Nat) : rank g a ≤ a := by
  induction a with
  | zero => exact Nat.le_refl _
  | succ b ih => simp only [rank]; split <;> omega

theorem rank_lt (g : Nat → Nat) {a b : Nat} (h : a < b) (ha : g a = a) : rank g a < rank g b := by
  have := rank_mono g (a := a + 1) (b := b) h
  simp only [rank, ha, if_true] at this
  omega

/-- The number of tile t's face. -/
def num (g : Nat → Nat) (t : Nat) : Nat := rank g (g t)

theorem num_first {g : Nat → Nat} {t : Nat} (h : g t = t) : num g t = rank g t := by simp [num, h]
theorem num_next {N : Net} {g : Nat → Nat} (h : Full N g) {t : Nat} (ht : t < N.m) : num g t = num g (g t) := by simp [num, h.fixed ht]
theorem num_lt {N : Net} {g : Nat → Nat} (h : Full N g) {t : Nat} (ht : t < N.m) {b : Nat} (hb : t < b) : num g t < rank g b :=
  rank_lt g (Nat.lt_of_le_of_lt (h.le ht) hb) (h.fixed ht)

/-- How many tiles before b bear the number f. -/
def many (g : Nat → Nat) (f : Int) : Nat → Nat
  | 0 => 0
  | t + 1 => many g f t + (if ((num g t : Nat) : Int) = f then 1 else 0)

/-- Each number below the count of faces is borne by a tile. -/
theorem rank_hit (g : Nat → Nat) : ∀ (b f : Nat), f < rank g b → ∃ a, a < b ∧ g a = a ∧ rank g a = f
  | 0, f, h => by simp [rank] at h
  | b + 1, f, h => by
    by_cases e : f < rank g b
    · obtain ⟨a, h1, h2⟩ := rank_hit g b f e
      exact ⟨a, by omega, h2⟩
    · simp only [rank] at h
      split at h
      · rename_i hb; exact ⟨b, by omega, hb, by omega⟩
      · omega

theorem many_pos {g : Nat → Nat} {f : Int} {a b : Nat} (h : a < b) (ha : ((num g a : Nat) : Int) = f) : 1 ≤ many g f b := by
  induction b with
  | zero => omega
  | succ b ih =>
    simp only [many]
    by_cases e : a = b
    · subst e; simp [ha]
    · have := ih (by omega); omega

/-- The sizes of all faces add up to the number of tiles. -/
def sum (g : Nat → Nat) (b : Nat) : Nat → Nat
  | 0 => 0
  | f + 1 => sum g b f + many g (f : Int) b

theorem sum_succ (g : Nat → Nat) (b : Nat) : ∀ k, sum g (b + 1) k = sum g b k + (if num g b < k then 1 else 0)
  | 0 => by simp [sum]
  | k + 1 => by
    simp only [sum, sum_succ g b k, many]
    by_cases h1 : num g b < k
    · have h2 : ¬((num g b : Nat) : Int) = (k : Int) := by omega
      have h3 : num g b < k + 1 := by omega
      simp only [h1, h2, h3, if_true, if_false]; omega
    · by_cases h2 : num g b = k
      · have h3 : ((num g b : Nat) : Int) = (k : Int) := by omega
        have h4 : num g b < k + 1 := by omega
        simp only [h1, h3, h4, if_true, if_false]; omega
      · have h3 : ¬((num g b : Nat) : Int) = (k : Int) := by omega
        have h4 : ¬ num g b < k + 1 := by omega
        simp only [h1, h3, h4, if_false]; omega

theorem sum_all {N : Net} {g : Nat → Nat} (h : Full N g) : ∀ b, b ≤ N.m → sum g b (rank g N.m) = b
  | 0, _ => by
    have : ∀ k, sum g 0 k = 0 := by
      intro k
      induction k with
      | zero => rfl
      | succ k ih => simp [sum, ih, many]
    exact this _
  | b + 1, hb => by
    rw [sum_succ, sum_all h b (by omega), if_pos (num_lt h (by omega) (by omega))]

theorem many_none {N : Net} {g : Nat → Nat} (h : Full N g) {f : Int} (hf : (rank g N.m : Int) ≤ f) : ∀ b, b ≤ N.m → many g f b = 0
  | 0, _ => rfl
  | b + 1, hb => by
    have h1 := num_lt h (t := b) (b := N.m) (by omega) (by omega)
    simp only [many, many_none h hf b (by omega)]
    rw [if_neg (by omega)]

/-! ### a face as the tiles that are met from its first one -/
/-- What is met from x alone is in x's face; what is closed and holds x holds the whole face. -/
theorem Full.face {N : Net} {g : Nat → Nat} (h : Full N g) {S : Nat → Prop} (hS : Closed N S) {x : Nat} (hx : x < N.m) (hSx : S (g x)) : S x := ((h.1 x hx).2 S hS).1 hSx

theorem full_exists (N : Net) : ∃ g, Full N g := by
  have step : ∀ p, p ≤ N.m → ∃ g, Sound N g ∧ Done N p 0 g := by
    intro p
    induction p with
    | zero => exact fun _ => ⟨_, sound_id N, done_start N _⟩
    | succ p ih =>
      intro hp
      obtain ⟨g, hs, hd⟩ := ih (by omega)
      have h1 : ∃ g, Sound N g ∧ Done N p 1 g := by
        by_cases hc : N.c p = true
        · have := N.hc p hc
          exact ⟨_, sound_merge hs (t := p) (u := p - 1) (by omega) (by omega) (closed_c (by omega) hc), (hd.merged _ _).one (fun _ => merge_new g (p - 1) p)⟩
        · exact ⟨g, hs, hd.one (fun h => absurd h hc)⟩
      obtain ⟨g, hs, hd⟩ := h1
      by_cases hc : N.e p = true
      · have := N.he p hc
        exact ⟨_, sound_merge hs (t := p) (u := p - N.n) (by omega) (by omega) (closed_e (by omega) hc), ((hd.merged _ _).two (fun _ => merge_new g (p - N.n) p)).next⟩
      · exact ⟨g, hs, (hd.two (fun h => absurd h hc)).next⟩
  obtain ⟨g, hs, hd⟩ := step N.m (Nat.le_refl _)
  exact ⟨g, hd.full hs⟩

noncomputable def label (N : Net) : Nat → Nat := Classical.choose (full_exists N)
theorem label_full (N : Net) : Full N (label N) := Classical.choose_spec (full_exists N)

end Go.Proofs.Ytmmlaelllpnchaa.Faces

/- The places of chapter 4: what the numbers are. -/
import Derived.Test.YthigiemgdejdhaaDoorStripSpec2
import Derived.Lib.Slices
namespace Go.Proofs.YthigiemgdejdhaaDoor.Place
open Go.Proofs.YthigiemgdejdhaaDoor.Strip
set_option linter.unusedVariables false

/-- Steps forward ahead of point k; steps down behind it. -/
def fwAt (l : List UInt8) (k : Nat) : Int := (cnt 102 (l.take k) : Int)
def upAt (l : List UInt8) (k : Nat) : Int := (cnt 100 l : Int) - (cnt 100 (l.take k) : Int)
def inB (l : List UInt8) (k : Int) : Bool := stripB l && decide (0 ≤ k ∧ k ≤ (l.length : Int))
def fx (x u op : Int) : Int := if op = 0 then x + u else if op = 1 then x else x - u
def fy (u op : Int) : Int := if op = 1 then u else 0
def opB (op : Int) : Bool := decide (0 ≤ op ∧ op ≤ 2)
def noV : Value := .tuple #[.int .i64 0, .int .i64 0, .bool false]
def placeT (x u op : Int) : Value := if opB op = true then .tuple #[.int .i64 (fx x u op), .int .i64 (fy u op), .bool true] else noV
/-- What PlaceOf returns. -/
def placeV (l : List UInt8) (k op : Int) : Value := if inB l k = true then placeT (fwAt l k.toNat) (upAt l k.toNat) op else noV

theorem cnt_take (x : UInt8) (l : List UInt8) (k : Nat) : cnt x (l.take k) ≤ cnt x l := by
  unfold cnt; exact (List.take_sublist k l).count_le x

theorem frame_of {l : List UInt8} (h : stripB l = true) : 1 ≤ cnt 100 l ∧ cnt 100 l ≤ 8 ∧ 1 ≤ cnt 102 l ∧ cnt 102 l ≤ 8 ∧ cnt 100 l + cnt 102 l = l.length := by
  have h1 := stripB_frame h
  have h2 := cnt_sum l (stripB_ok h)
  unfold frameB at h1
  simp at h1
  omega

theorem at_no {l : List UInt8} {k : Int} (h : inB l k = false) : atV l k = noV := by
  unfold atV noV
  rw [if_neg]
  rintro ⟨h1, h2, h3⟩
  unfold inB at h
  rw [h1, decide_eq_true ⟨h2, h3⟩] at h
  cases h
theorem at_yes {l : List UInt8} {k : Int} (h : inB l k = true) :
    ∃ x y d : Nat, x ≤ 8 ∧ y ≤ d ∧ d ≤ 8 ∧ atV l k = .tuple #[.int .i64 (x : Int), .int .i64 (y : Int), .bool true] ∧ numV 100 l = (d : Int) ∧ (∀ op, placeV l k op = placeT (x : Int) ((d : Int) - (y : Int)) op) := by
  have h' := h
  unfold inB at h'
  simp only [Bool.and_eq_true, decide_eq_true_eq] at h'
  obtain ⟨hs, h0, h1⟩ := h'
  have hf := frame_of hs
  have hx := cnt_take 102 l k.toNat
  have hy := cnt_take 100 l k.toNat
  refine ⟨cnt 102 (l.take k.toNat), cnt 100 (l.take k.toNat), cnt 100 l, by omega, hy, by omega, ?_, ?_, ?_⟩
  · unfold atV; rw [if_pos ⟨hs, h0, h1⟩]
  · unfold numV; rw [if_pos hs]
  · intro op; unfold placeV; rw [if_pos h]; rfl
theorem place_no {l : List UInt8} {k : Int} (h : inB l k = false) (op : Int) : placeV l k op = noV := by unfold placeV; rw [if_neg (by simp [h])]

/-- The first number of point k of a strip. -/
def px (l : List UInt8) (op : Int) (k : Nat) : Int := fx (fwAt l k) (upAt l k) op
theorem place_at {l : List UInt8} {k : Nat} {op : Int} (hs : stripB l = true) (hk : k ≤ l.length) (ho : opB op = true) : placeV l (k : Int) op = .tuple #[.int .i64 (px l op k), .int .i64 (fy (upAt l k) op), .bool true] := by
  unfold placeV placeT
  rw [if_pos (by unfold inB; rw [hs]; simp; omega), if_pos ho]
  rfl
theorem fw_bound {l : List UInt8} (hs : stripB l = true) (k : Nat) : 0 ≤ fwAt l k ∧ fwAt l k ≤ 8 := by
  have := frame_of hs; have := cnt_take 102 l k; unfold fwAt; omega
theorem up_bound {l : List UInt8} (hs : stripB l = true) (k : Nat) : 0 ≤ upAt l k ∧ upAt l k ≤ 8 := by
  have := frame_of hs; have := cnt_take 100 l k; unfold upAt; omega
theorem px_bound {l : List UInt8} (hs : stripB l = true) (op : Int) (k : Nat) : -8 ≤ px l op k ∧ px l op k ≤ 16 := by
  have := fw_bound hs k; have := up_bound hs k
  unfold px fx; split
  · omega
  · split <;> omega

/-- The greatest, the smallest of the first k numbers and a. -/
def hiF (a : Int) (f : Nat → Int) : Nat → Int | 0 => a | k + 1 => max (hiF a f k) (f k)
def loF (a : Int) (f : Nat → Int) : Nat → Int | 0 => a | k + 1 => min (loF a f k) (f k)
theorem hiF_le {a b : Int} {f : Nat → Int} (ha : a ≤ b) (n : Nat) (h : ∀ k, k < n → f k ≤ b) : hiF a f n ≤ b := by
  induction n with
  | zero => exact ha
  | succ n ih => unfold hiF; have := ih (fun k hk => h k (by omega)); have := h n (by omega); omega
theorem le_hiF {a : Int} {f : Nat → Int} (n k : Nat) (hk : k < n) : f k ≤ hiF a f n := by
  induction n with
  | zero => omega
  | succ n ih =>
    unfold hiF
    by_cases h : k = n
    · subst h; omega
    · have := ih (by omega); omega
theorem hiF_ge {a : Int} {f : Nat → Int} (n : Nat) : a ≤ hiF a f n := by
  induction n with
  | zero => exact Int.le_refl _
  | succ n ih => unfold hiF; omega
theorem le_loF {a b : Int} {f : Nat → Int} (ha : b ≤ a) (n : Nat) (h : ∀ k, k < n → b ≤ f k) : b ≤ loF a f n := by
  induction n with
  | zero => exact ha
  | succ n ih => unfold loF; have := ih (fun k hk => h k (by omega)); have := h n (by omega); omega
theorem loF_le {a : Int} {f : Nat → Int} (n k : Nat) (hk : k < n) : loF a f n ≤ f k := by
  induction n with
  | zero => omega
  | succ n ih =>
    unfold loF
    by_cases h : k = n
    · subst h; omega
    · have := ih (by omega); omega
theorem loF_ge {a : Int} {f : Nat → Int} (n : Nat) : loF a f n ≤ a := by
  induction n with
  | zero => exact Int.le_refl _
  | succ n ih => unfold loF; omega
theorem hiF_start {a : Int} {f : Nat → Int} (h : a ≤ f 0) (n : Nat) : hiF a f (n + 1) = hiF (f 0) f (n + 1) := by
  induction n with
  | zero => simp only [hiF]; omega
  | succ n ih => rw [hiF, ih, ← hiF]

def firsts (f : Nat → Int) (k : Nat) : List Int := (List.range k).map f
theorem firsts_length (f : Nat → Int) (k : Nat) : (firsts f k).length = k := by simp [firsts]
theorem firsts_succ (f : Nat → Int) (k : Nat) : firsts f (k + 1) = firsts f k ++ [f k] := by simp [firsts, List.range_succ]
theorem firsts_take (f : Nat → Int) (n k : Nat) (h : k ≤ n) : (firsts f n).take k = firsts f k := by
  unfold firsts; rw [← List.map_take, List.take_range, Nat.min_eq_left h]
theorem firsts_get (f : Nat → Int) (n k : Nat) (h : k < n) : (firsts f n).getD k 0 = f k := by
  unfold firsts; rw [List.getD_eq_getElem?_getD]; simp [h]
theorem max_firsts (f : Nat → Int) (n : Nat) : Lib.maxOf (firsts f (n + 1)) = hiF (f 0) f (n + 1) := by
  induction n with
  | zero =>
    have := Lib.maxOf_one (firsts f 1)
    rw [firsts_take _ _ _ (Nat.le_refl _), firsts_get _ _ _ (by omega)] at this
    rw [this]; simp only [hiF]; omega
  | succ n ih =>
    have := Lib.maxOf_step (firsts f (n + 2)) (n + 1) (by omega) (by rw [firsts_length]; omega)
    rw [firsts_take _ _ _ (by omega), firsts_take _ _ _ (by omega), firsts_get _ _ _ (by omega), ih] at this
    rw [this]; rfl
theorem min_firsts (f : Nat → Int) (n : Nat) : Lib.minOf (firsts f (n + 1)) = loF (f 0) f (n + 1) := by
  induction n with
  | zero =>
    have := Lib.minOf_one (firsts f 1)
    rw [firsts_take _ _ _ (Nat.le_refl _), firsts_get _ _ _ (by omega)] at this
    rw [this]; simp only [loF]; omega
  | succ n ih =>
    have := Lib.minOf_step (firsts f (n + 2)) (n + 1) (by omega) (by rw [firsts_length]; omega)
    rw [firsts_take _ _ _ (by omega), firsts_take _ _ _ (by omega), firsts_get _ _ _ (by omega), ih] at this
    rw [this]; rfl

def reachV (l : List UInt8) : Int := if stripB l = true then hiF 0 (px l 0) (l.length + 1) else 0
def spreadV (l : List UInt8) : Int := if stripB l = true then hiF (px l 2 0) (px l 2) (l.length + 1) - loF (px l 2 0) (px l 2) (l.length + 1) else -1
def insideB (l : List UInt8) (p : Int) : Bool := stripB l && decide (1 ≤ p ∧ p ≤ 40) && decide (reachV l ≤ p)
theorem reach_bound (l : List UInt8) : 0 ≤ reachV l ∧ reachV l ≤ 16 := by
  unfold reachV; split
  · next h => exact ⟨hiF_ge _, hiF_le (by omega) _ fun k _ => (px_bound h 0 k).2⟩
  · omega
theorem reach_start {l : List UInt8} (hs : stripB l = true) : hiF (px l 0 0) (px l 0) (l.length + 1) = reachV l := by
  have h0 : (0 : Int) ≤ px l 0 0 := by
    have := fw_bound hs 0; have := up_bound hs 0
    unfold px fx; rw [if_pos rfl]; omega
  unfold reachV
  rw [if_pos hs, hiF_start h0]

/-- What StepLength returns. -/
def sqr (x : Int) : Int := x * x
def stepV (l : List UInt8) (k op : Int) : Int :=
  if inB l (k - 1) = true ∧ inB l k = true ∧ opB op = true then
    sqr (px l op k.toNat - px l op (k - 1).toNat) + sqr (fy (upAt l k.toNat) op - fy (upAt l (k - 1).toNat) op) else 0

theorem place_form (l : List UInt8) (k op : Int) : placeV l k op = noV ∧ (inB l k = false ∨ opB op = false) ∨ ∃ x y, placeV l k op = .tuple #[.int .i64 x, .int .i64 y, .bool true] ∧ inB l k = true ∧ opB op = true ∧ x = px l op k.toNat ∧ y = fy (upAt l k.toNat) op ∧ -8 ≤ x ∧ x ≤ 16 ∧ 0 ≤ y ∧ y ≤ 8 := by
  unfold placeV placeT
  cases h1 : inB l k with
  | false => exact .inl ⟨rfl, .inl rfl⟩
  | true =>
    cases h2 : opB op with
    | false => exact .inl ⟨rfl, .inr rfl⟩
    | true =>
      have hs : stripB l = true := by unfold inB at h1; simp at h1; exact h1.1
      have hp := px_bound hs op k.toNat
      have hu := up_bound hs k.toNat
      refine .inr ⟨_, _, rfl, rfl, rfl, rfl, rfl, hp.1, hp.2, ?_, ?_⟩
      · unfold fy; split <;> omega
      · unfold fy; split <;> omega

theorem place_form3 (l : List UInt8) (k op : Int) : ∃ x y b, placeV l k op = .tuple #[.int .i64 x, .int .i64 y, .bool b] := by
  rcases place_form l k op with ⟨h, _⟩ | ⟨x, y, h, _⟩
  · exact ⟨_, _, _, h⟩
  · exact ⟨_, _, _, h⟩

theorem sqr_bound {a : Int} (h0 : -24 ≤ a) (h1 : a ≤ 24) : 0 ≤ a * a ∧ a * a ≤ 576 := by
  rcases Int.le_total 0 a with h | h
  · have h2 := Int.mul_le_mul (a := a) (b := a) (c := 24) (d := 24) h1 h1 h (by omega)
    exact ⟨Int.mul_nonneg h h, h2⟩
  · have e : a * a = (-a) * (-a) := by rw [Int.neg_mul_neg]
    have h2 := Int.mul_le_mul (a := -a) (b := -a) (c := 24) (d := 24) (by omega) (by omega) (by omega) (by omega)
    have h3 := Int.mul_nonneg (a := -a) (b := -a) (by omega) (by omega)
    rw [← e] at h2 h3
    exact ⟨h3, h2⟩

theorem step_cases (l : List UInt8) (k op : Int) : (placeV l (k - 1) op = noV ∧ stepV l k op = 0) ∨
    (∃ x y, placeV l (k - 1) op = .tuple #[.int .i64 x, .int .i64 y, .bool true] ∧ placeV l k op = noV ∧ stepV l k op = 0) ∨
    (∃ x y u v, placeV l (k - 1) op = .tuple #[.int .i64 x, .int .i64 y, .bool true] ∧ placeV l k op = .tuple #[.int .i64 u, .int .i64 v, .bool true] ∧
      (-8 ≤ x ∧ x ≤ 16 ∧ 0 ≤ y ∧ y ≤ 8 ∧ -8 ≤ u ∧ u ≤ 16 ∧ 0 ≤ v ∧ v ≤ 8) ∧ stepV l k op = (u - x) * (u - x) + (v - y) * (v - y)) := by
  rcases place_form l (k - 1) op with ⟨h, hn⟩ | ⟨x, y, h, hi, ho, hx, hy, b1⟩
  · left
    refine ⟨h, ?_⟩
    unfold stepV; rw [if_neg]; rintro ⟨a, b, c⟩
    rcases hn with hn | hn
    · rw [a] at hn; cases hn
    · rw [c] at hn; cases hn
  · right
    rcases place_form l k op with ⟨g, hn⟩ | ⟨u, v, g, gi, go, hu, hv, b2⟩
    · left
      refine ⟨x, y, h, g, ?_⟩
      unfold stepV; rw [if_neg]; rintro ⟨a, b, c⟩
      rcases hn with hn | hn
      · rw [b] at hn; cases hn
      · rw [c] at hn; cases hn
    · right
      refine ⟨x, y, u, v, h, g, ⟨b1.1, b1.2.1, b1.2.2.1, b1.2.2.2, b2⟩, ?_⟩
      unfold stepV sqr; rw [if_pos ⟨hi, gi, go⟩, hx, hy, hu, hv]

theorem place_far (l : List UInt8) (k op : Int) (h : k < 0 ∨ (l.length : Int) < k) : placeV l k op = noV := by
  apply place_no
  unfold inB
  rw [decide_eq_false (by omega)]; simp
end Go.Proofs.YthigiemgdejdhaaDoor.Place

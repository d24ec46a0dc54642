/- What impl.isPlainLine and impl.SplitFields return. -/
import Derived.Test.YtcagffcmnpakjaaDoorStrRow
import Derived.Test.YtcagffcmnpakjaaDoorKit
import Derived.Test.YtcagffcmnpakjaaDoorLaid
namespace Go.Proofs.YtcagffcmnpakjaaDoor.Strs
open Go.ChangeShapes Go.WideShapes Go.ChangeAt Go.RowKit Go.Proofs.YtcagffcmnpakjaaDoor.Laid
open Go.Proofs
set_option linter.unusedVariables false

/-- Every byte of the line is from 32 to 126. -/
def Plain (s : ByteArray) : Prop := ∀ i (h : i < s.size), 32 ≤ s[i].toNat ∧ s[i].toNat ≤ 126

theorem plain_yes (s : ByteArray) (hm : s.size ≤ 600) (h : Plain s) (w : World) :
    Calls Tryd.prog 35 #[.string s] w fun e w' => e = .returned (.bool true) ∧ w = w' := by
  have HP := Lib.hid h; clear h
  go_enter Tryd.func35, Tryd.ntmps35
  go_wp2
  go_step3
  go_wp2
  go_step3
  go_wp2
  go_loop [3, 4, 5, 15] (fun p i c t => ∃ k : Nat, k ≤ s.size ∧ i = .int .i64 k ∧ p = .bool true) (fun _ i _ _ => s.size - (intOf i).toNat)
  case atStart => exact ⟨0, Nat.zero_le _, rfl, rfl⟩
  case round =>
    obtain ⟨k, hk, rfl, rfl⟩ := hrel
    by_cases hlt : k < s.size
    · obtain ⟨p0, p1⟩ := HP.out k hlt
      have hk0 : (0 : Int) ≤ (k : Int) := Int.natCast_nonneg _
      have hk1 : (k : Int) < (s.size : Int) := by omega
      have q0 : (32 : Int) ≤ (s[k].toNat : Int) := by omega
      have q1 : (s[k].toNat : Int) ≤ 126 := by omega
      have d0 : decide ((s[k].toNat : Int) < 32) = false := by simp; omega
      have d1 : decide ((126 : Int) < (s[k].toNat : Int)) = false := by simp; omega
      go_wp2
      exact ⟨⟨k + 1, by omega, by go_num, rfl⟩, by simp [intOf]; omega⟩
    · go_wp2
      go_ret
      exact ⟨rfl, rfl⟩

theorem plain_no (s : ByteArray) (hm : s.size ≤ 600) (j0 : Nat) (hj : j0 < s.size) (hb : s[j0].toNat < 32 ∨ 126 < s[j0].toNat) (w : World) :
    Calls Tryd.prog 35 #[.string s] w fun e w' => e = .returned (.bool false) ∧ w = w' := by
  have HB := Lib.hid hb; clear hb
  go_enter Tryd.func35, Tryd.ntmps35
  go_wp2
  go_step3
  go_wp2
  go_step3
  go_wp2
  go_loop [3, 4, 5, 15] (fun p i c t => ∃ k : Nat, k ≤ j0 ∧ i = .int .i64 k ∧ p = .bool true) (fun _ i _ _ => s.size - (intOf i).toNat)
  case atStart => exact ⟨0, Nat.zero_le _, rfl, rfl⟩
  case round =>
    obtain ⟨k, hk, rfl, rfl⟩ := hrel
    have hlt : k < s.size := by omega
    have hk0 : (0 : Int) ≤ (k : Int) := Int.natCast_nonneg _
    have hk1 : (k : Int) < (s.size : Int) := by omega
    by_cases d0 : (s[k].toNat : Int) < 32
    · go_wp2
      go_ret
      exact ⟨rfl, rfl⟩
    · have d0' : decide ((s[k].toNat : Int) < 32) = false := by simpa using d0
      by_cases d1 : (126 : Int) < (s[k].toNat : Int)
      · go_wp2
        go_ret
        exact ⟨rfl, rfl⟩
      · have d1' : decide ((126 : Int) < (s[k].toNat : Int)) = false := by simpa using d1
        have hkj : k ≠ j0 := by
          intro e
          subst e
          have := HB.out
          omega
        go_wp2
        exact ⟨⟨k + 1, by omega, by go_num, rfl⟩, by simp [intOf]; omega⟩

/-- The fields of a line. -/
def flds (s : ByteArray) : List ByteArray := (Lib.fields s.data.toList).map fun l => ⟨l.toArray⟩
theorem flds_cells (s : ByteArray) : ((Lib.fields s.data.toList).map fun l => Value.string ⟨l.toArray⟩) = scells (flds s) := by
  unfold scells flds
  rw [List.map_map]; rfl
theorem flds_length (s : ByteArray) : (flds s).length = (Lib.fields s.data.toList).length := by simp [flds]

/-- The table of white space. -/
def Space (w : World) : Prop := Lib.TabIs Tryd.prog w "strings.asciiSpace" .u8 Lib.asciiSpaceTab

theorem plain_ascii {s : ByteArray} (h : Plain s) : ∀ (j : Nat) b, s.data.toList[j]? = some b → b.toNat < 128 := by
  intro j b hb
  obtain ⟨hj, e⟩ := List.getElem?_eq_some_iff.1 hb
  have hj' : j < s.size := by simpa using hj
  have h2 := (h j hj').2
  have e2 : s[j] = b := e
  rw [e2] at h2
  omega

theorem split_impl_yes (s : ByteArray) (hm : s.size ≤ 600) (h : Plain s) (hn : (flds s).length ≤ 24) (w : World) (hsp : Space w) :
    Calls Tryd.prog 17 #[.string s] w fun e w' => e = .returned (.tuple #[.slice (some ⟨w.heap.size, 0, none⟩) (flds s).length (flds s).length, .bool true]) ∧ w' = w.alloc (.cells (scells (flds s)).toArray 9 (0, 0)) := by
  have HP := Lib.hid h; clear h
  have HS := Lib.hid hsp; clear hsp
  go_enter Tryd.func17, Tryd.ntmps17
  go_wp2_with fail
  refine (plain_yes s hm HP.out w).mono ?_
  rintro e w1 ⟨rfl, rfl⟩
  go_wp2_with fail
  refine (Tryd.strings_Fields_laid s w (by omega) (plain_ascii HP.out) HS.out).mono ?_
  rintro e w1 ⟨rfl, rfl⟩
  rw [flds_cells, ← flds_length]
  have d24 : decide ((24 : Int) < ((flds s).length : Int)) = false := by simp; omega
  go_wp2
  go_ret2
  exact ⟨rfl, rfl⟩

theorem split_impl_no (s : ByteArray) (hm : s.size ≤ maxLen) (h : 600 < s.size ∨ ¬ Plain s ∨ 24 < (flds s).length) (w : World) (hsp : Space w) :
    Calls Tryd.prog 17 #[.string s] w fun e w' => e = .returned (.tuple #[.slice none 0 0, .bool false]) ∧ Below w.heap.size w w' := by
  unfold maxLen at hm
  have HS := Lib.hid hsp; clear hsp
  have HH := Lib.hid h; clear h
  by_cases hl : 600 < s.size
  · go_enter Tryd.func17, Tryd.ntmps17
    go_wp2
    go_ret2
    exact ⟨rfl, Below.refl _ _⟩
  · have hl' : decide ((600 : Int) < (s.size : Int)) = false := by simp; omega
    by_cases hp : Plain s
    · have HP := Lib.hid hp; clear hp
      have hn : 24 < (flds s).length := by
        rcases HH.out with h | h | h
        · exact absurd h hl
        · exact absurd HP.out h
        · exact h
      clear HH
      go_enter Tryd.func17, Tryd.ntmps17
      go_wp2_with fail
      refine (plain_yes s (by omega) HP.out w).mono ?_
      rintro e w1 ⟨rfl, rfl⟩
      go_wp2_with fail
      refine (Tryd.strings_Fields_laid s w (by omega) (plain_ascii HP.out) HS.out).mono ?_
      rintro e w1 ⟨rfl, rfl⟩
      rw [flds_cells, ← flds_length]
      generalize hf : flds s = fs at *
      have HF := Lib.hid hf; clear hf
      have d24 : decide ((24 : Int) < (fs.length : Int)) = true := by simp; omega
      go_wp2
      go_ret2
      exact ⟨rfl, (Below.refl _ _).alloc (Nat.le_refl _) _⟩
    · have hex : ∃ j, ∃ h : j < s.size, s[j].toNat < 32 ∨ 126 < s[j].toNat := by
        apply Classical.byContradiction
        intro hne
        apply hp
        intro i hi
        by_cases c : s[i].toNat < 32 ∨ 126 < s[i].toNat
        · exact absurd ⟨i, hi, c⟩ hne
        · omega
      obtain ⟨j, hj, hb⟩ := hex
      have HB := Lib.hid hb; clear hb HH hp
      go_enter Tryd.func17, Tryd.ntmps17
      go_wp2_with fail
      refine (plain_no s (by omega) j hj HB.out w).mono ?_
      rintro e w1 ⟨rfl, rfl⟩
      go_wp2
      go_ret2
      exact ⟨rfl, Below.refl _ _⟩
end Go.Proofs.YtcagffcmnpakjaaDoor.Strs

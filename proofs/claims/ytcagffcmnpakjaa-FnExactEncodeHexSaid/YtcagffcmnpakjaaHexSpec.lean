/- What spec.EncodeHex returns. -/
import Derived.Test.YtcagffcmnpakjaaBytes
import Derived.Deep.RegionHeld3
import Derived.Deep.AppendLies
import Derived.Deep.DrawnRows
import Derived.OwnWalk
namespace Go.Proofs.Ytcagffcmnpakjaa.Bytes
open Go.ChangeShapes Go.WideShapes Go.ChangeAt Go.RowKit
set_option linter.unusedVariables false

theorem figure_at (x : Nat) (h : x < 16) (w : World) :
    Calls Try.prog 19 #[.int .i64 (x : Int)] w fun e w' => e = .returned (.int .u8 ((digU x).toNat : Int)) ∧ w = w' := by
  have hd := digU_int x h
  by_cases h10 : x < 10
  · have e1 : ((digU x).toNat : Int) = 48 + (x : Int) := by rw [hd, if_pos (by omega)]
    rw [e1]; clear e1 hd
    go_enter Try.func19, Try.ntmps19
    go_wp2
    go_ret
    exact ⟨rfl, rfl⟩
  · have e1 : ((digU x).toNat : Int) = 97 + (x : Int) - 10 := by rw [hd, if_neg (by omega)]
    rw [e1]; clear e1 hd
    go_enter Try.func19, Try.ntmps19
    go_wp2
    go_ret
    exact ⟨rfl, rfl⟩

/-- A digit as a number: behind a name. -/
def digI (n : Int) : Int := ((digU n.toNat).toNat : Int)

theorem figure_get (n : Int) (h0 : 0 ≤ n) (h1 : n < 16) (w : World) :
    Calls Try.prog 19 #[.int .i64 n] w fun e w' => e = .returned (.int .u8 (digI n)) ∧ w = w' := by
  obtain ⟨x, rfl⟩ := Int.eq_ofNat_of_zero_le h0
  exact figure_at x (by omega) w

theorem enc_spec_long (s : ByteArray) (w : World) (h : 20000 < s.size) (hm : s.size ≤ maxLen) :
    Calls Try.prog 10 #[.string s] w fun e w' => e = .returned (.tuple #[.string ⟨#[]⟩, .bool false]) ∧ w = w' := by
  unfold maxLen at hm
  go_enter Try.func10, Try.ntmps10
  go_wp2
  go_ret2
  exact ⟨rfl, rfl⟩

theorem enc_spec (s : ByteArray) (w : World) (h : s.size ≤ 20000) :
    Calls Try.prog 10 #[.string s] w fun e w' => e = .returned (.tuple #[.string ⟨(hexL s.data.toList).toArray⟩, .bool true]) ∧ Below w.heap.size w w' := by
  obtain ⟨i0, hi, hz0, hz1, hz2⟩ := info_parts info_u8
  go_enter Try.func10, Try.ntmps10
  go_wp2_with fail
  go_outline
  go_loopw [4, 5] (fun v i wr => ∃ k : Nat, k ≤ s.size ∧ i = .int .i64 k ∧ wr.ownsRow w.heap.size 5 1 v (2 * k) (bcells (hexL (s.data.toList.take k))) ∧ Below w.heap.size w wr) (fun _ i _ => s.size - (intOf i).toNat)
  case atStart => exact ⟨0, Nat.zero_le _, rfl, World.ownsRow_made w #[] 0 (Nat.le_refl _) (by unfold maxLen; omega) rfl, (Below.refl _ _).alloc (Nat.le_refl _) _⟩
  case round =>
    obtain ⟨k, hk, rfl, hown, hb⟩ := hrel
    have HO := Lib.hid hown; clear hown
    have HB := Lib.hid hb; clear hb
    by_cases hlt : k < s.size
    · go_wp2_with fail
      go_outline
      have hk0 : (0 : Int) ≤ (k : Int) := Int.natCast_nonneg _
      have hk1 : (k : Int) < (s.size : Int) := by omega
      have hc0 : (0 : Int) ≤ (s[k].toNat : Int) := Int.natCast_nonneg _
      have hc1 : (s[k].toNat : Int) ≤ 255 := by have := s[k].toNat_lt; omega
      have hw1 : IntKind.i64.wrap (s[k].toNat : Int) = (s[k].toNat : Int) := IntWalk.i64_in _ (by omega)
      obtain ⟨q, hq⟩ : ∃ q : Int, q = (s[k].toNat : Int) / 16 := ⟨_, rfl⟩
      obtain ⟨r, hr⟩ : ∃ r : Int, r = (s[k].toNat : Int) % 16 := ⟨_, rfl⟩
      have hq0 : 0 ≤ q := by omega
      have hq1 : q < 16 := by omega
      have hr0 : 0 ≤ r := by omega
      have hr1 : r < 16 := by omega
      have hw2 : (s[k].toNat : Int).tdiv 16 = q := by rw [hq]; exact Int.tdiv_eq_ediv_of_nonneg hc0
      have hw3 : (s[k].toNat : Int).tmod 16 = r := by rw [hr]; exact Int.tmod_eq_emod_of_nonneg hc0
      have hw4 : IntKind.i64.wrap q = q := IntWalk.i64_in _ (by omega)
      have hn : bcells (hexL (s.data.toList.take (k + 1))) = bcells (hexL (s.data.toList.take k)) ++ [.int .u8 (digI q), .int .u8 (digI r)] := by
        rw [take_snoc s k hlt, hexL_snoc, bcells_append, bcells_two]
        unfold digI
        rw [show q.toNat = s[k].toNat / 16 from by omega, show r.toNat = s[k].toNat % 16 from by omega]
      have HN := Lib.hid hn; clear hn
      have HQ := Lib.hid hq; clear hq
      have HR := Lib.hid hr; clear hr
      have hsz : w.heap.size ≤ wr.heap.size := HB.out.size
      have HS := Lib.hid hsz; clear hsz
      go_region_held3 (fun _ => True) (exact trivial)
        (first | (go_at_call 19; refine (figure_get _ ?_ ?_ _).mono ?_; (first | exact hq0 | exact hr0); (first | exact hq1 | exact hr1); rintro e w' ⟨rfl, rfl⟩) | (refine step_append_lies _ (by rfl) _ _ _ (by rfl) w.heap.size 5 i0 _ 1 1 Try.underlying22 hi hz0 hz1 hz2 rfl (by omega) u4 (2 * k) (bcells (hexL (s.data.toList.take k))) (by rfl) ((HO.out.alloc _).drew) ⟨wr.heap.size, 0, none⟩ 2 2 [.int .u8 (digI q), .int .u8 (digI r)] (by rfl) (by rfl) (World.news_of_block (cs := #[.int .u8 (digI q), .int .u8 (digI r)]) (t := 5) (fr := (0, 0)) (heap_alloc_new wr _)) (by simp [Value.oneCell']) (by omega) (by unfold maxLen; omega) (by omega) (by have := HS.out; simp; omega) (wr.heap.size + 1) (by simp) ?_; intro gg cap w1 hown1 hgrow hat hlt1))
      all_goals
        have HB2 := Lib.hid ((((HB.out.alloc HS.out _).drew).grown hgrow (by have := HS.out; simp; omega) (fun j e => (HO.out.lt j e).1)))
        have HO2 := Lib.hid hown1
        clear hown1 hgrow hat hlt1
        go_wp2
        go_roundw
        case rel => exact ⟨k + 1, by omega, by go_num, by rw [HN.out]; exact HO2.out, HB2.out⟩
        case measure => simp [intOf]; omega
    · have hks : k = s.size := by omega
      have hconv := run_string_owned HO.out
      have htk : s.data.toList.take k = s.data.toList := List.take_of_length_le (by simp [hks])
      rw [htk] at hconv
      clear hks htk
      go_wp2
      go_ret2
      exact ⟨rfl, HB.out⟩
end Go.Proofs.Ytcagffcmnpakjaa.Bytes

/- What impl.EncodeHex returns. -/
import Derived.Test.YtcagffcmnpakjaaDoorFigure
namespace Go.Proofs.YtcagffcmnpakjaaDoor.Bytes
open Go.ChangeShapes Go.WideShapes Go.ChangeAt Go.RowKit
set_option linter.unusedVariables false

theorem enc_impl_long (s : ByteArray) (w : World) (h : 20000 < s.size) (hm : s.size ≤ maxLen) :
    Calls Tryd.prog 11 #[.string s] w fun e w' => e = .returned (.tuple #[.string ⟨#[]⟩, .bool false]) ∧ w = w' := by
  unfold maxLen at hm
  go_enter Tryd.func11, Tryd.ntmps11
  go_wp2
  go_ret2
  exact ⟨rfl, rfl⟩

theorem digit_bytes (n : Nat) (h : n < 16) : ((#[48, 49, 50, 51, 52, 53, 54, 55, 56, 57, 97, 98, 99, 100, 101, 102] : Array UInt8)[n]?.map UInt8.toNat) = some (digU n).toNat := by
  have : n = 0 ∨ n = 1 ∨ n = 2 ∨ n = 3 ∨ n = 4 ∨ n = 5 ∨ n = 6 ∨ n = 7 ∨ n = 8 ∨ n = 9 ∨ n = 10 ∨ n = 11 ∨ n = 12 ∨ n = 13 ∨ n = 14 ∨ n = 15 := by omega
  rcases this with rfl | rfl | rfl | rfl | rfl | rfl | rfl | rfl | rfl | rfl | rfl | rfl | rfl | rfl | rfl | rfl <;> decide

theorem digits_at (q : Int) (h0 : 0 ≤ q) (h1 : q < 16) : ∀ w : World,
    (Instr.index 9 (.string ⟨#[48, 49, 50, 51, 52, 53, 54, 55, 56, 57, 97, 98, 99, 100, 101, 102]⟩) (.int .u8 q)).run Tryd.prog w = .ok (.int .u8 (digI q)) w := by
  intro w
  obtain ⟨n, rfl⟩ := Int.eq_ofNat_of_zero_le h0
  have hn : n < 16 := by omega
  have : n = 0 ∨ n = 1 ∨ n = 2 ∨ n = 3 ∨ n = 4 ∨ n = 5 ∨ n = 6 ∨ n = 7 ∨ n = 8 ∨ n = 9 ∨ n = 10 ∨ n = 11 ∨ n = 12 ∨ n = 13 ∨ n = 14 ∨ n = 15 := by omega
  rcases this with rfl | rfl | rfl | rfl | rfl | rfl | rfl | rfl | rfl | rfl | rfl | rfl | rfl | rfl | rfl | rfl
  all_goals
    show _ = _
    kernel_rfl

set_option maxRecDepth 100000 in
theorem enc_impl (s : ByteArray) (w : World) (h : s.size ≤ 20000) :
    Calls Tryd.prog 11 #[.string s] w fun e w' => e = .returned (.tuple #[.string ⟨(hexL s.data.toList).toArray⟩, .bool true]) ∧ Below w.heap.size w w' := by
  obtain ⟨i0, hi, hz0, hz1, hz2⟩ := info_parts info_u8
  obtain ⟨w1, hmk, hown1, hg1⟩ := run_make_own (P := Tryd.prog) w w.heap.size 22 5 i0 _ 1 Tryd.underlying22 hi hz0 hz1 .i64 .i64 (2 * s.size) (by rw [hz2]; omega) (by unfold maxLen; omega) (Nat.le_refl _)
  rw [show ((2 * s.size : Nat) : Int) = 2 * (s.size : Int) from by omega] at hmk
  have HO1 := Lib.hid hown1; clear hown1
  have HG1 := Lib.hid hg1; clear hg1
  go_enter Tryd.func11, Tryd.ntmps11
  go_wp2_with fail
  clear hmk
  go_loopw [4, 5] (fun v i wr => ∃ k : Nat, k ≤ s.size ∧ i = .int .i64 k ∧ wr.ownsRow w.heap.size 5 1 v (2 * k) (bcells (hexL (s.data.toList.take k))) ∧ Below w.heap.size w wr) (fun _ i _ => s.size - (intOf i).toNat)
  case atStart => exact ⟨0, Nat.zero_le _, rfl, HO1.out, (Below.refl _ _).grown HG1.out (Nat.le_refl _) (by simp)⟩
  case round =>
    obtain ⟨k, hk, rfl, hown, hb⟩ := hrel
    have HO := Lib.hid hown; clear hown
    have HB := Lib.hid hb; clear hb
    by_cases hlt : k < s.size
    · go_wp2_with fail
      have hk0 : (0 : Int) ≤ (k : Int) := Int.natCast_nonneg _
      have hk1 : (k : Int) < (s.size : Int) := by omega
      have hc0 : (0 : Int) ≤ (s[k].toNat : Int) := Int.natCast_nonneg _
      have hc1 : (s[k].toNat : Int) ≤ 255 := by have := s[k].toNat_lt; omega
      obtain ⟨q, hq⟩ : ∃ q : Int, q = (s[k].toNat : Int) / 16 := ⟨_, rfl⟩
      obtain ⟨r, hr⟩ : ∃ r : Int, r = (s[k].toNat : Int) % 16 := ⟨_, rfl⟩
      have hq0 : 0 ≤ q := by omega
      have hq1 : q < 16 := by omega
      have hr0 : 0 ≤ r := by omega
      have hr1 : r < 16 := by omega
      have hn : bcells (hexL (s.data.toList.take (k + 1))) = bcells (hexL (s.data.toList.take k)) ++ [.int .u8 (digI q), .int .u8 (digI r)] := by
        rw [take_snoc s k hlt, hexL_snoc, bcells_append, bcells_two]
        unfold digI
        rw [show q.toNat = s[k].toNat / 16 from by omega, show r.toNat = s[k].toNat % 16 from by omega]
      have HN := Lib.hid hn; clear hn
      have hw2 : (s[k].toNat : Int) / 16 = q := hq.symm
      have hw3 : bits BinOp.and IntKind.u8 (s[k].toNat : Int) 15 = r := by rw [hr]; exact u8_and15 _ hc0 (by omega)
      have di := digits_at q hq0 hq1
      have dj := digits_at r hr0 hr1
      have HQ := Lib.hid hq; clear hq
      have HR := Lib.hid hr; clear hr
      have hsz : w.heap.size ≤ wr.heap.size := HB.out.size
      have HS := Lib.hid hsz; clear hsz
      go_region_held3 (fun _ => True) (exact trivial)
        (first | (refine step_append_lies _ (by rfl) _ _ _ (by rfl) w.heap.size 5 i0 _ 1 1 Tryd.underlying22 hi hz0 hz1 hz2 rfl (by omega) u4 (2 * k) (bcells (hexL (s.data.toList.take k))) (by rfl) ((HO.out.alloc _).drew) ⟨wr.heap.size, 0, none⟩ 2 2 [.int .u8 (digI q), .int .u8 (digI r)] (by rfl) (by rfl) (World.news_of_block (cs := #[.int .u8 (digI q), .int .u8 (digI r)]) (t := 5) (fr := (0, 0)) (heap_alloc_new wr _)) (by simp [Value.oneCell']) (by omega) (by unfold maxLen; omega) (by omega) (by have := HS.out; simp; omega) (wr.heap.size + 1) (by simp) ?_; intro gg cap w1 hown1 hgrow hat hlt1))
      all_goals
        have HB2 := Lib.hid ((((HB.out.alloc HS.out _).drew).grown hgrow (by have := HS.out; simp; omega) (fun j e => (HO.out.lt j e).1)))
        have HO2 := Lib.hid hown1
        clear hown1 hgrow hat hlt1
        go_wp2
        go_roundw
        case rel => exact ⟨k + 1, by omega, by go_num, by rw [HN.out]; exact HO2.out, HB2.out⟩
        case measure => simp [intOf]; omega
    · have hks : k = s.size := by omega
      have hconv := run_string_owned HO.out
      have htk : s.data.toList.take k = s.data.toList := List.take_of_length_le (by simp [hks])
      rw [htk] at hconv
      clear hks htk
      go_wp2
      go_ret2
      exact ⟨rfl, HB.out⟩
end Go.Proofs.YtcagffcmnpakjaaDoor.Bytes

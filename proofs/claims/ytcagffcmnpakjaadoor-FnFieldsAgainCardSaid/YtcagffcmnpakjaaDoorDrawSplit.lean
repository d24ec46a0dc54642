/- What spec.l01Pick and DrawSplitFields return and leave alone. -/
import Derived.Test.YtcagffcmnpakjaaDoorDrawEnc
import Derived.Test.YtcagffcmnpakjaaDoorFmtSpec
import Derived.Deep.LoopGhost
namespace Go.Proofs.YtcagffcmnpakjaaDoor.Draw
open Go.ChangeShapes Go.WideShapes Go.ChangeAt Go.RowKit
open Go.Proofs.YtcagffcmnpakjaaDoor.Bytes (run_one)
set_option linter.unusedVariables false

theorem pick_get (k : Nat) (ca : Option Addr) (cl cc : Nat) (lb n : Nat) (xs : List ByteArray) (T : TypeId) (m : Nat × Nat) (P : ByteArray → Prop) (hP : ∀ x ∈ xs, P x) (hn : xs.length = n) (hpos : 0 < n) (hmax : n ≤ 1000) (w : World) (hc : Cur w k ca cl cc)
    (hb : w.heap[lb]? = some (.cells (xs.map Value.string).toArray T m)) (hlk : lb ≠ k) {Q : Ending → World → Prop}
    (h : ∀ (x : ByteArray) (w' : World), P x → Cur w' k ca cl cc → w.grownBy w' (some k) → Q (.returned (.string x)) w') :
    Calls Tryd.prog 34 #[.pointer (some ⟨k, 0, none⟩), .slice (some ⟨lb, 0, none⟩) n n] w Q := by
  have H := Lib.hid h; clear h
  have HB := Lib.hid hb; clear hb
  have HN := Lib.hid hn; clear hn
  have HP := Lib.hid hP; clear hP
  go_enter Tryd.func34, Tryd.ntmps34
  go_wp2_with fail
  refine below_get k ca cl cc n (by omega) _ hc ?_
  intro x w1 x0 x1 hc1 g1
  obtain ⟨i, rfl⟩ := Int.eq_ofNat_of_zero_le x0
  have hi : i < n := by omega
  have hi' : i < xs.length := by rw [HN.out]; exact hi
  have hcell : w1.cell? ⟨lb, i, none⟩ = some (.string xs[i]) := by
    refine g1.cell ?_ (by simpa using hlk)
    simp [World.cell?, HB.out, hi']
  have HG := Lib.hid g1; clear g1
  have HC := Lib.hid hc1; clear hc1
  have hp : P xs[i] := HP.out _ (List.getElem_mem _)
  generalize xs[i] = y at hcell hp
  have HPY := Lib.hid hp; clear hp
  go_wp2
  exact H.out _ _ HPY.out HC.out HG.out

theorem empty_size : (((⟨#[]⟩ : ByteArray).size : Nat) : Int) ≤ 8 * ((0 : Nat) : Int) := by
  have h : (⟨#[]⟩ : ByteArray).size = 0 := rfl
  rw [h]; omega

theorem pick_small : ∀ x ∈ [(⟨#[32]⟩ : ByteArray), ⟨#[32, 32]⟩, ⟨#[9]⟩, ⟨#[10]⟩, ⟨#[127]⟩, ⟨#[233]⟩], x.size ≤ 2 := by
  intro x hx
  simp only [List.mem_cons, List.not_mem_nil, or_false] at hx
  rcases hx with rfl | rfl | rfl | rfl | rfl | rfl <;> decide

theorem small_prod (p q : Int) (p0 : 0 ≤ p) (p1 : p < 2) (q0 : 0 ≤ q) (q1 : q < 3) : 0 ≤ p * q ∧ p * q ≤ 2 := by
  have h : p = 0 ∨ p = 1 := by omega
  rcases h with rfl | rfl
  · simp
  · rw [Int.one_mul]; omega

set_option maxRecDepth 100000 in
set_option maxHeartbeats 2000000 in
theorem drawSplit_get (ca : Option Addr) (cl cc : Nat) (w : World) (hm : cl ≤ maxLen) (hr : RowIn w ca cl) {Q : Ending → World → Prop}
    (h : ∀ (s : ByteArray) (w' : World), s.size ≤ 2000 → Below w.heap.size w w' → Q (.returned (.string s)) w') :
    Calls Tryd.prog 16 #[.slice ca cl cc] w Q := by
  have H := Lib.hid h; clear h
  have hm' := hm
  unfold maxLen at hm'
  go_enter Tryd.func16, Tryd.ntmps16
  go_wp2_with fail
  refine new_get ca cl cc w hm hr ?_
  intro k w1 hk hk1 hc1 hb1
  have HB1 := Lib.hid hb1; clear hb1
  go_wp2_with fail
  refine below_get k ca cl cc 9 (by omega) _ hc1 ?_
  intro n w2 n0 n1 hc2 g2
  have HB2 := Lib.hid (below_of_grown HB1.out g2 hk hc1.lt); clear g2
  go_wp2_with fail
  refine once_get k ca cl cc 15 (by omega) _ hc2 ?_
  intro x w3 hc3 g3
  have HB3 := Lib.hid (below_of_grown HB2.out g3 hk hc2.lt); clear g3
  cases x
  · go_wp2_with fail
    have HCs := Lib.hid hc3
    have HBs := HB3
    clear hc1 hc2 hc3
    have n25 : n ≤ 25 := by omega
    go_loopw [5, 6, 7] (fun vs vi vk wr => ∃ (i : Nat) (sb : ByteArray), (i : Int) ≤ n ∧ vi = .int .i64 i ∧ vs = .string sb ∧ (sb.size : Int) ≤ 8 * (i : Int) ∧ Hid (Cur wr k ca cl cc) ∧ Hid (Below w.heap.size w wr)) (fun _ vi _ _ => n.toNat - (intOf vi).toNat)
    case atStart => exact ⟨0, ⟨#[]⟩, by omega, rfl, rfl, empty_size, HCs, HBs⟩
    case round =>
      obtain ⟨i, sb, hin, rfl, rfl, hsz, HC, HB⟩ := hrel
      by_cases hlt : (i : Int) < n
      · by_cases hi0 : (0 : Int) < (i : Int)
        · have HCa := HC
          have HBa := HB
          go_wp2_with fail
          refine below_get k ca cl cc 2 (by omega) _ HCa.out ?_
          intro p w3 p0 p1 hc3 g3
          have HB3 := Lib.hid (below_of_grown HBa.out g3 hk HCa.out.lt); clear g3
          go_wp2_with fail
          refine below_get k ca cl cc 3 (by omega) _ hc3 ?_
          intro q w4 q0 q1 hc4 g4
          have HB4 := Lib.hid (below_of_grown HB3.out g4 hk hc3.lt); clear g4
          obtain ⟨m0, m1⟩ := small_prod p q p0 p1 q0 q1
          go_wp2_with fail
          refine long_at (1 + p * q) 32 (by omega) (by omega) (by omega) (by omega) _ ?_
          intro sp w5 hsp hb5 hg5
          have HB5 := Lib.hid (HB4.out.trans (hb5.mono HB4.out.size)); clear hb5
          have HC5 := Lib.hid (hc4.kept hg5 (by simp) (by simp)); clear hg5 hc4 hc3
          have hsp' : (sp.size : Int) ≤ 3 := by omega
          clear hsp

          go_wp2_with fail
          generalize hsb : sb ++ sp = sc at *
          have hscs : (sc.size : Int) ≤ 8 * (i : Int) + 3 := by rw [← hsb, ByteArray.size_append]; omega
          clear hsb
          go_loopw [5, 7] (fun vs vk wi => ∃ (sb' : ByteArray) (kk : Nat), kk ≤ 5 ∧ vk = .int .i64 kk ∧ vs = .string sb' ∧ (sb'.size : Int) ≤ 8 * (i : Int) + 3 + (kk : Int) ∧ Hid (Cur wi k ca cl cc) ∧ Hid (Below w.heap.size w wi)) (fun _ vk _ => 5 - (intOf vk).toNat)
          case atStart => exact ⟨sc, 0, Nat.zero_le _, rfl, rfl, by omega, HC5, HB5⟩
          case round =>
            obtain ⟨sb', kk, hkk, rfl, rfl, hss, HC5, HB5⟩ := hrel
            go_wp2_with fail
            refine below_get k ca cl cc 5 (by omega) _ HC5.out ?_
            intro z w6 z0 z1 hc6 g6
            have HB6 := Lib.hid (below_of_grown HB5.out g6 hk HC5.out.lt); clear g6
            have HC6 := Lib.hid hc6
            by_cases hkz : (kk : Int) ≤ z
            · go_wp2_with fail
              refine below_get k ca cl cc 94 (by omega) _ HC6.out ?_
              intro y w7 y0 y1 hc7 g7
              have HB7 := Lib.hid (below_of_grown HB6.out g7 hk HC6.out.lt); clear g7
              have HC7 := Lib.hid hc7; clear hc7 hc6
              have hyy : ((UInt8.ofNat (33 + y).toNat).toNat : Int) = 33 + y := by simp; omega
              have hone := run_one (UInt8.ofNat (33 + y).toNat) w7
              rw [hyy] at hone
              clear hyy
              generalize UInt8.ofNat (33 + y).toNat = xx at *
              have hx1 : (⟨#[xx]⟩ : ByteArray).size = 1 := rfl
              have HX1 := Lib.hid hx1; clear hx1
              generalize (⟨#[xx]⟩ : ByteArray) = xb at *
              have hxs : (xb.size : Int) ≤ 1 := by rw [HX1.out]; omega
              go_wp2
              exact ⟨⟨sb' ++ xb, kk + 1, by omega, by go_num, rfl, by rw [ByteArray.size_append]; omega, HC7.out.alloc _, HB7.out.alloc HB7.out.size _⟩, by simp [intOf]; omega⟩
            · go_wp2
              exact ⟨⟨i + 1, sb', by omega, by go_num, rfl, by omega, HC6, HB6⟩, by simp [intOf]; omega⟩

        · have hi0' : decide ((0 : Int) < (i : Int)) = false := by simpa using hi0
          go_wp2_with fail
          refine once_get k ca cl cc 5 (by omega) _ HC.out ?_
          intro t w9 hc9 g9
          have HBa := Lib.hid (below_of_grown HB.out g9 hk HC.out.lt); clear g9
          have HCa := Lib.hid hc9; clear hc9
          cases t
          · skip
            go_wp2_with fail
            generalize hsb : sb = sc at *
            have hscs : (sc.size : Int) ≤ 8 * (i : Int) + 3 := by omega
            clear hsb
            go_loopw [5, 7] (fun vs vk wi => ∃ (sb' : ByteArray) (kk : Nat), kk ≤ 5 ∧ vk = .int .i64 kk ∧ vs = .string sb' ∧ (sb'.size : Int) ≤ 8 * (i : Int) + 3 + (kk : Int) ∧ Hid (Cur wi k ca cl cc) ∧ Hid (Below w.heap.size w wi)) (fun _ vk _ => 5 - (intOf vk).toNat)
            case atStart => exact ⟨sc, 0, Nat.zero_le _, rfl, rfl, by omega, HCa, HBa⟩
            case round =>
              obtain ⟨sb', kk, hkk, rfl, rfl, hss, HC5, HB5⟩ := hrel
              go_wp2_with fail
              refine below_get k ca cl cc 5 (by omega) _ HC5.out ?_
              intro z w6 z0 z1 hc6 g6
              have HB6 := Lib.hid (below_of_grown HB5.out g6 hk HC5.out.lt); clear g6
              have HC6 := Lib.hid hc6
              by_cases hkz : (kk : Int) ≤ z
              · go_wp2_with fail
                refine below_get k ca cl cc 94 (by omega) _ HC6.out ?_
                intro y w7 y0 y1 hc7 g7
                have HB7 := Lib.hid (below_of_grown HB6.out g7 hk HC6.out.lt); clear g7
                have HC7 := Lib.hid hc7; clear hc7 hc6
                have hyy : ((UInt8.ofNat (33 + y).toNat).toNat : Int) = 33 + y := by simp; omega
                have hone := run_one (UInt8.ofNat (33 + y).toNat) w7
                rw [hyy] at hone
                clear hyy
                generalize UInt8.ofNat (33 + y).toNat = xx at *
                have hx1 : (⟨#[xx]⟩ : ByteArray).size = 1 := rfl
                have HX1 := Lib.hid hx1; clear hx1
                generalize (⟨#[xx]⟩ : ByteArray) = xb at *
                have hxs : (xb.size : Int) ≤ 1 := by rw [HX1.out]; omega
                go_wp2
                exact ⟨⟨sb' ++ xb, kk + 1, by omega, by go_num, rfl, by rw [ByteArray.size_append]; omega, HC7.out.alloc _, HB7.out.alloc HB7.out.size _⟩, by simp [intOf]; omega⟩
              · go_wp2
                exact ⟨⟨i + 1, sb', by omega, by go_num, rfl, by omega, HC6, HB6⟩, by simp [intOf]; omega⟩

          · skip
            go_wp2_with fail
            refine below_get k ca cl cc 2 (by omega) _ HCa.out ?_
            intro p w3 p0 p1 hc3 g3
            have HB3 := Lib.hid (below_of_grown HBa.out g3 hk HCa.out.lt); clear g3
            go_wp2_with fail
            refine below_get k ca cl cc 3 (by omega) _ hc3 ?_
            intro q w4 q0 q1 hc4 g4
            have HB4 := Lib.hid (below_of_grown HB3.out g4 hk hc3.lt); clear g4
            obtain ⟨m0, m1⟩ := small_prod p q p0 p1 q0 q1
            go_wp2_with fail
            refine long_at (1 + p * q) 32 (by omega) (by omega) (by omega) (by omega) _ ?_
            intro sp w5 hsp hb5 hg5
            have HB5 := Lib.hid (HB4.out.trans (hb5.mono HB4.out.size)); clear hb5
            have HC5 := Lib.hid (hc4.kept hg5 (by simp) (by simp)); clear hg5 hc4 hc3
            have hsp' : (sp.size : Int) ≤ 3 := by omega
            clear hsp

            go_wp2_with fail
            generalize hsb : sb ++ sp = sc at *
            have hscs : (sc.size : Int) ≤ 8 * (i : Int) + 3 := by rw [← hsb, ByteArray.size_append]; omega
            clear hsb
            go_loopw [5, 7] (fun vs vk wi => ∃ (sb' : ByteArray) (kk : Nat), kk ≤ 5 ∧ vk = .int .i64 kk ∧ vs = .string sb' ∧ (sb'.size : Int) ≤ 8 * (i : Int) + 3 + (kk : Int) ∧ Hid (Cur wi k ca cl cc) ∧ Hid (Below w.heap.size w wi)) (fun _ vk _ => 5 - (intOf vk).toNat)
            case atStart => exact ⟨sc, 0, Nat.zero_le _, rfl, rfl, by omega, HC5, HB5⟩
            case round =>
              obtain ⟨sb', kk, hkk, rfl, rfl, hss, HC5, HB5⟩ := hrel
              go_wp2_with fail
              refine below_get k ca cl cc 5 (by omega) _ HC5.out ?_
              intro z w6 z0 z1 hc6 g6
              have HB6 := Lib.hid (below_of_grown HB5.out g6 hk HC5.out.lt); clear g6
              have HC6 := Lib.hid hc6
              by_cases hkz : (kk : Int) ≤ z
              · go_wp2_with fail
                refine below_get k ca cl cc 94 (by omega) _ HC6.out ?_
                intro y w7 y0 y1 hc7 g7
                have HB7 := Lib.hid (below_of_grown HB6.out g7 hk HC6.out.lt); clear g7
                have HC7 := Lib.hid hc7; clear hc7 hc6
                have hyy : ((UInt8.ofNat (33 + y).toNat).toNat : Int) = 33 + y := by simp; omega
                have hone := run_one (UInt8.ofNat (33 + y).toNat) w7
                rw [hyy] at hone
                clear hyy
                generalize UInt8.ofNat (33 + y).toNat = xx at *
                have hx1 : (⟨#[xx]⟩ : ByteArray).size = 1 := rfl
                have HX1 := Lib.hid hx1; clear hx1
                generalize (⟨#[xx]⟩ : ByteArray) = xb at *
                have hxs : (xb.size : Int) ≤ 1 := by rw [HX1.out]; omega
                go_wp2
                exact ⟨⟨sb' ++ xb, kk + 1, by omega, by go_num, rfl, by rw [ByteArray.size_append]; omega, HC7.out.alloc _, HB7.out.alloc HB7.out.size _⟩, by simp [intOf]; omega⟩
              · go_wp2
                exact ⟨⟨i + 1, sb', by omega, by go_num, rfl, by omega, HC6, HB6⟩, by simp [intOf]; omega⟩

      · have hsz2 : (sb.size : Int) ≤ 200 := by omega
        clear hsz
        go_wp2_with fail
        refine below_get k ca cl cc 12 (by omega) _ HC.out ?_
        intro y w3 y0 y1 hc3 g3
        have HB3 := Lib.hid (below_of_grown HB.out g3 hk HC.out.lt); clear g3
        have HC3 := Lib.hid hc3; clear hc3
        by_cases e0 : y = 0
        · subst e0
          go_wp2_with fail
          refine pick_get k ca cl cc _ 6 [⟨#[32]⟩, ⟨#[32, 32]⟩, ⟨#[9]⟩, ⟨#[10]⟩, ⟨#[127]⟩, ⟨#[233]⟩] _ _ (fun x => x.size ≤ 2) pick_small rfl (by omega) (by omega) _ (HC3.out.alloc _) (heap_new _ _) (by have := HC3.out.lt; omega) ?_
          intro x w4 hx hc4 g4
          have HB4 := Lib.hid (below_of_grown (HB3.out.alloc HB3.out.size _) g4 hk (by have := HC3.out.lt; simp; omega)); clear g4 hc4
          have hx' : (x.size : Int) ≤ 2 := by omega
          have hfin : (sb ++ x).size ≤ 2000 := by rw [ByteArray.size_append]; omega
          have HFIN := Lib.hid hfin; clear hfin hx
          go_wp2
          exact H.out _ _ HFIN.out HB4.out
        · have b0 : (y == 0) = false := by simpa using e0
          by_cases e1 : y = 1
          · subst e1
            go_wp2_with fail
            refine below_get k ca cl cc 2 (by omega) _ HC3.out ?_
            intro z w4 z0 z1 hc4 g4
            have HB4 := Lib.hid (below_of_grown HB3.out g4 hk HC3.out.lt); clear g4 hc4
            go_wp2_with fail
            refine long_at _ 32 (by omega) (by omega) (by omega) (by omega) _ ?_
            intro x w5 hx hb5 _
            have HB5 := Lib.hid (HB4.out.trans (hb5.mono HB4.out.size)); clear hb5
            have hx' : (x.size : Int) ≤ 602 := by omega
            clear hx
            have hfin : (sb ++ x).size ≤ 2000 := by rw [ByteArray.size_append]; omega
            have HFIN := Lib.hid hfin; clear hfin
            go_wp2
            exact H.out _ _ HFIN.out HB5.out
          · have b1 : (y == 1) = false := by simpa using e1
            have hfin : sb.size ≤ 2000 := by omega
            have HFIN := Lib.hid hfin; clear hfin
            go_wp2
            exact H.out _ _ HFIN.out HB3.out

  · go_wp2_with fail
    refine below_get k ca cl cc 2 (by omega) _ hc3 ?_
    intro n' w4 n0' n1' hc4 g4
    have HBs := Lib.hid (below_of_grown HB3.out g4 hk hc3.lt); clear g4
    have HCs := Lib.hid hc4
    clear hc1 hc2 hc3 hc4
    obtain ⟨nn, hnn⟩ : ∃ nn : Int, nn = 24 + n' := ⟨_, rfl⟩
    have nn0 : 0 ≤ nn := by omega
    have nn25 : nn ≤ 25 := by omega
    go_wp2_with fail
    rw [← hnn]
    clear hnn n0' n1' n0 n1
    go_loopw [5, 6, 7] (fun vs vi vk wr => ∃ (i : Nat) (sb : ByteArray), (i : Int) ≤ nn ∧ vi = .int .i64 i ∧ vs = .string sb ∧ (sb.size : Int) ≤ 8 * (i : Int) ∧ Hid (Cur wr k ca cl cc) ∧ Hid (Below w.heap.size w wr)) (fun _ vi _ _ => nn.toNat - (intOf vi).toNat)
    case atStart => exact ⟨0, ⟨#[]⟩, by omega, rfl, rfl, empty_size, HCs, HBs⟩
    case round =>
      obtain ⟨i, sb, hin, rfl, rfl, hsz, HC, HB⟩ := hrel
      by_cases hlt : (i : Int) < nn
      · by_cases hi0 : (0 : Int) < (i : Int)
        · have HCa := HC
          have HBa := HB
          go_wp2_with fail
          refine below_get k ca cl cc 2 (by omega) _ HCa.out ?_
          intro p w3 p0 p1 hc3 g3
          have HB3 := Lib.hid (below_of_grown HBa.out g3 hk HCa.out.lt); clear g3
          go_wp2_with fail
          refine below_get k ca cl cc 3 (by omega) _ hc3 ?_
          intro q w4 q0 q1 hc4 g4
          have HB4 := Lib.hid (below_of_grown HB3.out g4 hk hc3.lt); clear g4
          obtain ⟨m0, m1⟩ := small_prod p q p0 p1 q0 q1
          go_wp2_with fail
          refine long_at (1 + p * q) 32 (by omega) (by omega) (by omega) (by omega) _ ?_
          intro sp w5 hsp hb5 hg5
          have HB5 := Lib.hid (HB4.out.trans (hb5.mono HB4.out.size)); clear hb5
          have HC5 := Lib.hid (hc4.kept hg5 (by simp) (by simp)); clear hg5 hc4 hc3
          have hsp' : (sp.size : Int) ≤ 3 := by omega
          clear hsp

          go_wp2_with fail
          generalize hsb : sb ++ sp = sc at *
          have hscs : (sc.size : Int) ≤ 8 * (i : Int) + 3 := by rw [← hsb, ByteArray.size_append]; omega
          clear hsb
          go_loopw [5, 7] (fun vs vk wi => ∃ (sb' : ByteArray) (kk : Nat), kk ≤ 5 ∧ vk = .int .i64 kk ∧ vs = .string sb' ∧ (sb'.size : Int) ≤ 8 * (i : Int) + 3 + (kk : Int) ∧ Hid (Cur wi k ca cl cc) ∧ Hid (Below w.heap.size w wi)) (fun _ vk _ => 5 - (intOf vk).toNat)
          case atStart => exact ⟨sc, 0, Nat.zero_le _, rfl, rfl, by omega, HC5, HB5⟩
          case round =>
            obtain ⟨sb', kk, hkk, rfl, rfl, hss, HC5, HB5⟩ := hrel
            go_wp2_with fail
            refine below_get k ca cl cc 5 (by omega) _ HC5.out ?_
            intro z w6 z0 z1 hc6 g6
            have HB6 := Lib.hid (below_of_grown HB5.out g6 hk HC5.out.lt); clear g6
            have HC6 := Lib.hid hc6
            by_cases hkz : (kk : Int) ≤ z
            · go_wp2_with fail
              refine below_get k ca cl cc 94 (by omega) _ HC6.out ?_
              intro y w7 y0 y1 hc7 g7
              have HB7 := Lib.hid (below_of_grown HB6.out g7 hk HC6.out.lt); clear g7
              have HC7 := Lib.hid hc7; clear hc7 hc6
              have hyy : ((UInt8.ofNat (33 + y).toNat).toNat : Int) = 33 + y := by simp; omega
              have hone := run_one (UInt8.ofNat (33 + y).toNat) w7
              rw [hyy] at hone
              clear hyy
              generalize UInt8.ofNat (33 + y).toNat = xx at *
              have hx1 : (⟨#[xx]⟩ : ByteArray).size = 1 := rfl
              have HX1 := Lib.hid hx1; clear hx1
              generalize (⟨#[xx]⟩ : ByteArray) = xb at *
              have hxs : (xb.size : Int) ≤ 1 := by rw [HX1.out]; omega
              go_wp2
              exact ⟨⟨sb' ++ xb, kk + 1, by omega, by go_num, rfl, by rw [ByteArray.size_append]; omega, HC7.out.alloc _, HB7.out.alloc HB7.out.size _⟩, by simp [intOf]; omega⟩
            · go_wp2
              exact ⟨⟨i + 1, sb', by omega, by go_num, rfl, by omega, HC6, HB6⟩, by simp [intOf]; omega⟩

        · have hi0' : decide ((0 : Int) < (i : Int)) = false := by simpa using hi0
          go_wp2_with fail
          refine once_get k ca cl cc 5 (by omega) _ HC.out ?_
          intro t w9 hc9 g9
          have HBa := Lib.hid (below_of_grown HB.out g9 hk HC.out.lt); clear g9
          have HCa := Lib.hid hc9; clear hc9
          cases t
          · skip
            go_wp2_with fail
            generalize hsb : sb = sc at *
            have hscs : (sc.size : Int) ≤ 8 * (i : Int) + 3 := by omega
            clear hsb
            go_loopw [5, 7] (fun vs vk wi => ∃ (sb' : ByteArray) (kk : Nat), kk ≤ 5 ∧ vk = .int .i64 kk ∧ vs = .string sb' ∧ (sb'.size : Int) ≤ 8 * (i : Int) + 3 + (kk : Int) ∧ Hid (Cur wi k ca cl cc) ∧ Hid (Below w.heap.size w wi)) (fun _ vk _ => 5 - (intOf vk).toNat)
            case atStart => exact ⟨sc, 0, Nat.zero_le _, rfl, rfl, by omega, HCa, HBa⟩
            case round =>
              obtain ⟨sb', kk, hkk, rfl, rfl, hss, HC5, HB5⟩ := hrel
              go_wp2_with fail
              refine below_get k ca cl cc 5 (by omega) _ HC5.out ?_
              intro z w6 z0 z1 hc6 g6
              have HB6 := Lib.hid (below_of_grown HB5.out g6 hk HC5.out.lt); clear g6
              have HC6 := Lib.hid hc6
              by_cases hkz : (kk : Int) ≤ z
              · go_wp2_with fail
                refine below_get k ca cl cc 94 (by omega) _ HC6.out ?_
                intro y w7 y0 y1 hc7 g7
                have HB7 := Lib.hid (below_of_grown HB6.out g7 hk HC6.out.lt); clear g7
                have HC7 := Lib.hid hc7; clear hc7 hc6
                have hyy : ((UInt8.ofNat (33 + y).toNat).toNat : Int) = 33 + y := by simp; omega
                have hone := run_one (UInt8.ofNat (33 + y).toNat) w7
                rw [hyy] at hone
                clear hyy
                generalize UInt8.ofNat (33 + y).toNat = xx at *
                have hx1 : (⟨#[xx]⟩ : ByteArray).size = 1 := rfl
                have HX1 := Lib.hid hx1; clear hx1
                generalize (⟨#[xx]⟩ : ByteArray) = xb at *
                have hxs : (xb.size : Int) ≤ 1 := by rw [HX1.out]; omega
                go_wp2
                exact ⟨⟨sb' ++ xb, kk + 1, by omega, by go_num, rfl, by rw [ByteArray.size_append]; omega, HC7.out.alloc _, HB7.out.alloc HB7.out.size _⟩, by simp [intOf]; omega⟩
              · go_wp2
                exact ⟨⟨i + 1, sb', by omega, by go_num, rfl, by omega, HC6, HB6⟩, by simp [intOf]; omega⟩

          · skip
            go_wp2_with fail
            refine below_get k ca cl cc 2 (by omega) _ HCa.out ?_
            intro p w3 p0 p1 hc3 g3
            have HB3 := Lib.hid (below_of_grown HBa.out g3 hk HCa.out.lt); clear g3
            go_wp2_with fail
            refine below_get k ca cl cc 3 (by omega) _ hc3 ?_
            intro q w4 q0 q1 hc4 g4
            have HB4 := Lib.hid (below_of_grown HB3.out g4 hk hc3.lt); clear g4
            obtain ⟨m0, m1⟩ := small_prod p q p0 p1 q0 q1
            go_wp2_with fail
            refine long_at (1 + p * q) 32 (by omega) (by omega) (by omega) (by omega) _ ?_
            intro sp w5 hsp hb5 hg5
            have HB5 := Lib.hid (HB4.out.trans (hb5.mono HB4.out.size)); clear hb5
            have HC5 := Lib.hid (hc4.kept hg5 (by simp) (by simp)); clear hg5 hc4 hc3
            have hsp' : (sp.size : Int) ≤ 3 := by omega
            clear hsp

            go_wp2_with fail
            generalize hsb : sb ++ sp = sc at *
            have hscs : (sc.size : Int) ≤ 8 * (i : Int) + 3 := by rw [← hsb, ByteArray.size_append]; omega
            clear hsb
            go_loopw [5, 7] (fun vs vk wi => ∃ (sb' : ByteArray) (kk : Nat), kk ≤ 5 ∧ vk = .int .i64 kk ∧ vs = .string sb' ∧ (sb'.size : Int) ≤ 8 * (i : Int) + 3 + (kk : Int) ∧ Hid (Cur wi k ca cl cc) ∧ Hid (Below w.heap.size w wi)) (fun _ vk _ => 5 - (intOf vk).toNat)
            case atStart => exact ⟨sc, 0, Nat.zero_le _, rfl, rfl, by omega, HC5, HB5⟩
            case round =>
              obtain ⟨sb', kk, hkk, rfl, rfl, hss, HC5, HB5⟩ := hrel
              go_wp2_with fail
              refine below_get k ca cl cc 5 (by omega) _ HC5.out ?_
              intro z w6 z0 z1 hc6 g6
              have HB6 := Lib.hid (below_of_grown HB5.out g6 hk HC5.out.lt); clear g6
              have HC6 := Lib.hid hc6
              by_cases hkz : (kk : Int) ≤ z
              · go_wp2_with fail
                refine below_get k ca cl cc 94 (by omega) _ HC6.out ?_
                intro y w7 y0 y1 hc7 g7
                have HB7 := Lib.hid (below_of_grown HB6.out g7 hk HC6.out.lt); clear g7
                have HC7 := Lib.hid hc7; clear hc7 hc6
                have hyy : ((UInt8.ofNat (33 + y).toNat).toNat : Int) = 33 + y := by simp; omega
                have hone := run_one (UInt8.ofNat (33 + y).toNat) w7
                rw [hyy] at hone
                clear hyy
                generalize UInt8.ofNat (33 + y).toNat = xx at *
                have hx1 : (⟨#[xx]⟩ : ByteArray).size = 1 := rfl
                have HX1 := Lib.hid hx1; clear hx1
                generalize (⟨#[xx]⟩ : ByteArray) = xb at *
                have hxs : (xb.size : Int) ≤ 1 := by rw [HX1.out]; omega
                go_wp2
                exact ⟨⟨sb' ++ xb, kk + 1, by omega, by go_num, rfl, by rw [ByteArray.size_append]; omega, HC7.out.alloc _, HB7.out.alloc HB7.out.size _⟩, by simp [intOf]; omega⟩
              · go_wp2
                exact ⟨⟨i + 1, sb', by omega, by go_num, rfl, by omega, HC6, HB6⟩, by simp [intOf]; omega⟩

      · have hsz2 : (sb.size : Int) ≤ 200 := by omega
        clear hsz
        go_wp2_with fail
        refine below_get k ca cl cc 12 (by omega) _ HC.out ?_
        intro y w3 y0 y1 hc3 g3
        have HB3 := Lib.hid (below_of_grown HB.out g3 hk HC.out.lt); clear g3
        have HC3 := Lib.hid hc3; clear hc3
        by_cases e0 : y = 0
        · subst e0
          go_wp2_with fail
          refine pick_get k ca cl cc _ 6 [⟨#[32]⟩, ⟨#[32, 32]⟩, ⟨#[9]⟩, ⟨#[10]⟩, ⟨#[127]⟩, ⟨#[233]⟩] _ _ (fun x => x.size ≤ 2) pick_small rfl (by omega) (by omega) _ (HC3.out.alloc _) (heap_new _ _) (by have := HC3.out.lt; omega) ?_
          intro x w4 hx hc4 g4
          have HB4 := Lib.hid (below_of_grown (HB3.out.alloc HB3.out.size _) g4 hk (by have := HC3.out.lt; simp; omega)); clear g4 hc4
          have hx' : (x.size : Int) ≤ 2 := by omega
          have hfin : (sb ++ x).size ≤ 2000 := by rw [ByteArray.size_append]; omega
          have HFIN := Lib.hid hfin; clear hfin hx
          go_wp2
          exact H.out _ _ HFIN.out HB4.out
        · have b0 : (y == 0) = false := by simpa using e0
          by_cases e1 : y = 1
          · subst e1
            go_wp2_with fail
            refine below_get k ca cl cc 2 (by omega) _ HC3.out ?_
            intro z w4 z0 z1 hc4 g4
            have HB4 := Lib.hid (below_of_grown HB3.out g4 hk HC3.out.lt); clear g4 hc4
            go_wp2_with fail
            refine long_at _ 32 (by omega) (by omega) (by omega) (by omega) _ ?_
            intro x w5 hx hb5 _
            have HB5 := Lib.hid (HB4.out.trans (hb5.mono HB4.out.size)); clear hb5
            have hx' : (x.size : Int) ≤ 602 := by omega
            clear hx
            have hfin : (sb ++ x).size ≤ 2000 := by rw [ByteArray.size_append]; omega
            have HFIN := Lib.hid hfin; clear hfin
            go_wp2
            exact H.out _ _ HFIN.out HB5.out
          · have b1 : (y == 1) = false := by simpa using e1
            have hfin : sb.size ≤ 2000 := by omega
            have HFIN := Lib.hid hfin; clear hfin
            go_wp2
            exact H.out _ _ HFIN.out HB3.out

end Go.Proofs.YtcagffcmnpakjaaDoor.Draw

/- What slices.Insert returns where one string is put in: every way. -/
import Derived.Test.YtpnmloemabligaaIns
namespace Go.Proofs.Ytpnmloemabligaa.Strs
open Go.ChangeShapes Go.WideShapes Go.ChangeAt Go.RowKit
set_option linter.unusedVariables false

/-- A string put in before place k. -/
def putIn (l : List ByteArray) (k : Nat) (s : ByteArray) : List ByteArray := l.take k ++ s :: l.drop k
theorem putIn_length (l : List ByteArray) (k : Nat) (s : ByteArray) (h : k ≤ l.length) : (putIn l k s).length = l.length + 1 := by
  unfold putIn
  rw [List.length_append, List.length_take, List.length_cons, List.length_drop]; omega
theorem putIn_get (l : List ByteArray) (k : Nat) (s : ByteArray) (h : k ≤ l.length) (j : Nat) (hj : j < (putIn l k s).length) :
    (putIn l k s)[j]? = if j < k then l[j]? else if j = k then some s else l[j - 1]? := by
  unfold putIn
  have e : (l.take k).length = k := by rw [List.length_take]; omega
  by_cases h1 : j < k
  · rw [if_pos h1, List.getElem?_append_left (by omega), List.getElem?_take_of_lt h1]
  · rw [if_neg h1, List.getElem?_append_right (by omega), e]
    by_cases h2 : j = k
    · subst h2; simp
    · rw [if_neg h2, show j - k = (j - k - 1) + 1 from by omega, List.getElem?_cons_succ, List.getElem?_drop]
      congr 1
      omega

/-- A block of which each cell is known holds the row. -/
theorem Own.of_block2 {w : World} {base g cap n : Nat} {cs : Array Value} {l : List ByteArray} (h : w.heap[g]? = some (.cells cs 9 (0, 0))) (hg : base ≤ g) (hs : cs.size = cap) (hl : l.length = n) (hn : n ≤ cap) (hm : cap ≤ maxLen)
    (ht : ∀ j, j < n → cs[j]? = (l[j]?).map Value.string) : Own w base (.slice (some ⟨g, 0, none⟩) n cap) l :=
  Own.of_block h hg hs hl hn hm (fun j hj => by rw [ht j (by omega), List.getElem?_eq_getElem hj]; rfl)

theorem shape_of {w : World} {b : Nat} {cs : Array Value} {T : TypeId} {m : Nat × Nat} (h : w.heap[b]? = some (.cells cs T m)) : w.shape? b = some (T, cs.size) := by simp [World.shape?, h]

section
variable {g n cap base k vb : Nat} {s : ByteArray} {l : List ByteArray} {w : World}

theorem vs_cells (hv : w.heap[vb]? = some (.cells #[.string s] 9 (0, 0))) : ∀ j v, [Value.string s][j]? = some v → w.cell? ⟨vb, 0 + j, none⟩ = some v := fun j v hj => by
  rw [Nat.zero_add, block_cell hv, ← hj]; simp
theorem cs_cells (h : Own w base (.slice (some ⟨g, 0, none⟩) n cap) l) : ∀ j v, (scells l)[j]? = some v → w.cell? ⟨g, 0 + j, none⟩ = some v := fun j v hj => by
  have := row_news h.row2.2 j v hj
  rwa [add_lit, show j = 0 + j from (Nat.zero_add j).symm] at this

theorem insert_shift (hk : k < n) (hroom : n + 1 ≤ cap) (h : Own w base (.slice (some ⟨g, 0, none⟩) n cap) l) (hv : w.heap[vb]? = some (.cells #[.string s] 9 (0, 0))) (hne : vb ≠ g) :
    Calls Try.prog 73 #[.slice (some ⟨g, 0, none⟩) n cap, .int .i64 (k : Int), .slice (some ⟨vb, 0, none⟩) 1 1] w (Replaced w base (.slice (some ⟨g, 0, none⟩) n cap) (putIn l k s)) := by
  obtain ⟨cs, hh, hgb, hnc, hcm, hcs, hln, hcell⟩ := h.block
  have hcm' := hcm
  unfold maxLen at hcm
  have hc := Any2.slices_Insert_string_shift insLays g 0 n cap k vb 0 1 1 (scells l) [.string s] w hk (by omega) hroom (by omega) hne (by rw [scells_length, hln]) rfl (cs_cells h) (fun j hj => by rw [Nat.zero_add]; exact block_some hh (by omega)) (fun j hj => block_free hh) (vs_cells hv) (scells_one l) (by simp [Value.oneCell']) 9 9 1 cap (by rw [shape_of hv]; rfl) (by rw [shape_of hh, hcs]) (by omega) (block_free hv) (block_free hv)
  refine hc.mono ?_
  rintro e w' ⟨rfl, rfl⟩
  have hlen := putIn_length l k s (by omega)
  have hd : ((scells l).drop k).length = n - k := by rw [List.length_drop, scells_length, hln]
  obtain ⟨c1, hh1, hs1, hc1⟩ := heap_setCells g ((scells l).drop k) (0 + (k + 1)) w.drew cs _ _ hh (by omega)
  obtain ⟨c2, hh2, hs2, hc2⟩ := heap_setCells g [.string s] (0 + k) _ c1 _ _ hh1 (by simp; omega)
  refine ⟨some ⟨g, 0, none⟩, cap, by rw [hlen, hln], ?_, grown_trans (grown_below (drewN_below w 1) _) (grown_trans (grown_setCells g _ _ _) (grown_setCells g _ _ _))⟩
  refine Own.of_block2 hh2 hgb (by omega) rfl (by omega) hcm' (fun j hj => ?_)
  rw [putIn_get l k s (by omega) j hj, hc2, hc1, hd]
  simp only [List.length_singleton]
  by_cases a1 : j < k
  · rw [if_neg (by omega), if_neg (by omega), if_pos a1, hcell j (by omega), List.getElem?_eq_getElem (by omega)]; rfl
  · by_cases a2 : j = k
    · subst a2
      rw [if_pos (by omega), if_neg (by omega), if_pos rfl]; simp
    · rw [if_neg (by omega), if_pos (by omega), if_neg a1, if_neg a2, List.getElem?_drop]
      have e : k + (j - (0 + (k + 1))) = j - 1 := by omega
      rw [e]
      simp [scells]

theorem insert_end_room (hk : k = n) (hroom : n + 1 ≤ cap) (h : Own w base (.slice (some ⟨g, 0, none⟩) n cap) l) (hv : w.heap[vb]? = some (.cells #[.string s] 9 (0, 0))) :
    Calls Try.prog 73 #[.slice (some ⟨g, 0, none⟩) n cap, .int .i64 (k : Int), .slice (some ⟨vb, 0, none⟩) 1 1] w (Replaced w base (.slice (some ⟨g, 0, none⟩) n cap) (putIn l k s)) := by
  subst hk
  obtain ⟨cs, hh, hgb, hnc, hcm, hcs, hln, hcell⟩ := h.block
  have hcm' := hcm
  unfold maxLen at hcm
  have hc := Any2.slices_Insert_string_end_room insLays g 0 k cap vb 0 1 1 [.string s] w (by omega) hroom (by omega) rfl (fun j hj => by obtain rfl : j = 0 := (by omega); rw [Nat.zero_add]; exact block_some hh (by omega)) (fun j hj => block_free hh) (vs_cells hv) (by simp [Value.oneCell'])
  refine hc.mono ?_
  rintro e w' ⟨rfl, rfl⟩
  have hlen := putIn_length l k s (by omega)
  obtain ⟨c2, hh2, hs2, hc2⟩ := heap_setCells g [.string s] (0 + k) w cs _ _ hh (by simp; omega)
  refine ⟨some ⟨g, 0, none⟩, cap, by rw [hlen, hln], ?_, grown_setCells g _ _ _⟩
  refine Own.of_block2 hh2 hgb (by omega) rfl (by omega) hcm' (fun j hj => ?_)
  rw [putIn_get l k s (by omega) j hj, hc2]
  simp only [List.length_singleton]
  by_cases a1 : j < k
  · rw [if_neg (by omega), if_pos a1, hcell j (by omega), List.getElem?_eq_getElem (by omega)]; rfl
  · obtain rfl : j = k := by omega
    rw [if_pos (by omega), if_neg (by omega), if_pos rfl]; simp

theorem insert_end_grow (hk : k = n) (hn : n ≤ 1048576) (hroom : cap < n + 1) (h : Own w base (.slice (some ⟨g, 0, none⟩) n cap) l) (hv : w.heap[vb]? = some (.cells #[.string s] 9 (0, 0))) :
    Calls Try.prog 73 #[.slice (some ⟨g, 0, none⟩) n cap, .int .i64 (k : Int), .slice (some ⟨vb, 0, none⟩) 1 1] w (Replaced w base (.slice (some ⟨g, 0, none⟩) n cap) (putIn l k s)) := by
  subst hk
  obtain ⟨cs, hh, hgb, hnc, hcm, hcs, hln, hcell⟩ := h.block
  have hgl : g < w.heap.size := (Array.getElem?_eq_some_iff.1 hh).1
  have hc := Any2.slices_Insert_string_end_grow insLays (some ⟨g, 0, none⟩) k cap vb 0 1 1 (scells l) [.string s] w (by omega) hnc hroom (by omega) (by rw [scells_length, hln]) rfl (by simp) (fun a e j v hj => by cases e; exact row_news h.row2.2 j v hj) (vs_cells hv) (by simp [Value.oneCell'])
  refine hc.mono ?_
  rintro e w' ⟨rfl, rfl⟩
  have hlen := putIn_length l k s (by omega)
  have hG1 := grownCap_ge w (k + 1) cap (insRen.t 9)
  have hG2 := grownCap_le_maxLen w (k + 1) cap (insRen.t 9) (by unfold maxLen; omega)
  refine ⟨some ⟨w.heap.size, 0, none⟩, _, by rw [hlen, hln], ?_, grown_below (((Below.refl w.heap.size w).drew).alloc (Nat.le_refl _) _) _⟩
  have hnew := heap_alloc_new w.drew (.cells ((scells l ++ [Value.string s]).toArray ++ Builtin.zeroCells (Value.string ⟨#[]⟩).cells (grownCap w (k + 1) cap (insRen.t 9) - (k + 1))) (insRen.t 9))
  refine Own.of_block2 hnew (by show base ≤ w.heap.size; omega) ?_ rfl (by omega) hG2 (fun j hj => ?_)
  · simp [Builtin.zeroCells, Value.cells, scells_length, hln]; omega
  · rw [putIn_get l k s (by omega) j hj]
    rw [Array.getElem?_append_left (by simp [scells_length]; omega)]
    by_cases a1 : j < k
    · rw [if_pos a1]; simp [scells, List.getElem?_append_left, hln, a1]
    · obtain rfl : j = k := by omega
      rw [if_neg a1, if_pos rfl]; simp [scells, hln]

theorem insert_grow (hk : k < n) (hn : n ≤ 1048576) (hroom : cap < n + 1) (h : Own w base (.slice (some ⟨g, 0, none⟩) n cap) l) (hv : w.heap[vb]? = some (.cells #[.string s] 9 (0, 0))) :
    Calls Try.prog 73 #[.slice (some ⟨g, 0, none⟩) n cap, .int .i64 (k : Int), .slice (some ⟨vb, 0, none⟩) 1 1] w (Replaced w base (.slice (some ⟨g, 0, none⟩) n cap) (putIn l k s)) := by
  obtain ⟨cs, hh, hgb, hnc, hcm, hcs, hln, hcell⟩ := h.block
  have hgl : g < w.heap.size := (Array.getElem?_eq_some_iff.1 hh).1
  have hc := Any2.slices_Insert_string_grow insLays g 0 n cap k vb 0 1 1 (scells l) [.string s] w hk (by omega) hnc hroom (by omega) (by rw [scells_length, hln]) rfl (cs_cells h) (vs_cells hv) (scells_one l) (by simp [Value.oneCell'])
  refine hc.mono ?_
  rintro e w' ⟨rfl, rfl⟩
  have hlen := putIn_length l k s (by omega)
  have hG1 := grownCap_ge w (n + 1) cap (insRen.t 9)
  have hG2 := grownCap_le_maxLen w (n + 1) cap (insRen.t 9) (by unfold maxLen; omega)
  obtain ⟨G, hG⟩ : ∃ G, G = grownCap w (n + 1) cap (insRen.t 9) := ⟨_, rfl⟩
  rw [← hG] at hG1 hG2 ⊢
  obtain ⟨ROW, hROW⟩ : ∃ ROW : Array Value, ROW = ((scells l).take k).toArray ++ Builtin.zeroCells (Value.string ⟨#[]⟩).cells (n + 1 - k) ++ Builtin.zeroCells (Value.string ⟨#[]⟩).cells (G - (n + 1)) := ⟨_, rfl⟩
  rw [← hROW]
  have hRs : ROW.size = G := by
    rw [hROW]
    simp [Builtin.zeroCells, Value.cells, scells_length]
    omega
  have hR : ∀ j, j < k → ROW[j]? = (l[j]?).map Value.string := fun j hj => by
    rw [hROW, Array.getElem?_append_left (by simp [scells_length]; omega), Array.getElem?_append_left (by simp [scells_length]; omega)]
    simp [scells, hj]
  have hd : ((scells l).drop k).length = n - k := by rw [List.length_drop, scells_length, hln]
  obtain ⟨c1, hh1, hs1, hc1⟩ := heap_setCells w.heap.size [.string s] k (w.alloc (.cells ROW (insRen.t 9))).drew ROW _ _ (heap_alloc_new w (.cells ROW (insRen.t 9))) (by simp; omega)
  obtain ⟨c2, hh2, hs2, hc2⟩ := heap_setCells w.heap.size ((scells l).drop k) (k + 1) (((w.alloc (.cells ROW (insRen.t 9))).drew.setCells w.heap.size k [.string s]).drew) c1 _ _ hh1 (by omega)
  have hbl : Below w.heap.size w (((w.alloc (.cells ROW (insRen.t 9))).drew.setCells w.heap.size k [Value.string s]).drew.setCells w.heap.size (k + 1) ((scells l).drop k)) := by
    have h1 : Below w.heap.size w (w.alloc (.cells ROW (insRen.t 9))).drew := ((Below.refl w.heap.size w).alloc (Nat.le_refl _) _).drew
    have h2 := (h1.grown (grown_setCells w.heap.size [Value.string s] k _) h1.size (fun j e => by cases e; omega)).drew
    exact h2.grown (grown_setCells w.heap.size _ (k + 1) _) h2.size (fun j e => by cases e; omega)
  refine ⟨some ⟨w.heap.size, 0, none⟩, G, by rw [hlen, hln], ?_, grown_below hbl _⟩
  refine Own.of_block2 hh2 (by omega) (by omega) rfl (by omega) hG2 (fun j hj => ?_)
  rw [putIn_get l k s (by omega) j hj, hc2, hc1, hd]
  simp only [List.length_singleton]
  by_cases a1 : j < k
  · rw [if_neg (by omega), if_neg (by omega), if_pos a1, hR j a1]
  · by_cases a2 : j = k
    · subst a2
      rw [if_neg (by omega), if_pos (by omega), if_neg a1, if_pos rfl]; simp
    · rw [if_pos (by omega), if_neg a1, if_neg a2, List.getElem?_drop]
      have e : k + (j - (k + 1)) = j - 1 := by omega
      rw [e]
      simp [scells]

theorem insert_any (hk : k ≤ n) (hn : n ≤ 1048576) (h : Own w base (.slice (some ⟨g, 0, none⟩) n cap) l) (hv : w.heap[vb]? = some (.cells #[.string s] 9 (0, 0))) (hne : vb ≠ g) :
    Calls Try.prog 73 #[.slice (some ⟨g, 0, none⟩) n cap, .int .i64 (k : Int), .slice (some ⟨vb, 0, none⟩) 1 1] w (Replaced w base (.slice (some ⟨g, 0, none⟩) n cap) (putIn l k s)) := by
  by_cases hr : n + 1 ≤ cap
  · by_cases he : k = n
    · exact insert_end_room he hr h hv
    · exact insert_shift (by omega) hr h hv hne
  · by_cases he : k = n
    · exact insert_end_grow he hn (by omega) h hv
    · exact insert_grow (by omega) hn (by omega) h hv
end

end Go.Proofs.Ytpnmloemabligaa.Strs

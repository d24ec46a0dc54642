/- Two contracts of Go's library at this dump: maps.Keys and slices.Collect of what it hands back. Each is an application of the kit's own theorem. -/
import Derived.Shelf.SlIter.Keys
import Derived.Shelf.SlIter.Collect
import Derived.Test.YtbfbjolggilfoaaChecked
namespace Go.Proofs.Ytbfbjolggilfoaa.Flip
open Go.RowKit Go.Maps Go.Sort Go.Shelf

def seqRen : Go.Shelf.Ren := ⟨fun | 7 => 41 | 10 => 61 | 8 => 40 | 11 => 60 | n => n, fun | 0 => 0 | 3 => 3 | 4 => 4 | 23 => 43 | 24 => 44 | 26 => 9 | 27 => 46 | 28 => 47 | 33 => 39 | n => n, fun | n => n⟩

theorem laysK : SlLaysZ.n7 Try.prog seqRen := {
  mixed := by kernel_rfl
  f7 := ⟨Try.f41.name, by kernel_rfl, Try.func41.trans (congrArg some (by kernel_rfl))⟩
  f10 := ⟨Try.f61.name, by kernel_rfl, Try.func61.trans (congrArg some (by kernel_rfl))⟩
  t0 := Try.underlying0
  a0 := Try.isAgg0
  z0 := Try.sizeOf0
  v0 := Try.zeroValue0
  t4 := Try.underlying4
  a4 := Try.isAgg4
  z4 := Try.sizeOf4
  v4 := Try.zeroValue4
  t23 := Try.underlying43
  a23 := Try.isAgg43
  z23 := Try.sizeOf43
  v23 := Try.zeroValue43
  t26 := Try.underlying9
  a26 := Try.isAgg9
  z26 := Try.sizeOf9
  v26 := Try.zeroValue9
  t27 := Try.underlying46
  a27 := Try.isAgg46
  z27 := Try.sizeOf46
  v27 := Try.zeroValue46
  t28 := Try.underlying47
  a28 := Try.isAgg47
  z28 := Try.sizeOf47
  v28 := Try.zeroValue47
  t33 := Try.underlying39
  a33 := Try.isAgg39
  z33 := Try.sizeOf39
  v33 := Try.zeroValue39 }

theorem laysC : SlLaysZ.n8 Try.prog seqRen := {
  mixed := by kernel_rfl
  f8 := ⟨Try.f40.name, by kernel_rfl, Try.func40.trans (congrArg some (by kernel_rfl))⟩
  f11 := ⟨Try.f60.name, by kernel_rfl, Try.func60.trans (congrArg some (by kernel_rfl))⟩
  t0 := Try.underlying0
  a0 := Try.isAgg0
  z0 := Try.sizeOf0
  v0 := Try.zeroValue0
  t24 := Try.underlying44
  a24 := Try.isAgg44
  z24 := Try.sizeOf44
  v24 := Try.zeroValue44
  t26 := Try.underlying9
  a26 := Try.isAgg9
  z26 := Try.sizeOf9
  v26 := Try.zeroValue9
  t28 := Try.underlying47
  a28 := Try.isAgg47
  z28 := Try.sizeOf47
  v28 := Try.zeroValue47
  i26 := by kernel_rfl }

/-- maps.Keys: the map is boxed. -/
theorem keys_at (mb : Option Nat) (w : World) :
    Calls Try.prog 41 #[.map mb] w fun e w' => e = .returned (.func (.func 61) #[] #[.pointer (some ⟨w.heap.size, 0, none⟩)]) ∧ w' = w.alloc (.cells #[.map mb] 43) :=
  callsIn_wide.1 (AnyZ.keys_in laysK Fence.wide 5 trivial rfl mb w)

/-- slices.Collect(maps.Keys(m)): the keys of a map that is not nil, in some order, in a new slice. -/
theorem collect_at {H : Type} (B b nn : Nat) (D0 : DataW H) {R : Value → Option (DataW H × List MemPlace)} (w : World) (hB : B < w.heap.size) (hm : w.cell? ⟨B, 0, none⟩ = some (.map (some b))) (hown : w.ownsMap Try.prog 9 R b nn D0) (hmax : Maps.size D0 ≤ maxLen) (hbytes : Maps.size D0 * 16 ≤ 140737488355328) :
    Calls Try.prog 40 #[.func (.func 61) #[] #[.pointer (some ⟨B, 0, none⟩)]] w fun e w' => ∃ (v : Value) (ss : List (List UInt8)), e = .returned v ∧ ss.Perm (strKeys D0) ∧
      w'.ownsRow w.heap.size 9 1 v ss.length (ss.map encStr) ∧ (v = .slice none 0 0 ↔ ss = []) ∧ Below w.heap.size w w' :=
  callsIn_wide.1 (AnyZ.collect_in laysC Fence.wide 6 trivial trivial rfl (by omega) 61 #[.pointer (some ⟨B, 0, none⟩)] trivial (enters_of Try.func61 (by kernel_rfl) rfl) _ _ hmax hbytes w
    (AnyZ.keys_gives (ρ := seqRen) { laysK with } Fence.wide _ trivial rfl (by omega) B b nn D0 w hB hm hown))
end Go.Proofs.Ytbfbjolggilfoaa.Flip

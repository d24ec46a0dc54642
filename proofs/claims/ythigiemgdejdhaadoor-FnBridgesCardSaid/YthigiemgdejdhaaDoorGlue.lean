/- What glueBridge of the program returns. -/
import Derived.Test.YthigiemgdejdhaaDoorBridge
namespace Go.Proofs.YthigiemgdejdhaaDoor.Tab
open Go.ChangeShapes Go.WideShapes Go.ChangeAt Go.RowKit
open Go.Proofs.YthigiemgdejdhaaDoor.Strip Go.Proofs.YthigiemgdejdhaaDoor.Kerf Go.Proofs.YthigiemgdejdhaaDoor.Order Go.Proofs.YthigiemgdejdhaaDoor.Area Go.Proofs.YthigiemgdejdhaaDoor.Errs
set_option linter.unusedVariables false

/-- The error that goes with the way. -/
def misV (b : Bool) (a : Addr) : Value := if b = true then .nilIface else errV a

set_option maxRecDepth 100000 in
theorem glue_impl (s : ByteArray) (p q : Int) (t : ByteArray) (a : Addr) (w : World) (hm : s.size ≤ 1048576) (ht : t.size ≤ 1048576) (hs : Sent w a) :
    Calls Tryd.prog 30 #[.string s, .agg #[.int .i64 p, .int .i64 q, .string t]] w fun e w' =>
      e = .returned (.tuple #[.string (bridgeS s p q t), misV (okB s.data.toList p q t.data.toList) a]) ∧ Below w.heap.size w w' := by
  have hb0 := below_new w (.cells #[.int .i64 p, .int .i64 q, .string t] 25)
  have hv := GVar.new w p q t
  have HS := Lib.hid (hs.below hb0)
  have HB := Lib.hid hb0
  have HV := Lib.hid hv
  have HH := Lib.hid (fun w => has_impl s p q w hm)
  clear hs hb0 hv
  generalize hW : w.alloc (.cells #[.int .i64 p, .int .i64 q, .string t] 25) = W at *
  have HW := Lib.hid hW
  clear hW
  cases hsp : spanB s.data.toList p q with
  | false =>
    have hok := ok_no (b := t.data.toList) hsp
    rw [show bridgeS s p q t = ⟨#[]⟩ from by unfold bridgeS; rw [hok]; rfl, show misV (okB s.data.toList p q t.data.toList) a = errV a from by unfold misV; rw [hok]; rfl]
    rw [hsp] at HH
    clear hok hsp
    obtain ⟨v0, v1, v2⟩ := HV.out.cells
    go_enter Tryd.func30, Tryd.ntmps30
    go_wp2_with fail
    rw [HW.out]
    go_wp2_with fail
    refine (HH.out _).mono ?_
    rintro e w1 ⟨rfl, hb⟩
    have hg := (HS.out.below hb).cell
    have HB2 := Lib.hid (HB.out.trans (hb.mono HB.out.size))
    clear hb v0 v1 v2
    go_wp2_with fail
    go_quiet (fail)
    go_wp2_with fail
    go_ret2
    exact ⟨rfl, HB2.out.trans ((Strip.below_drewN w1 _).mono HB2.out.size)⟩
  | true =>
    obtain ⟨h1, h2, h3, h4⟩ := span_iff.1 hsp
    obtain ⟨P, rfl⟩ : ∃ P : Nat, p = (P : Int) := ⟨p.toNat, by omega⟩
    obtain ⟨Q, rfl⟩ : ∃ Q : Nat, q = (Q : Int) := ⟨q.toNat, by omega⟩
    have hsz := size_small h1
    have hql : Q ≤ s.size := by simpa using h4
    have hPQ : P < Q := by omega
    have hws := way_size s P Q t (by omega) hql
    have hwt := way_text s P Q t hql
    have hex : okB s.data.toList P Q t.data.toList = aboveB (wayS s P Q t).data.toList s.data.toList := by unfold okB; rw [hsp, Bool.true_and, Int.toNat_natCast, Int.toNat_natCast, hwt]
    have hbr : bridgeS s P Q t = if okB s.data.toList P Q t.data.toList = true then wayS s P Q t else ⟨#[]⟩ := rfl
    rw [hbr, hex]
    rw [hsp] at HH
    have hab := fun w => Long.above_any (wayS s P Q t) s w (by omega) hm
    have HA := Lib.hid hab
    have HWD := Lib.hid (show s.extract 0 P ++ t ++ s.extract Q s.size = wayS s P Q t from rfl)
    clear hab hbr hex hwt h1 h2 h3 h4
    generalize aboveB (wayS s P Q t).data.toList s.data.toList = ok at *
    generalize wayS s P Q t = z at *
    obtain ⟨v0, v1, v2⟩ := HV.out.cells
    go_enter Tryd.func30, Tryd.ntmps30
    go_wp2_with fail
    rw [HW.out]
    go_wp2_with fail
    refine (HH.out _).mono ?_
    rintro e w1 ⟨rfl, hb⟩
    have HS2 := Lib.hid (HS.out.below hb)
    have hv := HV.out.below hb
    obtain ⟨u0, u1, u2⟩ := hv.cells
    have HB2 := Lib.hid (HB.out.trans (hb.mono HB.out.size))
    clear hb v0 v1 v2 hv
    have hP0 : (0 : Int) ≤ (P : Int) := Int.natCast_nonneg _
    have hQ0 : (0 : Int) ≤ (Q : Int) := Int.natCast_nonneg _
    have hP1 : (P : Int) ≤ (s.size : Int) := by omega
    have hQ1 : (Q : Int) ≤ (s.size : Int) := by omega
    go_wp2_with fail
    go_quiet (fail)
    go_wp2_with fail
    rw [HWD.out]
    have HS3 := Lib.hid (HS2.out.below (Strip.below_drewN w1 nq))
    have HB3 := Lib.hid (HB2.out.trans ((Strip.below_drewN w1 nq).mono HB2.out.size))
    clear u0 u1 u2
    generalize w1.drewN nq = w2 at *
    refine (HA.out _).mono ?_
    rintro e w3 ⟨rfl, hb⟩
    have hg := (HS3.out.below hb).cell
    have HB4 := Lib.hid (HB3.out.trans (hb.mono HB3.out.size))
    clear hb HA
    cases ok with
    | false =>
      go_wp2_with fail
      go_quiet (fail)
      go_wp2_with fail
      go_ret2
      exact ⟨rfl, HB4.out.trans ((Strip.below_drewN w3 _).mono HB4.out.size)⟩
    | true =>
      go_wp2
      go_ret2
      exact ⟨rfl, HB4.out⟩
end Go.Proofs.YthigiemgdejdhaaDoor.Tab

/- Spots compared: the equation for the walk. -/
import Derived.Test.YtmmlaelllpnchaaChecked
import Derived.WalkKit
import Derived.ProofKit
import Derived.Laws.StructEq
namespace Go.Proofs.Ytmmlaelllpnchaa.Face
open Go.ChangeShapes Go.WideShapes Go.ChangeAt Go.RowKit
set_option linter.unusedVariables false
set_option linter.unusedSimpArgs false

theorem toList_beq (a b : ByteArray) : (a.toList == b.toList) = decide (a = b) := by
  by_cases h : a = b
  · subst h; simp
  · have hne : ¬ a.toList = b.toList := fun e => h (by
      rw [ByteArray.toList_eq, ByteArray.toList_eq] at e
      exact ByteArray.ext (Array.ext' e))
    rw [decide_eq_false h]; simpa using hne

set_option maxRecDepth 100000 in
theorem spot_equal (u v u2 v2 : Int) (s s2 : ByteArray) (w : World) :
    (Op.equalIn 10000 38 (.agg #[.int .i64 u, .int .i64 v, .string s]) (.agg #[.int .i64 u2, .int .i64 v2, .string s2])).run Try.prog w = .ok (decide (u = u2 ∧ v = v2 ∧ s = s2)) w := by
  have ht : Try.prog.underlying 38 = some (.struct (Try.prog.fieldsOf 38)) := by kernel_rfl
  have hp : Try.prog.stoodInHeld 38 = false := by kernel_rfl
  rw [show (10000 : Nat) = 9999 + 1 from rfl, run_equalIn_struct w 9999 _ _ _ ht hp]
  have hsi : ∀ (w : World) (d : Nat) (a b : Int), (Op.equalIn (d + 1) 3 (.int .i64 a) (.int .i64 b)).run Try.prog w = .ok (a == b) w := fun w d a b => run_equalIn_int w d _ .i64 .i64 a b Try.underlying3
  have hss : ∀ (w : World) (d : Nat) (a b : ByteArray), (Op.equalIn (d + 1) 9 (.string a) (.string b)).run Try.prog w = .ok (a.toList == b.toList) w := fun w d a b => run_equalIn_string w d _ a b Try.underlying9
  have hp0 : ∀ w : World, (part 3 #[Value.int .i64 u, .int .i64 v, .string s] 0).run Try.prog w = .ok (.int .i64 u) w := fun _ => by kernel_rfl
  have hp1 : ∀ w : World, (part 3 #[Value.int .i64 u, .int .i64 v, .string s] 1).run Try.prog w = .ok (.int .i64 v) w := fun _ => by kernel_rfl
  have hp2 : ∀ w : World, (part 9 #[Value.int .i64 u, .int .i64 v, .string s] 2).run Try.prog w = .ok (.string s) w := fun _ => by kernel_rfl
  have hq0 : ∀ w : World, (part 3 #[Value.int .i64 u2, .int .i64 v2, .string s2] 0).run Try.prog w = .ok (.int .i64 u2) w := fun _ => by kernel_rfl
  have hq1 : ∀ w : World, (part 3 #[Value.int .i64 u2, .int .i64 v2, .string s2] 1).run Try.prog w = .ok (.int .i64 v2) w := fun _ => by kernel_rfl
  have hq2 : ∀ w : World, (part 9 #[Value.int .i64 u2, .int .i64 v2, .string s2] 2).run Try.prog w = .ok (.string s2) w := fun _ => by kernel_rfl
  have hf : (Try.prog.fieldsOf 38).toList.map (fun f => (f.name, f.type, f.offset)) = [("forward", 3, 0), ("down", 3, 1), ("letter", 9, 2)] := by kernel_rfl
  generalize (Try.prog.fieldsOf 38).toList = fs at hf
  obtain _ | ⟨f0, _ | ⟨f1, _ | ⟨f2, _ | ⟨f3, fs⟩⟩⟩⟩ := fs <;> simp at hf
  obtain ⟨⟨a1, a2, a3⟩, ⟨b1, b2, b3⟩, ⟨c1, c2, c3⟩⟩ := hf
  have ei : ∀ (w : World) (a b : Int), (Op.equalIn 9999 3 (.int .i64 a) (.int .i64 b)).run Try.prog w = .ok (a == b) w := fun w a b => hsi w 9998 a b
  have es : ∀ (w : World) (a b : ByteArray), (Op.equalIn 9999 9 (.string a) (.string b)).run Try.prog w = .ok (a.toList == b.toList) w := fun w a b => hss w 9998 a b
  simp only [Op.eqFields, a1, a2, a3, b1, b2, b3, c1, c2, c3, Sem.run_bind, hp0, hp1, hp2, hq0, hq1, hq2, Result.andThen_ok, ei, es, toList_beq, ne_eq]
  by_cases h1 : u = u2
  · subst h1
    by_cases h2 : v = v2
    · subst h2
      by_cases h3 : s = s2
      · subst h3; simp [Sem.run_ite, hp0, hq0, hp1, hp2, hq1, hq2, ei, es, toList_beq]
      · simp [h3, Sem.run_ite, hp0, hq0, hp1, hp2, hq1, hq2, ei, es, toList_beq]
    · have e2 : (v == v2) = false := by simpa using h2
      simp [e2, h2, Sem.run_ite, hp0, hq0, hp1, hp2, hq1, hq2, ei, es, toList_beq]
  · have e1 : (u == u2) = false := by simpa using h1
    simp [e1, h1, Sem.run_ite, hp0, hq0, ei]

theorem spot_letter (u v : Int) (s : ByteArray) : ∀ w : World, (Instr.field 38 (.agg #[.int .i64 u, .int .i64 v, .string s]) 2).run Try.prog w = .ok (.string s) w := fun _ => by kernel_rfl
end Go.Proofs.Ytmmlaelllpnchaa.Face

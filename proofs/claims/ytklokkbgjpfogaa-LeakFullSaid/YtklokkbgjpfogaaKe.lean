/- Two events held against one another. -/
import Derived.Test.YtklokkbgjpfogaaKb
import Derived.Laws.StructEq
namespace Go.Proofs.Ytklokkbgjpfogaa
open Go.RowKit Go.Lib
set_option linter.unusedVariables false
set_option linter.unusedSimpArgs false

def evEq (s t : EvM) : Bool := s.what == t.what && s.a == t.a && s.b == t.b && s.c == t.c
theorem evEq_iff (s t : EvM) : evEq s t = true ↔ s = t := by
  obtain ⟨a, b, c, d⟩ := s
  obtain ⟨a', b', c', d'⟩ := t
  simp [evEq, and_assoc]
theorem evEq_self (s : EvM) : evEq s s = true := (evEq_iff s s).2 rfl
theorem ev_under : Try.prog.underlying 26 = some (.struct (Try.prog.fieldsOf 26)) := by kernel_rfl
theorem ev_held : Try.prog.stoodInHeld 26 = false := by kernel_rfl
theorem ev_guard : Try.prog.eqGuardType Try.prog.depth 26 = false := by kernel_rfl
theorem run_ev_eq (w : World) (s t : EvM) : (Op.equalIn 10000 26 (evV s) (evV t)).run Try.prog w = .ok (evEq s t) w := by
  unfold evV
  rw [Go.run_equalIn_agg w 9999 _ _ _ ev_under ev_held]
  simp [Program.fieldsOf, Try.underlying26, Op.eqFields, go_sem, Try.underlying3]
  by_cases h0 : s.what = t.what <;> by_cases h1 : s.a = t.a <;> by_cases h2 : s.b = t.b <;> by_cases h3 : s.c = t.c <;> simp [evEq, h0, h1, h2, h3]
theorem evNeq (w : World) (s t : EvM) : (binOp .neq 26 (.agg #[.int .i64 s.what, .int .i64 s.a, .int .i64 s.b, .int .i64 s.c]) (.agg #[.int .i64 t.what, .int .i64 t.a, .int .i64 t.b, .int .i64 t.c])).run Try.prog w = .ok (.bool (!evEq s t)) w := by
  rw [run_neq_struct]
  have := run_ev_eq w s t
  unfold evV at this
  rw [this]
  rfl
theorem evEql (w : World) (s t : EvM) : (binOp .eql 26 (.agg #[.int .i64 s.what, .int .i64 s.a, .int .i64 s.b, .int .i64 s.c]) (.agg #[.int .i64 t.what, .int .i64 t.a, .int .i64 t.b, .int .i64 t.c])).run Try.prog w = .ok (.bool (evEq s t)) w := by
  rw [run_eql_struct]
  have := run_ev_eq w s t
  unfold evV at this
  rw [this]
  rfl
end Go.Proofs.Ytklokkbgjpfogaa

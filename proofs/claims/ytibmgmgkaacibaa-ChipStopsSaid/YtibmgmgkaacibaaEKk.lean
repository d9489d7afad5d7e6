/- Stage 16: two chips compared. -/
import Derived.Test.YtibmgmgkaacibaaKEB
namespace Go.Proofs.Ytibmgmgkaacibaa
open Go.RowKit Go.ChangeShapes Go.WideShapes Go.Deep Go.IntWalk
set_option linter.unusedVariables false
set_option linter.unusedSimpArgs false
theorem chip_under : Try.prog.underlying 44 = some (.struct (Try.prog.fieldsOf 44)) := by kernel_rfl
theorem chip_held : Try.prog.stoodInHeld 44 = false := by kernel_rfl
theorem regs_under : Try.prog.underlying 42 = some (.array 16 41) := by kernel_rfl
theorem run_regs_eq (w : World) (d : Nat) (a0 a1 a2 a3 a4 a5 a6 a7 a8 a9 a10 a11 a12 a13 a14 a15 : Int) : (Op.equalIn (d + 2) 42 (.agg #[.int .u32 a0, .int .u32 a1, .int .u32 a2, .int .u32 a3, .int .u32 a4, .int .u32 a5, .int .u32 a6, .int .u32 a7, .int .u32 a8, .int .u32 a9, .int .u32 a10, .int .u32 a11, .int .u32 a12, .int .u32 a13, .int .u32 a14, .int .u32 a15]) (.agg #[.int .u32 a0, .int .u32 a1, .int .u32 a2, .int .u32 a3, .int .u32 a4, .int .u32 a5, .int .u32 a6, .int .u32 a7, .int .u32 a8, .int .u32 a9, .int .u32 a10, .int .u32 a11, .int .u32 a12, .int .u32 a13, .int .u32 a14, .int .u32 a15])).run Try.prog w = .ok true w := by
  rw [Op.equalIn]
  simp [run_underlying regs_under, go_sem, Try.underlying41]
  rw [show List.range' 0 16 = [0, 1, 2, 3, 4, 5, 6, 7, 8, 9, 10, 11, 12, 13, 14, 15] from rfl]
  simp [run_underlying regs_under, go_sem, Try.underlying41]
theorem run_chip_eq (w : World) (x : Ch) : (Op.equalIn 10000 44 (.agg (chA x)) (.agg (chA x))).run Try.prog w = .ok true w := by
  unfold chA
  rw [Go.run_equalIn_agg w 9999 _ _ _ chip_under chip_held]
  simp [Program.fieldsOf, Try.underlying44, Op.eqFields, go_sem, Try.underlying3, Try.underlying4, run_regs_eq]
theorem eql_chip (w : World) (x : Ch) : (binOp .eql 44 (.agg (chA x)) (.agg (chA x))).run Try.prog w = .ok (.bool true) w := by
  have h := run_chip_eq w x
  simp only [binOp, Op.equal, Op.maxDepth] at *
  simp [h]
theorem load_chip {w : World} {b : Nat} {x : Ch} (h : Cp w b x) : (Instr.loadAt 44 (.pointer (some ⟨b, 0, none⟩))).run Try.prog w = .ok (.agg (chA x)) w := by
  simp only [Instr.loadAt, Instr.sureAddr, Sem.run_bind, Sem.run_pure, Result.andThen]
  exact run_loadVar_row w b _ _ (chA x) (0, 0) _ h.box chip_under rfl (by kernel_rfl)
end Go.Proofs.Ytibmgmgkaacibaa

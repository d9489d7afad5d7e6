/- Chapter 3's example, as each law asks it first. -/
import Derived.Test.YtkjmpobbbjljjaaDoorCr
import Derived.Test.YtkjmpobbbjljjaaDoorCl
import Derived.Outline
namespace Go.Proofs.YtkjmpobbbjljjaaDoor
open Go.RowKit
set_option linter.unusedVariables false

theorem ex_str : strOfNums [1, 255, 255, 255, 255] = { data := #[1, 255, 255, 255, 255] } := by kernel_rfl
theorem ex_bytes : layB 1 (-1) 0 = [1, 255, 255, 255, 255] := by decide
theorem ex_right : rightB 1 (-1) 0 = true := by decide
theorem ex_err : errI false [1, 255, 255, 255, 255] = 0 := by decide
theorem ex_op : opI false [1, 255, 255, 255, 255] = 1 := by decide
theorem ex_rest : restI false [1, 255, 255, 255, 255] = (-1, 0, false, []) := by decide

end Go.Proofs.YtkjmpobbbjljjaaDoor

/- Chapter 3's example, as each law asks it first. -/
import Derived.Test.YtmikibcgphkcfaaGreatDoorCr
import Derived.Outline
namespace Go.Proofs.YtmikibcgphkcfaaGreatDoor
open Go.RowKit
set_option linter.unusedVariables false

theorem str3 {w : World} {v : Value} {ys : List Int} (h : Vw w v ys) : (convert 47 9 v).run Tryz.prog w = .ok (.string (strOfNums ys)) w :=
  run_str Tryz.underlying47 Tryz.underlying5 Tryz.underlying9 h

theorem ex_str : strOfNums [1, 255, 255, 255, 255] = { data := #[1, 255, 255, 255, 255] } := by kernel_rfl
theorem ex_bytes : layB 1 (-1) 0 = [1, 255, 255, 255, 255] := by decide
theorem ex_right : rightB 1 (-1) 0 = true := by decide
theorem ex_err : errI false [1, 255, 255, 255, 255] = 0 := by decide
theorem ex_op : opI false [1, 255, 255, 255, 255] = 1 := by decide
theorem ex_rest : restI false [1, 255, 255, 255, 255] = (-1, 0, false, []) := by decide

end Go.Proofs.YtmikibcgphkcfaaGreatDoor

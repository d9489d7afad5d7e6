/- Package word: what each call answers, said of BitVec 32; the world stays. -/
import Derived.WalkKit
import Derived.WalkSpells
import Derived.Laws.ShiftsVar
import Derived.Deep.QuietTactic
import Derived.BigQuiet
import Derived.Test.YtbdnebcalklphaaChecked
import Derived.Test.YtbdnebcalklphaaBV
namespace Go.Proofs.Ytbdnebcalklphaa
open Go.RowKit
set_option linter.unusedVariables false

theorem ret_i32 {a b : Int} (h : a = b) : Ending.returned (.int .i32 a) = Ending.returned (.int .i32 b) := by rw [h]

end Go.Proofs.Ytbdnebcalklphaa

/- HeapPlays: both heaps are alike. -/
import Derived.Test.YtdmadfahgkikkaaGreatKHf
import Derived.Test.YtdmadfahgkikkaaGreatHok
import Derived.Deep.RegionHeld3
namespace Go.Proofs.YtdmadfahgkikkaaGreat
open Go.RowKit Go.Lib Go.ChangeShapes Go.WideShapes Go.Deep
set_option linter.unusedVariables false
set_option linter.unusedSimpArgs false

section
variable {F G : Nat → Prop} {w : World} {b c : Nat} {m : HpM}
end
end Go.Proofs.YtdmadfahgkikkaaGreat

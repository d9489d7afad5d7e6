/- Reading an instruction: the reference's. -/
import Derived.Test.YtpangghcfmgidaaDoorCr
namespace Go.Proofs.YtpangghcfmgidaaDoor
open Go.RowKit
set_option linter.unusedVariables false

theorem takeP_lack (n : Int) (hn : 1 ≤ n) : takeP n true [] = ([], true, []) := by
  unfold takeP
  rw [if_pos (.inr (by simp; omega))]
theorem arg_lack (op : Int) : (argI op true []).2.2.1 = true := by
  unfold argI tailI
  simp only [takeP_lack 1 (by omega), takeP_lack 2 (by omega), takeP_lack 4 (by omega)]
  repeat' split
  all_goals rfl
theorem arg_none {op : Int} (h : ¬ (1 ≤ op ∧ op ≤ 39)) (lk : Bool) (ys : List Int) : argI op lk ys = (0, 0, lk, ys) := by
  have T := table op
  unfold argI tailI
  rw [if_neg (by omega), if_neg (by omega), if_neg (by omega), if_neg (by omega)]

end Go.Proofs.YtpangghcfmgidaaDoor

/- What the reference's Writer does to the world: a contract for each call. -/
import Derived.Test.YtkjmpobbbjljjaaDoorWr
namespace Go.Proofs.YtkjmpobbbjljjaaDoor
open Go.RowKit
set_option linter.unusedVariables false

/-- the lowest k bytes of n, the highest first -/
def lb (n : Int) : Nat → List Int
  | 0 => []
  | k + 1 => (n / 2 ^ (8 * k) % 256) :: lb n k
theorem lb_len (n : Int) (k : Nat) : (lb n k).length = k := by
  induction k with
  | zero => rfl
  | succ k ih => simp [lb, ih]

theorem lb0 (n : Int) : lb n (0 + 1) = (n % 256) :: lb n 0 := by simp [lb]
theorem lb1 (n : Int) : lb n (1 + 1) = (n / 256 % 256) :: lb n 1 := by simp [lb]
theorem lb2 (n : Int) : lb n (2 + 1) = (n / 65536 % 256) :: lb n 2 := by simp [lb]
theorem lb3 (n : Int) : lb n (3 + 1) = (n / 16777216 % 256) :: lb n 3 := by simp [lb]

end Go.Proofs.YtkjmpobbbjljjaaDoor

/- Package label's calls on kinds, and the reference's: what each answers; the world stays. -/
import Derived.Test.YtkjmpobbbjljjaaDoorHand
import Derived.LoopTactic
namespace Go.Proofs.YtkjmpobbbjljjaaDoor
open Go.RowKit
set_option linter.unusedVariables false

def kI (k : Int) : Bool := k == 1 || k == 2
def kA (k : Int) : Bool := k == 3 || k == 4
def kS (k : Int) : Bool := k == 2 || k == 4
def kK (k : Int) : Bool := kI k || kA k
def fitB (a b : Int) : Bool := (kK a && a == b) || (a == 1 && b == 2)
def joinV (a b : Int) : Int := if fitB a b then b else if fitB b a then a else 0
def joinB (a b : Int) : Bool := fitB a b || fitB b a
def ofV (a : Int) : Int := if a == 3 then 1 else if a == 4 then 2 else 0
def bothV (a b : Int) : Int := if !kI a || !kI b then 0 else joinV a b
def bothR (a b : Int) : Int := if a == 2 || b == 2 then 2 else 1
def fitR (a b : Int) : Bool := (a == b && (kI a || kA a)) || (a == 1 && b == 2)
def joinRB (a b : Int) : Bool := (a == b && (kI a || kA a)) || (kI a && kI b)
def joinRV (a b : Int) : Int := if (a == b && (kI a || kA a)) then a else if (kI a && kI b) then 2 else 0
theorem fitR_eq (a b : Int) : fitR a b = fitB a b := by unfold fitR fitB kK; rw [Bool.and_comm (a == b)]
theorem kI_iff {a : Int} : kI a = true ↔ a = 1 ∨ a = 2 := by simp [kI]
theorem kA_iff {a : Int} : kA a = true ↔ a = 3 ∨ a = 4 := by simp [kA]
theorem fit_iff {a b : Int} : fitB a b = true ↔ (a = b ∧ (a = 1 ∨ a = 2 ∨ a = 3 ∨ a = 4)) ∨ (a = 1 ∧ b = 2) := by
  simp [fitB, kK, kI, kA]; omega
theorem joinRB_eq (a b : Int) : joinRB a b = joinB a b := by
  rw [Bool.eq_iff_iff]
  simp only [joinRB, joinB, Bool.or_eq_true, Bool.and_eq_true, fit_iff, kI_iff, kA_iff, beq_iff_eq]
  omega
theorem joinRV_eq (a b : Int) : joinRV a b = joinV a b := by
  unfold joinRV joinV
  simp only [Bool.or_eq_true, Bool.and_eq_true, fit_iff, kI_iff, kA_iff, beq_iff_eq]
  split
  · split
    · omega
    · split <;> omega
  · split
    · split
      · omega
      · split <;> omega
    · split
      · omega
      · split <;> omega
theorem both_eq {a b : Int} (ha : kI a = true) (hb : kI b = true) : bothV a b = bothR a b := by
  unfold bothV bothR joinV
  simp only [ha, hb, Bool.not_true, Bool.or_self, Bool.false_eq_true, if_false]
  simp only [Bool.or_eq_true, fit_iff, beq_iff_eq]
  rw [kI_iff] at ha hb
  rcases ha with rfl | rfl <;> rcases hb with rfl | rfl <;> simp

theorem kn_v : joinV 1 2 = 2 := by decide
theorem kn_b : joinB 1 2 = true := by decide
theorem kn_b' : joinB 3 4 = false := by decide
end Go.Proofs.YtkjmpobbbjljjaaDoor

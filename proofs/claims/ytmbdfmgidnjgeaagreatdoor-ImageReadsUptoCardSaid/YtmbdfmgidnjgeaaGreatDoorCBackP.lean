/- What was laid is read back: lists alone. -/
import Derived.Test.YtmbdfmgidnjgeaaGreatDoorCq
import Derived.Test.YtmbdfmgidnjgeaaGreatDoorCl
namespace Go.Proofs.YtmbdfmgidnjgeaaGreatDoor
open Go.RowKit
set_option linter.unusedVariables false

theorem take1 (x : Int) (l : List Int) : takeP 1 false (x :: l) = ([x], false, l) := by
  unfold takeP
  rw [if_neg (by simp; omega)]
  simp
theorem take2 (x y : Int) (l : List Int) : takeP 2 false (x :: y :: l) = ([x, y], false, l) := by
  unfold takeP
  rw [if_neg (by simp; omega)]
  simp
theorem take4 (x y z u : Int) (l : List Int) : takeP 4 false (x :: y :: z :: u :: l) = ([x, y, z, u], false, l) := by
  unfold takeP
  rw [if_neg (by simp; omega)]
  simp
theorem read_back {op a b : Int} (hr : rightB op a b = true) (more : List Int) : opI false (layB op a b ++ more) = op ∧ restI false (layB op a b ++ more) = (a, b, false, more) ∧ errI false (layB op a b ++ more) = 0 := by
  have R := (right_iff op a b).1 hr
  have T := table op
  have hop : opI false (layB op a b ++ more) = op := by
    unfold opI layB
    rw [List.cons_append, take1]
    simp only [beN, List.foldl]
    omega
  have hrest : restI false (layB op a b ++ more) = (a, b, false, more) := by
    unfold restI
    rw [hop]
    unfold layB
    rw [List.cons_append, take1]
    simp only
    unfold argI
    by_cases h1 : op = 1
    · simp only [if_pos h1, List.cons_append, List.nil_append, take4, beN, List.foldl]
      refine Prod.ext ?_ (Prod.ext ?_ rfl)
      · simp only [sgn]
        split <;> omega
      · simp only; omega
    · by_cases h2 : op = 23 ∨ op = 24
      · simp only [if_neg h1, if_pos h2, List.cons_append, List.nil_append, take2, beN, List.foldl]
        refine Prod.ext ?_ (Prod.ext ?_ rfl)
        · simp only; omega
        · simp only; omega
      · simp only [if_neg h1, if_neg h2]
        unfold tailI tailB
        rcases ops3 op with ho | ho | ho
        · simp only [ho]
          refine Prod.ext ?_ (Prod.ext ?_ rfl)
          · show (0 : Int) = a
            omega
          · show (0 : Int) = b
            omega
        · simp only [ho, take1, List.cons_append, List.nil_append, beN, List.foldl, if_pos, reduceIte, show ¬ (1 : Int) = 2 by omega]
          refine Prod.ext ?_ (Prod.ext ?_ rfl)
          · simp only; omega
          · simp only; omega
        · simp only [ho, take1, List.cons_append, List.nil_append, beN, List.foldl, reduceIte]
          refine Prod.ext ?_ (Prod.ext ?_ rfl)
          · simp only; omega
          · simp only; omega
  refine ⟨hop, hrest, ?_⟩
  unfold errI
  rw [hop, hrest, if_neg (by simp), if_pos ⟨R.1, R.2.1⟩, if_pos hr]
end Go.Proofs.YtmbdfmgidnjgeaaGreatDoor

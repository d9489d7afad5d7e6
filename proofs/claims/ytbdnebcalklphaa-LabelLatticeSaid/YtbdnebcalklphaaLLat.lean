/- The walk of LabelLattice. -/
import Derived.Test.YtbdnebcalklphaaLa
namespace Go.Proofs.Ytbdnebcalklphaa
open Go.RowKit Go.Lib
set_option linter.unusedVariables false

def latP (x y z : Int) : Prop := (joinV x y != joinV y x) = false ∧ (joinB x y != joinB y x) = false ∧ fitB x x = true ∧
  (fitB x y = true → fitB y z = true → fitB x z = true) ∧ (fitB x y = true → fitB y x = true → (x != y) = false) ∧
  (joinB x y = true → fitB x (joinV x y) = true) ∧ (joinB x y = true → fitB y (joinV x y) = true) ∧
  (joinB x y = true → fitB x z = true → fitB y z = true → fitB (joinV x y) z = true) ∧
  (joinB x y = false → fitB x z = true → fitB y z = true → False)
instance (x y z : Int) : Decidable (latP x y z) := by unfold latP; infer_instance
theorem lat_one {x y z : Int} (hx : x = 1 ∨ x = 2 ∨ x = 3 ∨ x = 4) (hy : y = 1 ∨ y = 2 ∨ y = 3 ∨ y = 4) (hz : z = 1 ∨ z = 2 ∨ z = 3 ∨ z = 4) : latP x y z := by
  rcases hx with rfl | rfl | rfl | rfl <;> rcases hy with rfl | rfl | rfl | rfl <;> rcases hz with rfl | rfl | rfl | rfl <;> decide
set_option maxRecDepth 100000 in
set_option maxHeartbeats 20000000 in
theorem lattice_walk (a b c : Int) (w : World) : Calls Try.prog 5 #[.int .i64 a, .int .i64 b, .int .i64 c] w fun e w' => e = .returned (.bool true) ∧ w = w' := by
  have hl := lat_one (x := 1 + a % 4) (y := 1 + b % 4) (z := 1 + c % 4) (by omega) (by omega) (by omega)
  have H := Lib.hid hl
  have e1 := hl.1
  have e2 := hl.2.1
  have e3 := hl.2.2.1
  clear hl
  cases f1 : fitB (1 + a % 4) (1 + b % 4) <;> cases f2 : fitB (1 + b % 4) (1 + c % 4) <;> cases f3 : fitB (1 + a % 4) (1 + c % 4) <;> cases f4 : fitB (1 + b % 4) (1 + a % 4) <;> cases f5 : joinB (1 + a % 4) (1 + b % 4)
  all_goals
    first
    | (exfalso; have h := H.out.2.2.2.1 f1 f2; rw [f3] at h; cases h; done)
    | (exfalso; exact H.out.2.2.2.2.2.2.2.2 f5 f3 f2)
    | (exfalso; have h : joinB (1 + a % 4) (1 + b % 4) = (fitB (1 + a % 4) (1 + b % 4) || fitB (1 + b % 4) (1 + a % 4)) := rfl; rw [f1, f4, f5] at h; cases h; done)
    | skip
  all_goals
    have f6 := (show joinB (1 + b % 4) (1 + a % 4) = joinB (1 + a % 4) (1 + b % 4) from Bool.or_comm _ _).trans f5
    try have g1 := H.out.2.2.2.2.1 f1 f4
    try have g2 := H.out.2.2.2.2.2.1 f5
    try have g3 := H.out.2.2.2.2.2.2.1 f5
    try have g4 := H.out.2.2.2.2.2.2.2.1 f5 f3 f2
    go_enter Try.func5, Try.ntmps5
    go_wp2_with (first
      | (with_reducible refine (hPick _ 4 _ (by omega) (by omega)).mono ?_; rintro e _ ⟨rfl, rfl⟩)
      | (with_reducible refine (lJoin _ _ _).mono ?_; rintro e _ ⟨rfl, rfl⟩)
      | (with_reducible refine (lFits _ _ _).mono ?_; rintro e _ ⟨rfl, rfl⟩)
      | (with_reducible refine (known6 _).mono ?_; rintro e _ ⟨rfl, rfl⟩))
    go_ret
    exact ⟨rfl, rfl⟩
end Go.Proofs.Ytbdnebcalklphaa

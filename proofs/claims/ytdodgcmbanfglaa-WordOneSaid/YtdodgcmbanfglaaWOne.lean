/- WordOne: what one number makes, and which of two is picked: the walk. -/
import Derived.Test.YtdodgcmbanfglaaTwo
namespace Go.Proofs.Ytdodgcmbanfglaa
open Go.RowKit
set_option linter.unusedVariables false

theorem rNeg (x : BitVec 32) (w : World) : Calls Try.prog 30 #[.int .i64 15, .int .i32 (si x)] w fun e w' => e = .returned (.int .i32 (si (bNeg x))) ∧ w = w' := by
  go_enter Try.func30, Try.ntmps30
  go_wp2
  go_ret
  exact ⟨ret_i32 (si_neg x), rfl⟩
theorem rNot (x : BitVec 32) (w : World) : Calls Try.prog 30 #[.int .i64 16, .int .i32 (si x)] w fun e w' => e = .returned (.int .i32 (si (bNot x))) ∧ w = w' := by
  go_enter Try.func30, Try.ntmps30
  go_wp2
  go_ret
  exact ⟨ret_i32 (si_not x), rfl⟩
set_option maxHeartbeats 2000000 in
theorem wordOne_walk (a b c : BitVec 32) (n : Int) (w : World) : Calls Try.prog 5 #[.int .i32 (si a), .int .i32 (si b), .int .i32 (si c), .int .i64 n] w fun e w' => e = .returned (.bool true) ∧ w = w' := by
  go_enter Try.func5, Try.ntmps5
  go_wp2_with fail
  refine (two_any _ _ _).mono ?_
  rintro e w1 ⟨x, rfl, rfl⟩
  go_wp2_with (first
    | (go_at_call 12; ((with_reducible first | refine (known _).mono ?_); rintro e w' ⟨rfl, rfl⟩))
    | (go_at_call 17; ((with_reducible first | refine (wNeg _ _).mono ?_); rintro e w' ⟨rfl, rfl⟩))
    | (go_at_call 16; ((with_reducible first | refine (wNot _ _).mono ?_); rintro e w' ⟨rfl, rfl⟩))
    | (go_at_call 31; ((with_reducible first | refine (wPick _ _ _ _).mono ?_); rintro e w' ⟨rfl, rfl⟩))
    | (go_at_call 30; ((with_reducible first | refine (rNeg _ _).mono ?_ | refine (rNot _ _).mono ?_); rintro e w' ⟨rfl, rfl⟩))
    | (go_at_call 32; ((with_reducible first | refine (rPick _ _ _ _).mono ?_); rintro e w' ⟨rfl, rfl⟩)))
  go_ret
  exact ⟨rfl, rfl⟩
end Go.Proofs.Ytdodgcmbanfglaa

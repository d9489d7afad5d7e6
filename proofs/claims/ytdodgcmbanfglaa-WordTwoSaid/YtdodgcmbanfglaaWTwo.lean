/- WordTwo: what two numbers make is as the document says: the walk. -/
import Derived.Test.YtdodgcmbanfglaaTwo
namespace Go.Proofs.Ytdodgcmbanfglaa
open Go.RowKit
set_option linter.unusedVariables false

set_option maxHeartbeats 8000000 in
set_option maxRecDepth 100000 in
theorem wordTwo_walk (a b : BitVec 32) (m n : Int) (w : World) : Calls Try.prog 4 #[.int .i32 (si a), .int .i32 (si b), .int .i64 m, .int .i64 n] w fun e w' => e = .returned (.bool true) ∧ w = w' := by
  go_enter Try.func4, Try.ntmps4
  go_wp2_with fail
  refine (two_any _ _ _).mono ?_
  rintro e w1 ⟨x, rfl, rfl⟩
  go_wp2_with fail
  refine (two_any _ _ _).mono ?_
  rintro e w1 ⟨y, rfl, rfl⟩
  by_cases hy : si y = 0
  · have y0 : (si y == 0) = true := by simpa using hy
    have y1 : (si y != 0) = false := by simpa using hy
    have y2 := bZero_false hy
    clear hy
    go_wp2_with (first
    | (go_at_call 12; ((with_reducible first | refine (known _).mono ?_); rintro e w' ⟨rfl, rfl⟩))
    | (go_at_call 20; ((with_reducible first | refine (wAdd _ _ _).mono ?_); rintro e w' ⟨rfl, rfl⟩))
    | (go_at_call 22; ((with_reducible first | refine (wSub _ _ _).mono ?_); rintro e w' ⟨rfl, rfl⟩))
    | (go_at_call 23; ((with_reducible first | refine (wMul _ _ _).mono ?_); rintro e w' ⟨rfl, rfl⟩))
    | (go_at_call 24; ((with_reducible first | refine (wAnd _ _ _).mono ?_); rintro e w' ⟨rfl, rfl⟩))
    | (go_at_call 25; ((with_reducible first | refine (wOr _ _ _).mono ?_); rintro e w' ⟨rfl, rfl⟩))
    | (go_at_call 26; ((with_reducible first | refine (wXor _ _ _).mono ?_); rintro e w' ⟨rfl, rfl⟩))
    | (go_at_call 27; ((with_reducible first | refine (wShl _ _ _).mono ?_); rintro e w' ⟨rfl, rfl⟩))
    | (go_at_call 13; ((with_reducible first | refine (wShr _ _ _).mono ?_); rintro e w' ⟨rfl, rfl⟩))
    | (go_at_call 28; ((with_reducible first | refine (wSar _ _ _).mono ?_); rintro e w' ⟨rfl, rfl⟩))
    | (go_at_call 15; ((with_reducible first | refine (wEq _ _ _).mono ?_); rintro e w' ⟨rfl, rfl⟩))
    | (go_at_call 14; ((with_reducible first | refine (wLt _ _ _).mono ?_); rintro e w' ⟨rfl, rfl⟩))
    | (go_at_call 29; ((with_reducible first | refine (wBelow _ _ _).mono ?_); rintro e w' ⟨rfl, rfl⟩))
    | (go_at_call 10; ((with_reducible first | refine (wDiv _ _ _).mono ?_); rintro e w' ⟨rfl, rfl⟩))
    | (go_at_call 11; ((with_reducible first | refine (wRem _ _ _).mono ?_); rintro e w' ⟨rfl, rfl⟩))
    | (go_at_call 21; ((with_reducible first | refine (rDoAdd _ _ _).mono ?_ | refine (rDoSub _ _ _).mono ?_ | refine (rDoMul _ _ _).mono ?_ | refine (rDoAnd _ _ _).mono ?_ | refine (rDoOr _ _ _).mono ?_ | refine (rDoXor _ _ _).mono ?_ | refine (rDoShl _ _ _).mono ?_ | refine (rDoShr _ _ _).mono ?_ | refine (rDoSar _ _ _).mono ?_ | refine (rDoEq _ _ _).mono ?_ | refine (rDoLt _ _ _).mono ?_ | refine (rDoBelow _ _ _).mono ?_ | refine (rDoDiv _ _ _).mono ?_ | refine (rDoRem _ _ _).mono ?_); rintro e w' ⟨rfl, rfl⟩)))
    go_ret
    exact ⟨rfl, rfl⟩
  · have y0 : (si y == 0) = false := by simpa using hy
    have y1 : (si y != 0) = true := by simpa using hy
    have y2 := bZero_true hy
    clear hy
    go_wp2_with (first
    | (go_at_call 12; ((with_reducible first | refine (known _).mono ?_); rintro e w' ⟨rfl, rfl⟩))
    | (go_at_call 20; ((with_reducible first | refine (wAdd _ _ _).mono ?_); rintro e w' ⟨rfl, rfl⟩))
    | (go_at_call 22; ((with_reducible first | refine (wSub _ _ _).mono ?_); rintro e w' ⟨rfl, rfl⟩))
    | (go_at_call 23; ((with_reducible first | refine (wMul _ _ _).mono ?_); rintro e w' ⟨rfl, rfl⟩))
    | (go_at_call 24; ((with_reducible first | refine (wAnd _ _ _).mono ?_); rintro e w' ⟨rfl, rfl⟩))
    | (go_at_call 25; ((with_reducible first | refine (wOr _ _ _).mono ?_); rintro e w' ⟨rfl, rfl⟩))
    | (go_at_call 26; ((with_reducible first | refine (wXor _ _ _).mono ?_); rintro e w' ⟨rfl, rfl⟩))
    | (go_at_call 27; ((with_reducible first | refine (wShl _ _ _).mono ?_); rintro e w' ⟨rfl, rfl⟩))
    | (go_at_call 13; ((with_reducible first | refine (wShr _ _ _).mono ?_); rintro e w' ⟨rfl, rfl⟩))
    | (go_at_call 28; ((with_reducible first | refine (wSar _ _ _).mono ?_); rintro e w' ⟨rfl, rfl⟩))
    | (go_at_call 15; ((with_reducible first | refine (wEq _ _ _).mono ?_); rintro e w' ⟨rfl, rfl⟩))
    | (go_at_call 14; ((with_reducible first | refine (wLt _ _ _).mono ?_); rintro e w' ⟨rfl, rfl⟩))
    | (go_at_call 29; ((with_reducible first | refine (wBelow _ _ _).mono ?_); rintro e w' ⟨rfl, rfl⟩))
    | (go_at_call 10; ((with_reducible first | refine (wDiv _ _ _).mono ?_); rintro e w' ⟨rfl, rfl⟩))
    | (go_at_call 11; ((with_reducible first | refine (wRem _ _ _).mono ?_); rintro e w' ⟨rfl, rfl⟩))
    | (go_at_call 21; ((with_reducible first | refine (rDoAdd _ _ _).mono ?_ | refine (rDoSub _ _ _).mono ?_ | refine (rDoMul _ _ _).mono ?_ | refine (rDoAnd _ _ _).mono ?_ | refine (rDoOr _ _ _).mono ?_ | refine (rDoXor _ _ _).mono ?_ | refine (rDoShl _ _ _).mono ?_ | refine (rDoShr _ _ _).mono ?_ | refine (rDoSar _ _ _).mono ?_ | refine (rDoEq _ _ _).mono ?_ | refine (rDoLt _ _ _).mono ?_ | refine (rDoBelow _ _ _).mono ?_ | refine (rDoDiv _ _ _).mono ?_ | refine (rDoRem _ _ _).mono ?_); rintro e w' ⟨rfl, rfl⟩)))
    go_ret
    exact ⟨rfl, rfl⟩
end Go.Proofs.Ytdodgcmbanfglaa

/- Package word: what each call answers, said of BitVec 32; the world stays. -/
import Derived.WalkKit
import Derived.WalkSpells
import Derived.Laws.ShiftsVar
import Derived.Deep.QuietTactic
import Derived.BigQuiet
import Derived.Test.YtdodgcmbanfglaaChecked
import Derived.Test.YtdodgcmbanfglaaBV
namespace Go.Proofs.Ytdodgcmbanfglaa
open Go.RowKit
set_option linter.unusedVariables false

theorem ret_i32 {a b : Int} (h : a = b) : Ending.returned (.int .i32 a) = Ending.returned (.int .i32 b) := by rw [h]

theorem w0Add (x y : BitVec 32) (w : World) : Calls Try.prog 20 #[.int .i32 x.toInt, .int .i32 y.toInt] w fun e w' => e = .returned (.int .i32 (x + y).toInt) ∧ w = w' := by
  go_enter Try.func20, Try.ntmps20
  go_wp2
  go_ret
  exact ⟨ret_i32 (bv_add x y), rfl⟩
theorem w0Sub (x y : BitVec 32) (w : World) : Calls Try.prog 22 #[.int .i32 x.toInt, .int .i32 y.toInt] w fun e w' => e = .returned (.int .i32 (x - y).toInt) ∧ w = w' := by
  go_enter Try.func22, Try.ntmps22
  go_wp2
  go_ret
  exact ⟨ret_i32 (bv_sub x y), rfl⟩
theorem w0Mul (x y : BitVec 32) (w : World) : Calls Try.prog 23 #[.int .i32 x.toInt, .int .i32 y.toInt] w fun e w' => e = .returned (.int .i32 (x * y).toInt) ∧ w = w' := by
  go_enter Try.func23, Try.ntmps23
  go_wp2
  go_ret
  exact ⟨ret_i32 (bv_mul x y), rfl⟩
theorem w0And (x y : BitVec 32) (w : World) : Calls Try.prog 24 #[.int .i32 x.toInt, .int .i32 y.toInt] w fun e w' => e = .returned (.int .i32 (x &&& y).toInt) ∧ w = w' := by
  go_enter Try.func24, Try.ntmps24
  go_wp2
  go_ret
  exact ⟨ret_i32 (bv_and x y), rfl⟩
theorem w0Or (x y : BitVec 32) (w : World) : Calls Try.prog 25 #[.int .i32 x.toInt, .int .i32 y.toInt] w fun e w' => e = .returned (.int .i32 (x ||| y).toInt) ∧ w = w' := by
  go_enter Try.func25, Try.ntmps25
  go_wp2
  go_ret
  exact ⟨ret_i32 (bv_or x y), rfl⟩
theorem w0Xor (x y : BitVec 32) (w : World) : Calls Try.prog 26 #[.int .i32 x.toInt, .int .i32 y.toInt] w fun e w' => e = .returned (.int .i32 (x ^^^ y).toInt) ∧ w = w' := by
  go_enter Try.func26, Try.ntmps26
  go_wp2
  go_ret
  exact ⟨ret_i32 (bv_xor x y), rfl⟩
theorem w0Neg (x : BitVec 32) (w : World) : Calls Try.prog 17 #[.int .i32 x.toInt] w fun e w' => e = .returned (.int .i32 (-x).toInt) ∧ w = w' := by
  go_enter Try.func17, Try.ntmps17
  go_wp2
  go_ret
  exact ⟨ret_i32 (bv_neg x), rfl⟩
theorem w0Not (x : BitVec 32) (w : World) : Calls Try.prog 16 #[.int .i32 x.toInt] w fun e w' => e = .returned (.int .i32 (bNot x).toInt) ∧ w = w' := by
  go_enter Try.func16, Try.ntmps16
  go_wp2
  go_ret
  exact ⟨ret_i32 (bv_not x), rfl⟩
theorem wDistance (y : BitVec 32) (w : World) : Calls Try.prog 35 #[.int .i32 y.toInt] w fun e w' => e = .returned (.int .u32 (far y : Int)) ∧ w = w' := by
  go_enter Try.func35, Try.ntmps35
  go_wp2
  go_ret
  exact ⟨congrArg (fun n => Ending.returned (.int .u32 n)) (by rw [u32_bv, bv_far]), rfl⟩
theorem w0Shl (x y : BitVec 32) (w : World) : Calls Try.prog 27 #[.int .i32 x.toInt, .int .i32 y.toInt] w fun e w' => e = .returned (.int .i32 (x <<< far y).toInt) ∧ w = w' := by
  have h := far_lt y
  go_enter Try.func27, Try.ntmps27
  go_wp2_with (go_at_call 35; refine (wDistance _ _).mono ?_; rintro e w' ⟨rfl, rfl⟩)
  go_ret
  exact ⟨ret_i32 (bv_shl x _), rfl⟩
theorem w0Shr (x y : BitVec 32) (w : World) : Calls Try.prog 13 #[.int .i32 x.toInt, .int .i32 y.toInt] w fun e w' => e = .returned (.int .i32 (x >>> far y).toInt) ∧ w = w' := by
  have h := far_lt y
  go_enter Try.func13, Try.ntmps13
  go_wp2_with (go_at_call 35; refine (wDistance _ _).mono ?_; rintro e w' ⟨rfl, rfl⟩)
  go_ret
  exact ⟨ret_i32 (by rw [u32_bv]; exact bv_shr x _), rfl⟩
theorem w0Sar (x y : BitVec 32) (w : World) : Calls Try.prog 28 #[.int .i32 x.toInt, .int .i32 y.toInt] w fun e w' => e = .returned (.int .i32 (x.sshiftRight (far y)).toInt) ∧ w = w' := by
  have h := far_lt y
  go_enter Try.func28, Try.ntmps28
  go_wp2_with (go_at_call 35; refine (wDistance _ _).mono ?_; rintro e w' ⟨rfl, rfl⟩)
  go_ret
  exact ⟨ret_i32 (bv_sar x _), rfl⟩
theorem w0Eq (x y : BitVec 32) (w : World) : Calls Try.prog 15 #[.int .i32 x.toInt, .int .i32 y.toInt] w fun e w' => e = .returned (.int .i32 (bit (x == y)).toInt) ∧ w = w' := by
  go_enter Try.func15, Try.ntmps15
  go_wp2
  go_ret
  exact ⟨ret_i32 (by rw [bv_xor, u32_bv, bv_eq]), rfl⟩
theorem w0Lt (x y : BitVec 32) (w : World) : Calls Try.prog 14 #[.int .i32 x.toInt, .int .i32 y.toInt] w fun e w' => e = .returned (.int .i32 (bit (x.slt y)).toInt) ∧ w = w' := by
  have hx := bv_range x
  have hy := bv_range y
  go_enter Try.func14, Try.ntmps14
  go_wp2
  go_ret
  exact ⟨ret_i32 (bv_lt x y), rfl⟩
theorem w0Below (x y : BitVec 32) (w : World) : Calls Try.prog 29 #[.int .i32 x.toInt, .int .i32 y.toInt] w fun e w' => e = .returned (.int .i32 (bit (x.ult y)).toInt) ∧ w = w' := by
  have hx := bv_range x
  have hy := bv_range y
  go_enter Try.func29, Try.ntmps29
  go_wp2
  go_ret
  exact ⟨ret_i32 (bv_below x y), rfl⟩
theorem w0Pick (c x y : BitVec 32) (w : World) : Calls Try.prog 31 #[.int .i32 c.toInt, .int .i32 x.toInt, .int .i32 y.toInt] w fun e w' => e = .returned (.int .i32 (bPick c x y).toInt) ∧ w = w' := by
  go_enter Try.func31, Try.ntmps31
  go_wp2_with (go_at_call 15; refine (w0Eq _ 0 _).mono ?_; rintro e w' ⟨rfl, rfl⟩)
  go_ret
  exact ⟨ret_i32 (bv_pick c x y), rfl⟩
theorem w0Div (x y : BitVec 32) (w : World) : Calls Try.prog 10 #[.int .i32 x.toInt, .int .i32 y.toInt] w fun e w' => e = .returned (.tuple #[.int .i32 (x.sdiv y).toInt, .bool (y != 0)]) ∧ w = w' := by
  by_cases hy : y = 0
  · subst hy
    go_enter Try.func10, Try.ntmps10
    go_wp2
    go_ret2
    exact ⟨by simp, rfl⟩
  · have h0 : y.toInt ≠ 0 := fun h => hy (BitVec.toInt_inj.1 (by simpa using h))
    have h1 : (y.toInt == 0) = false := by simpa using h0
    go_enter Try.func10, Try.ntmps10
    go_wp2
    go_ret2
    exact ⟨by rw [show (y != 0) = true from by simpa using hy]; exact congrArg (fun n => Ending.returned (.tuple #[.int .i32 n, .bool true])) (bv_div x y), rfl⟩
theorem w0Rem (x y : BitVec 32) (w : World) : Calls Try.prog 11 #[.int .i32 x.toInt, .int .i32 y.toInt] w fun e w' => e = .returned (.tuple #[.int .i32 (bRem x y).toInt, .bool (y != 0)]) ∧ w = w' := by
  by_cases hy : y = 0
  · subst hy
    go_enter Try.func11, Try.ntmps11
    go_wp2
    go_ret2
    exact ⟨by simp [bRem], rfl⟩
  · have h0 : y.toInt ≠ 0 := fun h => hy (BitVec.toInt_inj.1 (by simpa using h))
    have h1 : (y.toInt == 0) = false := by simpa using h0
    go_enter Try.func11, Try.ntmps11
    go_wp2
    go_ret2
    exact ⟨by rw [show (y != 0) = true from by simpa using hy]; exact congrArg (fun n => Ending.returned (.tuple #[.int .i32 n, .bool true])) (by unfold bRem; rw [if_neg hy]; exact bv_rem x y), rfl⟩
theorem wAdd (x y : BitVec 32) (w : World) : Calls Try.prog 20 #[.int .i32 (si x), .int .i32 (si y)] w fun e w' => e = .returned (.int .i32 (si (bAdd x y))) ∧ w = w' := w0Add x y w
theorem wSub (x y : BitVec 32) (w : World) : Calls Try.prog 22 #[.int .i32 (si x), .int .i32 (si y)] w fun e w' => e = .returned (.int .i32 (si (bSub x y))) ∧ w = w' := w0Sub x y w
theorem wMul (x y : BitVec 32) (w : World) : Calls Try.prog 23 #[.int .i32 (si x), .int .i32 (si y)] w fun e w' => e = .returned (.int .i32 (si (bMul x y))) ∧ w = w' := w0Mul x y w
theorem wAnd (x y : BitVec 32) (w : World) : Calls Try.prog 24 #[.int .i32 (si x), .int .i32 (si y)] w fun e w' => e = .returned (.int .i32 (si (bAnd x y))) ∧ w = w' := w0And x y w
theorem wOr (x y : BitVec 32) (w : World) : Calls Try.prog 25 #[.int .i32 (si x), .int .i32 (si y)] w fun e w' => e = .returned (.int .i32 (si (bOr x y))) ∧ w = w' := w0Or x y w
theorem wXor (x y : BitVec 32) (w : World) : Calls Try.prog 26 #[.int .i32 (si x), .int .i32 (si y)] w fun e w' => e = .returned (.int .i32 (si (bXor x y))) ∧ w = w' := w0Xor x y w
theorem wNeg (x : BitVec 32) (w : World) : Calls Try.prog 17 #[.int .i32 (si x)] w fun e w' => e = .returned (.int .i32 (si (bNeg x))) ∧ w = w' := w0Neg x w
theorem wNot (x : BitVec 32) (w : World) : Calls Try.prog 16 #[.int .i32 (si x)] w fun e w' => e = .returned (.int .i32 (si (bNot x))) ∧ w = w' := w0Not x w
theorem wShl (x y : BitVec 32) (w : World) : Calls Try.prog 27 #[.int .i32 (si x), .int .i32 (si y)] w fun e w' => e = .returned (.int .i32 (si (bShl x y))) ∧ w = w' := w0Shl x y w
theorem wShr (x y : BitVec 32) (w : World) : Calls Try.prog 13 #[.int .i32 (si x), .int .i32 (si y)] w fun e w' => e = .returned (.int .i32 (si (bShr x y))) ∧ w = w' := w0Shr x y w
theorem wSar (x y : BitVec 32) (w : World) : Calls Try.prog 28 #[.int .i32 (si x), .int .i32 (si y)] w fun e w' => e = .returned (.int .i32 (si (bSar x y))) ∧ w = w' := w0Sar x y w
theorem wEq (x y : BitVec 32) (w : World) : Calls Try.prog 15 #[.int .i32 (si x), .int .i32 (si y)] w fun e w' => e = .returned (.int .i32 (si (bEq x y))) ∧ w = w' := w0Eq x y w
theorem wLt (x y : BitVec 32) (w : World) : Calls Try.prog 14 #[.int .i32 (si x), .int .i32 (si y)] w fun e w' => e = .returned (.int .i32 (si (bLt x y))) ∧ w = w' := w0Lt x y w
theorem wBelow (x y : BitVec 32) (w : World) : Calls Try.prog 29 #[.int .i32 (si x), .int .i32 (si y)] w fun e w' => e = .returned (.int .i32 (si (bBelow x y))) ∧ w = w' := w0Below x y w
theorem wPick (c x y : BitVec 32) (w : World) : Calls Try.prog 31 #[.int .i32 (si c), .int .i32 (si x), .int .i32 (si y)] w fun e w' => e = .returned (.int .i32 (si (bPick c x y))) ∧ w = w' := w0Pick c x y w
theorem wDiv (x y : BitVec 32) (w : World) : Calls Try.prog 10 #[.int .i32 (si x), .int .i32 (si y)] w fun e w' => e = .returned (.tuple #[.int .i32 (si (bDiv x y)), .bool (bZero y)]) ∧ w = w' := w0Div x y w
theorem wRem (x y : BitVec 32) (w : World) : Calls Try.prog 11 #[.int .i32 (si x), .int .i32 (si y)] w fun e w' => e = .returned (.tuple #[.int .i32 (si (bRem x y)), .bool (bZero y)]) ∧ w = w' := w0Rem x y w
end Go.Proofs.Ytdodgcmbanfglaa

/- WordShifts: shifts by the five lowest bits alone, there and back, by one: the walk. -/
import Derived.Test.YtdodgcmbanfglaaTwo
namespace Go.Proofs.Ytdodgcmbanfglaa
open Go.RowKit
set_option linter.unusedVariables false

def bM : BitVec 32 := -1#32
def bK (b : BitVec 32) : BitVec 32 := BitVec.ofNat 32 (far b)
def bH (b : BitVec 32) : BitVec 32 := BitVec.ofNat 32 (far b / 2)
def bR (b : BitVec 32) : BitVec 32 := BitVec.ofNat 32 (far b - far b / 2)
theorem far_small (n : Nat) (h : n < 32) : far (BitVec.ofNat 32 n) = n := by unfold far; rw [BitVec.toNat_ofNat]; omega
theorem si_small (n : Nat) (h : n < 32) : si (BitVec.ofNat 32 n) = (n : Int) := by
  unfold si; rw [BitVec.toInt_eq_toNat_cond, BitVec.toNat_ofNat]; simp; omega
theorem far_k (b : BitVec 32) : far (bK b) = far b := far_small _ (far_lt b)
theorem si_k (b : BitVec 32) : si (bK b) = (far b : Int) := si_small _ (far_lt b)
theorem si_h (b : BitVec 32) : si (bK b) / 2 = si (bH b) := by
  have := far_lt b
  rw [si_k]; unfold bH; rw [si_small _ (by omega)]; omega
theorem si_r (b : BitVec 32) : si (bK b) - si (bH b) = si (bR b) := by
  have := far_lt b
  rw [si_k]; unfold bH bR; rw [si_small _ (by omega), si_small _ (by omega)]; omega
theorem si_mod32 (b : BitVec 32) : si b % 32 = si (bK b) := by
  rw [si_k]; unfold si far
  have := b.isLt
  rw [BitVec.toInt_eq_toNat_cond]; simp at *; split <;> omega
theorem pick32 (b : BitVec 32) (w : World) : Calls Try.prog 34 #[.int .i64 (si b), .int .i64 32] w fun e w' => e = .returned (.int .i64 (si (bK b))) ∧ w = w' := by
  rw [← si_mod32]; exact hPick _ _ _ (by omega) (by omega)
theorem wShl0 (a : BitVec 32) (w : World) : Calls Try.prog 27 #[.int .i32 (si a), .int .i32 0] w fun e w' => e = .returned (.int .i32 (si (bShl a 0#32))) ∧ w = w' := w0Shl a 0#32 w
theorem wShl1 (a : BitVec 32) (w : World) : Calls Try.prog 27 #[.int .i32 (si a), .int .i32 1] w fun e w' => e = .returned (.int .i32 (si (bShl a 1#32))) ∧ w = w' := w0Shl a 1#32 w
theorem wShrM (k : BitVec 32) (w : World) : Calls Try.prog 13 #[.int .i32 (-1), .int .i32 (si k)] w fun e w' => e = .returned (.int .i32 (si (bShr bM k))) ∧ w = w' := w0Shr (-1#32) k w
theorem wSar31 (a : BitVec 32) (w : World) : Calls Try.prog 28 #[.int .i32 (si a), .int .i32 31] w fun e w' => e = .returned (.int .i32 (si (bSar a 31#32))) ∧ w = w' := w0Sar a 31#32 w
theorem wLt0 (a : BitVec 32) (w : World) : Calls Try.prog 14 #[.int .i32 (si a), .int .i32 0] w fun e w' => e = .returned (.int .i32 (si (bLt a 0#32))) ∧ w = w' := w0Lt a 0#32 w
theorem bv_one (a : BitVec 32) : a <<< 1 = a + a := by
  apply BitVec.eq_of_toNat_eq; rw [BitVec.toNat_shiftLeft, BitVec.toNat_add, Nat.shiftLeft_eq]; omega
theorem bv_back (a : BitVec 32) (n : Nat) : (a <<< n) >>> n = a &&& ((-1#32) >>> n) := by
  rw [show (-1#32 : BitVec 32) = BitVec.allOnes 32 from rfl]
  ext i hi
  simp only [BitVec.getElem_ushiftRight, BitVec.getLsbD_shiftLeft, BitVec.getElem_and, BitVec.getLsbD_allOnes]
  have h1 : decide (n + i < n) = false := by simp
  have h2 : n + i - n = i := by omega
  rw [h1, h2, ← BitVec.getLsbD_eq_getElem]
  cases decide (n + i < 32) <;> cases a.getLsbD i <;> rfl
theorem bv_sign (a : BitVec 32) : (a.sshiftRight 31).slt 0#32 = a.slt 0#32 := by
  rw [BitVec.slt_zero_eq_msb, BitVec.slt_zero_eq_msb, BitVec.msb_sshiftRight]
set_option maxHeartbeats 4000000 in
set_option maxRecDepth 100000 in
theorem wordShifts_walk (a b : BitVec 32) (w : World) : Calls Try.prog 8 #[.int .i32 (si a), .int .i32 (si b)] w fun e w' => e = .returned (.bool true) ∧ w = w' := by
  have hl := far_lt b
  have b1 := si_range b
  have b2 : 0 ≤ si (bK b) ∧ si (bK b) ≤ 31 := by rw [si_k]; omega
  have b3 : 0 ≤ si (bH b) ∧ si (bH b) ≤ 15 := by rw [← si_h]; omega
  have e1 := si_h b
  have e2 := si_r b
  have f1 : (si (bShl a b) == si (bShl a (bK b))) = true := si_eq _ _ (by unfold bShl; rw [far_k])
  have f2 : (si (bShr a b) == si (bShr a (bK b))) = true := si_eq _ _ (by unfold bShr; rw [far_k])
  have f3 : (si (bSar a b) == si (bSar a (bK b))) = true := si_eq _ _ (by unfold bSar; rw [far_k])
  have f4 : (si (bShl a 0#32) == si a) = true := si_eq _ _ (BitVec.shiftLeft_zero a)
  have f5 : (si (bShl a 1#32) == si (bAdd a a)) = true := si_eq _ _ (bv_one a)
  have f6 : (si (bShr (bShl a (bK b)) (bK b)) == si (bAnd a (bShr bM (bK b)))) = true := si_eq _ _ (bv_back a _)
  have f7 : (si (bLt (bSar a 31#32) 0#32) == si (bLt a 0#32)) = true := si_eq _ _ (congrArg bit (bv_sign a))
  have f8 : (si (bShl (bShl a (bH b)) (bR b)) == si (bShl a (bK b))) = true := si_eq _ _ (by
    unfold bShl bH bR; rw [far_k, far_small _ (by omega), far_small _ (by omega), ← BitVec.shiftLeft_add]; congr 1; omega)
  clear hl
  go_enter Try.func8, Try.ntmps8
  go_wp2_with fail
  refine (pick32 _ _).mono ?_
  rintro e w1 ⟨rfl, rfl⟩
  go_wp2_with (first
    | (go_at_call 12; ((with_reducible first | refine (known _).mono ?_); rintro e w' ⟨rfl, rfl⟩))
    | (go_at_call 27; ((with_reducible first | refine (wShl0 _ _).mono ?_ | refine (wShl1 _ _).mono ?_ | refine (wShl _ _ _).mono ?_); rintro e w' ⟨rfl, rfl⟩))
    | (go_at_call 13; ((with_reducible first | refine (wShrM _ _).mono ?_ | refine (wShr _ _ _).mono ?_); rintro e w' ⟨rfl, rfl⟩))
    | (go_at_call 28; ((with_reducible first | refine (wSar31 _ _).mono ?_ | refine (wSar _ _ _).mono ?_); rintro e w' ⟨rfl, rfl⟩))
    | (go_at_call 14; ((with_reducible first | refine (wLt0 _ _).mono ?_ | refine (wLt _ _ _).mono ?_); rintro e w' ⟨rfl, rfl⟩))
    | (go_at_call 20; ((with_reducible first | refine (wAdd _ _ _).mono ?_); rintro e w' ⟨rfl, rfl⟩))
    | (go_at_call 24; ((with_reducible first | refine (wAnd _ _ _).mono ?_); rintro e w' ⟨rfl, rfl⟩)))
  go_ret
  exact ⟨rfl, rfl⟩
end Go.Proofs.Ytdodgcmbanfglaa

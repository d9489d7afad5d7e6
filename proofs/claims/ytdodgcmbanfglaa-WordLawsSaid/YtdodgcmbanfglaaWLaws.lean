/- WordLaws: sums, products, bits and orders hold together: the walk. -/
import Derived.Test.YtdodgcmbanfglaaTwo
namespace Go.Proofs.Ytdodgcmbanfglaa
open Go.RowKit
set_option linter.unusedVariables false

def bInc (x : BitVec 32) : BitVec 32 := x + 1
theorem wInc (x : BitVec 32) (w : World) : Calls Try.prog 20 #[.int .i32 (si x), .int .i32 1] w fun e w' => e = .returned (.int .i32 (si (bInc x))) ∧ w = w' := w0Add x 1 w
theorem bv_split (a b : BitVec 32) : (a &&& b) ||| (a &&& ~~~b) = a := by
  ext i hi; simp; cases a[i] <;> cases b[i] <;> rfl
theorem bv_divrem (a b : BitVec 32) (hb : bZero b = true) : bAdd (bMul (bDiv a b) b) (bRem a b) = a := by
  have h0 : b ≠ 0 := by unfold bZero at hb; simpa using hb
  unfold bAdd bMul bDiv bRem
  rw [if_neg h0]
  have e1 : a.sdiv b = BitVec.ofInt 32 (a.toInt.tdiv b.toInt) := by
    apply BitVec.toInt_inj.1; rw [BitVec.toInt_sdiv, BitVec.toInt_ofInt]
  have e2 : a.srem b = BitVec.ofInt 32 (a.toInt.tmod b.toInt) := by
    rw [← BitVec.toInt_srem, BitVec.ofInt_toInt]
  have e3 : b = BitVec.ofInt 32 b.toInt := by rw [BitVec.ofInt_toInt]
  rw [e1, e2]
  conv => lhs; lhs; rhs; rw [e3]
  rw [← BitVec.ofInt_mul, ← BitVec.ofInt_add, Int.mul_comm, Int.mul_tdiv_add_tmod, BitVec.ofInt_toInt]
theorem one_of_three (a b : BitVec 32) : si (bLt a b) + si (bLt b a) + si (bEq a b) = 1 := by
  unfold bLt bEq
  rw [← beq_si, ← lt_si, ← lt_si]
  have h1 : si (bit true) = 1 := by decide +kernel
  have h0 : si (bit false) = 0 := by decide +kernel
  rcases Int.lt_trichotomy (si a) (si b) with h | h | h
  · rw [decide_eq_true h, decide_eq_false (show ¬ si b < si a by omega), show (si a == si b) = false from by simp; omega, h1, h0]; rfl
  · rw [decide_eq_false (show ¬ si a < si b by omega), decide_eq_false (show ¬ si b < si a by omega), show (si a == si b) = true from by simp; omega, h1, h0]; rfl
  · rw [decide_eq_false (show ¬ si a < si b by omega), decide_eq_true h, show (si a == si b) = false from by simp; omega, h1, h0]; rfl
theorem one_of_three' (a b : BitVec 32) : si (bBelow a b) + si (bBelow b a) + si (bEq a b) = 1 := by
  unfold bBelow bEq
  rw [BitVec.ult_eq_decide, BitVec.ult_eq_decide]
  have h1 : si (bit true) = 1 := by decide +kernel
  have h0 : si (bit false) = 0 := by decide +kernel
  rcases Nat.lt_trichotomy a.toNat b.toNat with h | h | h
  · rw [decide_eq_true h, decide_eq_false (show ¬ b.toNat < a.toNat by omega), show (a == b) = false from by simp; rintro rfl; omega, h1, h0]; rfl
  · have : a = b := BitVec.eq_of_toNat_eq h
    subst this
    rw [decide_eq_false (show ¬ a.toNat < a.toNat by omega), show (a == a) = true from by simp, h1, h0]; rfl
  · rw [decide_eq_false (show ¬ a.toNat < b.toNat by omega), decide_eq_true h, show (a == b) = false from by simp; rintro rfl; omega, h1, h0]; rfl
set_option maxHeartbeats 4000000 in
set_option maxRecDepth 100000 in
theorem wordLaws_walk (a b c : BitVec 32) (w : World) : Calls Try.prog 6 #[.int .i32 (si a), .int .i32 (si b), .int .i32 (si c)] w fun e w' => e = .returned (.bool true) ∧ w = w' := by
  have f1 : (si (bAdd a b) == si (bAdd b a)) = true := si_eq _ _ (BitVec.add_comm a b)
  have f2 : (si (bSub (bAdd a b) b) == si a) = true := si_eq _ _ (BitVec.add_sub_cancel a b)
  have f3 : (si (bMul a (bAdd b c)) == si (bAdd (bMul a b) (bMul a c))) = true := si_eq _ _ (BitVec.mul_add)
  have f4 : (si (bNeg a) == si (bInc (bNot a))) = true := si_eq _ _ (BitVec.neg_eq_not_add a)
  have f5 : (si (bXor (bXor a b) b) == si a) = true := si_eq _ _ (by unfold bXor; rw [BitVec.xor_assoc, BitVec.xor_self, BitVec.xor_zero])
  have f6 : (si (bOr (bAnd a b) (bAnd a (bNot b))) == si a) = true := si_eq _ _ (bv_split a b)
  have f7 : (si (bLt a b) + si (bLt b a) + si (bEq a b) == 1) = true := by simpa using one_of_three a b
  have f8 : (si (bBelow a b) + si (bBelow b a) + si (bEq a b) == 1) = true := by simpa using one_of_three' a b
  have l1 : 0 ≤ si (bLt a b) ∧ si (bLt a b) ≤ 1 := si_bit (a.slt b)
  have l2 : 0 ≤ si (bLt b a) ∧ si (bLt b a) ≤ 1 := si_bit (b.slt a)
  have l3 : 0 ≤ si (bEq a b) ∧ si (bEq a b) ≤ 1 := si_bit (a == b)
  have l4 : 0 ≤ si (bBelow a b) ∧ si (bBelow a b) ≤ 1 := si_bit (a.ult b)
  have l5 : 0 ≤ si (bBelow b a) ∧ si (bBelow b a) ≤ 1 := si_bit (b.ult a)
  rcases Bool.eq_false_or_eq_true (bZero b) with hz | hz
  · have f9 : (si (bAdd (bMul (bDiv a b) b) (bRem a b)) == si a) = true := si_eq _ _ (bv_divrem a b hz)
    go_enter Try.func6, Try.ntmps6
    go_wp2_with (first
    | (go_at_call 12; ((with_reducible first | refine (known _).mono ?_); rintro e w' ⟨rfl, rfl⟩))
    | (go_at_call 20; ((with_reducible first | refine (wAdd _ _ _).mono ?_ | refine (wInc _ _).mono ?_); rintro e w' ⟨rfl, rfl⟩))
    | (go_at_call 22; ((with_reducible first | refine (wSub _ _ _).mono ?_); rintro e w' ⟨rfl, rfl⟩))
    | (go_at_call 23; ((with_reducible first | refine (wMul _ _ _).mono ?_); rintro e w' ⟨rfl, rfl⟩))
    | (go_at_call 24; ((with_reducible first | refine (wAnd _ _ _).mono ?_); rintro e w' ⟨rfl, rfl⟩))
    | (go_at_call 25; ((with_reducible first | refine (wOr _ _ _).mono ?_); rintro e w' ⟨rfl, rfl⟩))
    | (go_at_call 26; ((with_reducible first | refine (wXor _ _ _).mono ?_); rintro e w' ⟨rfl, rfl⟩))
    | (go_at_call 17; ((with_reducible first | refine (wNeg _ _).mono ?_); rintro e w' ⟨rfl, rfl⟩))
    | (go_at_call 16; ((with_reducible first | refine (wNot _ _).mono ?_); rintro e w' ⟨rfl, rfl⟩))
    | (go_at_call 15; ((with_reducible first | refine (wEq _ _ _).mono ?_); rintro e w' ⟨rfl, rfl⟩))
    | (go_at_call 14; ((with_reducible first | refine (wLt _ _ _).mono ?_); rintro e w' ⟨rfl, rfl⟩))
    | (go_at_call 29; ((with_reducible first | refine (wBelow _ _ _).mono ?_); rintro e w' ⟨rfl, rfl⟩))
    | (go_at_call 10; ((with_reducible first | refine (wDiv _ _ _).mono ?_); rintro e w' ⟨rfl, rfl⟩))
    | (go_at_call 11; ((with_reducible first | refine (wRem _ _ _).mono ?_); rintro e w' ⟨rfl, rfl⟩)))
    go_ret
    exact ⟨rfl, rfl⟩
  · go_enter Try.func6, Try.ntmps6
    go_wp2_with (first
    | (go_at_call 12; ((with_reducible first | refine (known _).mono ?_); rintro e w' ⟨rfl, rfl⟩))
    | (go_at_call 20; ((with_reducible first | refine (wAdd _ _ _).mono ?_ | refine (wInc _ _).mono ?_); rintro e w' ⟨rfl, rfl⟩))
    | (go_at_call 22; ((with_reducible first | refine (wSub _ _ _).mono ?_); rintro e w' ⟨rfl, rfl⟩))
    | (go_at_call 23; ((with_reducible first | refine (wMul _ _ _).mono ?_); rintro e w' ⟨rfl, rfl⟩))
    | (go_at_call 24; ((with_reducible first | refine (wAnd _ _ _).mono ?_); rintro e w' ⟨rfl, rfl⟩))
    | (go_at_call 25; ((with_reducible first | refine (wOr _ _ _).mono ?_); rintro e w' ⟨rfl, rfl⟩))
    | (go_at_call 26; ((with_reducible first | refine (wXor _ _ _).mono ?_); rintro e w' ⟨rfl, rfl⟩))
    | (go_at_call 17; ((with_reducible first | refine (wNeg _ _).mono ?_); rintro e w' ⟨rfl, rfl⟩))
    | (go_at_call 16; ((with_reducible first | refine (wNot _ _).mono ?_); rintro e w' ⟨rfl, rfl⟩))
    | (go_at_call 15; ((with_reducible first | refine (wEq _ _ _).mono ?_); rintro e w' ⟨rfl, rfl⟩))
    | (go_at_call 14; ((with_reducible first | refine (wLt _ _ _).mono ?_); rintro e w' ⟨rfl, rfl⟩))
    | (go_at_call 29; ((with_reducible first | refine (wBelow _ _ _).mono ?_); rintro e w' ⟨rfl, rfl⟩))
    | (go_at_call 10; ((with_reducible first | refine (wDiv _ _ _).mono ?_); rintro e w' ⟨rfl, rfl⟩))
    | (go_at_call 11; ((with_reducible first | refine (wRem _ _ _).mono ?_); rintro e w' ⟨rfl, rfl⟩)))
    go_ret
    exact ⟨rfl, rfl⟩
end Go.Proofs.Ytdodgcmbanfglaa

/- WordPicks: which one is picked is one of the two; masks pick the same: the walk. -/
import Derived.Test.YtdodgcmbanfglaaTwo
namespace Go.Proofs.Ytdodgcmbanfglaa
open Go.RowKit
set_option linter.unusedVariables false

theorem bPick_zero (a b : BitVec 32) : bPick 0#32 a b = b := rfl
theorem bPick_ne {c : BitVec 32} (h : ¬c = 0#32) (a b : BitVec 32) : bPick c a b = a := if_neg h
theorem wEq0 (c : BitVec 32) (w : World) : Calls Try.prog 15 #[.int .i32 (si c), .int .i32 0] w fun e w' => e = .returned (.int .i32 (si (bEq c 0#32))) ∧ w = w' := w0Eq c 0#32 w
theorem wPick0 (a b : BitVec 32) (w : World) : Calls Try.prog 31 #[.int .i32 0, .int .i32 (si a), .int .i32 (si b)] w fun e w' => e = .returned (.int .i32 (si (bPick 0#32 a b))) ∧ w = w' := w0Pick 0#32 a b w
set_option maxHeartbeats 4000000 in
set_option maxRecDepth 100000 in
theorem wordPicks_walk (c a b : BitVec 32) (w : World) : Calls Try.prog 9 #[.int .i32 (si c), .int .i32 (si a), .int .i32 (si b)] w fun e w' => e = .returned (.bool true) ∧ w = w' := by
  have f1 : (si (bPick 0#32 a b) == si b) = true := si_eq _ _ rfl
  have f2 : (si (bPick c a a) == si a) = true := si_eq _ _ (by unfold bPick; split <;> rfl)
  have k0 : bNeg (bEq 0#32 0#32) = BitVec.allOnes 32 := by decide +kernel
  by_cases hc : c = 0#32
  · have f3 : (si (bPick c a b) == si b) = true := si_eq _ _ (if_pos hc)
    have f4 : (si (bPick c a b) == si (bOr (bAnd b (bNeg (bEq c 0#32))) (bAnd a (bNot (bNeg (bEq c 0#32)))))) = true := si_eq _ _ (by
      subst hc; rw [k0, bPick_zero]; unfold bOr bAnd bNot; rw [BitVec.and_allOnes]; simp)
    have f5 : (si (bPick (bEq c 0#32) b a) == si (bPick c a b)) = true := si_eq _ _ (by
      subst hc; rw [bPick_zero, bPick_ne (by decide +kernel)])
    clear k0 hc
    rcases Bool.eq_false_or_eq_true (si (bPick c a b) == si a) with ha | ha
    · go_enter Try.func9, Try.ntmps9
      go_wp2_with (first
      | (go_at_call 12; ((with_reducible first | refine (known _).mono ?_); rintro e w' ⟨rfl, rfl⟩))
      | (go_at_call 31; ((with_reducible first | refine (wPick0 _ _ _).mono ?_ | refine (wPick _ _ _ _).mono ?_); rintro e w' ⟨rfl, rfl⟩))
      | (go_at_call 15; ((with_reducible first | refine (wEq0 _ _).mono ?_ | refine (wEq _ _ _).mono ?_); rintro e w' ⟨rfl, rfl⟩))
      | (go_at_call 17; ((with_reducible first | refine (wNeg _ _).mono ?_); rintro e w' ⟨rfl, rfl⟩))
      | (go_at_call 24; ((with_reducible first | refine (wAnd _ _ _).mono ?_); rintro e w' ⟨rfl, rfl⟩))
      | (go_at_call 25; ((with_reducible first | refine (wOr _ _ _).mono ?_); rintro e w' ⟨rfl, rfl⟩))
      | (go_at_call 16; ((with_reducible first | refine (wNot _ _).mono ?_); rintro e w' ⟨rfl, rfl⟩)))
      go_ret
      exact ⟨rfl, rfl⟩
    · go_enter Try.func9, Try.ntmps9
      go_wp2_with (first
      | (go_at_call 12; ((with_reducible first | refine (known _).mono ?_); rintro e w' ⟨rfl, rfl⟩))
      | (go_at_call 31; ((with_reducible first | refine (wPick0 _ _ _).mono ?_ | refine (wPick _ _ _ _).mono ?_); rintro e w' ⟨rfl, rfl⟩))
      | (go_at_call 15; ((with_reducible first | refine (wEq0 _ _).mono ?_ | refine (wEq _ _ _).mono ?_); rintro e w' ⟨rfl, rfl⟩))
      | (go_at_call 17; ((with_reducible first | refine (wNeg _ _).mono ?_); rintro e w' ⟨rfl, rfl⟩))
      | (go_at_call 24; ((with_reducible first | refine (wAnd _ _ _).mono ?_); rintro e w' ⟨rfl, rfl⟩))
      | (go_at_call 25; ((with_reducible first | refine (wOr _ _ _).mono ?_); rintro e w' ⟨rfl, rfl⟩))
      | (go_at_call 16; ((with_reducible first | refine (wNot _ _).mono ?_); rintro e w' ⟨rfl, rfl⟩)))
      go_ret
      exact ⟨rfl, rfl⟩
  · have ha : (si (bPick c a b) == si a) = true := si_eq _ _ (if_neg hc)
    have hz : bEq c 0#32 = 0#32 := by unfold bEq; rw [show (c == 0#32) = false from by simpa using hc]; rfl
    have f4 : (si (bPick c a b) == si (bOr (bAnd b (bNeg (bEq c 0#32))) (bAnd a (bNot (bNeg (bEq c 0#32)))))) = true := si_eq _ _ (by
      rw [hz, bPick_ne hc, show bNeg 0#32 = 0#32 from by decide +kernel]; unfold bOr bAnd bNot; rw [BitVec.and_zero, BitVec.zero_or, show ~~~(0#32) = BitVec.allOnes 32 from by decide +kernel, BitVec.and_allOnes])
    have f5 : (si (bPick (bEq c 0#32) b a) == si (bPick c a b)) = true := si_eq _ _ (by
      rw [hz, bPick_zero, bPick_ne hc])
    clear k0 hc hz
    go_enter Try.func9, Try.ntmps9
    go_wp2_with (first
    | (go_at_call 12; ((with_reducible first | refine (known _).mono ?_); rintro e w' ⟨rfl, rfl⟩))
    | (go_at_call 31; ((with_reducible first | refine (wPick0 _ _ _).mono ?_ | refine (wPick _ _ _ _).mono ?_); rintro e w' ⟨rfl, rfl⟩))
    | (go_at_call 15; ((with_reducible first | refine (wEq0 _ _).mono ?_ | refine (wEq _ _ _).mono ?_); rintro e w' ⟨rfl, rfl⟩))
    | (go_at_call 17; ((with_reducible first | refine (wNeg _ _).mono ?_); rintro e w' ⟨rfl, rfl⟩))
    | (go_at_call 24; ((with_reducible first | refine (wAnd _ _ _).mono ?_); rintro e w' ⟨rfl, rfl⟩))
    | (go_at_call 25; ((with_reducible first | refine (wOr _ _ _).mono ?_); rintro e w' ⟨rfl, rfl⟩))
    | (go_at_call 16; ((with_reducible first | refine (wNot _ _).mono ?_); rintro e w' ⟨rfl, rfl⟩)))
    go_ret
    exact ⟨rfl, rfl⟩
end Go.Proofs.Ytdodgcmbanfglaa

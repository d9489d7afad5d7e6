/- What 'two' answers is a number of 32 bits; chapter 2's examples hold. -/
import Derived.Test.YtdodgcmbanfglaaHand
namespace Go.Proofs.Ytdodgcmbanfglaa
open Go.RowKit
set_option linter.unusedVariables false

theorem ix9_0 (a0 a1 a2 a3 a4 a5 a6 a7 a8 : Value) (w : World) : (Instr.index 44 (.agg #[a0, a1, a2, a3, a4, a5, a6, a7, a8]) (.int .i64 0)).run Try.prog w = .ok a0 w := by kernel_rfl
theorem ix9_1 (a0 a1 a2 a3 a4 a5 a6 a7 a8 : Value) (w : World) : (Instr.index 44 (.agg #[a0, a1, a2, a3, a4, a5, a6, a7, a8]) (.int .i64 1)).run Try.prog w = .ok a1 w := by kernel_rfl
theorem ix9_2 (a0 a1 a2 a3 a4 a5 a6 a7 a8 : Value) (w : World) : (Instr.index 44 (.agg #[a0, a1, a2, a3, a4, a5, a6, a7, a8]) (.int .i64 2)).run Try.prog w = .ok a2 w := by kernel_rfl
theorem ix9_3 (a0 a1 a2 a3 a4 a5 a6 a7 a8 : Value) (w : World) : (Instr.index 44 (.agg #[a0, a1, a2, a3, a4, a5, a6, a7, a8]) (.int .i64 3)).run Try.prog w = .ok a3 w := by kernel_rfl
theorem ix9_4 (a0 a1 a2 a3 a4 a5 a6 a7 a8 : Value) (w : World) : (Instr.index 44 (.agg #[a0, a1, a2, a3, a4, a5, a6, a7, a8]) (.int .i64 4)).run Try.prog w = .ok a4 w := by kernel_rfl
theorem ix9_5 (a0 a1 a2 a3 a4 a5 a6 a7 a8 : Value) (w : World) : (Instr.index 44 (.agg #[a0, a1, a2, a3, a4, a5, a6, a7, a8]) (.int .i64 5)).run Try.prog w = .ok a5 w := by kernel_rfl
theorem ix9_6 (a0 a1 a2 a3 a4 a5 a6 a7 a8 : Value) (w : World) : (Instr.index 44 (.agg #[a0, a1, a2, a3, a4, a5, a6, a7, a8]) (.int .i64 6)).run Try.prog w = .ok a6 w := by kernel_rfl
theorem ix9_7 (a0 a1 a2 a3 a4 a5 a6 a7 a8 : Value) (w : World) : (Instr.index 44 (.agg #[a0, a1, a2, a3, a4, a5, a6, a7, a8]) (.int .i64 7)).run Try.prog w = .ok a7 w := by kernel_rfl
theorem ix9_8 (a0 a1 a2 a3 a4 a5 a6 a7 a8 : Value) (w : World) : (Instr.index 44 (.agg #[a0, a1, a2, a3, a4, a5, a6, a7, a8]) (.int .i64 8)).run Try.prog w = .ok a8 w := by kernel_rfl
theorem some_i32 {n : Int} (w : World) (h : -2147483648 ≤ n ∧ n ≤ 2147483647) : ∃ y : BitVec 32, Ending.returned (.int .i32 n) = .returned (.int .i32 (si y)) ∧ w = w := by
  obtain ⟨y, hy⟩ := si_any n h
  exact ⟨y, ret_i32 hy, rfl⟩
theorem wrap32_range (n : Int) : -2147483648 ≤ wrap32 n ∧ wrap32 n ≤ 2147483647 := by unfold wrap32; omega
set_option maxHeartbeats 1000000 in
theorem two_any (x : BitVec 32) (n : Int) (w : World) : Calls Try.prog 19 #[.int .i32 (si x), .int .i64 n] w fun e w' => ∃ y : BitVec 32, e = .returned (.int .i32 (si y)) ∧ w = w' := by
  have hk : n % 9 = 0 ∨ n % 9 = 1 ∨ n % 9 = 2 ∨ n % 9 = 3 ∨ n % 9 = 4 ∨ n % 9 = 5 ∨ n % 9 = 6 ∨ n % 9 = 7 ∨ n % 9 = 8 := by omega
  have hp := fun w => hPick n 9 w (by omega) (by omega)
  have hx := si_range x
  rcases hk with hk | hk | hk | hk | hk | hk | hk | hk | hk
  · rw [hk] at hp
    have hix := ix9_0
    clear hk
    go_enter Try.func19, Try.ntmps19
    go_wp2_with (go_at_call 34; refine (hp _).mono ?_; rintro e w' ⟨rfl, rfl⟩)
    go_ret
    exact some_i32 _ hx
  · rw [hk] at hp
    have hix := ix9_1
    clear hk
    go_enter Try.func19, Try.ntmps19
    go_wp2_with (go_at_call 34; refine (hp _).mono ?_; rintro e w' ⟨rfl, rfl⟩)
    go_ret
    exact some_i32 _ hx
  · rw [hk] at hp
    have hix := ix9_2
    clear hk
    go_enter Try.func19, Try.ntmps19
    go_wp2_with (go_at_call 34; refine (hp _).mono ?_; rintro e w' ⟨rfl, rfl⟩)
    go_ret
    exact some_i32 _ (by decide)
  · rw [hk] at hp
    have hix := ix9_3
    clear hk
    go_enter Try.func19, Try.ntmps19
    go_wp2_with (go_at_call 34; refine (hp _).mono ?_; rintro e w' ⟨rfl, rfl⟩)
    go_ret
    exact some_i32 _ (by decide)
  · rw [hk] at hp
    have hix := ix9_4
    clear hk
    go_enter Try.func19, Try.ntmps19
    go_wp2_with (go_at_call 34; refine (hp _).mono ?_; rintro e w' ⟨rfl, rfl⟩)
    go_ret
    exact some_i32 _ (by decide)
  · rw [hk] at hp
    have hix := ix9_5
    clear hk
    go_enter Try.func19, Try.ntmps19
    go_wp2_with (go_at_call 34; refine (hp _).mono ?_; rintro e w' ⟨rfl, rfl⟩)
    go_ret
    exact some_i32 _ (by decide)
  · rw [hk] at hp
    have hix := ix9_6
    clear hk
    go_enter Try.func19, Try.ntmps19
    go_wp2_with (go_at_call 34; refine (hp _).mono ?_; rintro e w' ⟨rfl, rfl⟩)
    go_ret
    exact some_i32 _ (by decide)
  · rw [hk] at hp
    have hix := ix9_7
    clear hk
    go_enter Try.func19, Try.ntmps19
    go_wp2_with (go_at_call 34; refine (hp _).mono ?_; rintro e w' ⟨rfl, rfl⟩)
    go_ret
    exact some_i32 _ (by have := tmod_range (si x) 64 (by omega); omega)
  · rw [hk] at hp
    have hix := ix9_8
    clear hk
    go_enter Try.func19, Try.ntmps19
    go_wp2_with (go_at_call 34; refine (hp _).mono ?_; rintro e w' ⟨rfl, rfl⟩)
    go_ret
    exact some_i32 _ (wrap32_range _)
theorem known (w : World) : Calls Try.prog 12 #[] w fun e w' => e = .returned (.bool true) ∧ w = w' := by
  have c1 := fun w => w0Shl 1#32 33#32 w
  have c2 := fun w => w0Sar (-8#32) 1#32 w
  have c3 := fun w => w0Below (-1#32) 1#32 w
  have c4 := fun w => w0Pick 7#32 1#32 2#32 w
  rw [show (1#32).toInt = 1 from rfl, show (33#32).toInt = 33 from rfl, show (1#32 <<< far 33#32).toInt = 2 from by decide +kernel] at c1
  rw [show (1#32).toInt = 1 from rfl, show (-8#32).toInt = -8 from by decide +kernel, show ((-8#32).sshiftRight (far 1#32)).toInt = -4 from by decide +kernel] at c2
  rw [show (1#32).toInt = 1 from rfl, show (-1#32).toInt = -1 from by decide +kernel, show (bit ((-1#32).ult 1#32)).toInt = 0 from by decide +kernel] at c3
  rw [show (1#32).toInt = 1 from rfl, show (7#32).toInt = 7 from rfl, show (2#32).toInt = 2 from by decide +kernel, show (bPick 7#32 1#32 2#32).toInt = 1 from by decide +kernel] at c4
  go_enter Try.func12, Try.ntmps12
  go_wp2_with (first | (go_at_call 27; refine (c1 _).mono ?_; rintro e w' ⟨rfl, rfl⟩) | (go_at_call 28; refine (c2 _).mono ?_; rintro e w' ⟨rfl, rfl⟩) | (go_at_call 29; refine (c3 _).mono ?_; rintro e w' ⟨rfl, rfl⟩) | (go_at_call 31; refine (c4 _).mono ?_; rintro e w' ⟨rfl, rfl⟩))
  go_ret
  exact ⟨rfl, rfl⟩
end Go.Proofs.Ytdodgcmbanfglaa

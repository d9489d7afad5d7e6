/- WordKnown: chapter 2's examples, and more: the walk. -/
import Derived.Test.YtdodgcmbanfglaaSame
import Derived.Test.YtdodgcmbanfglaaTwo
import Derived.Outline
namespace Go.Proofs.Ytdodgcmbanfglaa
open Go.RowKit
set_option linter.unusedVariables false
set_option maxHeartbeats 4000000 in
theorem wordKnown_walk (w : World) : Calls Try.prog 3 #[] w fun e w' => e = .returned (.bool true) ∧ Below w.heap.size w w' := by
  have kc := fun (w : World) (C : Array Value) (n c : Nat) => Lib.run_convert_bytes_const (P := Try.prog) w 28 5 C n c Try.underlying28 Try.underlying5
  have kc2 := kc (w.alloc (.cells #[.int .u8 97] 5 (1, 2)))
  rw [show (w.alloc (.cells #[.int .u8 97] 5 (1, 2))).heap.size = w.heap.size + 1 by simp] at kc2
  have c1 := fun w => w0Div (-2147483648#32) (-1#32) w
  have c2 := fun w => w0Rem (-2147483648#32) (-1#32) w
  have c3 := fun w => w0Div 1#32 0#32 w
  have c4 := fun w => w0Rem (-7#32) 2#32 w
  have c5 := fun w => w0Shr (-1#32) 31#32 w
  have c6 := fun w => w0Lt (-1#32) 0#32 w
  have c7 := fun w => w0Eq 3#32 3#32 w
  have c8 := fun w => w0Not 0#32 w
  have c9 := fun w => w0Neg (-2147483648#32) w
  rw [show (-2147483648#32).toInt = -2147483648 from by decide +kernel, show (-1#32).toInt = -1 from by decide +kernel, show ((-2147483648#32).sdiv (-1#32)).toInt = -2147483648 from by decide +kernel, show ((-1#32 : BitVec 32) != 0) = true from by decide +kernel] at c1
  rw [show (-2147483648#32).toInt = -2147483648 from by decide +kernel, show (-1#32).toInt = -1 from by decide +kernel, show (bRem (-2147483648#32) (-1#32)).toInt = 0 from by decide +kernel, show ((-1#32 : BitVec 32) != 0) = true from by decide +kernel] at c2
  rw [show (1#32).toInt = 1 from by decide +kernel, show (0#32).toInt = 0 from by decide +kernel, show ((1#32).sdiv (0#32)).toInt = 0 from by decide +kernel, show ((0#32 : BitVec 32) != 0) = false from by decide +kernel] at c3
  rw [show (-7#32).toInt = -7 from by decide +kernel, show (2#32).toInt = 2 from by decide +kernel, show (bRem (-7#32) (2#32)).toInt = -1 from by decide +kernel, show ((2#32 : BitVec 32) != 0) = true from by decide +kernel] at c4
  rw [show (-1#32).toInt = -1 from by decide +kernel, show (31#32).toInt = 31 from by decide +kernel, show ((-1#32) >>> far 31#32).toInt = 1 from by decide +kernel] at c5
  rw [show (-1#32).toInt = -1 from by decide +kernel, show (0#32).toInt = 0 from by decide +kernel, show (bit ((-1#32).slt 0#32)).toInt = 1 from by decide +kernel] at c6
  rw [show (3#32).toInt = 3 from by decide +kernel, show (bit ((3#32 : BitVec 32) == 3#32)).toInt = 1 from by decide +kernel] at c7
  rw [show (0#32).toInt = 0 from by decide +kernel, show (bNot 0#32).toInt = -1 from by decide +kernel] at c8
  rw [show (-2147483648#32).toInt = -2147483648 from by decide +kernel, show (-(-2147483648#32)).toInt = -2147483648 from by decide +kernel] at c9
  have C1 := Lib.hid c1
  have C2 := Lib.hid c2
  have C3 := Lib.hid c3
  have C4 := Lib.hid c4
  have C5 := Lib.hid c5
  have C6 := Lib.hid c6
  have C7 := Lib.hid c7
  have C8 := Lib.hid c8
  have C9 := Lib.hid c9
  clear c1 c2 c3 c4 c5 c6 c7 c8 c9
  go_enter Try.func3, Try.ntmps3
  go_wp2_with fail
  refine (C1.out _).mono ?_
  rintro e w1 ⟨rfl, rfl⟩
  go_wp2_with fail
  refine (C2.out _).mono ?_
  rintro e w1 ⟨rfl, rfl⟩
  go_wp2_with fail
  refine (C3.out _).mono ?_
  rintro e w1 ⟨rfl, rfl⟩
  go_wp2_with fail
  refine (C4.out _).mono ?_
  rintro e w1 ⟨rfl, rfl⟩
  go_wp2_with fail
  refine (known _).mono ?_
  rintro e w1 ⟨rfl, rfl⟩
  go_wp2_with fail
  refine (C5.out _).mono ?_
  rintro e w1 ⟨rfl, rfl⟩
  go_wp2_with fail
  refine (C6.out _).mono ?_
  rintro e w1 ⟨rfl, rfl⟩
  go_wp2_with fail
  refine (C7.out _).mono ?_
  rintro e w1 ⟨rfl, rfl⟩
  go_wp2_with fail
  refine (C8.out _).mono ?_
  rintro e w1 ⟨rfl, rfl⟩
  go_wp2_with fail
  refine (C9.out _).mono ?_
  rintro e w1 ⟨rfl, rfl⟩
  go_wp2_with fail
  have V1 := (vw_lit w 5 (1, 2) [97] _ 1 1 rfl rfl (by omega) (by unfold maxLen; omega) (by decide)).upd (Upd.alloc (fun _ => False) _ (.cells #[.int .u8 97, .int .u8 98] 5 (2, 3))) (fun _ _ h => h)
  have V2 := vw_lit (w.alloc (.cells #[.int .u8 97] 5 (1, 2))) 5 (2, 3) [97, 98] _ 2 2 rfl rfl (by omega) (by unfold maxLen; omega) (by decide)
  rw [show (w.alloc (.cells #[.int .u8 97] 5 (1, 2))).heap.size = w.heap.size + 1 by simp] at V2
  have HB := Lib.hid (((Upd.alloc (fun _ => False) w (.cells #[.int .u8 97] 5 (1, 2))).trans (Upd.alloc (fun _ => False) _ (.cells #[.int .u8 97, .int .u8 98] 5 (2, 3))) (fun _ h _ => h)).below (Nat.le_refl _) (fun _ h => h.elim))
  refine (same_no _ _ _ [97] [97, 98] V1 V2 (by simp) (by simp) (by decide)).mono ?_
  rintro e w1 ⟨rfl, rfl⟩
  clear V1 V2
  go_wp2_with fail
  refine (same_yes _ _ _ [] [] (Vw.nil _) (Vw.nil _) (by simp) (by simp) rfl).mono ?_
  rintro e w1 ⟨rfl, rfl⟩
  go_wp2_with fail
  go_ret
  exact ⟨rfl, HB.out⟩
end Go.Proofs.Ytdodgcmbanfglaa

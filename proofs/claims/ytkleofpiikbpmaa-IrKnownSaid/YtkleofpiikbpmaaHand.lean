/- Package word: what each call answers, said of BitVec 32; the world stays. Package taciturnhand's Pick, and taciturnref1's Do, One, Pick, yes: what each call answers; the world stays. -/
import Derived.WalkKit
import Derived.WalkSpells
import Derived.Laws.ShiftsVar
import Derived.Deep.QuietTactic
import Derived.BigQuiet
import Derived.Test.YtkleofpiikbpmaaChecked
import Derived.Test.YtkleofpiikbpmaaBV
import Derived.Lib.Hide
namespace Go.Proofs.Ytkleofpiikbpmaa
section
open Go.RowKit
set_option linter.unusedVariables false

theorem ret_i32 {a b : Int} (h : a = b) : Ending.returned (.int .i32 a) = Ending.returned (.int .i32 b) := by rw [h]

theorem w0Add (x y : BitVec 32) (w : World) : Calls Try.prog 39 #[.int .i32 x.toInt, .int .i32 y.toInt] w fun e w' => e = .returned (.int .i32 (x + y).toInt) ∧ w = w' := by
  go_enter Try.func39, Try.ntmps39
  go_wp2
  go_ret
  exact ⟨ret_i32 (bv_add x y), rfl⟩
theorem w0Sub (x y : BitVec 32) (w : World) : Calls Try.prog 40 #[.int .i32 x.toInt, .int .i32 y.toInt] w fun e w' => e = .returned (.int .i32 (x - y).toInt) ∧ w = w' := by
  go_enter Try.func40, Try.ntmps40
  go_wp2
  go_ret
  exact ⟨ret_i32 (bv_sub x y), rfl⟩
theorem w0Mul (x y : BitVec 32) (w : World) : Calls Try.prog 41 #[.int .i32 x.toInt, .int .i32 y.toInt] w fun e w' => e = .returned (.int .i32 (x * y).toInt) ∧ w = w' := by
  go_enter Try.func41, Try.ntmps41
  go_wp2
  go_ret
  exact ⟨ret_i32 (bv_mul x y), rfl⟩
theorem w0And (x y : BitVec 32) (w : World) : Calls Try.prog 42 #[.int .i32 x.toInt, .int .i32 y.toInt] w fun e w' => e = .returned (.int .i32 (x &&& y).toInt) ∧ w = w' := by
  go_enter Try.func42, Try.ntmps42
  go_wp2
  go_ret
  exact ⟨ret_i32 (bv_and x y), rfl⟩
theorem w0Or (x y : BitVec 32) (w : World) : Calls Try.prog 43 #[.int .i32 x.toInt, .int .i32 y.toInt] w fun e w' => e = .returned (.int .i32 (x ||| y).toInt) ∧ w = w' := by
  go_enter Try.func43, Try.ntmps43
  go_wp2
  go_ret
  exact ⟨ret_i32 (bv_or x y), rfl⟩
theorem w0Xor (x y : BitVec 32) (w : World) : Calls Try.prog 44 #[.int .i32 x.toInt, .int .i32 y.toInt] w fun e w' => e = .returned (.int .i32 (x ^^^ y).toInt) ∧ w = w' := by
  go_enter Try.func44, Try.ntmps44
  go_wp2
  go_ret
  exact ⟨ret_i32 (bv_xor x y), rfl⟩
theorem w0Neg (x : BitVec 32) (w : World) : Calls Try.prog 51 #[.int .i32 x.toInt] w fun e w' => e = .returned (.int .i32 (-x).toInt) ∧ w = w' := by
  go_enter Try.func51, Try.ntmps51
  go_wp2
  go_ret
  exact ⟨ret_i32 (bv_neg x), rfl⟩
theorem w0Not (x : BitVec 32) (w : World) : Calls Try.prog 52 #[.int .i32 x.toInt] w fun e w' => e = .returned (.int .i32 (bNot x).toInt) ∧ w = w' := by
  go_enter Try.func52, Try.ntmps52
  go_wp2
  go_ret
  exact ⟨ret_i32 (bv_not x), rfl⟩
theorem wDistance (y : BitVec 32) (w : World) : Calls Try.prog 53 #[.int .i32 y.toInt] w fun e w' => e = .returned (.int .u32 (far y : Int)) ∧ w = w' := by
  go_enter Try.func53, Try.ntmps53
  go_wp2
  go_ret
  exact ⟨congrArg (fun n => Ending.returned (.int .u32 n)) (by rw [u32_bv, bv_far]), rfl⟩
theorem w0Shl (x y : BitVec 32) (w : World) : Calls Try.prog 45 #[.int .i32 x.toInt, .int .i32 y.toInt] w fun e w' => e = .returned (.int .i32 (x <<< far y).toInt) ∧ w = w' := by
  have h := far_lt y
  go_enter Try.func45, Try.ntmps45
  go_wp2_with (go_at_call 53; refine (wDistance _ _).mono ?_; rintro e w' ⟨rfl, rfl⟩)
  go_ret
  exact ⟨ret_i32 (bv_shl x _), rfl⟩
theorem w0Shr (x y : BitVec 32) (w : World) : Calls Try.prog 46 #[.int .i32 x.toInt, .int .i32 y.toInt] w fun e w' => e = .returned (.int .i32 (x >>> far y).toInt) ∧ w = w' := by
  have h := far_lt y
  go_enter Try.func46, Try.ntmps46
  go_wp2_with (go_at_call 53; refine (wDistance _ _).mono ?_; rintro e w' ⟨rfl, rfl⟩)
  go_ret
  exact ⟨ret_i32 (by rw [u32_bv]; exact bv_shr x _), rfl⟩
theorem w0Sar (x y : BitVec 32) (w : World) : Calls Try.prog 47 #[.int .i32 x.toInt, .int .i32 y.toInt] w fun e w' => e = .returned (.int .i32 (x.sshiftRight (far y)).toInt) ∧ w = w' := by
  have h := far_lt y
  go_enter Try.func47, Try.ntmps47
  go_wp2_with (go_at_call 53; refine (wDistance _ _).mono ?_; rintro e w' ⟨rfl, rfl⟩)
  go_ret
  exact ⟨ret_i32 (bv_sar x _), rfl⟩
theorem w0Eq (x y : BitVec 32) (w : World) : Calls Try.prog 48 #[.int .i32 x.toInt, .int .i32 y.toInt] w fun e w' => e = .returned (.int .i32 (bit (x == y)).toInt) ∧ w = w' := by
  go_enter Try.func48, Try.ntmps48
  go_wp2
  go_ret
  exact ⟨ret_i32 (by rw [bv_xor, u32_bv, bv_eq]), rfl⟩
theorem w0Lt (x y : BitVec 32) (w : World) : Calls Try.prog 49 #[.int .i32 x.toInt, .int .i32 y.toInt] w fun e w' => e = .returned (.int .i32 (bit (x.slt y)).toInt) ∧ w = w' := by
  have hx := bv_range x
  have hy := bv_range y
  go_enter Try.func49, Try.ntmps49
  go_wp2
  go_ret
  exact ⟨ret_i32 (bv_lt x y), rfl⟩
theorem w0Below (x y : BitVec 32) (w : World) : Calls Try.prog 50 #[.int .i32 x.toInt, .int .i32 y.toInt] w fun e w' => e = .returned (.int .i32 (bit (x.ult y)).toInt) ∧ w = w' := by
  have hx := bv_range x
  have hy := bv_range y
  go_enter Try.func50, Try.ntmps50
  go_wp2
  go_ret
  exact ⟨ret_i32 (bv_below x y), rfl⟩
theorem w0Pick (c x y : BitVec 32) (w : World) : Calls Try.prog 31 #[.int .i32 c.toInt, .int .i32 x.toInt, .int .i32 y.toInt] w fun e w' => e = .returned (.int .i32 (bPick c x y).toInt) ∧ w = w' := by
  go_enter Try.func31, Try.ntmps31
  go_wp2_with (go_at_call 48; refine (w0Eq _ 0 _).mono ?_; rintro e w' ⟨rfl, rfl⟩)
  go_ret
  exact ⟨ret_i32 (bv_pick c x y), rfl⟩
theorem wAdd (x y : BitVec 32) (w : World) : Calls Try.prog 39 #[.int .i32 (si x), .int .i32 (si y)] w fun e w' => e = .returned (.int .i32 (si (bAdd x y))) ∧ w = w' := w0Add x y w
theorem wSub (x y : BitVec 32) (w : World) : Calls Try.prog 40 #[.int .i32 (si x), .int .i32 (si y)] w fun e w' => e = .returned (.int .i32 (si (bSub x y))) ∧ w = w' := w0Sub x y w
theorem wMul (x y : BitVec 32) (w : World) : Calls Try.prog 41 #[.int .i32 (si x), .int .i32 (si y)] w fun e w' => e = .returned (.int .i32 (si (bMul x y))) ∧ w = w' := w0Mul x y w
theorem wAnd (x y : BitVec 32) (w : World) : Calls Try.prog 42 #[.int .i32 (si x), .int .i32 (si y)] w fun e w' => e = .returned (.int .i32 (si (bAnd x y))) ∧ w = w' := w0And x y w
theorem wOr (x y : BitVec 32) (w : World) : Calls Try.prog 43 #[.int .i32 (si x), .int .i32 (si y)] w fun e w' => e = .returned (.int .i32 (si (bOr x y))) ∧ w = w' := w0Or x y w
theorem wXor (x y : BitVec 32) (w : World) : Calls Try.prog 44 #[.int .i32 (si x), .int .i32 (si y)] w fun e w' => e = .returned (.int .i32 (si (bXor x y))) ∧ w = w' := w0Xor x y w
theorem wNeg (x : BitVec 32) (w : World) : Calls Try.prog 51 #[.int .i32 (si x)] w fun e w' => e = .returned (.int .i32 (si (bNeg x))) ∧ w = w' := w0Neg x w
theorem wNot (x : BitVec 32) (w : World) : Calls Try.prog 52 #[.int .i32 (si x)] w fun e w' => e = .returned (.int .i32 (si (bNot x))) ∧ w = w' := w0Not x w
theorem wShl (x y : BitVec 32) (w : World) : Calls Try.prog 45 #[.int .i32 (si x), .int .i32 (si y)] w fun e w' => e = .returned (.int .i32 (si (bShl x y))) ∧ w = w' := w0Shl x y w
theorem wShr (x y : BitVec 32) (w : World) : Calls Try.prog 46 #[.int .i32 (si x), .int .i32 (si y)] w fun e w' => e = .returned (.int .i32 (si (bShr x y))) ∧ w = w' := w0Shr x y w
theorem wSar (x y : BitVec 32) (w : World) : Calls Try.prog 47 #[.int .i32 (si x), .int .i32 (si y)] w fun e w' => e = .returned (.int .i32 (si (bSar x y))) ∧ w = w' := w0Sar x y w
theorem wEq (x y : BitVec 32) (w : World) : Calls Try.prog 48 #[.int .i32 (si x), .int .i32 (si y)] w fun e w' => e = .returned (.int .i32 (si (bEq x y))) ∧ w = w' := w0Eq x y w
theorem wLt (x y : BitVec 32) (w : World) : Calls Try.prog 49 #[.int .i32 (si x), .int .i32 (si y)] w fun e w' => e = .returned (.int .i32 (si (bLt x y))) ∧ w = w' := w0Lt x y w
theorem wBelow (x y : BitVec 32) (w : World) : Calls Try.prog 50 #[.int .i32 (si x), .int .i32 (si y)] w fun e w' => e = .returned (.int .i32 (si (bBelow x y))) ∧ w = w' := w0Below x y w
theorem wPick (c x y : BitVec 32) (w : World) : Calls Try.prog 31 #[.int .i32 (si c), .int .i32 (si x), .int .i32 (si y)] w fun e w' => e = .returned (.int .i32 (si (bPick c x y))) ∧ w = w' := w0Pick c x y w
end

section
open Go.RowKit
set_option linter.unusedVariables false

theorem tmod_neg (n m : Int) (hm : 0 < m) (h : n.tmod m < 0) : n.tmod m + m = n % m := by
  rw [Int.tmod_eq_emod] at h ⊢
  have h1 := Int.emod_nonneg n (by omega : m ≠ 0)
  have h2 := Int.emod_lt_of_pos n hm
  have h3 : (m.natAbs : Int) = m := by omega
  split at h
  · omega
  · rw [h3] at h; rw [if_neg (by assumption)]; rw [h3]; omega
theorem tmod_pos (n m : Int) (hm : 0 < m) (h : ¬ n.tmod m < 0) : n.tmod m = n % m := by
  rw [Int.tmod_eq_emod] at h ⊢
  have h1 := Int.emod_nonneg n (by omega : m ≠ 0)
  have h2 := Int.emod_lt_of_pos n hm
  have h3 : (m.natAbs : Int) = m := by omega
  split at h
  · rw [if_pos (by assumption)]; omega
  · rw [h3] at h; omega
theorem tmod_range (n m : Int) (hm : 0 < m) : -m < n.tmod m ∧ n.tmod m < m := by
  rw [Int.tmod_eq_emod]
  have h1 := Int.emod_nonneg n (by omega : m ≠ 0)
  have h2 := Int.emod_lt_of_pos n hm
  have h3 : (m.natAbs : Int) = m := by omega
  split
  · omega
  · rename_i h
    rw [h3]
    have : n % m ≠ 0 := by
      intro e
      exact h (.inr (Int.dvd_of_emod_eq_zero e))
    omega
theorem ret_i64 {a b : Int} (h : a = b) : Ending.returned (.int .i64 a) = Ending.returned (.int .i64 b) := by rw [h]
theorem hPick (n m : Int) (w : World) (hm : 1 ≤ m) (hm2 : m ≤ 9223372036854775807) :
    Calls Try.prog 13 #[.int .i64 n, .int .i64 m] w fun e w' => e = .returned (.int .i64 (n % m)) ∧ w = w' := by
  have hr := tmod_range n m (by omega)
  obtain ⟨hr1, hr2⟩ := hr
  have hm0 : (m == 0) = false := by simp; omega
  by_cases h : n.tmod m < 0
  · have H := Lib.hid (tmod_neg n m (by omega) h)
    go_enter Try.func13, Try.ntmps13
    go_wp2
    go_ret
    exact ⟨ret_i64 H.out, rfl⟩
  · have H := Lib.hid (tmod_pos n m (by omega) h)
    go_enter Try.func13, Try.ntmps13
    go_wp2
    go_ret
    exact ⟨ret_i64 H.out, rfl⟩
/-- yes, Do, One: taciturnref1's. -/
theorem rYes (b : Bool) (w : World) : Calls Try.prog 27 #[.bool b] w fun e w' => e = .returned (.int .i32 (si (bit b))) ∧ w = w' := by
  cases b
  · go_enter Try.func27, Try.ntmps27
    go_wp2
    go_ret
    exact ⟨ret_i32 (by decide +kernel), rfl⟩
  · go_enter Try.func27, Try.ntmps27
    go_wp2
    go_ret
    exact ⟨ret_i32 (by decide +kernel), rfl⟩
theorem mask31 (y : BitVec 32) : bits .and .i32 (si y) 31 = (far y : Int) := by
  have h := bv_and y 31#32
  rw [show (31#32).toInt = 31 from rfl] at h
  unfold si
  rw [h]
  have h2 : (y &&& 31#32).toNat = far y := by
    rw [BitVec.toNat_and]; exact Nat.and_two_pow_sub_one_eq_mod y.toNat 5
  have := far_lt y
  rw [BitVec.toInt_eq_toNat_cond, h2]; simp; omega
theorem si_add (x y : BitVec 32) : wrap32 (si x + si y) = si (bAdd x y) := bv_add x y
theorem si_sub (x y : BitVec 32) : wrap32 (si x - si y) = si (bSub x y) := bv_sub x y
theorem si_mul (x y : BitVec 32) : wrap32 (si x * si y) = si (bMul x y) := bv_mul x y
theorem si_neg (x : BitVec 32) : wrap32 (-si x) = si (bNeg x) := bv_neg x
theorem si_not (x : BitVec 32) : bits .xor .i32 (-1) (si x) = si (bNot x) := bv_not x
theorem si_and (x y : BitVec 32) : bits .and .i32 (si x) (si y) = si (bAnd x y) := bv_and x y
theorem si_or (x y : BitVec 32) : bits .or .i32 (si x) (si y) = si (bOr x y) := bv_or x y
theorem si_xor (x y : BitVec 32) : bits .xor .i32 (si x) (si y) = si (bXor x y) := bv_xor x y
theorem si_shl (x y : BitVec 32) : wrap32 (si x * 2 ^ far y) = si (bShl x y) := bv_shl x _
theorem si_shr (x y : BitVec 32) : wrap32 (si x % 4294967296 / 2 ^ far y) = si (bShr x y) := by unfold si; rw [u32_bv]; exact bv_shr x _
theorem si_sar (x y : BitVec 32) : si x / 2 ^ far y = si (bSar x y) := bv_sar x _
theorem si_inj {x y : BitVec 32} (h : si x = si y) : x = y := BitVec.toInt_inj.1 h
theorem beq_si (x y : BitVec 32) : (si x == si y) = (x == y) := by
  rw [Bool.eq_iff_iff]; simp; exact ⟨si_inj, fun h => by rw [h]⟩
theorem lt_si (x y : BitVec 32) : decide (si x < si y) = x.slt y := by rw [BitVec.slt_eq_decide]; rfl
theorem below_si (x y : BitVec 32) : decide (si x % 4294967296 < si y % 4294967296) = x.ult y := by
  unfold si
  rw [BitVec.ult_eq_decide, u32_bv, u32_bv, decide_eq_decide]; omega
theorem bZero_false {y : BitVec 32} (h : si y = 0) : bZero y = false := by
  have : y = 0 := si_inj (by rw [h]; rfl)
  subst this; rfl
theorem bZero_true {y : BitVec 32} (h : si y ≠ 0) : bZero y = true := by
  unfold bZero; simp; intro e; subst e; exact h rfl
theorem rDoAdd (x y : BitVec 32) (w : World) : Calls Try.prog 14 #[.int .i64 6, .int .i32 (si x), .int .i32 (si y)] w fun e w' => e = .returned (.int .i32 (si (bAdd x y))) ∧ w = w' := by
  go_enter Try.func14, Try.ntmps14
  go_wp2
  go_ret
  exact ⟨ret_i32 (si_add x y), rfl⟩
theorem rDoSub (x y : BitVec 32) (w : World) : Calls Try.prog 14 #[.int .i64 7, .int .i32 (si x), .int .i32 (si y)] w fun e w' => e = .returned (.int .i32 (si (bSub x y))) ∧ w = w' := by
  go_enter Try.func14, Try.ntmps14
  go_wp2
  go_ret
  exact ⟨ret_i32 (si_sub x y), rfl⟩
theorem rDoMul (x y : BitVec 32) (w : World) : Calls Try.prog 14 #[.int .i64 8, .int .i32 (si x), .int .i32 (si y)] w fun e w' => e = .returned (.int .i32 (si (bMul x y))) ∧ w = w' := by
  go_enter Try.func14, Try.ntmps14
  go_wp2
  go_ret
  exact ⟨ret_i32 (si_mul x y), rfl⟩
theorem rDoAnd (x y : BitVec 32) (w : World) : Calls Try.prog 14 #[.int .i64 9, .int .i32 (si x), .int .i32 (si y)] w fun e w' => e = .returned (.int .i32 (si (bAnd x y))) ∧ w = w' := by
  go_enter Try.func14, Try.ntmps14
  go_wp2
  go_ret
  exact ⟨ret_i32 (si_and x y), rfl⟩
theorem rDoOr (x y : BitVec 32) (w : World) : Calls Try.prog 14 #[.int .i64 10, .int .i32 (si x), .int .i32 (si y)] w fun e w' => e = .returned (.int .i32 (si (bOr x y))) ∧ w = w' := by
  go_enter Try.func14, Try.ntmps14
  go_wp2
  go_ret
  exact ⟨ret_i32 (si_or x y), rfl⟩
theorem rDoXor (x y : BitVec 32) (w : World) : Calls Try.prog 14 #[.int .i64 11, .int .i32 (si x), .int .i32 (si y)] w fun e w' => e = .returned (.int .i32 (si (bXor x y))) ∧ w = w' := by
  go_enter Try.func14, Try.ntmps14
  go_wp2
  go_ret
  exact ⟨ret_i32 (si_xor x y), rfl⟩
theorem rDoShl (x y : BitVec 32) (w : World) : Calls Try.prog 14 #[.int .i64 12, .int .i32 (si x), .int .i32 (si y)] w fun e w' => e = .returned (.int .i32 (si (bShl x y))) ∧ w = w' := by
  have h := far_lt y
  have hm := mask31 y
  go_enter Try.func14, Try.ntmps14
  go_wp2
  go_ret
  exact ⟨ret_i32 (si_shl x y), rfl⟩
theorem rDoShr (x y : BitVec 32) (w : World) : Calls Try.prog 14 #[.int .i64 13, .int .i32 (si x), .int .i32 (si y)] w fun e w' => e = .returned (.int .i32 (si (bShr x y))) ∧ w = w' := by
  have h := far_lt y
  have hm := mask31 y
  go_enter Try.func14, Try.ntmps14
  go_wp2
  go_ret
  exact ⟨ret_i32 (si_shr x y), rfl⟩
theorem rDoSar (x y : BitVec 32) (w : World) : Calls Try.prog 14 #[.int .i64 14, .int .i32 (si x), .int .i32 (si y)] w fun e w' => e = .returned (.int .i32 (si (bSar x y))) ∧ w = w' := by
  have h := far_lt y
  have hm := mask31 y
  go_enter Try.func14, Try.ntmps14
  go_wp2
  go_ret
  exact ⟨ret_i32 (si_sar x y), rfl⟩
theorem rDoEq (x y : BitVec 32) (w : World) : Calls Try.prog 14 #[.int .i64 19, .int .i32 (si x), .int .i32 (si y)] w fun e w' => e = .returned (.int .i32 (si (bEq x y))) ∧ w = w' := by
  have hx := si_range x
  have hy := si_range y
  have H := Lib.hid (beq_si x y)
  go_enter Try.func14, Try.ntmps14
  go_wp2_with (go_at_call 27; refine (rYes _ _).mono ?_; rintro e w' ⟨rfl, rfl⟩)
  go_ret
  exact ⟨ret_i32 (by rw [H.out]; rfl), rfl⟩
theorem rDoLt (x y : BitVec 32) (w : World) : Calls Try.prog 14 #[.int .i64 20, .int .i32 (si x), .int .i32 (si y)] w fun e w' => e = .returned (.int .i32 (si (bLt x y))) ∧ w = w' := by
  have hx := si_range x
  have hy := si_range y
  have H := Lib.hid (lt_si x y)
  go_enter Try.func14, Try.ntmps14
  go_wp2_with (go_at_call 27; refine (rYes _ _).mono ?_; rintro e w' ⟨rfl, rfl⟩)
  go_ret
  exact ⟨ret_i32 (by rw [H.out]; rfl), rfl⟩
theorem rDoBelow (x y : BitVec 32) (w : World) : Calls Try.prog 14 #[.int .i64 21, .int .i32 (si x), .int .i32 (si y)] w fun e w' => e = .returned (.int .i32 (si (bBelow x y))) ∧ w = w' := by
  have hx := si_range x
  have hy := si_range y
  have H := Lib.hid (below_si x y)
  go_enter Try.func14, Try.ntmps14
  go_wp2_with (go_at_call 27; refine (rYes _ _).mono ?_; rintro e w' ⟨rfl, rfl⟩)
  go_ret
  exact ⟨ret_i32 (by rw [H.out]; rfl), rfl⟩
theorem tdiv_in32 (x y : BitVec 32) (h : si y ≠ 0) : -2147483648 ≤ (si x).tdiv (si y) ∧ (si x).tdiv (si y) ≤ 2147483648 := by
  have hx := si_range x
  have h1 := Int.natAbs_tdiv (si x) (si y)
  have h2 : ((si x).tdiv (si y)).natAbs ≤ (si x).natAbs := by rw [h1]; exact Nat.div_le_self _ _
  omega
theorem tmod_in32 (x y : BitVec 32) (h : si y ≠ 0) : -2147483648 ≤ (si x).tmod (si y) ∧ (si x).tmod (si y) ≤ 2147483647 := by
  have hx := si_range x
  have h1 := Int.natAbs_tmod (si x) (si y)
  have h2 : ((si x).tmod (si y)).natAbs ≤ (si x).natAbs := by rw [h1]; exact Nat.mod_le _ _
  have h3 : si x < 0 ∨ 0 ≤ si x := by omega
  rcases h3 with h3 | h3
  · have : (si x).tmod (si y) ≤ 0 := by
      have := Int.tmod_nonneg (si y) (show 0 ≤ -si x by omega)
      rw [Int.neg_tmod] at this; omega
    omega
  · omega
theorem si_tdiv (x y : BitVec 32) (h : si y ≠ 0) : wrap32 ((si x).tdiv (si y)) = si (bDiv x y) := bv_div x y
theorem si_tmod (x y : BitVec 32) (h : si y ≠ 0) : (si x).tmod (si y) = si (bRem x y) := by
  unfold bRem; rw [if_neg (by rintro rfl; exact h rfl)]; exact bv_rem x y
theorem rDoDiv (x y : BitVec 32) (w : World) : Calls Try.prog 14 #[.int .i64 17, .int .i32 (si x), .int .i32 (si y)] w fun e w' => e = .returned (.int .i32 (si (bDiv x y))) ∧ w = w' := by
  have hx := si_range x
  have hy := si_range y
  by_cases h : si y = 0
  · have H := Lib.hid (show bDiv x y = 0 from by rw [show y = 0 from si_inj (h.trans rfl)]; simp [bDiv])
    have h0 : (si y == 0) = true := by simpa using h
    have H1 := Lib.hid h
    clear h
    go_enter Try.func14, Try.ntmps14
    go_wp2
    go_ret
    exact ⟨ret_i32 (by rw [H.out]; rfl), rfl⟩
  · have h0 : (si y == 0) = false := by simpa using h
    have hq := tdiv_in32 x y h
    go_enter Try.func14, Try.ntmps14
    go_wp2
    go_ret
    exact ⟨ret_i32 (by first | exact si_tdiv x y h | (rw [← si_tdiv x y h]; first | rfl | (rw [IntWalk.wrap32_in _ (by omega)]) | (rw [IntWalk.wrap64_in _ (by omega)]))), rfl⟩
theorem rDoRem (x y : BitVec 32) (w : World) : Calls Try.prog 14 #[.int .i64 18, .int .i32 (si x), .int .i32 (si y)] w fun e w' => e = .returned (.int .i32 (si (bRem x y))) ∧ w = w' := by
  have hx := si_range x
  have hy := si_range y
  by_cases h : si y = 0
  · have H := Lib.hid (show bRem x y = 0 from by rw [show y = 0 from si_inj (h.trans rfl)]; simp [bRem])
    have h0 : (si y == 0) = true := by simpa using h
    have H1 := Lib.hid h
    clear h
    go_enter Try.func14, Try.ntmps14
    go_wp2
    go_ret
    exact ⟨ret_i32 (by rw [H.out]; rfl), rfl⟩
  · have h0 : (si y == 0) = false := by simpa using h
    have hq := tmod_in32 x y h
    go_enter Try.func14, Try.ntmps14
    go_wp2
    go_ret
    exact ⟨ret_i32 (by first | exact si_tmod x y h | (rw [← si_tmod x y h]; first | rfl | (rw [IntWalk.wrap32_in _ (by omega)]) | (rw [IntWalk.wrap64_in _ (by omega)]))), rfl⟩
theorem to_below {P : Program} {f : FuncId} {args : Array Value} {w : World} {E : Ending} (h : Calls P f args w fun e w' => e = E ∧ w = w') : Calls P f args w fun e w' => e = E ∧ Below w.heap.size w w' :=
  h.mono fun e w' k => ⟨k.1, by rw [← k.2]; exact Below.refl _ _⟩
end
end Go.Proofs.Ytkleofpiikbpmaa

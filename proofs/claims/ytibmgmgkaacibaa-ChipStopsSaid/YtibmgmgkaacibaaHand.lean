/- Package word: what each call answers, said of BitVec 32; the world stays. Package taciturnhand's Pick, and taciturnref1's Do, One, Pick, yes: what each call answers; the world stays. -/
import Derived.WalkKit
import Derived.WalkSpells
import Derived.Laws.ShiftsVar
import Derived.Deep.QuietTactic
import Derived.BigQuiet
import Derived.Test.YtibmgmgkaacibaaChecked
import Derived.Test.YtibmgmgkaacibaaBV
import Derived.Lib.Hide
namespace Go.Proofs.Ytibmgmgkaacibaa
section
open Go.RowKit
set_option linter.unusedVariables false

theorem ret_i32 {a b : Int} (h : a = b) : Ending.returned (.int .i32 a) = Ending.returned (.int .i32 b) := by rw [h]

end

section
open Go.RowKit
set_option linter.unusedVariables false

theorem tmod_neg (n m : Int) (hm : 0 < m) (h : n.tmod m < 0) : n.tmod m + m = n % m := by
  rw [Int.tmod_eq_emod] at h ⊢
  have h1 := Int.emod_nonneg n (by omega : m ≠ 0)
  have h2 := Int.emod_lt_of_pos n hm
  have h3 : (m.natAbs : Int) = m := by omega
  split at h
  · omega
  · rw [h3] at h; rw [if_neg (by assumption)]; rw [h3]; omega
theorem tmod_pos (n m : Int) (hm : 0 < m) (h : ¬ n.tmod m < 0) : n.tmod m = n % m := by
  rw [Int.tmod_eq_emod] at h ⊢
  have h1 := Int.emod_nonneg n (by omega : m ≠ 0)
  have h2 := Int.emod_lt_of_pos n hm
  have h3 : (m.natAbs : Int) = m := by omega
  split at h
  · rw [if_pos (by assumption)]; omega
  · rw [h3] at h; omega
theorem tmod_range (n m : Int) (hm : 0 < m) : -m < n.tmod m ∧ n.tmod m < m := by
  rw [Int.tmod_eq_emod]
  have h1 := Int.emod_nonneg n (by omega : m ≠ 0)
  have h2 := Int.emod_lt_of_pos n hm
  have h3 : (m.natAbs : Int) = m := by omega
  split
  · omega
  · rename_i h
    rw [h3]
    have : n % m ≠ 0 := by
      intro e
      exact h (.inr (Int.dvd_of_emod_eq_zero e))
    omega
theorem ret_i64 {a b : Int} (h : a = b) : Ending.returned (.int .i64 a) = Ending.returned (.int .i64 b) := by rw [h]
theorem hPick (n m : Int) (w : World) (hm : 1 ≤ m) (hm2 : m ≤ 9223372036854775807) :
    Calls Try.prog 25 #[.int .i64 n, .int .i64 m] w fun e w' => e = .returned (.int .i64 (n % m)) ∧ w = w' := by
  have hr := tmod_range n m (by omega)
  obtain ⟨hr1, hr2⟩ := hr
  have hm0 : (m == 0) = false := by simp; omega
  by_cases h : n.tmod m < 0
  · have H := Lib.hid (tmod_neg n m (by omega) h)
    go_enter Try.func25, Try.ntmps25
    go_wp2
    go_ret
    exact ⟨ret_i64 H.out, rfl⟩
  · have H := Lib.hid (tmod_pos n m (by omega) h)
    go_enter Try.func25, Try.ntmps25
    go_wp2
    go_ret
    exact ⟨ret_i64 H.out, rfl⟩
theorem mask31 (y : BitVec 32) : bits .and .i32 (si y) 31 = (far y : Int) := by
  have h := bv_and y 31#32
  rw [show (31#32).toInt = 31 from rfl] at h
  unfold si
  rw [h]
  have h2 : (y &&& 31#32).toNat = far y := by
    rw [BitVec.toNat_and]; exact Nat.and_two_pow_sub_one_eq_mod y.toNat 5
  have := far_lt y
  rw [BitVec.toInt_eq_toNat_cond, h2]; simp; omega
theorem si_add (x y : BitVec 32) : wrap32 (si x + si y) = si (bAdd x y) := bv_add x y
theorem si_sub (x y : BitVec 32) : wrap32 (si x - si y) = si (bSub x y) := bv_sub x y
theorem si_mul (x y : BitVec 32) : wrap32 (si x * si y) = si (bMul x y) := bv_mul x y
theorem si_neg (x : BitVec 32) : wrap32 (-si x) = si (bNeg x) := bv_neg x
theorem si_not (x : BitVec 32) : bits .xor .i32 (-1) (si x) = si (bNot x) := bv_not x
theorem si_and (x y : BitVec 32) : bits .and .i32 (si x) (si y) = si (bAnd x y) := bv_and x y
theorem si_or (x y : BitVec 32) : bits .or .i32 (si x) (si y) = si (bOr x y) := bv_or x y
theorem si_xor (x y : BitVec 32) : bits .xor .i32 (si x) (si y) = si (bXor x y) := bv_xor x y
theorem si_shl (x y : BitVec 32) : wrap32 (si x * 2 ^ far y) = si (bShl x y) := bv_shl x _
theorem si_shr (x y : BitVec 32) : wrap32 (si x % 4294967296 / 2 ^ far y) = si (bShr x y) := by unfold si; rw [u32_bv]; exact bv_shr x _
theorem si_sar (x y : BitVec 32) : si x / 2 ^ far y = si (bSar x y) := bv_sar x _
theorem si_inj {x y : BitVec 32} (h : si x = si y) : x = y := BitVec.toInt_inj.1 h
theorem beq_si (x y : BitVec 32) : (si x == si y) = (x == y) := by
  rw [Bool.eq_iff_iff]; simp; exact ⟨si_inj, fun h => by rw [h]⟩
theorem lt_si (x y : BitVec 32) : decide (si x < si y) = x.slt y := by rw [BitVec.slt_eq_decide]; rfl
theorem below_si (x y : BitVec 32) : decide (si x % 4294967296 < si y % 4294967296) = x.ult y := by
  unfold si
  rw [BitVec.ult_eq_decide, u32_bv, u32_bv, decide_eq_decide]; omega
theorem bZero_false {y : BitVec 32} (h : si y = 0) : bZero y = false := by
  have : y = 0 := si_inj (by rw [h]; rfl)
  subst this; rfl
theorem bZero_true {y : BitVec 32} (h : si y ≠ 0) : bZero y = true := by
  unfold bZero; simp; intro e; subst e; exact h rfl
theorem tdiv_in32 (x y : BitVec 32) (h : si y ≠ 0) : -2147483648 ≤ (si x).tdiv (si y) ∧ (si x).tdiv (si y) ≤ 2147483648 := by
  have hx := si_range x
  have h1 := Int.natAbs_tdiv (si x) (si y)
  have h2 : ((si x).tdiv (si y)).natAbs ≤ (si x).natAbs := by rw [h1]; exact Nat.div_le_self _ _
  omega
theorem tmod_in32 (x y : BitVec 32) (h : si y ≠ 0) : -2147483648 ≤ (si x).tmod (si y) ∧ (si x).tmod (si y) ≤ 2147483647 := by
  have hx := si_range x
  have h1 := Int.natAbs_tmod (si x) (si y)
  have h2 : ((si x).tmod (si y)).natAbs ≤ (si x).natAbs := by rw [h1]; exact Nat.mod_le _ _
  have h3 : si x < 0 ∨ 0 ≤ si x := by omega
  rcases h3 with h3 | h3
  · have : (si x).tmod (si y) ≤ 0 := by
      have := Int.tmod_nonneg (si y) (show 0 ≤ -si x by omega)
      rw [Int.neg_tmod] at this; omega
    omega
  · omega
theorem si_tdiv (x y : BitVec 32) (h : si y ≠ 0) : wrap32 ((si x).tdiv (si y)) = si (bDiv x y) := bv_div x y
theorem si_tmod (x y : BitVec 32) (h : si y ≠ 0) : (si x).tmod (si y) = si (bRem x y) := by
  unfold bRem; rw [if_neg (by rintro rfl; exact h rfl)]; exact bv_rem x y
theorem to_below {P : Program} {f : FuncId} {args : Array Value} {w : World} {E : Ending} (h : Calls P f args w fun e w' => e = E ∧ w = w') : Calls P f args w fun e w' => e = E ∧ Below w.heap.size w w' :=
  h.mono fun e w' k => ⟨k.1, by rw [← k.2]; exact Below.refl _ _⟩
end
end Go.Proofs.Ytibmgmgkaacibaa

/- Numbers of 32 bits as BitVec 32: what the walk leaves of sums, bits and shifts, said of them. No program is named here. -/
import Derived.WalkKit
import Derived.WalkSpells
namespace Go.Proofs.Ytkleofpiikbpmaa
open Go.RowKit

theorem wrap32_bv (n : Int) : wrap32 n = (BitVec.ofInt 32 n).toInt := by
  rw [BitVec.toInt_ofInt]; unfold wrap32; rw [Int.bmod_def]; simp; split <;> omega
theorem bv_range (x : BitVec 32) : -2147483648 ≤ x.toInt ∧ x.toInt ≤ 2147483647 := by
  have h1 := BitVec.toInt_lt (x := x); have h2 := BitVec.le_toInt (x := x); simp at h1 h2; omega
theorem bv_add (x y : BitVec 32) : wrap32 (x.toInt + y.toInt) = (x + y).toInt := by
  rw [wrap32_bv, BitVec.ofInt_add, BitVec.ofInt_toInt, BitVec.ofInt_toInt]
theorem bv_sub (x y : BitVec 32) : wrap32 (x.toInt - y.toInt) = (x - y).toInt := by
  rw [wrap32_bv, Int.sub_eq_add_neg, BitVec.ofInt_add, BitVec.ofInt_neg, BitVec.ofInt_toInt, BitVec.ofInt_toInt, BitVec.sub_eq_add_neg]
theorem bv_mul (x y : BitVec 32) : wrap32 (x.toInt * y.toInt) = (x * y).toInt := by
  rw [wrap32_bv, BitVec.ofInt_mul, BitVec.ofInt_toInt, BitVec.ofInt_toInt]
theorem bv_neg (x : BitVec 32) : wrap32 (-x.toInt) = (-x).toInt := by
  rw [wrap32_bv, BitVec.ofInt_neg, BitVec.ofInt_toInt]
theorem wrap_i32_bv (r : BitVec 32) : IntKind.i32.wrap (r.toNat : Int) = r.toInt := by
  have := r.isLt
  rw [IntKind.wrap_i32, BitVec.toInt_eq_toNat_cond]; simp at *; split <;> omega
theorem bv_and (x y : BitVec 32) : bits .and .i32 x.toInt y.toInt = (x &&& y).toInt := by
  unfold bits; simp only [IntKind.bits, BitVec.ofInt_toInt]; exact wrap_i32_bv _
theorem bv_or (x y : BitVec 32) : bits .or .i32 x.toInt y.toInt = (x ||| y).toInt := by
  unfold bits; simp only [IntKind.bits, BitVec.ofInt_toInt]; exact wrap_i32_bv _
theorem bv_xor (x y : BitVec 32) : bits .xor .i32 x.toInt y.toInt = (x ^^^ y).toInt := by
  unfold bits; simp only [IntKind.bits, BitVec.ofInt_toInt]; exact wrap_i32_bv _
theorem bv_not (x : BitVec 32) : bits .xor .i32 (-1) x.toInt = (~~~ x).toInt := by
  have h := bv_xor (-1#32) x
  rw [show ((-1#32 : BitVec 32)).toInt = -1 from by decide] at h
  rw [h, show (-1#32 : BitVec 32) = BitVec.allOnes 32 from rfl, BitVec.allOnes_xor]

/-- how far y shifts -/
def far (y : BitVec 32) : Nat := y.toNat % 32
theorem far_lt (y : BitVec 32) : far y < 32 := Nat.mod_lt _ (by decide)
theorem u32_bv (x : BitVec 32) : x.toInt % 4294967296 = (x.toNat : Int) := by
  have := x.isLt
  rw [BitVec.toInt_eq_toNat_cond]; simp at *; split <;> omega
theorem bv_far (y : BitVec 32) : bits .and .u32 (y.toNat : Int) 31 = (far y : Int) := by
  unfold bits far
  simp only [IntKind.bits]
  rw [show (BitVec.ofInt 32 (y.toNat : Int)) = y from by simp, show BitVec.ofInt 32 31 = 31#32 from rfl]
  have h : (y &&& 31#32).toNat = y.toNat % 32 := by
    rw [BitVec.toNat_and]; exact Nat.and_two_pow_sub_one_eq_mod y.toNat 5
  rw [IntKind.wrap_u32]; have e := congrArg (fun n : Nat => (n : Int) % 4294967296) h; exact e.trans (by show ((y.toNat % 32 : Nat) : Int) % 4294967296 = _; omega)
theorem bv_shl (x : BitVec 32) (n : Nat) : wrap32 (x.toInt * 2 ^ n) = (x <<< n).toInt := by
  rw [wrap32_bv, BitVec.ofInt_mul, BitVec.ofInt_toInt, BitVec.shiftLeft_eq_mul_twoPow]
  congr 2
  apply BitVec.eq_of_toNat_eq
  rw [BitVec.toNat_ofInt, BitVec.toNat_twoPow]
  have : (2 : Int) ^ n % (2 ^ 32 : Nat) = ((2 ^ n % 2 ^ 32 : Nat) : Int) := by simp
  rw [this]; omega
theorem bv_shr (x : BitVec 32) (n : Nat) : wrap32 ((x.toNat : Int) / 2 ^ n) = (x >>> n).toInt := by
  rw [wrap32_bv]; congr 1
  apply BitVec.eq_of_toNat_eq
  have h : (x.toNat : Int) / 2 ^ n = ((x.toNat / 2 ^ n : Nat) : Int) := by simp
  rw [h, BitVec.toNat_ofInt, BitVec.toNat_ushiftRight, Nat.shiftRight_eq_div_pow]
  have h1 := x.isLt
  have h2 : x.toNat / 2 ^ n ≤ x.toNat := Nat.div_le_self _ _
  generalize x.toNat / 2 ^ n = k at *
  have h3 : ((2 ^ 32 : Nat) : Int) = 4294967296 := by decide
  rw [h3]; omega
theorem bv_sar (x : BitVec 32) (n : Nat) : x.toInt / 2 ^ n = (x.sshiftRight n).toInt := by
  rw [BitVec.toInt_sshiftRight, Int.shiftRight_eq_div_pow]
  norm_cast

def si (x : BitVec 32) : Int := x.toInt
def bAdd (x y : BitVec 32) : BitVec 32 := x + y
def bSub (x y : BitVec 32) : BitVec 32 := x - y
def bMul (x y : BitVec 32) : BitVec 32 := x * y
def bAnd (x y : BitVec 32) : BitVec 32 := x &&& y
def bOr (x y : BitVec 32) : BitVec 32 := x ||| y
def bXor (x y : BitVec 32) : BitVec 32 := x ^^^ y
def bNeg (x : BitVec 32) : BitVec 32 := -x
def bShl (x y : BitVec 32) : BitVec 32 := x <<< far y
def bShr (x y : BitVec 32) : BitVec 32 := x >>> far y
def bSar (x y : BitVec 32) : BitVec 32 := x.sshiftRight (far y)
def bDiv (x y : BitVec 32) : BitVec 32 := x.sdiv y
def bNot (x : BitVec 32) : BitVec 32 := ~~~x
def bPick (c x y : BitVec 32) : BitVec 32 := if c = 0 then y else x
def bRem (x y : BitVec 32) : BitVec 32 := if y = 0 then 0 else x.srem y
def bit (b : Bool) : BitVec 32 := if b then 1 else 0
def bEq (x y : BitVec 32) : BitVec 32 := bit (x == y)
def bLt (x y : BitVec 32) : BitVec 32 := bit (x.slt y)
def bBelow (x y : BitVec 32) : BitVec 32 := bit (x.ult y)
def bZero (y : BitVec 32) : Bool := y != 0
theorem si_eq (x y : BitVec 32) (h : x = y) : (si x == si y) = true := by subst h; simp
theorem si_range (x : BitVec 32) : -2147483648 ≤ si x ∧ si x ≤ 2147483647 := by
  have h1 := BitVec.toInt_lt (x := x); have h2 := BitVec.le_toInt (x := x); unfold si; simp at h1 h2; omega
theorem si_bit (b : Bool) : 0 ≤ si (bit b) ∧ si (bit b) ≤ 1 := by cases b <;> decide +kernel
/-- any number of 32 bits is one -/
theorem si_any (n : Int) (h : -2147483648 ≤ n ∧ n ≤ 2147483647) : ∃ x : BitVec 32, n = si x :=
  ⟨BitVec.ofInt 32 n, by unfold si; rw [BitVec.toInt_ofInt, Int.bmod_def]; simp; split <;> omega⟩
theorem u32_nat (z : BitVec 32) : ((z.toNat : Int)) % 4294967296 = (z.toNat : Int) := by have := z.isLt; omega
theorem bv_eq (x y : BitVec 32) :
    wrap32 (bits .xor .u32 (bits .or .u32 ((x ^^^ y).toNat : Int) (-((x ^^^ y).toNat : Int) % 4294967296) / 2147483648) 1) = (bit (x == y)).toInt := by
  generalize hz : x ^^^ y = z
  have e : (x == y) = (z == 0) := by
    rw [← hz, Bool.eq_iff_iff]; simp [BitVec.xor_eq_zero_iff]
  rw [e]
  have hn : -(z.toNat : Int) % 4294967296 = ((-z).toNat : Int) := by
    rw [BitVec.toNat_neg]; have := z.isLt; omega
  have ho : bits .or .u32 (z.toNat : Int) ((-z).toNat : Int) = ((z ||| -z).toNat : Int) := by
    unfold bits; simp only [IntKind.bits]
    rw [show (BitVec.ofInt 32 (z.toNat : Int)) = z from by simp, show (BitVec.ofInt 32 ((-z).toNat : Int)) = -z from by rw [BitVec.ofInt_natCast]; simp only [BitVec.ofNat_toNat, BitVec.setWidth_eq], IntKind.wrap_u32]
    exact u32_nat (z ||| -z)
  rw [hn, ho]
  by_cases h0 : z = 0
  · subst h0; decide +kernel
  · have hm : (z ||| -z).msb = true := by
      rw [BitVec.msb_or, BitVec.msb_neg]
      have : (z != 0#32) = true := by simpa using h0
      by_cases hi : z = BitVec.intMin 32
      · subst hi; rfl
      · have h2 : (z != BitVec.intMin 32) = true := by simpa using hi
        rw [this, h2]; cases z.msb <;> rfl
    have hlt := (z ||| -z).isLt
    have hge : 2 ^ 31 ≤ (z ||| -z).toNat := by
      have := BitVec.msb_eq_decide (z ||| -z)
      rw [hm] at this; simpa using this.symm
    have hq : ((z ||| -z).toNat : Int) / 2147483648 = 1 := by omega
    rw [hq, show (z == 0) = false from by simpa using h0]
    decide +kernel
theorem bv_lt (x y : BitVec 32) : wrap32 (IntKind.u64.wrap (x.toInt - y.toInt) / 9223372036854775808) = (bit (x.slt y)).toInt := by
  have hx := bv_range x
  have hy := bv_range y
  rw [IntKind.wrap_u64, BitVec.slt_eq_decide]
  by_cases h : x.toInt < y.toInt
  · rw [show (x.toInt - y.toInt) % 18446744073709551616 / 9223372036854775808 = 1 from by omega, decide_eq_true h]; decide +kernel
  · rw [show (x.toInt - y.toInt) % 18446744073709551616 / 9223372036854775808 = 0 from by omega, decide_eq_false h]; decide +kernel
theorem bv_below (x y : BitVec 32) : wrap32 (IntKind.u64.wrap (x.toInt % 4294967296 - y.toInt % 4294967296) / 9223372036854775808) = (bit (x.ult y)).toInt := by
  have hx := x.isLt
  have hy := y.isLt
  rw [IntKind.wrap_u64, BitVec.ult_eq_decide, u32_bv, u32_bv]
  by_cases h : x.toNat < y.toNat
  · rw [show ((x.toNat : Int) - y.toNat) % 18446744073709551616 / 9223372036854775808 = 1 from by omega, decide_eq_true h]; decide +kernel
  · rw [show ((x.toNat : Int) - y.toNat) % 18446744073709551616 / 9223372036854775808 = 0 from by omega, decide_eq_false h]; decide +kernel
theorem bv_div (x y : BitVec 32) : wrap32 (x.toInt.tdiv y.toInt) = (x.sdiv y).toInt := by
  rw [wrap32_bv, BitVec.toInt_sdiv, BitVec.toInt_ofInt]
theorem bv_rem (x y : BitVec 32) : x.toInt.tmod y.toInt = (x.srem y).toInt := by
  rw [BitVec.toInt_srem]
theorem bv_pick (c x y : BitVec 32) : bits .xor .i32 y.toInt (bits .and .i32 (bits .xor .i32 x.toInt y.toInt) (wrap32 ((bit (c == 0)).toInt - 1))) = (bPick c x y).toInt := by
  unfold bPick
  by_cases h : c = 0
  · subst h
    rw [if_pos rfl, show wrap32 ((bit ((0 : BitVec 32) == 0)).toInt - 1) = (0#32).toInt from by decide +kernel, bv_xor, bv_and, bv_xor]; simp
  · rw [if_neg h, show (c == 0) = false from by simpa using h, show wrap32 ((bit false).toInt - 1) = (BitVec.allOnes 32).toInt from by decide +kernel, bv_xor, bv_and, bv_xor]
    congr 1
    rw [BitVec.and_allOnes, ← BitVec.xor_assoc, BitVec.xor_comm y x, BitVec.xor_assoc]; simp
end Go.Proofs.Ytkleofpiikbpmaa

/- Package thumb: Bl's two halfwords, laid and taken. -/
import Derived.Test.YtibmgmgkaacibaaZc
namespace Go.Proofs.Ytibmgmgkaacibaa
open Go.RowKit
set_option linter.unusedVariables false

def isFarB (h : Nat) : Bool := h / 2048 == 30
def endsB (h : Nat) : Bool := h / 16384 == 3 && h / 4096 % 2 == 1
def turnN (b s : Nat) : Nat := (b + s + 1) % 2
def bitN (n : Int) (k : Nat) : Nat := (n / 2 ^ k % 2).toNat
def far1 (imm : Int) : Nat := 61440 + bitN imm 24 * 1024 + (imm / 4096 % 1024).toNat
def far2 (imm : Int) : Nat := 53248 + turnN (bitN imm 23) (bitN imm 24) * 8192 + turnN (bitN imm 22) (bitN imm 24) * 2048 + (imm / 2 % 2048).toNat
def farN (h g : Nat) : Nat := (h / 1024 % 2) * 16777216 + turnN (g / 8192 % 2) (h / 1024 % 2) * 8388608 + turnN (g / 2048 % 2) (h / 1024 % 2) * 4194304 + h % 1024 * 4096 + g % 2048 * 2
def farP (h g : Nat) : Int := leastP (-16777216) (farN h g : Int) 25

theorem isFar_bits (h : Nat) (hh : h < 65536) : (bits .and .u16 (h : Int) 63488 == 61440) = isFarB h := by
  have e := u16_and_nat h 63488 hh (by decide)
  have e2 := nat_midmask 16 11 h (by decide)
  rw [show (2 : Nat) ^ 16 - 2 ^ 11 = 63488 from rfl, Nat.mod_eq_of_lt (by omega : h < 2 ^ 16)] at e2
  rw [show ((63488 : Nat) : Int) = 63488 from rfl, e2] at e
  rw [e]
  unfold isFarB
  rw [Bool.eq_iff_iff]
  simp
  omega
theorem ends_bits (h : Nat) (hh : h < 65536) : (bits .and .u16 (h : Int) 53248 == 53248) = endsB h := by
  have e := u16_and_nat h 53248 hh (by decide)
  have e1 : h &&& 53248 = h &&& 49152 ||| h &&& 4096 := by rw [← Nat.and_or_distrib_left]; rfl
  have e2 := nat_midmask 16 14 h (by decide)
  rw [show (2 : Nat) ^ 16 - 2 ^ 14 = 49152 from rfl, Nat.mod_eq_of_lt (by omega : h < 2 ^ 16)] at e2
  have e3 := nat_bit h 12
  rw [show (2 : Nat) ^ 12 = 4096 from rfl] at e3
  rw [show ((53248 : Nat) : Int) = 53248 from rfl, e1, e2, e3] at e
  rw [e]
  unfold endsB
  have h1 : h / 2 ^ 14 < 4 := by omega
  have h2 : h / 4096 % 2 < 2 := by omega
  generalize h / 4096 % 2 = x at *
  rw [show (2 : Nat) ^ 14 = 16384 from rfl] at *
  generalize h / 16384 = y at *
  have : (y = 0 ∨ y = 1 ∨ y = 2 ∨ y = 3) ∧ (x = 0 ∨ x = 1) := by omega
  obtain ⟨h3, h4⟩ := this
  rcases h3 with rfl | rfl | rfl | rfl <;> rcases h4 with rfl | rfl <;> decide +kernel

theorem tIsFar (h : Nat) (hh : h < 65536) (w : World) : Calls Try.prog 57 #[.int .u16 (h : Int)] w fun e w' => e = .returned (.bool (isFarB h)) ∧ w = w' := by
  have H := Lib.hid (isFar_bits h hh)
  go_enter Try.func57, Try.ntmps57
  go_wp2
  go_ret
  exact ⟨by rw [← H.out]; rfl, rfl⟩
theorem tEndsFar (h : Nat) (hh : h < 65536) (w : World) : Calls Try.prog 81 #[.int .u16 (h : Int)] w fun e w' => e = .returned (.bool (endsB h)) ∧ w = w' := by
  have H := Lib.hid (ends_bits h hh)
  go_enter Try.func81, Try.ntmps81
  go_wp2
  go_ret
  exact ⟨by rw [← H.out]; rfl, rfl⟩
theorem turn_bits (b s : Nat) (hb : b < 2) (hs : s < 2) : bits .xor .u16 (bits .xor .u16 (b : Int) (s : Int)) 1 = (turnN b s : Int) := by
  have : (b = 0 ∨ b = 1) ∧ (s = 0 ∨ s = 1) := by omega
  obtain ⟨h3, h4⟩ := this
  rcases h3 with rfl | rfl <;> rcases h4 with rfl | rfl <;> decide +kernel
theorem turn_lt (b s : Nat) : turnN b s < 2 := Nat.mod_lt _ (by decide)
theorem bitN_lt (n : Int) (k : Nat) : bitN n k < 2 := by unfold bitN; omega
theorem tTurned (b s : Nat) (hb : b < 2) (hs : s < 2) (w : World) : Calls Try.prog 99 #[.int .u16 (b : Int), .int .u16 (s : Int)] w fun e w' => e = .returned (.int .u16 (turnN b s : Int)) ∧ w = w' := by
  have H := Lib.hid (turn_bits b s hb hs)
  go_enter Try.func99, Try.ntmps99
  go_wp2
  go_ret
  exact ⟨by rw [← H.out]; rfl, rfl⟩
theorem tSize (i : I6) (w : World) : Calls Try.prog 48 #[i.val] w fun e w' => e = .returned (.int .i64 (if i.op == 43 then 4 else 2)) ∧ New w w' := by
  cases h : (i.op == 43)
  all_goals
    go_enter Try.func48, Try.ntmps48
    go_wp2
    go_ret
    exact ⟨rfl, New.alloc _ _⟩

theorem wraps_u16 (n : Int) (h₀ : 0 ≤ n) (h₁ : n < 2 ^ 16) : IntKind.u16.wrap n = n := by rw [IntKind.wrap_u16]; omega
theorem u16_join (i : Nat) (x y : Int) (hx : 0 ≤ x) (h : x % 2 ^ i = 0) (hx1 : x < 65536) (hy : 0 ≤ y) (hyi : y < 2 ^ i) (hy1 : y < 65536) : bits .or .u16 x y = x + y :=
  bits_join .u16 16 (by decide) wraps_u16 i x y hx h hx1 hy hyi hy1
theorem far1_bits (s A : Nat) (hs : s < 2) (hA : A < 1024) : bits .or .u16 (bits .or .u16 61440 ((s : Int) * 1024)) (A : Int) = ((61440 + s * 1024 + A : Nat) : Int) := by
  rw [u16_join 11 61440 ((s : Int) * 1024) (by decide) (by decide) (by decide) (by omega) (by omega) (by omega), u16_join 10 (61440 + (s : Int) * 1024) (A : Int) (by omega) (by omega) (by omega) (by omega) (by omega) (by omega)]
  omega
theorem far2_bits (j k B : Nat) (hj : j < 2) (hk : k < 2) (hB : B < 2048) : bits .or .u16 (bits .or .u16 (bits .or .u16 53248 ((j : Int) * 8192)) ((k : Int) * 2048)) (B : Int) = ((53248 + j * 8192 + k * 2048 + B : Nat) : Int) := by
  have e : bits .or .u16 53248 ((j : Int) * 8192) = 53248 + (j : Int) * 8192 := by
    have : j = 0 ∨ j = 1 := by omega
    rcases this with rfl | rfl <;> decide +kernel
  rw [e, u16_join 12 (53248 + (j : Int) * 8192) ((k : Int) * 2048) (by omega) (by omega) (by omega) (by omega) (by omega) (by omega), u16_join 11 (53248 + (j : Int) * 8192 + (k : Int) * 2048) (B : Int) (by omega) (by omega) (by omega) (by omega) (by omega) (by omega)]
  omega

theorem i64_join (i : Nat) (x y : Int) (hx : 0 ≤ x) (h : x % 2 ^ i = 0) (hx1 : x < 1099511627776) (hy : 0 ≤ y) (hyi : y < 2 ^ i) (hy1 : y < 1099511627776) : bits .or .i64 x y = x + y :=
  bits_join .i64 40 (by decide) (fun n h h' => by rw [IntKind.wrap_i64]; omega) i x y hx h hx1 hy hyi hy1
theorem farN_bits (s j k A B : Nat) (hs : s < 2) (hj : j < 2) (hk : k < 2) (hA : A < 1024) (hB : B < 2048) :
    bits .or .i64 (bits .or .i64 (bits .or .i64 (bits .or .i64 ((s : Int) * 16777216) ((j : Int) * 8388608)) ((k : Int) * 4194304)) ((A : Int) * 4096)) ((B : Int) * 2) = ((s * 16777216 + j * 8388608 + k * 4194304 + A * 4096 + B * 2 : Nat) : Int) := by
  rw [i64_join 24 ((s : Int) * 16777216) ((j : Int) * 8388608) (by omega) (by omega) (by omega) (by omega) (by omega) (by omega), i64_join 23 ((s : Int) * 16777216 + (j : Int) * 8388608) ((k : Int) * 4194304) (by omega) (by omega) (by omega) (by omega) (by omega) (by omega), i64_join 22 ((s : Int) * 16777216 + (j : Int) * 8388608 + (k : Int) * 4194304) ((A : Int) * 4096) (by omega) (by omega) (by omega) (by omega) (by omega) (by omega), i64_join 12 ((s : Int) * 16777216 + (j : Int) * 8388608 + (k : Int) * 4194304 + (A : Int) * 4096) ((B : Int) * 2) (by omega) (by omega) (by omega) (by omega) (by omega) (by omega)]
  omega

set_option maxHeartbeats 1000000 in
theorem tTakeFar (h g : Nat) (hh : h < 65536) (hg : g < 65536) (w : World) : Calls Try.prog 82 #[.int .u16 (h : Int), .int .u16 (g : Int)] w fun e w' => e = .returned (.int .i64 (farP h g)) ∧ w = w' := by
  obtain ⟨s, hs0⟩ : ∃ s, h / 1024 % 2 = s := ⟨_, rfl⟩
  obtain ⟨j, hj0⟩ : ∃ j, g / 8192 % 2 = j := ⟨_, rfl⟩
  obtain ⟨k, hk0⟩ : ∃ k, g / 2048 % 2 = k := ⟨_, rfl⟩
  obtain ⟨A, hA0⟩ : ∃ A, h % 1024 = A := ⟨_, rfl⟩
  obtain ⟨B, hB0⟩ : ∃ B, g % 2048 = B := ⟨_, rfl⟩
  have one : ∀ x : Nat, x < 65536 → bits .and .u16 (x : Int) 1 = ((x % 2 : Nat) : Int) := fun x hx => by
    have := u16_and_nat x 1 hx (by decide)
    rw [show ((1 : Nat) : Int) = 1 from rfl] at this
    rw [this, show (1 : Nat) = 2 ^ 1 - 1 from rfl, Nat.and_two_pow_sub_one_eq_mod]
  have hs : bits .and .u16 ((h : Int) / 1024) 1 = (s : Int) := by rw [← hs0, ← one _ (by omega)]; rfl
  have hj : bits .and .u16 ((g : Int) / 8192) 1 = (j : Int) := by rw [← hj0, ← one _ (by omega)]; rfl
  have hk : bits .and .u16 ((g : Int) / 2048) 1 = (k : Int) := by rw [← hk0, ← one _ (by omega)]; rfl
  have hA : bits .and .u16 (h : Int) 1023 = (A : Int) := by
    have := u16_and_nat h 1023 hh (by decide)
    rw [show ((1023 : Nat) : Int) = 1023 from rfl] at this
    rw [this, show (1023 : Nat) = 2 ^ 10 - 1 from rfl, Nat.and_two_pow_sub_one_eq_mod, ← hA0]
  have hB : bits .and .u16 (g : Int) 2047 = (B : Int) := by
    have := u16_and_nat g 2047 hg (by decide)
    rw [show ((2047 : Nat) : Int) = 2047 from rfl] at this
    rw [this, show (2047 : Nat) = 2 ^ 11 - 1 from rfl, Nat.and_two_pow_sub_one_eq_mod, ← hB0]
  have hs1 : s < 2 := by omega
  have hj1 : j < 2 := by omega
  have hk1 : k < 2 := by omega
  have hA1 : A < 1024 := by omega
  have hB1 : B < 2048 := by omega
  have HT := Lib.hid (tTurned j s hj1 hs1)
  have HU := Lib.hid (tTurned k s hk1 hs1)
  have hT := turn_lt j s
  have hU := turn_lt k s
  have HE := Lib.hid (farN_bits s (turnN j s) (turnN k s) A B hs1 hT hU hA1 hB1)
  have HF : Hid (farP h g = leastP (-16777216) ((s * 16777216 + turnN j s * 8388608 + turnN k s * 4194304 + A * 4096 + B * 2 : Nat) : Int) 25) := Lib.hid (by rw [← hs0, ← hj0, ← hk0, ← hA0, ← hB0]; rfl)
  have HL : Hid (∀ u, Calls Try.prog 85 #[.int .i64 (-16777216), .int .i64 ((s * 16777216 + turnN j s * 8388608 + turnN k s * 4194304 + A * 4096 + B * 2 : Nat) : Int), .int .i64 25] u fun e w' => e = .returned (.int .i64 (leastP (-16777216) ((s * 16777216 + turnN j s * 8388608 + turnN k s * 4194304 + A * 4096 + B * 2 : Nat) : Int) 25)) ∧ u = w') :=
    Lib.hid (fun u => tAtLeast (-16777216) _ 25 (by decide) (by omega) (by decide) u)
  rw [← HE.out] at HL HF
  generalize turnN j s = T at *
  generalize turnN k s = U at *
  clear one hs0 hj0 hk0 hA0 hB0
  go_enter Try.func82, Try.ntmps82
  go_wp2_with (first
    | (with_reducible refine (HT.out _).mono ?_; rintro e _ ⟨rfl, rfl⟩)
    | (with_reducible refine (HU.out _).mono ?_; rintro e _ ⟨rfl, rfl⟩)
    | (with_reducible refine (HL.out _).mono ?_; rintro e _ ⟨rfl, rfl⟩))
  go_ret
  exact ⟨by rw [HF.out]; rfl, rfl⟩
end Go.Proofs.Ytibmgmgkaacibaa

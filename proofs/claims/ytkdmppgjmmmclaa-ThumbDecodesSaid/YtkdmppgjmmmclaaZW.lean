/- The reference's Decode of two halfwords that reach far, and of what is too short. -/
import Derived.Test.YtkdmppgjmmmclaaZR
namespace Go.Proofs.Ytkdmppgjmmmclaa
open Go.RowKit
set_option linter.unusedVariables false
set_option linter.unusedSimpArgs false
set_option maxRecDepth 20000
set_option maxHeartbeats 4000000
theorem wraps_i64 (n : Int) (h₀ : 0 ≤ n) (h₁ : n < 2 ^ 62) : IntKind.i64.wrap n = n := by rw [IntKind.wrap_i64]; omega
theorem i64_joinQ (i : Nat) (x y : Int) (hx : 0 ≤ x) (h : x % 2 ^ i = 0) (hx1 : x < 2 ^ 62) (hy : 0 ≤ y) (hyi : y < 2 ^ i) (hy1 : y < 2 ^ 62) : bits .or .i64 x y = x + y :=
  bits_join .i64 62 (by decide) wraps_i64 i x y hx h hx1 hy hyi hy1
theorem xor64 (b s : Nat) (hb : b < 2) (hs : s < 2) : bits .xor .i64 (b : Int) (s : Int) = 1 - (turnN b s : Int) := by
  have h3 : b = 0 ∨ b = 1 := by omega
  have h4 : s = 0 ∨ s = 1 := by omega
  rcases h3 with rfl | rfl <;> rcases h4 with rfl | rfl <;> decide +kernel
theorem farN_lt (h g : Nat) : farN h g < 33554432 := by
  unfold farN
  have h1 := turn_lt (g / 8192 % 2) (h / 1024 % 2)
  have h2 := turn_lt (g / 2048 % 2) (h / 1024 % 2)
  omega
theorem far_sign (h g : Nat) : signN (farN h g) 25 = farP h g := by
  have hl := farN_lt h g
  rw [signN_eq _ _ hl, farP_eq]
  generalize farN h g = n at *
  split
  · simp at *; omega
  · simp at *; omega
theorem qNil (a : Option Addr) (c : Nat) (w : World) : Calls Try.prog 19 #[.slice a 0 c] w fun e w' => e = .returned (.tuple #[I6.zero.val, .int .i64 0]) ∧ New w w' := by
  go_enter Try.func19, Try.ntmps19
  go_wp2_with fail
  refine bodyPost_ret (by simp only [results, Try.f19]; simp [go_sem]; rfl) rfl ?_
  refine ⟨rfl, ?_⟩
  first
    | exact New.alloc _ _
    | (repeat (refine New.set ?_ _ _ (by simp))
       exact New.alloc _ _)
theorem qShort (x : Nat) (hx : x < 65536) (hf : x / 2048 = 30) (g off c : Nat) (hc1 : 1 ≤ c) (hc2 : c ≤ maxLen) (w : World) (c0 : w.cell? ⟨g, off, none⟩ = some (.int .u16 (x : Int))) : Calls Try.prog 19 #[.slice (some ⟨g, off, none⟩) 1 c] w fun e w' => e = .returned (.tuple #[I6.zero.val, .int .i64 0]) ∧ New w w' := by
  have iF : (((x : Int) / 2048) == 30) = true := by simp; omega
  have hg := World.block_lt_of_cell? w _ c0
  unfold maxLen at hc2
  go_enter Try.func19, Try.ntmps19
  go_wp2_with fail
  refine bodyPost_ret (by simp only [results, Try.f19]; simp [go_sem]; rfl) rfl ?_
  refine ⟨rfl, ?_⟩
  first
    | exact New.alloc _ _
    | (repeat (refine New.set ?_ _ _ (by simp))
       exact New.alloc _ _)
theorem qFar (x y : Nat) (hx : x < 65536) (hy : y < 65536) (hf : x / 2048 = 30) (g off len c : Nat) (hl : 2 ≤ len) (hc1 : len ≤ c) (hc2 : c ≤ maxLen) (w : World) (c0 : w.cell? ⟨g, off, none⟩ = some (.int .u16 (x : Int))) (c1 : w.cell? ⟨g, off + 1, none⟩ = some (.int .u16 (y : Int))) :
    Calls Try.prog 19 #[.slice (some ⟨g, off, none⟩) len c] w fun e w' => e = .returned (if endsB y then .tuple #[(⟨43, 0, 0, 0, farP x y, 0⟩ : I6).val, .int .i64 2] else .tuple #[I6.zero.val, .int .i64 (-1)]) ∧ New w w' := by
  have iF : (((x : Int) / 2048) == 30) = true := by simp; omega
  have iL : ((len : Int) == 0) = false := by simp; omega
  have iM : decide ((len : Int) < 2) = false := by simp; omega
  have hlp : 0 < len := by omega
  have hlq : (0 : Int) < (len : Int) := by omega
  have hlr : (1 : Int) < (len : Int) := by omega
  have hg := World.block_lt_of_cell? w _ c0
  unfold maxLen at hc2
  have a1 := ands 1 (by decide) 1 (by decide) 2 (by decide)
  have a1023 := ands 10 (by decide) 1023 (by decide) 1024 (by decide)
  have a2047 := ands 11 (by decide) 2047 (by decide) 2048 (by decide)
  have hb1 : y / 8192 % 2 < 2 := by omega
  have hb2 : y / 2048 % 2 < 2 := by omega
  have hb3 : x / 1024 % 2 < 2 := by omega
  have x1 : bits .xor .i64 ((y : Int) / 8192 % 2) ((x : Int) / 1024 % 2) = 1 - (turnN (y / 8192 % 2) (x / 1024 % 2) : Int) := by simpa using xor64 _ _ hb1 hb3
  have x2 : bits .xor .i64 ((y : Int) / 2048 % 2) ((x : Int) / 1024 % 2) = 1 - (turnN (y / 2048 % 2) (x / 1024 % 2) : Int) := by simpa using xor64 _ _ hb2 hb3
  have t1 := turn_lt (y / 8192 % 2) (x / 1024 % 2)
  have t2 := turn_lt (y / 2048 % 2) (x / 1024 % 2)
  have hF : farN x y = x / 1024 % 2 * 16777216 + turnN (y / 8192 % 2) (x / 1024 % 2) * 8388608 + turnN (y / 2048 % 2) (x / 1024 % 2) * 4194304 + x % 1024 * 4096 + y % 2048 * 2 := rfl
  have HF := Lib.hid hF
  clear hF
  generalize turnN (y / 8192 % 2) (x / 1024 % 2) = T1 at *
  generalize turnN (y / 2048 % 2) (x / 1024 % 2) = T2 at *
  cases hE : endsB y
  · have HV : Hid ((if (false : Bool) = true then Value.tuple #[(⟨43, 0, 0, 0, farP x y, 0⟩ : I6).val, .int .i64 2] else .tuple #[I6.zero.val, .int .i64 (-1)]) = .tuple #[I6.zero.val, .int .i64 (-1)]) := Lib.hid rfl
    rw [HV.out]
    by_cases h3 : y / 16384 = 3
    · have e1 : (((y : Int) / 16384) != 3) = false := by simp; omega
      have e2 : (((y : Int) / 4096 % 2) != 1) = true := by
        simp [endsB] at hE
        have := hE h3
        simp; omega
      clear hE
      go_enter Try.func19, Try.ntmps19
      go_wp2_with fail
      refine bodyPost_ret (by simp only [results, Try.f19]; simp [go_sem]; rfl) rfl ?_
      refine ⟨rfl, ?_⟩
      first
        | exact New.alloc _ _
        | (repeat (refine New.set ?_ _ _ (by simp))
           exact New.alloc _ _)
    · have e1 : (((y : Int) / 16384) != 3) = true := by simp; omega
      clear hE
      go_enter Try.func19, Try.ntmps19
      go_wp2_with fail
      refine bodyPost_ret (by simp only [results, Try.f19]; simp [go_sem]; rfl) rfl ?_
      refine ⟨rfl, ?_⟩
      first
        | exact New.alloc _ _
        | (repeat (refine New.set ?_ _ _ (by simp))
           exact New.alloc _ _)
  · have HV : Hid ((if (true : Bool) = true then Value.tuple #[(⟨43, 0, 0, 0, farP x y, 0⟩ : I6).val, .int .i64 2] else .tuple #[I6.zero.val, .int .i64 (-1)]) = .tuple #[(⟨43, 0, 0, 0, farP x y, 0⟩ : I6).val, .int .i64 2]) := Lib.hid rfl
    rw [HV.out]
    have e1 : (((y : Int) / 16384) != 3) = false := by simp [endsB] at hE; simp; omega
    have e2 : (((y : Int) / 4096 % 2) != 1) = false := by simp [endsB] at hE; simp; omega
    clear hE
    have HS := Lib.hid (far_sign x y)
    go_enter Try.func19, Try.ntmps19
    go_wp2_with fail
    refine (qSignI _ (farN x y) 25 _ (by
      rw [show (1 - (1 - (T1 : Int))) * 8388608 = (T1 : Int) * 8388608 by omega, show (1 - (1 - (T2 : Int))) * 4194304 = (T2 : Int) * 4194304 by omega, i64_joinQ 24 ((x : Int) / 1024 % 2 * 16777216) ((T1 : Int) * 8388608) (by omega) (by omega) (by omega) (by omega) (by omega) (by omega), i64_joinQ 23 ((x : Int) / 1024 % 2 * 16777216 + (T1 : Int) * 8388608) ((T2 : Int) * 4194304) (by omega) (by omega) (by omega) (by omega) (by omega) (by omega), i64_joinQ 22 ((x : Int) / 1024 % 2 * 16777216 + (T1 : Int) * 8388608 + (T2 : Int) * 4194304) ((x : Int) % 1024 * 4096) (by omega) (by omega) (by omega) (by omega) (by omega) (by omega), i64_joinQ 12 ((x : Int) / 1024 % 2 * 16777216 + (T1 : Int) * 8388608 + (T2 : Int) * 4194304 + (x : Int) % 1024 * 4096) ((y : Int) % 2048 * 2) (by omega) (by omega) (by omega) (by omega) (by omega) (by omega), HF.out]
      omega) rfl (by decide) (farN_lt x y) _).mono ?_
    rintro e _ ⟨rfl, rfl⟩
    rw [HS.out]
    go_wp2_with fail
    refine bodyPost_ret (by simp only [results, Try.f19]; simp [go_sem]; rfl) rfl ?_
    refine ⟨rfl, ?_⟩
    first
      | exact New.alloc _ _
      | (repeat (refine New.set ?_ _ _ (by simp))
         exact New.alloc _ _)
end Go.Proofs.Ytkdmppgjmmmclaa

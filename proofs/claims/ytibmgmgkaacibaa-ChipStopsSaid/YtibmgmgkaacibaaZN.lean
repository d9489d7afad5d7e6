/- The reference's Encode of the three branches that reckon with their own place. -/
import Derived.Test.YtibmgmgkaacibaaZJ
namespace Go.Proofs.Ytibmgmgkaacibaa
open Go.RowKit
set_option linter.unusedVariables false
set_option linter.unusedSimpArgs false
set_option maxRecDepth 20000
set_option maxHeartbeats 4000000
theorem wraps_u32 (n : Int) (h₀ : 0 ≤ n) (h₁ : n < 2 ^ 32) : IntKind.u32.wrap n = n := by rw [IntKind.wrap_u32]; omega
theorem u32_join (i : Nat) (x y : Int) (hx : 0 ≤ x) (h : x % 2 ^ i = 0) (hx1 : x < 4294967296) (hy : 0 ≤ y) (hyi : y < 2 ^ i) (hy1 : y < 4294967296) : bits .or .u32 x y = x + y :=
  bits_join .u32 32 (by decide) wraps_u32 i x y hx h hx1 hy hyi hy1
theorem u16_low (x : Int) (k : Nat) (hk : 2 ^ k - 1 < 2 ^ 16) (h0 : 0 ≤ x) (h1 : x < 65536) : bits .and .u16 x ((2 ^ k - 1 : Nat) : Int) = x % ((2 ^ k : Nat) : Int) := by
  obtain ⟨a, rfl⟩ := Int.eq_ofNat_of_zero_le h0
  rw [(bits_nat .u16 16 (by decide) wraps_u16 a (2 ^ k - 1) (by omega) hk).1, Nat.and_two_pow_sub_one_eq_mod]
  omega
theorem u32_low (x : Int) (k : Nat) (hk : 2 ^ k - 1 < 2 ^ 32) (h0 : 0 ≤ x) (h1 : x < 4294967296) : bits .and .u32 x ((2 ^ k - 1 : Nat) : Int) = x % ((2 ^ k : Nat) : Int) := by
  obtain ⟨a, rfl⟩ := Int.eq_ofNat_of_zero_le h0
  rw [(bits_nat .u32 32 (by decide) wraps_u32 a (2 ^ k - 1) (by omega) hk).1, Nat.and_two_pow_sub_one_eq_mod]
  omega
theorem bitU (s : Int) (k : Nat) (P : Int) (hP : P = 2 ^ k) (h : 0 ≤ s % 4294967296 / P ∧ s % 4294967296 / P < 4294967296) (hs : s % 4294967296 / P % 2 = s / P % 2) : bits .and .u32 (s % 4294967296 / P) 1 = (bitN s k : Int) := by
  have := u32_low (s % 4294967296 / P) 1 (by decide) h.1 h.2
  rw [show ((2 ^ 1 - 1 : Nat) : Int) = 1 from rfl, show ((2 ^ 1 : Nat) : Int) = 2 from rfl] at this
  rw [this, hs]
  unfold bitN
  rw [← hP]
  omega
theorem turnU (b s : Nat) (hb : b < 2) (hs : s < 2) : (1 - bits .xor .u32 (b : Int) (s : Int)) % 4294967296 = (turnN b s : Int) := by
  have h3 : b = 0 ∨ b = 1 := by omega
  have h4 : s = 0 ∨ s = 1 := by omega
  rcases h3 with rfl | rfl <;> rcases h4 with rfl | rfl <;> decide +kernel
theorem u24 (s : Int) : bits .and .u32 (s % 4294967296 / 16777216) 1 = (bitN s 24 : Int) := bitU s 24 16777216 (by decide) (by omega) (by omega)
theorem u23 (s : Int) : bits .and .u32 (s % 4294967296 / 8388608) 1 = (bitN s 23 : Int) := bitU s 23 8388608 (by decide) (by omega) (by omega)
theorem u22 (s : Int) : bits .and .u32 (s % 4294967296 / 4194304) 1 = (bitN s 22 : Int) := bitU s 22 4194304 (by decide) (by omega) (by omega)
theorem uA (s : Int) : bits .and .u32 (s % 4294967296 / 4096) 1023 = ((s / 4096 % 1024).toNat : Int) := by
  have := u32_low (s % 4294967296 / 4096) 10 (by decide) (by omega) (by omega)
  rw [show ((2 ^ 10 - 1 : Nat) : Int) = 1023 from rfl, show ((2 ^ 10 : Nat) : Int) = 1024 from rfl] at this
  omega
theorem uB (s : Int) : bits .and .u32 (s % 4294967296 / 2) 2047 = ((s / 2 % 2048).toNat : Int) := by
  have := u32_low (s % 4294967296 / 2) 11 (by decide) (by omega) (by omega)
  rw [show ((2 ^ 11 - 1 : Nat) : Int) = 2047 from rfl, show ((2 ^ 11 : Nat) : Int) = 2048 from rfl] at this
  omega
theorem uFar1 (s : Int) : IntKind.u16.wrap (bits .or .u32 (bits .or .u32 61440 (bits .and .u32 (s % 4294967296 / 16777216) 1 * 1024 % 4294967296)) (bits .and .u32 (s % 4294967296 / 4096) 1023)) = (far1 s : Int) := by
  rw [u24, uA]
  have h1 := bitN_lt s 24
  have h2 : (s / 4096 % 1024).toNat < 1024 := by omega
  unfold far1
  generalize bitN s 24 = b at *
  generalize (s / 4096 % 1024).toNat = a at *
  rw [show (b : Int) * 1024 % 4294967296 = (b : Int) * 1024 by omega]
  rw [u32_join 11 61440 ((b : Int) * 1024) (by omega) (by decide) (by omega) (by omega) (by omega) (by omega)]
  rw [u32_join 10 (61440 + (b : Int) * 1024) (a : Int) (by omega) (by omega) (by omega) (by omega) (by omega) (by omega)]
  rw [IntKind.wrap_u16]
  omega
theorem uFar2 (s : Int) : IntKind.u16.wrap (bits .or .u32 (bits .or .u32 (bits .or .u32 53248 ((1 - bits .xor .u32 (bits .and .u32 (s % 4294967296 / 8388608) 1) (bits .and .u32 (s % 4294967296 / 16777216) 1)) % 4294967296 * 8192 % 4294967296)) ((1 - bits .xor .u32 (bits .and .u32 (s % 4294967296 / 4194304) 1) (bits .and .u32 (s % 4294967296 / 16777216) 1)) % 4294967296 * 2048 % 4294967296)) (bits .and .u32 (s % 4294967296 / 2) 2047)) = (far2 s : Int) := by
  rw [u24, u23, u22, uB, turnU _ _ (bitN_lt _ _) (bitN_lt _ _), turnU _ _ (bitN_lt _ _) (bitN_lt _ _)]
  have h1 := turn_lt (bitN s 23) (bitN s 24)
  have h2 := turn_lt (bitN s 22) (bitN s 24)
  have h3 : (s / 2 % 2048).toNat < 2048 := by omega
  unfold far2
  generalize turnN (bitN s 23) (bitN s 24) = j at *
  generalize turnN (bitN s 22) (bitN s 24) = k at *
  generalize (s / 2 % 2048).toNat = a at *
  have h4 : j = 0 ∨ j = 1 := by omega
  have h5 : k = 0 ∨ k = 1 := by omega
  have e : bits .or .u32 (bits .or .u32 53248 ((j : Int) * 8192 % 4294967296)) ((k : Int) * 2048 % 4294967296) = 53248 + (j : Int) * 8192 + (k : Int) * 2048 := by
    rcases h4 with rfl | rfl <;> rcases h5 with rfl | rfl <;> decide +kernel
  rw [e, u32_join 11 (53248 + (j : Int) * 8192 + (k : Int) * 2048) (a : Int) (by omega) (by omega) (by omega) (by omega) (by omega) (by omega)]
  rw [IntKind.wrap_u16]
  omega
theorem qE43 (s : Int) (h1 : -16777216 ≤ s) (h2 : s ≤ 16777214) (w : World) : Calls Try.prog 14 #[.agg #[.int .i64 43, .int .i64 0, .int .i64 0, .int .i64 0, .int .i64 s, .int .i64 0]] w fun e w' => (∃ v, e = .returned v ∧ VwH w' v [far1 s, far2 s]) ∧ New w w' := by
  go_enter Try.func14, Try.ntmps14
  go_wp2_with fail
  rw [uFar1, uFar2]
  go_ret
  refine ⟨⟨_, rfl, ?_⟩, New.trans (New.alloc _ _) (New.alloc _ _)⟩
  have := VwH.two (w.alloc (.cells #[.int .i64 43, .int .i64 0, .int .i64 0, .int .i64 0, .int .i64 s, .int .i64 0] 36)) 77 (far1 s) (far2 s) (far1_lt s) (far2_lt s)
  simpa using this
theorem and8 (t : Int) : bits .and .u16 (t % 65536) 255 = t % 256 := by
  have := u16_low (t % 65536) 8 (by decide) (by omega) (by omega)
  rw [show ((2 ^ 8 - 1 : Nat) : Int) = 255 from rfl, show ((2 ^ 8 : Nat) : Int) = 256 from rfl] at this
  omega
theorem and11 (t : Int) : bits .and .u16 (t % 65536) 2047 = t % 2048 := by
  have := u16_low (t % 65536) 11 (by decide) (by omega) (by omega)
  rw [show ((2 ^ 11 - 1 : Nat) : Int) = 2047 from rfl, show ((2 ^ 11 : Nat) : Int) = 2048 from rfl] at this
  omega
theorem half_even {s : Int} (h : s % 2 = 0) : s.tdiv 2 = s / 2 := by
  obtain ⟨t, rfl⟩ : ∃ t, s = 2 * t := ⟨s / 2, by omega⟩
  rw [Int.mul_tdiv_cancel_left _ (by decide)]
  omega
theorem qE41 (d n m s c : Int) (h : refR ⟨41, d, n, m, s, c⟩ = true) (w : World) : Calls Try.prog 14 #[.agg #[.int .i64 41, .int .i64 d, .int .i64 n, .int .i64 m, .int .i64 s, .int .i64 c]] w fun e w' => (∃ v, e = .returned v ∧ VwH w' v [refE ⟨41, d, n, m, s, c⟩]) ∧ New w w' := by
  obtain ⟨hc0, hc1, h1, h2, h3, rfl, rfl, rfl⟩ : 0 ≤ c ∧ c ≤ 13 ∧ -256 ≤ s ∧ s ≤ 254 ∧ s % 2 = 0 ∧ d = 0 ∧ n = 0 ∧ m = 0 := by
    simp [refR, formsP, useP, inP] at h
    omega
  obtain ⟨c, rfl⟩ := Int.eq_ofNat_of_zero_le hc0
  clear h
  have H3 := Lib.hid h3
  clear h3
  go_enter Try.func14, Try.ntmps14
  go_wp2_with fail
  refine (qOneH _ (53248 + c * 256 + (s / 2 % 256).toNat) (by rw [half_even H3.out, IntKind.wrap_u16, and8, u16_join 12 (53248 : Int) ((c : Int) * 256) (by omega) (by omega) (by omega) (by omega) (by omega) (by omega), u16_join 8 ((53248 : Int) + (c : Int) * 256) (s / 2 % 256) (by omega) (by omega) (by omega) (by omega) (by omega) (by omega)]; omega) (by omega) _ (w.heap.size + 1) (by simp)).mono ?_
  rintro e w1 ⟨rfl, hv, hn⟩
  have HV := Lib.hid hv
  have HN := Lib.hid hn
  clear hv hn
  go_wp2_with fail
  go_ret
  refine ⟨⟨_, rfl, ?_⟩, New.trans (New.alloc _ _) HN.out⟩
  rw [show refE ⟨41, 0, 0, 0, s, (c : Int)⟩ = 53248 + c * 256 + (s / 2 % 256).toNat from by unfold refE; simp [Bool.cond_eq_ite, Nat.blt_eq, Nat.beq_eq, nmod, ndiv, iediv, iemod]; try omega]
  exact HV.out
theorem qE42 (d n m s c : Int) (h : refR ⟨42, d, n, m, s, c⟩ = true) (w : World) : Calls Try.prog 14 #[.agg #[.int .i64 42, .int .i64 d, .int .i64 n, .int .i64 m, .int .i64 s, .int .i64 c]] w fun e w' => (∃ v, e = .returned v ∧ VwH w' v [refE ⟨42, d, n, m, s, c⟩]) ∧ New w w' := by
  obtain ⟨h1, h2, h3, rfl, rfl, rfl, rfl⟩ : -2048 ≤ s ∧ s ≤ 2046 ∧ s % 2 = 0 ∧ c = 0 ∧ d = 0 ∧ n = 0 ∧ m = 0 := by
    simp [refR, formsP, useP, inP] at h
    omega
  clear h
  have H3 := Lib.hid h3
  clear h3
  go_enter Try.func14, Try.ntmps14
  go_wp2_with fail
  refine (qOneH _ (57344 + (s / 2 % 2048).toNat) (by rw [half_even H3.out, IntKind.wrap_u16, and11, u16_join 11 (57344 : Int) (s / 2 % 2048) (by omega) (by omega) (by omega) (by omega) (by omega) (by omega)]; omega) (by omega) _ (w.heap.size + 1) (by simp)).mono ?_
  rintro e w1 ⟨rfl, hv, hn⟩
  have HV := Lib.hid hv
  have HN := Lib.hid hn
  clear hv hn
  go_wp2_with fail
  go_ret
  refine ⟨⟨_, rfl, ?_⟩, New.trans (New.alloc _ _) HN.out⟩
  rw [show refE ⟨42, 0, 0, 0, s, 0⟩ = 57344 + (s / 2 % 2048).toNat from by unfold refE; simp [Bool.cond_eq_ite, Nat.blt_eq, Nat.beq_eq, nmod, ndiv, iediv, iemod]; try omega]
  exact HV.out
end Go.Proofs.Ytibmgmgkaacibaa

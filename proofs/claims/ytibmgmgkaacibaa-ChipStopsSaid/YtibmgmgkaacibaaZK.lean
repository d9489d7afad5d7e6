/- The reference's Encode of package thumb's instructions, operation by operation. -/
import Derived.Test.YtibmgmgkaacibaaZJ
namespace Go.Proofs.Ytibmgmgkaacibaa
open Go.RowKit
set_option linter.unusedVariables false
set_option linter.unusedSimpArgs false
set_option maxRecDepth 20000
set_option maxHeartbeats 4000000
theorem qE1 (d n m s c : Int) (h : refR ⟨1, d, n, m, s, c⟩ = true) (w : World) : Calls Try.prog 14 #[.agg #[.int .i64 1, .int .i64 d, .int .i64 n, .int .i64 m, .int .i64 s, .int .i64 c]] w fun e w' => (∃ v, e = .returned v ∧ VwH w' v [refE ⟨1, d, n, m, s, c⟩]) ∧ New w w' := by
  obtain ⟨hd0, hd1, hm0, hm1, hs0, hs1, rfl, rfl⟩ : 0 ≤ d ∧ d ≤ 7 ∧ 0 ≤ m ∧ m ≤ 7 ∧ 0 ≤ s ∧ s ≤ 31 ∧ n = 0 ∧ c = 0 := by
    simp [refR, formsP, useP, inP] at h
    omega
  obtain ⟨d, rfl⟩ := Int.eq_ofNat_of_zero_le hd0
  obtain ⟨m, rfl⟩ := Int.eq_ofNat_of_zero_le hm0
  obtain ⟨s, rfl⟩ := Int.eq_ofNat_of_zero_le hs0
  clear h
  go_enter Try.func14, Try.ntmps14
  go_wp2_with fail
  refine (qOneH _ (0 + (s % 32 * 64) + (m * 8) + (d)) (by rw [u16_join 11 ((0 : Int)) ((s : Int) % 32 * 64) (by omega) (by omega) (by omega) (by omega) (by omega) (by omega), u16_join 6 ((0 : Int) + (s : Int) % 32 * 64) ((m : Int) * 8) (by omega) (by omega) (by omega) (by omega) (by omega) (by omega), u16_join 3 ((0 : Int) + (s : Int) % 32 * 64 + (m : Int) * 8) ((d : Int)) (by omega) (by omega) (by omega) (by omega) (by omega) (by omega)]; omega) (by omega) _ (w.heap.size + 1) (by simp)).mono ?_
  rintro e w1 ⟨rfl, hv, hn⟩
  have HV := Lib.hid hv
  have HN := Lib.hid hn
  clear hv hn
  go_wp2_with fail
  go_ret
  refine ⟨⟨_, rfl, ?_⟩, New.trans (New.alloc _ _) HN.out⟩
  rw [show refE ⟨1, (d : Int), 0, (m : Int), (s : Int), 0⟩ = 0 + (s % 32 * 64) + (m * 8) + (d) from by unfold refE; simp [Bool.cond_eq_ite, Nat.blt_eq, Nat.beq_eq, nmod, ndiv, iediv, iemod]; try omega]
  exact HV.out
theorem qE2 (d n m s c : Int) (h : refR ⟨2, d, n, m, s, c⟩ = true) (w : World) : Calls Try.prog 14 #[.agg #[.int .i64 2, .int .i64 d, .int .i64 n, .int .i64 m, .int .i64 s, .int .i64 c]] w fun e w' => (∃ v, e = .returned v ∧ VwH w' v [refE ⟨2, d, n, m, s, c⟩]) ∧ New w w' := by
  obtain ⟨hd0, hd1, hm0, hm1, hs0, hs2, hs1, rfl, rfl⟩ : 0 ≤ d ∧ d ≤ 7 ∧ 0 ≤ m ∧ m ≤ 7 ∧ 0 ≤ s ∧ 1 ≤ s ∧ s ≤ 32 ∧ n = 0 ∧ c = 0 := by
    simp [refR, formsP, useP, inP] at h
    omega
  obtain ⟨d, rfl⟩ := Int.eq_ofNat_of_zero_le hd0
  obtain ⟨m, rfl⟩ := Int.eq_ofNat_of_zero_le hm0
  obtain ⟨s, rfl⟩ := Int.eq_ofNat_of_zero_le hs0
  clear h
  go_enter Try.func14, Try.ntmps14
  go_wp2_with fail
  refine (qOneH _ (2048 + (s % 32 * 64) + (m * 8) + (d)) (by rw [u16_join 11 ((2048 : Int)) ((s : Int) % 32 * 64) (by omega) (by omega) (by omega) (by omega) (by omega) (by omega), u16_join 6 ((2048 : Int) + (s : Int) % 32 * 64) ((m : Int) * 8) (by omega) (by omega) (by omega) (by omega) (by omega) (by omega), u16_join 3 ((2048 : Int) + (s : Int) % 32 * 64 + (m : Int) * 8) ((d : Int)) (by omega) (by omega) (by omega) (by omega) (by omega) (by omega)]; omega) (by omega) _ (w.heap.size + 1) (by simp)).mono ?_
  rintro e w1 ⟨rfl, hv, hn⟩
  have HV := Lib.hid hv
  have HN := Lib.hid hn
  clear hv hn
  go_wp2_with fail
  go_ret
  refine ⟨⟨_, rfl, ?_⟩, New.trans (New.alloc _ _) HN.out⟩
  rw [show refE ⟨2, (d : Int), 0, (m : Int), (s : Int), 0⟩ = 2048 + (s % 32 * 64) + (m * 8) + (d) from by unfold refE; simp [Bool.cond_eq_ite, Nat.blt_eq, Nat.beq_eq, nmod, ndiv, iediv, iemod]; try omega]
  exact HV.out
theorem qE3 (d n m s c : Int) (h : refR ⟨3, d, n, m, s, c⟩ = true) (w : World) : Calls Try.prog 14 #[.agg #[.int .i64 3, .int .i64 d, .int .i64 n, .int .i64 m, .int .i64 s, .int .i64 c]] w fun e w' => (∃ v, e = .returned v ∧ VwH w' v [refE ⟨3, d, n, m, s, c⟩]) ∧ New w w' := by
  obtain ⟨hd0, hd1, hm0, hm1, hs0, hs2, hs1, rfl, rfl⟩ : 0 ≤ d ∧ d ≤ 7 ∧ 0 ≤ m ∧ m ≤ 7 ∧ 0 ≤ s ∧ 1 ≤ s ∧ s ≤ 32 ∧ n = 0 ∧ c = 0 := by
    simp [refR, formsP, useP, inP] at h
    omega
  obtain ⟨d, rfl⟩ := Int.eq_ofNat_of_zero_le hd0
  obtain ⟨m, rfl⟩ := Int.eq_ofNat_of_zero_le hm0
  obtain ⟨s, rfl⟩ := Int.eq_ofNat_of_zero_le hs0
  clear h
  go_enter Try.func14, Try.ntmps14
  go_wp2_with fail
  refine (qOneH _ (4096 + (s % 32 * 64) + (m * 8) + (d)) (by rw [u16_join 11 ((4096 : Int)) ((s : Int) % 32 * 64) (by omega) (by omega) (by omega) (by omega) (by omega) (by omega), u16_join 6 ((4096 : Int) + (s : Int) % 32 * 64) ((m : Int) * 8) (by omega) (by omega) (by omega) (by omega) (by omega) (by omega), u16_join 3 ((4096 : Int) + (s : Int) % 32 * 64 + (m : Int) * 8) ((d : Int)) (by omega) (by omega) (by omega) (by omega) (by omega) (by omega)]; omega) (by omega) _ (w.heap.size + 1) (by simp)).mono ?_
  rintro e w1 ⟨rfl, hv, hn⟩
  have HV := Lib.hid hv
  have HN := Lib.hid hn
  clear hv hn
  go_wp2_with fail
  go_ret
  refine ⟨⟨_, rfl, ?_⟩, New.trans (New.alloc _ _) HN.out⟩
  rw [show refE ⟨3, (d : Int), 0, (m : Int), (s : Int), 0⟩ = 4096 + (s % 32 * 64) + (m * 8) + (d) from by unfold refE; simp [Bool.cond_eq_ite, Nat.blt_eq, Nat.beq_eq, nmod, ndiv, iediv, iemod]; try omega]
  exact HV.out
theorem qE4 (d n m s c : Int) (h : refR ⟨4, d, n, m, s, c⟩ = true) (w : World) : Calls Try.prog 14 #[.agg #[.int .i64 4, .int .i64 d, .int .i64 n, .int .i64 m, .int .i64 s, .int .i64 c]] w fun e w' => (∃ v, e = .returned v ∧ VwH w' v [refE ⟨4, d, n, m, s, c⟩]) ∧ New w w' := by
  obtain ⟨hd0, hd1, hn0, hn1, hm0, hm1, rfl, rfl⟩ : 0 ≤ d ∧ d ≤ 7 ∧ 0 ≤ n ∧ n ≤ 7 ∧ 0 ≤ m ∧ m ≤ 7 ∧ s = 0 ∧ c = 0 := by
    simp [refR, formsP, useP, inP] at h
    omega
  obtain ⟨d, rfl⟩ := Int.eq_ofNat_of_zero_le hd0
  obtain ⟨n, rfl⟩ := Int.eq_ofNat_of_zero_le hn0
  obtain ⟨m, rfl⟩ := Int.eq_ofNat_of_zero_le hm0
  clear h
  go_enter Try.func14, Try.ntmps14
  go_wp2_with fail
  refine (qOneH _ (6144 + (m * 64) + (n * 8) + (d)) (by rw [u16_join 9 ((6144 : Int)) ((m : Int) * 64) (by omega) (by omega) (by omega) (by omega) (by omega) (by omega), u16_join 6 ((6144 : Int) + (m : Int) * 64) ((n : Int) * 8) (by omega) (by omega) (by omega) (by omega) (by omega) (by omega), u16_join 3 ((6144 : Int) + (m : Int) * 64 + (n : Int) * 8) ((d : Int)) (by omega) (by omega) (by omega) (by omega) (by omega) (by omega)]; omega) (by omega) _ (w.heap.size + 1) (by simp)).mono ?_
  rintro e w1 ⟨rfl, hv, hn⟩
  have HV := Lib.hid hv
  have HN := Lib.hid hn
  clear hv hn
  go_wp2_with fail
  go_ret
  refine ⟨⟨_, rfl, ?_⟩, New.trans (New.alloc _ _) HN.out⟩
  rw [show refE ⟨4, (d : Int), (n : Int), (m : Int), 0, 0⟩ = 6144 + (m * 64) + (n * 8) + (d) from by unfold refE; simp [Bool.cond_eq_ite, Nat.blt_eq, Nat.beq_eq, nmod, ndiv, iediv, iemod]; try omega]
  exact HV.out
theorem qE5 (d n m s c : Int) (h : refR ⟨5, d, n, m, s, c⟩ = true) (w : World) : Calls Try.prog 14 #[.agg #[.int .i64 5, .int .i64 d, .int .i64 n, .int .i64 m, .int .i64 s, .int .i64 c]] w fun e w' => (∃ v, e = .returned v ∧ VwH w' v [refE ⟨5, d, n, m, s, c⟩]) ∧ New w w' := by
  obtain ⟨hd0, hd1, hn0, hn1, hm0, hm1, rfl, rfl⟩ : 0 ≤ d ∧ d ≤ 7 ∧ 0 ≤ n ∧ n ≤ 7 ∧ 0 ≤ m ∧ m ≤ 7 ∧ s = 0 ∧ c = 0 := by
    simp [refR, formsP, useP, inP] at h
    omega
  obtain ⟨d, rfl⟩ := Int.eq_ofNat_of_zero_le hd0
  obtain ⟨n, rfl⟩ := Int.eq_ofNat_of_zero_le hn0
  obtain ⟨m, rfl⟩ := Int.eq_ofNat_of_zero_le hm0
  clear h
  go_enter Try.func14, Try.ntmps14
  go_wp2_with fail
  refine (qOneH _ (6656 + (m * 64) + (n * 8) + (d)) (by rw [u16_join 9 ((6656 : Int)) ((m : Int) * 64) (by omega) (by omega) (by omega) (by omega) (by omega) (by omega), u16_join 6 ((6656 : Int) + (m : Int) * 64) ((n : Int) * 8) (by omega) (by omega) (by omega) (by omega) (by omega) (by omega), u16_join 3 ((6656 : Int) + (m : Int) * 64 + (n : Int) * 8) ((d : Int)) (by omega) (by omega) (by omega) (by omega) (by omega) (by omega)]; omega) (by omega) _ (w.heap.size + 1) (by simp)).mono ?_
  rintro e w1 ⟨rfl, hv, hn⟩
  have HV := Lib.hid hv
  have HN := Lib.hid hn
  clear hv hn
  go_wp2_with fail
  go_ret
  refine ⟨⟨_, rfl, ?_⟩, New.trans (New.alloc _ _) HN.out⟩
  rw [show refE ⟨5, (d : Int), (n : Int), (m : Int), 0, 0⟩ = 6656 + (m * 64) + (n * 8) + (d) from by unfold refE; simp [Bool.cond_eq_ite, Nat.blt_eq, Nat.beq_eq, nmod, ndiv, iediv, iemod]; try omega]
  exact HV.out
theorem qE6 (d n m s c : Int) (h : refR ⟨6, d, n, m, s, c⟩ = true) (w : World) : Calls Try.prog 14 #[.agg #[.int .i64 6, .int .i64 d, .int .i64 n, .int .i64 m, .int .i64 s, .int .i64 c]] w fun e w' => (∃ v, e = .returned v ∧ VwH w' v [refE ⟨6, d, n, m, s, c⟩]) ∧ New w w' := by
  obtain ⟨hd0, hd1, hn0, hn1, hs0, hs1, rfl, rfl⟩ : 0 ≤ d ∧ d ≤ 7 ∧ 0 ≤ n ∧ n ≤ 7 ∧ 0 ≤ s ∧ s ≤ 7 ∧ m = 0 ∧ c = 0 := by
    simp [refR, formsP, useP, inP] at h
    omega
  obtain ⟨d, rfl⟩ := Int.eq_ofNat_of_zero_le hd0
  obtain ⟨n, rfl⟩ := Int.eq_ofNat_of_zero_le hn0
  obtain ⟨s, rfl⟩ := Int.eq_ofNat_of_zero_le hs0
  clear h
  go_enter Try.func14, Try.ntmps14
  go_wp2_with fail
  refine (qOneH _ (7168 + (s * 64) + (n * 8) + (d)) (by rw [u16_join 9 ((7168 : Int)) ((s : Int) * 64) (by omega) (by omega) (by omega) (by omega) (by omega) (by omega), u16_join 6 ((7168 : Int) + (s : Int) * 64) ((n : Int) * 8) (by omega) (by omega) (by omega) (by omega) (by omega) (by omega), u16_join 3 ((7168 : Int) + (s : Int) * 64 + (n : Int) * 8) ((d : Int)) (by omega) (by omega) (by omega) (by omega) (by omega) (by omega)]; omega) (by omega) _ (w.heap.size + 1) (by simp)).mono ?_
  rintro e w1 ⟨rfl, hv, hn⟩
  have HV := Lib.hid hv
  have HN := Lib.hid hn
  clear hv hn
  go_wp2_with fail
  go_ret
  refine ⟨⟨_, rfl, ?_⟩, New.trans (New.alloc _ _) HN.out⟩
  rw [show refE ⟨6, (d : Int), (n : Int), 0, (s : Int), 0⟩ = 7168 + (s * 64) + (n * 8) + (d) from by unfold refE; simp [Bool.cond_eq_ite, Nat.blt_eq, Nat.beq_eq, nmod, ndiv, iediv, iemod]; try omega]
  exact HV.out
theorem qE7 (d n m s c : Int) (h : refR ⟨7, d, n, m, s, c⟩ = true) (w : World) : Calls Try.prog 14 #[.agg #[.int .i64 7, .int .i64 d, .int .i64 n, .int .i64 m, .int .i64 s, .int .i64 c]] w fun e w' => (∃ v, e = .returned v ∧ VwH w' v [refE ⟨7, d, n, m, s, c⟩]) ∧ New w w' := by
  obtain ⟨hd0, hd1, hn0, hn1, hs0, hs1, rfl, rfl⟩ : 0 ≤ d ∧ d ≤ 7 ∧ 0 ≤ n ∧ n ≤ 7 ∧ 0 ≤ s ∧ s ≤ 7 ∧ m = 0 ∧ c = 0 := by
    simp [refR, formsP, useP, inP] at h
    omega
  obtain ⟨d, rfl⟩ := Int.eq_ofNat_of_zero_le hd0
  obtain ⟨n, rfl⟩ := Int.eq_ofNat_of_zero_le hn0
  obtain ⟨s, rfl⟩ := Int.eq_ofNat_of_zero_le hs0
  clear h
  go_enter Try.func14, Try.ntmps14
  go_wp2_with fail
  refine (qOneH _ (7680 + (s * 64) + (n * 8) + (d)) (by rw [u16_join 9 ((7680 : Int)) ((s : Int) * 64) (by omega) (by omega) (by omega) (by omega) (by omega) (by omega), u16_join 6 ((7680 : Int) + (s : Int) * 64) ((n : Int) * 8) (by omega) (by omega) (by omega) (by omega) (by omega) (by omega), u16_join 3 ((7680 : Int) + (s : Int) * 64 + (n : Int) * 8) ((d : Int)) (by omega) (by omega) (by omega) (by omega) (by omega) (by omega)]; omega) (by omega) _ (w.heap.size + 1) (by simp)).mono ?_
  rintro e w1 ⟨rfl, hv, hn⟩
  have HV := Lib.hid hv
  have HN := Lib.hid hn
  clear hv hn
  go_wp2_with fail
  go_ret
  refine ⟨⟨_, rfl, ?_⟩, New.trans (New.alloc _ _) HN.out⟩
  rw [show refE ⟨7, (d : Int), (n : Int), 0, (s : Int), 0⟩ = 7680 + (s * 64) + (n * 8) + (d) from by unfold refE; simp [Bool.cond_eq_ite, Nat.blt_eq, Nat.beq_eq, nmod, ndiv, iediv, iemod]; try omega]
  exact HV.out
theorem qE8 (d n m s c : Int) (h : refR ⟨8, d, n, m, s, c⟩ = true) (w : World) : Calls Try.prog 14 #[.agg #[.int .i64 8, .int .i64 d, .int .i64 n, .int .i64 m, .int .i64 s, .int .i64 c]] w fun e w' => (∃ v, e = .returned v ∧ VwH w' v [refE ⟨8, d, n, m, s, c⟩]) ∧ New w w' := by
  obtain ⟨hd0, hd1, hs0, hs1, rfl, rfl, rfl⟩ : 0 ≤ d ∧ d ≤ 7 ∧ 0 ≤ s ∧ s ≤ 255 ∧ n = 0 ∧ m = 0 ∧ c = 0 := by
    simp [refR, formsP, useP, inP] at h
    omega
  obtain ⟨d, rfl⟩ := Int.eq_ofNat_of_zero_le hd0
  obtain ⟨s, rfl⟩ := Int.eq_ofNat_of_zero_le hs0
  clear h
  go_enter Try.func14, Try.ntmps14
  go_wp2_with fail
  refine (qOneH _ (8192 + (d * 256) + (s)) (by rw [u16_join 11 ((8192 : Int)) ((d : Int) * 256) (by omega) (by omega) (by omega) (by omega) (by omega) (by omega), u16_join 8 ((8192 : Int) + (d : Int) * 256) ((s : Int)) (by omega) (by omega) (by omega) (by omega) (by omega) (by omega)]; omega) (by omega) _ (w.heap.size + 1) (by simp)).mono ?_
  rintro e w1 ⟨rfl, hv, hn⟩
  have HV := Lib.hid hv
  have HN := Lib.hid hn
  clear hv hn
  go_wp2_with fail
  go_ret
  refine ⟨⟨_, rfl, ?_⟩, New.trans (New.alloc _ _) HN.out⟩
  rw [show refE ⟨8, (d : Int), 0, 0, (s : Int), 0⟩ = 8192 + (d * 256) + (s) from by unfold refE; simp [Bool.cond_eq_ite, Nat.blt_eq, Nat.beq_eq, nmod, ndiv, iediv, iemod]; try omega]
  exact HV.out
theorem qE9 (d n m s c : Int) (h : refR ⟨9, d, n, m, s, c⟩ = true) (w : World) : Calls Try.prog 14 #[.agg #[.int .i64 9, .int .i64 d, .int .i64 n, .int .i64 m, .int .i64 s, .int .i64 c]] w fun e w' => (∃ v, e = .returned v ∧ VwH w' v [refE ⟨9, d, n, m, s, c⟩]) ∧ New w w' := by
  obtain ⟨hd0, hd1, hs0, hs1, rfl, rfl, rfl⟩ : 0 ≤ d ∧ d ≤ 7 ∧ 0 ≤ s ∧ s ≤ 255 ∧ n = 0 ∧ m = 0 ∧ c = 0 := by
    simp [refR, formsP, useP, inP] at h
    omega
  obtain ⟨d, rfl⟩ := Int.eq_ofNat_of_zero_le hd0
  obtain ⟨s, rfl⟩ := Int.eq_ofNat_of_zero_le hs0
  clear h
  go_enter Try.func14, Try.ntmps14
  go_wp2_with fail
  refine (qOneH _ (10240 + (d * 256) + (s)) (by rw [u16_join 11 ((10240 : Int)) ((d : Int) * 256) (by omega) (by omega) (by omega) (by omega) (by omega) (by omega), u16_join 8 ((10240 : Int) + (d : Int) * 256) ((s : Int)) (by omega) (by omega) (by omega) (by omega) (by omega) (by omega)]; omega) (by omega) _ (w.heap.size + 1) (by simp)).mono ?_
  rintro e w1 ⟨rfl, hv, hn⟩
  have HV := Lib.hid hv
  have HN := Lib.hid hn
  clear hv hn
  go_wp2_with fail
  go_ret
  refine ⟨⟨_, rfl, ?_⟩, New.trans (New.alloc _ _) HN.out⟩
  rw [show refE ⟨9, (d : Int), 0, 0, (s : Int), 0⟩ = 10240 + (d * 256) + (s) from by unfold refE; simp [Bool.cond_eq_ite, Nat.blt_eq, Nat.beq_eq, nmod, ndiv, iediv, iemod]; try omega]
  exact HV.out
theorem qE10 (d n m s c : Int) (h : refR ⟨10, d, n, m, s, c⟩ = true) (w : World) : Calls Try.prog 14 #[.agg #[.int .i64 10, .int .i64 d, .int .i64 n, .int .i64 m, .int .i64 s, .int .i64 c]] w fun e w' => (∃ v, e = .returned v ∧ VwH w' v [refE ⟨10, d, n, m, s, c⟩]) ∧ New w w' := by
  obtain ⟨hd0, hd1, hs0, hs1, rfl, rfl, rfl⟩ : 0 ≤ d ∧ d ≤ 7 ∧ 0 ≤ s ∧ s ≤ 255 ∧ n = 0 ∧ m = 0 ∧ c = 0 := by
    simp [refR, formsP, useP, inP] at h
    omega
  obtain ⟨d, rfl⟩ := Int.eq_ofNat_of_zero_le hd0
  obtain ⟨s, rfl⟩ := Int.eq_ofNat_of_zero_le hs0
  clear h
  go_enter Try.func14, Try.ntmps14
  go_wp2_with fail
  refine (qOneH _ (12288 + (d * 256) + (s)) (by rw [u16_join 11 ((12288 : Int)) ((d : Int) * 256) (by omega) (by omega) (by omega) (by omega) (by omega) (by omega), u16_join 8 ((12288 : Int) + (d : Int) * 256) ((s : Int)) (by omega) (by omega) (by omega) (by omega) (by omega) (by omega)]; omega) (by omega) _ (w.heap.size + 1) (by simp)).mono ?_
  rintro e w1 ⟨rfl, hv, hn⟩
  have HV := Lib.hid hv
  have HN := Lib.hid hn
  clear hv hn
  go_wp2_with fail
  go_ret
  refine ⟨⟨_, rfl, ?_⟩, New.trans (New.alloc _ _) HN.out⟩
  rw [show refE ⟨10, (d : Int), 0, 0, (s : Int), 0⟩ = 12288 + (d * 256) + (s) from by unfold refE; simp [Bool.cond_eq_ite, Nat.blt_eq, Nat.beq_eq, nmod, ndiv, iediv, iemod]; try omega]
  exact HV.out
theorem qE11 (d n m s c : Int) (h : refR ⟨11, d, n, m, s, c⟩ = true) (w : World) : Calls Try.prog 14 #[.agg #[.int .i64 11, .int .i64 d, .int .i64 n, .int .i64 m, .int .i64 s, .int .i64 c]] w fun e w' => (∃ v, e = .returned v ∧ VwH w' v [refE ⟨11, d, n, m, s, c⟩]) ∧ New w w' := by
  obtain ⟨hd0, hd1, hs0, hs1, rfl, rfl, rfl⟩ : 0 ≤ d ∧ d ≤ 7 ∧ 0 ≤ s ∧ s ≤ 255 ∧ n = 0 ∧ m = 0 ∧ c = 0 := by
    simp [refR, formsP, useP, inP] at h
    omega
  obtain ⟨d, rfl⟩ := Int.eq_ofNat_of_zero_le hd0
  obtain ⟨s, rfl⟩ := Int.eq_ofNat_of_zero_le hs0
  clear h
  go_enter Try.func14, Try.ntmps14
  go_wp2_with fail
  refine (qOneH _ (14336 + (d * 256) + (s)) (by rw [u16_join 11 ((14336 : Int)) ((d : Int) * 256) (by omega) (by omega) (by omega) (by omega) (by omega) (by omega), u16_join 8 ((14336 : Int) + (d : Int) * 256) ((s : Int)) (by omega) (by omega) (by omega) (by omega) (by omega) (by omega)]; omega) (by omega) _ (w.heap.size + 1) (by simp)).mono ?_
  rintro e w1 ⟨rfl, hv, hn⟩
  have HV := Lib.hid hv
  have HN := Lib.hid hn
  clear hv hn
  go_wp2_with fail
  go_ret
  refine ⟨⟨_, rfl, ?_⟩, New.trans (New.alloc _ _) HN.out⟩
  rw [show refE ⟨11, (d : Int), 0, 0, (s : Int), 0⟩ = 14336 + (d * 256) + (s) from by unfold refE; simp [Bool.cond_eq_ite, Nat.blt_eq, Nat.beq_eq, nmod, ndiv, iediv, iemod]; try omega]
  exact HV.out
theorem qE12 (d n m s c : Int) (h : refR ⟨12, d, n, m, s, c⟩ = true) (w : World) : Calls Try.prog 14 #[.agg #[.int .i64 12, .int .i64 d, .int .i64 n, .int .i64 m, .int .i64 s, .int .i64 c]] w fun e w' => (∃ v, e = .returned v ∧ VwH w' v [refE ⟨12, d, n, m, s, c⟩]) ∧ New w w' := by
  obtain ⟨hd0, hd1, hm0, hm1, rfl, rfl, rfl⟩ : 0 ≤ d ∧ d ≤ 7 ∧ 0 ≤ m ∧ m ≤ 7 ∧ n = 0 ∧ s = 0 ∧ c = 0 := by
    simp [refR, formsP, useP, inP] at h
    omega
  obtain ⟨d, rfl⟩ := Int.eq_ofNat_of_zero_le hd0
  obtain ⟨m, rfl⟩ := Int.eq_ofNat_of_zero_le hm0
  clear h
  go_enter Try.func14, Try.ntmps14
  go_wp2_with fail
  refine (qOneH _ (16384 + (m * 8) + (d)) (by rw [u16_join 6 ((16384 : Int)) ((m : Int) * 8) (by omega) (by omega) (by omega) (by omega) (by omega) (by omega), u16_join 3 ((16384 : Int) + (m : Int) * 8) ((d : Int)) (by omega) (by omega) (by omega) (by omega) (by omega) (by omega)]; omega) (by omega) _ (w.heap.size + 1) (by simp)).mono ?_
  rintro e w1 ⟨rfl, hv, hn⟩
  have HV := Lib.hid hv
  have HN := Lib.hid hn
  clear hv hn
  go_wp2_with fail
  go_ret
  refine ⟨⟨_, rfl, ?_⟩, New.trans (New.alloc _ _) HN.out⟩
  rw [show refE ⟨12, (d : Int), 0, (m : Int), 0, 0⟩ = 16384 + (m * 8) + (d) from by unfold refE; simp [Bool.cond_eq_ite, Nat.blt_eq, Nat.beq_eq, nmod, ndiv, iediv, iemod]; try omega]
  exact HV.out
theorem qE13 (d n m s c : Int) (h : refR ⟨13, d, n, m, s, c⟩ = true) (w : World) : Calls Try.prog 14 #[.agg #[.int .i64 13, .int .i64 d, .int .i64 n, .int .i64 m, .int .i64 s, .int .i64 c]] w fun e w' => (∃ v, e = .returned v ∧ VwH w' v [refE ⟨13, d, n, m, s, c⟩]) ∧ New w w' := by
  obtain ⟨hd0, hd1, hm0, hm1, rfl, rfl, rfl⟩ : 0 ≤ d ∧ d ≤ 7 ∧ 0 ≤ m ∧ m ≤ 7 ∧ n = 0 ∧ s = 0 ∧ c = 0 := by
    simp [refR, formsP, useP, inP] at h
    omega
  obtain ⟨d, rfl⟩ := Int.eq_ofNat_of_zero_le hd0
  obtain ⟨m, rfl⟩ := Int.eq_ofNat_of_zero_le hm0
  clear h
  go_enter Try.func14, Try.ntmps14
  go_wp2_with fail
  refine (qOneH _ (16448 + (m * 8) + (d)) (by rw [u16_join 6 ((16448 : Int)) ((m : Int) * 8) (by omega) (by omega) (by omega) (by omega) (by omega) (by omega), u16_join 3 ((16448 : Int) + (m : Int) * 8) ((d : Int)) (by omega) (by omega) (by omega) (by omega) (by omega) (by omega)]; omega) (by omega) _ (w.heap.size + 1) (by simp)).mono ?_
  rintro e w1 ⟨rfl, hv, hn⟩
  have HV := Lib.hid hv
  have HN := Lib.hid hn
  clear hv hn
  go_wp2_with fail
  go_ret
  refine ⟨⟨_, rfl, ?_⟩, New.trans (New.alloc _ _) HN.out⟩
  rw [show refE ⟨13, (d : Int), 0, (m : Int), 0, 0⟩ = 16448 + (m * 8) + (d) from by unfold refE; simp [Bool.cond_eq_ite, Nat.blt_eq, Nat.beq_eq, nmod, ndiv, iediv, iemod]; try omega]
  exact HV.out
theorem qE14 (d n m s c : Int) (h : refR ⟨14, d, n, m, s, c⟩ = true) (w : World) : Calls Try.prog 14 #[.agg #[.int .i64 14, .int .i64 d, .int .i64 n, .int .i64 m, .int .i64 s, .int .i64 c]] w fun e w' => (∃ v, e = .returned v ∧ VwH w' v [refE ⟨14, d, n, m, s, c⟩]) ∧ New w w' := by
  obtain ⟨hd0, hd1, hm0, hm1, rfl, rfl, rfl⟩ : 0 ≤ d ∧ d ≤ 7 ∧ 0 ≤ m ∧ m ≤ 7 ∧ n = 0 ∧ s = 0 ∧ c = 0 := by
    simp [refR, formsP, useP, inP] at h
    omega
  obtain ⟨d, rfl⟩ := Int.eq_ofNat_of_zero_le hd0
  obtain ⟨m, rfl⟩ := Int.eq_ofNat_of_zero_le hm0
  clear h
  go_enter Try.func14, Try.ntmps14
  go_wp2_with fail
  refine (qOneH _ (16512 + (m * 8) + (d)) (by rw [u16_join 6 ((16512 : Int)) ((m : Int) * 8) (by omega) (by omega) (by omega) (by omega) (by omega) (by omega), u16_join 3 ((16512 : Int) + (m : Int) * 8) ((d : Int)) (by omega) (by omega) (by omega) (by omega) (by omega) (by omega)]; omega) (by omega) _ (w.heap.size + 1) (by simp)).mono ?_
  rintro e w1 ⟨rfl, hv, hn⟩
  have HV := Lib.hid hv
  have HN := Lib.hid hn
  clear hv hn
  go_wp2_with fail
  go_ret
  refine ⟨⟨_, rfl, ?_⟩, New.trans (New.alloc _ _) HN.out⟩
  rw [show refE ⟨14, (d : Int), 0, (m : Int), 0, 0⟩ = 16512 + (m * 8) + (d) from by unfold refE; simp [Bool.cond_eq_ite, Nat.blt_eq, Nat.beq_eq, nmod, ndiv, iediv, iemod]; try omega]
  exact HV.out
end Go.Proofs.Ytibmgmgkaacibaa

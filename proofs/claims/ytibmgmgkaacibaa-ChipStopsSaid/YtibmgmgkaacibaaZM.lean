/- The reference's Encode of package thumb's instructions, operation by operation. -/
import Derived.Test.YtibmgmgkaacibaaZJ
namespace Go.Proofs.Ytibmgmgkaacibaa
open Go.RowKit
set_option linter.unusedVariables false
set_option linter.unusedSimpArgs false
set_option maxRecDepth 20000
set_option maxHeartbeats 4000000
theorem qE29 (d n m s c : Int) (h : refR ⟨29, d, n, m, s, c⟩ = true) (w : World) : Calls Try.prog 14 #[.agg #[.int .i64 29, .int .i64 d, .int .i64 n, .int .i64 m, .int .i64 s, .int .i64 c]] w fun e w' => (∃ v, e = .returned v ∧ VwH w' v [refE ⟨29, d, n, m, s, c⟩]) ∧ New w w' := by
  obtain ⟨hd0, hd1, hn0, hn1, hm0, hm1, rfl, rfl⟩ : 0 ≤ d ∧ d ≤ 7 ∧ 0 ≤ n ∧ n ≤ 7 ∧ 0 ≤ m ∧ m ≤ 7 ∧ s = 0 ∧ c = 0 := by
    simp [refR, formsP, useP, inP] at h
    omega
  obtain ⟨d, rfl⟩ := Int.eq_ofNat_of_zero_le hd0
  obtain ⟨n, rfl⟩ := Int.eq_ofNat_of_zero_le hn0
  obtain ⟨m, rfl⟩ := Int.eq_ofNat_of_zero_le hm0
  clear h
  go_enter Try.func14, Try.ntmps14
  go_wp2_with fail
  refine (qOneH _ (22528 + (m * 64) + (n * 8) + (d)) (by rw [u16_join 9 ((22528 : Int)) ((m : Int) * 64) (by omega) (by omega) (by omega) (by omega) (by omega) (by omega), u16_join 6 ((22528 : Int) + (m : Int) * 64) ((n : Int) * 8) (by omega) (by omega) (by omega) (by omega) (by omega) (by omega), u16_join 3 ((22528 : Int) + (m : Int) * 64 + (n : Int) * 8) ((d : Int)) (by omega) (by omega) (by omega) (by omega) (by omega) (by omega)]; omega) (by omega) _ (w.heap.size + 1) (by simp)).mono ?_
  rintro e w1 ⟨rfl, hv, hn⟩
  have HV := Lib.hid hv
  have HN := Lib.hid hn
  clear hv hn
  go_wp2_with fail
  go_ret
  refine ⟨⟨_, rfl, ?_⟩, New.trans (New.alloc _ _) HN.out⟩
  rw [show refE ⟨29, (d : Int), (n : Int), (m : Int), 0, 0⟩ = 22528 + (m * 64) + (n * 8) + (d) from by unfold refE; simp [Bool.cond_eq_ite, Nat.blt_eq, Nat.beq_eq, nmod, ndiv, iediv, iemod]; try omega]
  exact HV.out
theorem qE30 (d n m s c : Int) (h : refR ⟨30, d, n, m, s, c⟩ = true) (w : World) : Calls Try.prog 14 #[.agg #[.int .i64 30, .int .i64 d, .int .i64 n, .int .i64 m, .int .i64 s, .int .i64 c]] w fun e w' => (∃ v, e = .returned v ∧ VwH w' v [refE ⟨30, d, n, m, s, c⟩]) ∧ New w w' := by
  obtain ⟨hd0, hd1, hn0, hn1, hm0, hm1, rfl, rfl⟩ : 0 ≤ d ∧ d ≤ 7 ∧ 0 ≤ n ∧ n ≤ 7 ∧ 0 ≤ m ∧ m ≤ 7 ∧ s = 0 ∧ c = 0 := by
    simp [refR, formsP, useP, inP] at h
    omega
  obtain ⟨d, rfl⟩ := Int.eq_ofNat_of_zero_le hd0
  obtain ⟨n, rfl⟩ := Int.eq_ofNat_of_zero_le hn0
  obtain ⟨m, rfl⟩ := Int.eq_ofNat_of_zero_le hm0
  clear h
  go_enter Try.func14, Try.ntmps14
  go_wp2_with fail
  refine (qOneH _ (20480 + (m * 64) + (n * 8) + (d)) (by rw [u16_join 9 ((20480 : Int)) ((m : Int) * 64) (by omega) (by omega) (by omega) (by omega) (by omega) (by omega), u16_join 6 ((20480 : Int) + (m : Int) * 64) ((n : Int) * 8) (by omega) (by omega) (by omega) (by omega) (by omega) (by omega), u16_join 3 ((20480 : Int) + (m : Int) * 64 + (n : Int) * 8) ((d : Int)) (by omega) (by omega) (by omega) (by omega) (by omega) (by omega)]; omega) (by omega) _ (w.heap.size + 1) (by simp)).mono ?_
  rintro e w1 ⟨rfl, hv, hn⟩
  have HV := Lib.hid hv
  have HN := Lib.hid hn
  clear hv hn
  go_wp2_with fail
  go_ret
  refine ⟨⟨_, rfl, ?_⟩, New.trans (New.alloc _ _) HN.out⟩
  rw [show refE ⟨30, (d : Int), (n : Int), (m : Int), 0, 0⟩ = 20480 + (m * 64) + (n * 8) + (d) from by unfold refE; simp [Bool.cond_eq_ite, Nat.blt_eq, Nat.beq_eq, nmod, ndiv, iediv, iemod]; try omega]
  exact HV.out
theorem qE31 (d n m s c : Int) (h : refR ⟨31, d, n, m, s, c⟩ = true) (w : World) : Calls Try.prog 14 #[.agg #[.int .i64 31, .int .i64 d, .int .i64 n, .int .i64 m, .int .i64 s, .int .i64 c]] w fun e w' => (∃ v, e = .returned v ∧ VwH w' v [refE ⟨31, d, n, m, s, c⟩]) ∧ New w w' := by
  obtain ⟨hd0, hd1, hn0, hn1, hs0, hs1, rfl, rfl⟩ : 0 ≤ d ∧ d ≤ 7 ∧ 0 ≤ n ∧ n ≤ 7 ∧ 0 ≤ s ∧ s ≤ 124 ∧ m = 0 ∧ c = 0 := by
    simp [refR, formsP, useP, inP] at h
    omega
  obtain ⟨d, rfl⟩ := Int.eq_ofNat_of_zero_le hd0
  obtain ⟨n, rfl⟩ := Int.eq_ofNat_of_zero_le hn0
  obtain ⟨s, rfl⟩ := Int.eq_ofNat_of_zero_le hs0
  clear h
  go_enter Try.func14, Try.ntmps14
  go_wp2_with fail
  refine (qOneH _ (26624 + (s / 4 * 64) + (n * 8) + (d)) (by rw [u16_join 11 ((26624 : Int)) ((s : Int) / 4 * 64) (by omega) (by omega) (by omega) (by omega) (by omega) (by omega), u16_join 6 ((26624 : Int) + (s : Int) / 4 * 64) ((n : Int) * 8) (by omega) (by omega) (by omega) (by omega) (by omega) (by omega), u16_join 3 ((26624 : Int) + (s : Int) / 4 * 64 + (n : Int) * 8) ((d : Int)) (by omega) (by omega) (by omega) (by omega) (by omega) (by omega)]; omega) (by omega) _ (w.heap.size + 1) (by simp)).mono ?_
  rintro e w1 ⟨rfl, hv, hn⟩
  have HV := Lib.hid hv
  have HN := Lib.hid hn
  clear hv hn
  go_wp2_with fail
  go_ret
  refine ⟨⟨_, rfl, ?_⟩, New.trans (New.alloc _ _) HN.out⟩
  rw [show refE ⟨31, (d : Int), (n : Int), 0, (s : Int), 0⟩ = 26624 + (s / 4 * 64) + (n * 8) + (d) from by unfold refE; simp [Bool.cond_eq_ite, Nat.blt_eq, Nat.beq_eq, nmod, ndiv, iediv, iemod]; try omega]
  exact HV.out
theorem qE32 (d n m s c : Int) (h : refR ⟨32, d, n, m, s, c⟩ = true) (w : World) : Calls Try.prog 14 #[.agg #[.int .i64 32, .int .i64 d, .int .i64 n, .int .i64 m, .int .i64 s, .int .i64 c]] w fun e w' => (∃ v, e = .returned v ∧ VwH w' v [refE ⟨32, d, n, m, s, c⟩]) ∧ New w w' := by
  obtain ⟨hd0, hd1, hn0, hn1, hs0, hs1, rfl, rfl⟩ : 0 ≤ d ∧ d ≤ 7 ∧ 0 ≤ n ∧ n ≤ 7 ∧ 0 ≤ s ∧ s ≤ 124 ∧ m = 0 ∧ c = 0 := by
    simp [refR, formsP, useP, inP] at h
    omega
  obtain ⟨d, rfl⟩ := Int.eq_ofNat_of_zero_le hd0
  obtain ⟨n, rfl⟩ := Int.eq_ofNat_of_zero_le hn0
  obtain ⟨s, rfl⟩ := Int.eq_ofNat_of_zero_le hs0
  clear h
  go_enter Try.func14, Try.ntmps14
  go_wp2_with fail
  refine (qOneH _ (24576 + (s / 4 * 64) + (n * 8) + (d)) (by rw [u16_join 11 ((24576 : Int)) ((s : Int) / 4 * 64) (by omega) (by omega) (by omega) (by omega) (by omega) (by omega), u16_join 6 ((24576 : Int) + (s : Int) / 4 * 64) ((n : Int) * 8) (by omega) (by omega) (by omega) (by omega) (by omega) (by omega), u16_join 3 ((24576 : Int) + (s : Int) / 4 * 64 + (n : Int) * 8) ((d : Int)) (by omega) (by omega) (by omega) (by omega) (by omega) (by omega)]; omega) (by omega) _ (w.heap.size + 1) (by simp)).mono ?_
  rintro e w1 ⟨rfl, hv, hn⟩
  have HV := Lib.hid hv
  have HN := Lib.hid hn
  clear hv hn
  go_wp2_with fail
  go_ret
  refine ⟨⟨_, rfl, ?_⟩, New.trans (New.alloc _ _) HN.out⟩
  rw [show refE ⟨32, (d : Int), (n : Int), 0, (s : Int), 0⟩ = 24576 + (s / 4 * 64) + (n * 8) + (d) from by unfold refE; simp [Bool.cond_eq_ite, Nat.blt_eq, Nat.beq_eq, nmod, ndiv, iediv, iemod]; try omega]
  exact HV.out
theorem qE33 (d n m s c : Int) (h : refR ⟨33, d, n, m, s, c⟩ = true) (w : World) : Calls Try.prog 14 #[.agg #[.int .i64 33, .int .i64 d, .int .i64 n, .int .i64 m, .int .i64 s, .int .i64 c]] w fun e w' => (∃ v, e = .returned v ∧ VwH w' v [refE ⟨33, d, n, m, s, c⟩]) ∧ New w w' := by
  obtain ⟨hd0, hd1, hn0, hn1, hs0, hs1, rfl, rfl⟩ : 0 ≤ d ∧ d ≤ 7 ∧ 0 ≤ n ∧ n ≤ 7 ∧ 0 ≤ s ∧ s ≤ 31 ∧ m = 0 ∧ c = 0 := by
    simp [refR, formsP, useP, inP] at h
    omega
  obtain ⟨d, rfl⟩ := Int.eq_ofNat_of_zero_le hd0
  obtain ⟨n, rfl⟩ := Int.eq_ofNat_of_zero_le hn0
  obtain ⟨s, rfl⟩ := Int.eq_ofNat_of_zero_le hs0
  clear h
  go_enter Try.func14, Try.ntmps14
  go_wp2_with fail
  refine (qOneH _ (30720 + (s * 64) + (n * 8) + (d)) (by rw [u16_join 11 ((30720 : Int)) ((s : Int) * 64) (by omega) (by omega) (by omega) (by omega) (by omega) (by omega), u16_join 6 ((30720 : Int) + (s : Int) * 64) ((n : Int) * 8) (by omega) (by omega) (by omega) (by omega) (by omega) (by omega), u16_join 3 ((30720 : Int) + (s : Int) * 64 + (n : Int) * 8) ((d : Int)) (by omega) (by omega) (by omega) (by omega) (by omega) (by omega)]; omega) (by omega) _ (w.heap.size + 1) (by simp)).mono ?_
  rintro e w1 ⟨rfl, hv, hn⟩
  have HV := Lib.hid hv
  have HN := Lib.hid hn
  clear hv hn
  go_wp2_with fail
  go_ret
  refine ⟨⟨_, rfl, ?_⟩, New.trans (New.alloc _ _) HN.out⟩
  rw [show refE ⟨33, (d : Int), (n : Int), 0, (s : Int), 0⟩ = 30720 + (s * 64) + (n * 8) + (d) from by unfold refE; simp [Bool.cond_eq_ite, Nat.blt_eq, Nat.beq_eq, nmod, ndiv, iediv, iemod]; try omega]
  exact HV.out
theorem qE34 (d n m s c : Int) (h : refR ⟨34, d, n, m, s, c⟩ = true) (w : World) : Calls Try.prog 14 #[.agg #[.int .i64 34, .int .i64 d, .int .i64 n, .int .i64 m, .int .i64 s, .int .i64 c]] w fun e w' => (∃ v, e = .returned v ∧ VwH w' v [refE ⟨34, d, n, m, s, c⟩]) ∧ New w w' := by
  obtain ⟨hd0, hd1, hn0, hn1, hs0, hs1, rfl, rfl⟩ : 0 ≤ d ∧ d ≤ 7 ∧ 0 ≤ n ∧ n ≤ 7 ∧ 0 ≤ s ∧ s ≤ 31 ∧ m = 0 ∧ c = 0 := by
    simp [refR, formsP, useP, inP] at h
    omega
  obtain ⟨d, rfl⟩ := Int.eq_ofNat_of_zero_le hd0
  obtain ⟨n, rfl⟩ := Int.eq_ofNat_of_zero_le hn0
  obtain ⟨s, rfl⟩ := Int.eq_ofNat_of_zero_le hs0
  clear h
  go_enter Try.func14, Try.ntmps14
  go_wp2_with fail
  refine (qOneH _ (28672 + (s * 64) + (n * 8) + (d)) (by rw [u16_join 11 ((28672 : Int)) ((s : Int) * 64) (by omega) (by omega) (by omega) (by omega) (by omega) (by omega), u16_join 6 ((28672 : Int) + (s : Int) * 64) ((n : Int) * 8) (by omega) (by omega) (by omega) (by omega) (by omega) (by omega), u16_join 3 ((28672 : Int) + (s : Int) * 64 + (n : Int) * 8) ((d : Int)) (by omega) (by omega) (by omega) (by omega) (by omega) (by omega)]; omega) (by omega) _ (w.heap.size + 1) (by simp)).mono ?_
  rintro e w1 ⟨rfl, hv, hn⟩
  have HV := Lib.hid hv
  have HN := Lib.hid hn
  clear hv hn
  go_wp2_with fail
  go_ret
  refine ⟨⟨_, rfl, ?_⟩, New.trans (New.alloc _ _) HN.out⟩
  rw [show refE ⟨34, (d : Int), (n : Int), 0, (s : Int), 0⟩ = 28672 + (s * 64) + (n * 8) + (d) from by unfold refE; simp [Bool.cond_eq_ite, Nat.blt_eq, Nat.beq_eq, nmod, ndiv, iediv, iemod]; try omega]
  exact HV.out
theorem qE35 (d n m s c : Int) (h : refR ⟨35, d, n, m, s, c⟩ = true) (w : World) : Calls Try.prog 14 #[.agg #[.int .i64 35, .int .i64 d, .int .i64 n, .int .i64 m, .int .i64 s, .int .i64 c]] w fun e w' => (∃ v, e = .returned v ∧ VwH w' v [refE ⟨35, d, n, m, s, c⟩]) ∧ New w w' := by
  obtain ⟨hd0, hd1, hs0, hs1, rfl, rfl, rfl⟩ : 0 ≤ d ∧ d ≤ 7 ∧ 0 ≤ s ∧ s ≤ 1020 ∧ n = 0 ∧ m = 0 ∧ c = 0 := by
    simp [refR, formsP, useP, inP] at h
    omega
  obtain ⟨d, rfl⟩ := Int.eq_ofNat_of_zero_le hd0
  obtain ⟨s, rfl⟩ := Int.eq_ofNat_of_zero_le hs0
  clear h
  go_enter Try.func14, Try.ntmps14
  go_wp2_with fail
  refine (qOneH _ (38912 + (d * 256) + (s / 4)) (by rw [u16_join 11 ((38912 : Int)) ((d : Int) * 256) (by omega) (by omega) (by omega) (by omega) (by omega) (by omega), u16_join 8 ((38912 : Int) + (d : Int) * 256) ((s : Int) / 4) (by omega) (by omega) (by omega) (by omega) (by omega) (by omega)]; omega) (by omega) _ (w.heap.size + 1) (by simp)).mono ?_
  rintro e w1 ⟨rfl, hv, hn⟩
  have HV := Lib.hid hv
  have HN := Lib.hid hn
  clear hv hn
  go_wp2_with fail
  go_ret
  refine ⟨⟨_, rfl, ?_⟩, New.trans (New.alloc _ _) HN.out⟩
  rw [show refE ⟨35, (d : Int), 0, 0, (s : Int), 0⟩ = 38912 + (d * 256) + (s / 4) from by unfold refE; simp [Bool.cond_eq_ite, Nat.blt_eq, Nat.beq_eq, nmod, ndiv, iediv, iemod]; try omega]
  exact HV.out
theorem qE36 (d n m s c : Int) (h : refR ⟨36, d, n, m, s, c⟩ = true) (w : World) : Calls Try.prog 14 #[.agg #[.int .i64 36, .int .i64 d, .int .i64 n, .int .i64 m, .int .i64 s, .int .i64 c]] w fun e w' => (∃ v, e = .returned v ∧ VwH w' v [refE ⟨36, d, n, m, s, c⟩]) ∧ New w w' := by
  obtain ⟨hd0, hd1, hs0, hs1, rfl, rfl, rfl⟩ : 0 ≤ d ∧ d ≤ 7 ∧ 0 ≤ s ∧ s ≤ 1020 ∧ n = 0 ∧ m = 0 ∧ c = 0 := by
    simp [refR, formsP, useP, inP] at h
    omega
  obtain ⟨d, rfl⟩ := Int.eq_ofNat_of_zero_le hd0
  obtain ⟨s, rfl⟩ := Int.eq_ofNat_of_zero_le hs0
  clear h
  go_enter Try.func14, Try.ntmps14
  go_wp2_with fail
  refine (qOneH _ (36864 + (d * 256) + (s / 4)) (by rw [u16_join 11 ((36864 : Int)) ((d : Int) * 256) (by omega) (by omega) (by omega) (by omega) (by omega) (by omega), u16_join 8 ((36864 : Int) + (d : Int) * 256) ((s : Int) / 4) (by omega) (by omega) (by omega) (by omega) (by omega) (by omega)]; omega) (by omega) _ (w.heap.size + 1) (by simp)).mono ?_
  rintro e w1 ⟨rfl, hv, hn⟩
  have HV := Lib.hid hv
  have HN := Lib.hid hn
  clear hv hn
  go_wp2_with fail
  go_ret
  refine ⟨⟨_, rfl, ?_⟩, New.trans (New.alloc _ _) HN.out⟩
  rw [show refE ⟨36, (d : Int), 0, 0, (s : Int), 0⟩ = 36864 + (d * 256) + (s / 4) from by unfold refE; simp [Bool.cond_eq_ite, Nat.blt_eq, Nat.beq_eq, nmod, ndiv, iediv, iemod]; try omega]
  exact HV.out
theorem qE37 (d n m s c : Int) (h : refR ⟨37, d, n, m, s, c⟩ = true) (w : World) : Calls Try.prog 14 #[.agg #[.int .i64 37, .int .i64 d, .int .i64 n, .int .i64 m, .int .i64 s, .int .i64 c]] w fun e w' => (∃ v, e = .returned v ∧ VwH w' v [refE ⟨37, d, n, m, s, c⟩]) ∧ New w w' := by
  obtain ⟨hs0, hs1, rfl, rfl, rfl, rfl⟩ : 0 ≤ s ∧ s ≤ 508 ∧ d = 0 ∧ n = 0 ∧ m = 0 ∧ c = 0 := by
    simp [refR, formsP, useP, inP] at h
    omega
  obtain ⟨s, rfl⟩ := Int.eq_ofNat_of_zero_le hs0
  clear h
  go_enter Try.func14, Try.ntmps14
  go_wp2_with fail
  refine (qOneH _ (45056 + (s / 4)) (by rw [u16_join 7 ((45056 : Int)) ((s : Int) / 4) (by omega) (by omega) (by omega) (by omega) (by omega) (by omega)]; omega) (by omega) _ (w.heap.size + 1) (by simp)).mono ?_
  rintro e w1 ⟨rfl, hv, hn⟩
  have HV := Lib.hid hv
  have HN := Lib.hid hn
  clear hv hn
  go_wp2_with fail
  go_ret
  refine ⟨⟨_, rfl, ?_⟩, New.trans (New.alloc _ _) HN.out⟩
  rw [show refE ⟨37, 0, 0, 0, (s : Int), 0⟩ = 45056 + (s / 4) from by unfold refE; simp [Bool.cond_eq_ite, Nat.blt_eq, Nat.beq_eq, nmod, ndiv, iediv, iemod]; try omega]
  exact HV.out
theorem qE38 (d n m s c : Int) (h : refR ⟨38, d, n, m, s, c⟩ = true) (w : World) : Calls Try.prog 14 #[.agg #[.int .i64 38, .int .i64 d, .int .i64 n, .int .i64 m, .int .i64 s, .int .i64 c]] w fun e w' => (∃ v, e = .returned v ∧ VwH w' v [refE ⟨38, d, n, m, s, c⟩]) ∧ New w w' := by
  obtain ⟨hs0, hs1, rfl, rfl, rfl, rfl⟩ : 0 ≤ s ∧ s ≤ 508 ∧ d = 0 ∧ n = 0 ∧ m = 0 ∧ c = 0 := by
    simp [refR, formsP, useP, inP] at h
    omega
  obtain ⟨s, rfl⟩ := Int.eq_ofNat_of_zero_le hs0
  clear h
  go_enter Try.func14, Try.ntmps14
  go_wp2_with fail
  refine (qOneH _ (45184 + (s / 4)) (by rw [u16_join 7 ((45184 : Int)) ((s : Int) / 4) (by omega) (by omega) (by omega) (by omega) (by omega) (by omega)]; omega) (by omega) _ (w.heap.size + 1) (by simp)).mono ?_
  rintro e w1 ⟨rfl, hv, hn⟩
  have HV := Lib.hid hv
  have HN := Lib.hid hn
  clear hv hn
  go_wp2_with fail
  go_ret
  refine ⟨⟨_, rfl, ?_⟩, New.trans (New.alloc _ _) HN.out⟩
  rw [show refE ⟨38, 0, 0, 0, (s : Int), 0⟩ = 45184 + (s / 4) from by unfold refE; simp [Bool.cond_eq_ite, Nat.blt_eq, Nat.beq_eq, nmod, ndiv, iediv, iemod]; try omega]
  exact HV.out
theorem qE39 (d n m s c : Int) (h : refR ⟨39, d, n, m, s, c⟩ = true) (w : World) : Calls Try.prog 14 #[.agg #[.int .i64 39, .int .i64 d, .int .i64 n, .int .i64 m, .int .i64 s, .int .i64 c]] w fun e w' => (∃ v, e = .returned v ∧ VwH w' v [refE ⟨39, d, n, m, s, c⟩]) ∧ New w w' := by
  obtain ⟨hs0, hs2, hs1, rfl, rfl, rfl, rfl⟩ : 0 ≤ s ∧ 1 ≤ s ∧ s ≤ 511 ∧ d = 0 ∧ n = 0 ∧ m = 0 ∧ c = 0 := by
    simp [refR, formsP, useP, inP] at h
    omega
  obtain ⟨s, rfl⟩ := Int.eq_ofNat_of_zero_le hs0
  clear h
  go_enter Try.func14, Try.ntmps14
  go_wp2_with fail
  refine (qOneH _ (46080 + (s)) (by rw [u16_join 9 ((46080 : Int)) ((s : Int)) (by omega) (by omega) (by omega) (by omega) (by omega) (by omega)]; omega) (by omega) _ (w.heap.size + 1) (by simp)).mono ?_
  rintro e w1 ⟨rfl, hv, hn⟩
  have HV := Lib.hid hv
  have HN := Lib.hid hn
  clear hv hn
  go_wp2_with fail
  go_ret
  refine ⟨⟨_, rfl, ?_⟩, New.trans (New.alloc _ _) HN.out⟩
  rw [show refE ⟨39, 0, 0, 0, (s : Int), 0⟩ = 46080 + (s) from by unfold refE; simp [Bool.cond_eq_ite, Nat.blt_eq, Nat.beq_eq, nmod, ndiv, iediv, iemod]; try omega]
  exact HV.out
theorem qE40 (d n m s c : Int) (h : refR ⟨40, d, n, m, s, c⟩ = true) (w : World) : Calls Try.prog 14 #[.agg #[.int .i64 40, .int .i64 d, .int .i64 n, .int .i64 m, .int .i64 s, .int .i64 c]] w fun e w' => (∃ v, e = .returned v ∧ VwH w' v [refE ⟨40, d, n, m, s, c⟩]) ∧ New w w' := by
  obtain ⟨hs0, hs2, hs1, rfl, rfl, rfl, rfl⟩ : 0 ≤ s ∧ 1 ≤ s ∧ s ≤ 511 ∧ d = 0 ∧ n = 0 ∧ m = 0 ∧ c = 0 := by
    simp [refR, formsP, useP, inP] at h
    omega
  obtain ⟨s, rfl⟩ := Int.eq_ofNat_of_zero_le hs0
  clear h
  go_enter Try.func14, Try.ntmps14
  go_wp2_with fail
  refine (qOneH _ (48128 + (s)) (by rw [u16_join 9 ((48128 : Int)) ((s : Int)) (by omega) (by omega) (by omega) (by omega) (by omega) (by omega)]; omega) (by omega) _ (w.heap.size + 1) (by simp)).mono ?_
  rintro e w1 ⟨rfl, hv, hn⟩
  have HV := Lib.hid hv
  have HN := Lib.hid hn
  clear hv hn
  go_wp2_with fail
  go_ret
  refine ⟨⟨_, rfl, ?_⟩, New.trans (New.alloc _ _) HN.out⟩
  rw [show refE ⟨40, 0, 0, 0, (s : Int), 0⟩ = 48128 + (s) from by unfold refE; simp [Bool.cond_eq_ite, Nat.blt_eq, Nat.beq_eq, nmod, ndiv, iediv, iemod]; try omega]
  exact HV.out
theorem qE44 (d n m s c : Int) (h : refR ⟨44, d, n, m, s, c⟩ = true) (w : World) : Calls Try.prog 14 #[.agg #[.int .i64 44, .int .i64 d, .int .i64 n, .int .i64 m, .int .i64 s, .int .i64 c]] w fun e w' => (∃ v, e = .returned v ∧ VwH w' v [refE ⟨44, d, n, m, s, c⟩]) ∧ New w w' := by
  obtain ⟨hs0, hs1, rfl, rfl, rfl, rfl⟩ : 0 ≤ s ∧ s ≤ 255 ∧ d = 0 ∧ n = 0 ∧ m = 0 ∧ c = 0 := by
    simp [refR, formsP, useP, inP] at h
    omega
  obtain ⟨s, rfl⟩ := Int.eq_ofNat_of_zero_le hs0
  clear h
  go_enter Try.func14, Try.ntmps14
  go_wp2_with fail
  refine (qOneH _ (57088 + (s)) (by rw [u16_join 8 ((57088 : Int)) ((s : Int)) (by omega) (by omega) (by omega) (by omega) (by omega) (by omega)]; omega) (by omega) _ (w.heap.size + 1) (by simp)).mono ?_
  rintro e w1 ⟨rfl, hv, hn⟩
  have HV := Lib.hid hv
  have HN := Lib.hid hn
  clear hv hn
  go_wp2_with fail
  go_ret
  refine ⟨⟨_, rfl, ?_⟩, New.trans (New.alloc _ _) HN.out⟩
  rw [show refE ⟨44, 0, 0, 0, (s : Int), 0⟩ = 57088 + (s) from by unfold refE; simp [Bool.cond_eq_ite, Nat.blt_eq, Nat.beq_eq, nmod, ndiv, iediv, iemod]; try omega]
  exact HV.out
theorem qE45 (d n m s c : Int) (h : refR ⟨45, d, n, m, s, c⟩ = true) (w : World) : Calls Try.prog 14 #[.agg #[.int .i64 45, .int .i64 d, .int .i64 n, .int .i64 m, .int .i64 s, .int .i64 c]] w fun e w' => (∃ v, e = .returned v ∧ VwH w' v [refE ⟨45, d, n, m, s, c⟩]) ∧ New w w' := by
  obtain ⟨rfl, rfl, rfl, rfl, rfl⟩ : d = 0 ∧ n = 0 ∧ m = 0 ∧ s = 0 ∧ c = 0 := by
    simp [refR, formsP, useP, inP] at h
    omega
  clear h
  go_enter Try.func14, Try.ntmps14
  go_wp2_with fail
  refine (qOneH _ (48896) (by omega) (by omega) _ (w.heap.size + 1) (by simp)).mono ?_
  rintro e w1 ⟨rfl, hv, hn⟩
  have HV := Lib.hid hv
  have HN := Lib.hid hn
  clear hv hn
  go_wp2_with fail
  go_ret
  refine ⟨⟨_, rfl, ?_⟩, New.trans (New.alloc _ _) HN.out⟩
  rw [show refE ⟨45, 0, 0, 0, 0, 0⟩ = 48896 from by unfold refE; simp [Bool.cond_eq_ite, Nat.blt_eq, Nat.beq_eq, nmod, ndiv, iediv, iemod]; try omega]
  exact HV.out
end Go.Proofs.Ytibmgmgkaacibaa

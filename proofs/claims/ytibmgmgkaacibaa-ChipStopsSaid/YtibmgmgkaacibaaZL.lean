/- The reference's Encode of package thumb's instructions, operation by operation. -/
import Derived.Test.YtibmgmgkaacibaaZJ
namespace Go.Proofs.Ytibmgmgkaacibaa
open Go.RowKit
set_option linter.unusedVariables false
set_option linter.unusedSimpArgs false
set_option maxRecDepth 20000
set_option maxHeartbeats 4000000
theorem qE15 (d n m s c : Int) (h : refR ⟨15, d, n, m, s, c⟩ = true) (w : World) : Calls Try.prog 14 #[.agg #[.int .i64 15, .int .i64 d, .int .i64 n, .int .i64 m, .int .i64 s, .int .i64 c]] w fun e w' => (∃ v, e = .returned v ∧ VwH w' v [refE ⟨15, d, n, m, s, c⟩]) ∧ New w w' := by
  obtain ⟨hd0, hd1, hm0, hm1, rfl, rfl, rfl⟩ : 0 ≤ d ∧ d ≤ 7 ∧ 0 ≤ m ∧ m ≤ 7 ∧ n = 0 ∧ s = 0 ∧ c = 0 := by
    simp [refR, formsP, useP, inP] at h
    omega
  obtain ⟨d, rfl⟩ := Int.eq_ofNat_of_zero_le hd0
  obtain ⟨m, rfl⟩ := Int.eq_ofNat_of_zero_le hm0
  clear h
  go_enter Try.func14, Try.ntmps14
  go_wp2_with fail
  refine (qOneH _ (16576 + (m * 8) + (d)) (by rw [u16_join 6 ((16576 : Int)) ((m : Int) * 8) (by omega) (by omega) (by omega) (by omega) (by omega) (by omega), u16_join 3 ((16576 : Int) + (m : Int) * 8) ((d : Int)) (by omega) (by omega) (by omega) (by omega) (by omega) (by omega)]; omega) (by omega) _ (w.heap.size + 1) (by simp)).mono ?_
  rintro e w1 ⟨rfl, hv, hn⟩
  have HV := Lib.hid hv
  have HN := Lib.hid hn
  clear hv hn
  go_wp2_with fail
  go_ret
  refine ⟨⟨_, rfl, ?_⟩, New.trans (New.alloc _ _) HN.out⟩
  rw [show refE ⟨15, (d : Int), 0, (m : Int), 0, 0⟩ = 16576 + (m * 8) + (d) from by unfold refE; simp [Bool.cond_eq_ite, Nat.blt_eq, Nat.beq_eq, nmod, ndiv, iediv, iemod]; try omega]
  exact HV.out
theorem qE16 (d n m s c : Int) (h : refR ⟨16, d, n, m, s, c⟩ = true) (w : World) : Calls Try.prog 14 #[.agg #[.int .i64 16, .int .i64 d, .int .i64 n, .int .i64 m, .int .i64 s, .int .i64 c]] w fun e w' => (∃ v, e = .returned v ∧ VwH w' v [refE ⟨16, d, n, m, s, c⟩]) ∧ New w w' := by
  obtain ⟨hd0, hd1, hm0, hm1, rfl, rfl, rfl⟩ : 0 ≤ d ∧ d ≤ 7 ∧ 0 ≤ m ∧ m ≤ 7 ∧ n = 0 ∧ s = 0 ∧ c = 0 := by
    simp [refR, formsP, useP, inP] at h
    omega
  obtain ⟨d, rfl⟩ := Int.eq_ofNat_of_zero_le hd0
  obtain ⟨m, rfl⟩ := Int.eq_ofNat_of_zero_le hm0
  clear h
  go_enter Try.func14, Try.ntmps14
  go_wp2_with fail
  refine (qOneH _ (16640 + (m * 8) + (d)) (by rw [u16_join 6 ((16640 : Int)) ((m : Int) * 8) (by omega) (by omega) (by omega) (by omega) (by omega) (by omega), u16_join 3 ((16640 : Int) + (m : Int) * 8) ((d : Int)) (by omega) (by omega) (by omega) (by omega) (by omega) (by omega)]; omega) (by omega) _ (w.heap.size + 1) (by simp)).mono ?_
  rintro e w1 ⟨rfl, hv, hn⟩
  have HV := Lib.hid hv
  have HN := Lib.hid hn
  clear hv hn
  go_wp2_with fail
  go_ret
  refine ⟨⟨_, rfl, ?_⟩, New.trans (New.alloc _ _) HN.out⟩
  rw [show refE ⟨16, (d : Int), 0, (m : Int), 0, 0⟩ = 16640 + (m * 8) + (d) from by unfold refE; simp [Bool.cond_eq_ite, Nat.blt_eq, Nat.beq_eq, nmod, ndiv, iediv, iemod]; try omega]
  exact HV.out
theorem qE17 (d n m s c : Int) (h : refR ⟨17, d, n, m, s, c⟩ = true) (w : World) : Calls Try.prog 14 #[.agg #[.int .i64 17, .int .i64 d, .int .i64 n, .int .i64 m, .int .i64 s, .int .i64 c]] w fun e w' => (∃ v, e = .returned v ∧ VwH w' v [refE ⟨17, d, n, m, s, c⟩]) ∧ New w w' := by
  obtain ⟨hd0, hd1, hm0, hm1, rfl, rfl, rfl⟩ : 0 ≤ d ∧ d ≤ 7 ∧ 0 ≤ m ∧ m ≤ 7 ∧ n = 0 ∧ s = 0 ∧ c = 0 := by
    simp [refR, formsP, useP, inP] at h
    omega
  obtain ⟨d, rfl⟩ := Int.eq_ofNat_of_zero_le hd0
  obtain ⟨m, rfl⟩ := Int.eq_ofNat_of_zero_le hm0
  clear h
  go_enter Try.func14, Try.ntmps14
  go_wp2_with fail
  refine (qOneH _ (16704 + (m * 8) + (d)) (by rw [u16_join 6 ((16704 : Int)) ((m : Int) * 8) (by omega) (by omega) (by omega) (by omega) (by omega) (by omega), u16_join 3 ((16704 : Int) + (m : Int) * 8) ((d : Int)) (by omega) (by omega) (by omega) (by omega) (by omega) (by omega)]; omega) (by omega) _ (w.heap.size + 1) (by simp)).mono ?_
  rintro e w1 ⟨rfl, hv, hn⟩
  have HV := Lib.hid hv
  have HN := Lib.hid hn
  clear hv hn
  go_wp2_with fail
  go_ret
  refine ⟨⟨_, rfl, ?_⟩, New.trans (New.alloc _ _) HN.out⟩
  rw [show refE ⟨17, (d : Int), 0, (m : Int), 0, 0⟩ = 16704 + (m * 8) + (d) from by unfold refE; simp [Bool.cond_eq_ite, Nat.blt_eq, Nat.beq_eq, nmod, ndiv, iediv, iemod]; try omega]
  exact HV.out
theorem qE18 (d n m s c : Int) (h : refR ⟨18, d, n, m, s, c⟩ = true) (w : World) : Calls Try.prog 14 #[.agg #[.int .i64 18, .int .i64 d, .int .i64 n, .int .i64 m, .int .i64 s, .int .i64 c]] w fun e w' => (∃ v, e = .returned v ∧ VwH w' v [refE ⟨18, d, n, m, s, c⟩]) ∧ New w w' := by
  obtain ⟨hd0, hd1, hm0, hm1, rfl, rfl, rfl⟩ : 0 ≤ d ∧ d ≤ 7 ∧ 0 ≤ m ∧ m ≤ 7 ∧ n = 0 ∧ s = 0 ∧ c = 0 := by
    simp [refR, formsP, useP, inP] at h
    omega
  obtain ⟨d, rfl⟩ := Int.eq_ofNat_of_zero_le hd0
  obtain ⟨m, rfl⟩ := Int.eq_ofNat_of_zero_le hm0
  clear h
  go_enter Try.func14, Try.ntmps14
  go_wp2_with fail
  refine (qOneH _ (16768 + (m * 8) + (d)) (by rw [u16_join 6 ((16768 : Int)) ((m : Int) * 8) (by omega) (by omega) (by omega) (by omega) (by omega) (by omega), u16_join 3 ((16768 : Int) + (m : Int) * 8) ((d : Int)) (by omega) (by omega) (by omega) (by omega) (by omega) (by omega)]; omega) (by omega) _ (w.heap.size + 1) (by simp)).mono ?_
  rintro e w1 ⟨rfl, hv, hn⟩
  have HV := Lib.hid hv
  have HN := Lib.hid hn
  clear hv hn
  go_wp2_with fail
  go_ret
  refine ⟨⟨_, rfl, ?_⟩, New.trans (New.alloc _ _) HN.out⟩
  rw [show refE ⟨18, (d : Int), 0, (m : Int), 0, 0⟩ = 16768 + (m * 8) + (d) from by unfold refE; simp [Bool.cond_eq_ite, Nat.blt_eq, Nat.beq_eq, nmod, ndiv, iediv, iemod]; try omega]
  exact HV.out
theorem qE19 (d n m s c : Int) (h : refR ⟨19, d, n, m, s, c⟩ = true) (w : World) : Calls Try.prog 14 #[.agg #[.int .i64 19, .int .i64 d, .int .i64 n, .int .i64 m, .int .i64 s, .int .i64 c]] w fun e w' => (∃ v, e = .returned v ∧ VwH w' v [refE ⟨19, d, n, m, s, c⟩]) ∧ New w w' := by
  obtain ⟨hd0, hd1, hm0, hm1, rfl, rfl, rfl⟩ : 0 ≤ d ∧ d ≤ 7 ∧ 0 ≤ m ∧ m ≤ 7 ∧ n = 0 ∧ s = 0 ∧ c = 0 := by
    simp [refR, formsP, useP, inP] at h
    omega
  obtain ⟨d, rfl⟩ := Int.eq_ofNat_of_zero_le hd0
  obtain ⟨m, rfl⟩ := Int.eq_ofNat_of_zero_le hm0
  clear h
  go_enter Try.func14, Try.ntmps14
  go_wp2_with fail
  refine (qOneH _ (16832 + (m * 8) + (d)) (by rw [u16_join 6 ((16832 : Int)) ((m : Int) * 8) (by omega) (by omega) (by omega) (by omega) (by omega) (by omega), u16_join 3 ((16832 : Int) + (m : Int) * 8) ((d : Int)) (by omega) (by omega) (by omega) (by omega) (by omega) (by omega)]; omega) (by omega) _ (w.heap.size + 1) (by simp)).mono ?_
  rintro e w1 ⟨rfl, hv, hn⟩
  have HV := Lib.hid hv
  have HN := Lib.hid hn
  clear hv hn
  go_wp2_with fail
  go_ret
  refine ⟨⟨_, rfl, ?_⟩, New.trans (New.alloc _ _) HN.out⟩
  rw [show refE ⟨19, (d : Int), 0, (m : Int), 0, 0⟩ = 16832 + (m * 8) + (d) from by unfold refE; simp [Bool.cond_eq_ite, Nat.blt_eq, Nat.beq_eq, nmod, ndiv, iediv, iemod]; try omega]
  exact HV.out
theorem qE20 (d n m s c : Int) (h : refR ⟨20, d, n, m, s, c⟩ = true) (w : World) : Calls Try.prog 14 #[.agg #[.int .i64 20, .int .i64 d, .int .i64 n, .int .i64 m, .int .i64 s, .int .i64 c]] w fun e w' => (∃ v, e = .returned v ∧ VwH w' v [refE ⟨20, d, n, m, s, c⟩]) ∧ New w w' := by
  obtain ⟨hd0, hd1, hm0, hm1, rfl, rfl, rfl⟩ : 0 ≤ d ∧ d ≤ 7 ∧ 0 ≤ m ∧ m ≤ 7 ∧ n = 0 ∧ s = 0 ∧ c = 0 := by
    simp [refR, formsP, useP, inP] at h
    omega
  obtain ⟨d, rfl⟩ := Int.eq_ofNat_of_zero_le hd0
  obtain ⟨m, rfl⟩ := Int.eq_ofNat_of_zero_le hm0
  clear h
  go_enter Try.func14, Try.ntmps14
  go_wp2_with fail
  refine (qOneH _ (16896 + (m * 8) + (d)) (by rw [u16_join 6 ((16896 : Int)) ((m : Int) * 8) (by omega) (by omega) (by omega) (by omega) (by omega) (by omega), u16_join 3 ((16896 : Int) + (m : Int) * 8) ((d : Int)) (by omega) (by omega) (by omega) (by omega) (by omega) (by omega)]; omega) (by omega) _ (w.heap.size + 1) (by simp)).mono ?_
  rintro e w1 ⟨rfl, hv, hn⟩
  have HV := Lib.hid hv
  have HN := Lib.hid hn
  clear hv hn
  go_wp2_with fail
  go_ret
  refine ⟨⟨_, rfl, ?_⟩, New.trans (New.alloc _ _) HN.out⟩
  rw [show refE ⟨20, (d : Int), 0, (m : Int), 0, 0⟩ = 16896 + (m * 8) + (d) from by unfold refE; simp [Bool.cond_eq_ite, Nat.blt_eq, Nat.beq_eq, nmod, ndiv, iediv, iemod]; try omega]
  exact HV.out
theorem qE21 (d n m s c : Int) (h : refR ⟨21, d, n, m, s, c⟩ = true) (w : World) : Calls Try.prog 14 #[.agg #[.int .i64 21, .int .i64 d, .int .i64 n, .int .i64 m, .int .i64 s, .int .i64 c]] w fun e w' => (∃ v, e = .returned v ∧ VwH w' v [refE ⟨21, d, n, m, s, c⟩]) ∧ New w w' := by
  obtain ⟨hd0, hd1, hm0, hm1, rfl, rfl, rfl⟩ : 0 ≤ d ∧ d ≤ 7 ∧ 0 ≤ m ∧ m ≤ 7 ∧ n = 0 ∧ s = 0 ∧ c = 0 := by
    simp [refR, formsP, useP, inP] at h
    omega
  obtain ⟨d, rfl⟩ := Int.eq_ofNat_of_zero_le hd0
  obtain ⟨m, rfl⟩ := Int.eq_ofNat_of_zero_le hm0
  clear h
  go_enter Try.func14, Try.ntmps14
  go_wp2_with fail
  refine (qOneH _ (16960 + (m * 8) + (d)) (by rw [u16_join 6 ((16960 : Int)) ((m : Int) * 8) (by omega) (by omega) (by omega) (by omega) (by omega) (by omega), u16_join 3 ((16960 : Int) + (m : Int) * 8) ((d : Int)) (by omega) (by omega) (by omega) (by omega) (by omega) (by omega)]; omega) (by omega) _ (w.heap.size + 1) (by simp)).mono ?_
  rintro e w1 ⟨rfl, hv, hn⟩
  have HV := Lib.hid hv
  have HN := Lib.hid hn
  clear hv hn
  go_wp2_with fail
  go_ret
  refine ⟨⟨_, rfl, ?_⟩, New.trans (New.alloc _ _) HN.out⟩
  rw [show refE ⟨21, (d : Int), 0, (m : Int), 0, 0⟩ = 16960 + (m * 8) + (d) from by unfold refE; simp [Bool.cond_eq_ite, Nat.blt_eq, Nat.beq_eq, nmod, ndiv, iediv, iemod]; try omega]
  exact HV.out
theorem qE22 (d n m s c : Int) (h : refR ⟨22, d, n, m, s, c⟩ = true) (w : World) : Calls Try.prog 14 #[.agg #[.int .i64 22, .int .i64 d, .int .i64 n, .int .i64 m, .int .i64 s, .int .i64 c]] w fun e w' => (∃ v, e = .returned v ∧ VwH w' v [refE ⟨22, d, n, m, s, c⟩]) ∧ New w w' := by
  obtain ⟨hd0, hd1, hm0, hm1, rfl, rfl, rfl⟩ : 0 ≤ d ∧ d ≤ 7 ∧ 0 ≤ m ∧ m ≤ 7 ∧ n = 0 ∧ s = 0 ∧ c = 0 := by
    simp [refR, formsP, useP, inP] at h
    omega
  obtain ⟨d, rfl⟩ := Int.eq_ofNat_of_zero_le hd0
  obtain ⟨m, rfl⟩ := Int.eq_ofNat_of_zero_le hm0
  clear h
  go_enter Try.func14, Try.ntmps14
  go_wp2_with fail
  refine (qOneH _ (17024 + (m * 8) + (d)) (by rw [u16_join 6 ((17024 : Int)) ((m : Int) * 8) (by omega) (by omega) (by omega) (by omega) (by omega) (by omega), u16_join 3 ((17024 : Int) + (m : Int) * 8) ((d : Int)) (by omega) (by omega) (by omega) (by omega) (by omega) (by omega)]; omega) (by omega) _ (w.heap.size + 1) (by simp)).mono ?_
  rintro e w1 ⟨rfl, hv, hn⟩
  have HV := Lib.hid hv
  have HN := Lib.hid hn
  clear hv hn
  go_wp2_with fail
  go_ret
  refine ⟨⟨_, rfl, ?_⟩, New.trans (New.alloc _ _) HN.out⟩
  rw [show refE ⟨22, (d : Int), 0, (m : Int), 0, 0⟩ = 17024 + (m * 8) + (d) from by unfold refE; simp [Bool.cond_eq_ite, Nat.blt_eq, Nat.beq_eq, nmod, ndiv, iediv, iemod]; try omega]
  exact HV.out
theorem qE23 (d n m s c : Int) (h : refR ⟨23, d, n, m, s, c⟩ = true) (w : World) : Calls Try.prog 14 #[.agg #[.int .i64 23, .int .i64 d, .int .i64 n, .int .i64 m, .int .i64 s, .int .i64 c]] w fun e w' => (∃ v, e = .returned v ∧ VwH w' v [refE ⟨23, d, n, m, s, c⟩]) ∧ New w w' := by
  obtain ⟨hd0, hd1, hm0, hm1, rfl, rfl, rfl⟩ : 0 ≤ d ∧ d ≤ 7 ∧ 0 ≤ m ∧ m ≤ 7 ∧ n = 0 ∧ s = 0 ∧ c = 0 := by
    simp [refR, formsP, useP, inP] at h
    omega
  obtain ⟨d, rfl⟩ := Int.eq_ofNat_of_zero_le hd0
  obtain ⟨m, rfl⟩ := Int.eq_ofNat_of_zero_le hm0
  clear h
  go_enter Try.func14, Try.ntmps14
  go_wp2_with fail
  refine (qOneH _ (17088 + (m * 8) + (d)) (by rw [u16_join 6 ((17088 : Int)) ((m : Int) * 8) (by omega) (by omega) (by omega) (by omega) (by omega) (by omega), u16_join 3 ((17088 : Int) + (m : Int) * 8) ((d : Int)) (by omega) (by omega) (by omega) (by omega) (by omega) (by omega)]; omega) (by omega) _ (w.heap.size + 1) (by simp)).mono ?_
  rintro e w1 ⟨rfl, hv, hn⟩
  have HV := Lib.hid hv
  have HN := Lib.hid hn
  clear hv hn
  go_wp2_with fail
  go_ret
  refine ⟨⟨_, rfl, ?_⟩, New.trans (New.alloc _ _) HN.out⟩
  rw [show refE ⟨23, (d : Int), 0, (m : Int), 0, 0⟩ = 17088 + (m * 8) + (d) from by unfold refE; simp [Bool.cond_eq_ite, Nat.blt_eq, Nat.beq_eq, nmod, ndiv, iediv, iemod]; try omega]
  exact HV.out
theorem qE24 (d n m s c : Int) (h : refR ⟨24, d, n, m, s, c⟩ = true) (w : World) : Calls Try.prog 14 #[.agg #[.int .i64 24, .int .i64 d, .int .i64 n, .int .i64 m, .int .i64 s, .int .i64 c]] w fun e w' => (∃ v, e = .returned v ∧ VwH w' v [refE ⟨24, d, n, m, s, c⟩]) ∧ New w w' := by
  obtain ⟨hd0, hd1, hm0, hm1, rfl, rfl, rfl⟩ : 0 ≤ d ∧ d ≤ 7 ∧ 0 ≤ m ∧ m ≤ 7 ∧ n = 0 ∧ s = 0 ∧ c = 0 := by
    simp [refR, formsP, useP, inP] at h
    omega
  obtain ⟨d, rfl⟩ := Int.eq_ofNat_of_zero_le hd0
  obtain ⟨m, rfl⟩ := Int.eq_ofNat_of_zero_le hm0
  clear h
  go_enter Try.func14, Try.ntmps14
  go_wp2_with fail
  refine (qOneH _ (17152 + (m * 8) + (d)) (by rw [u16_join 6 ((17152 : Int)) ((m : Int) * 8) (by omega) (by omega) (by omega) (by omega) (by omega) (by omega), u16_join 3 ((17152 : Int) + (m : Int) * 8) ((d : Int)) (by omega) (by omega) (by omega) (by omega) (by omega) (by omega)]; omega) (by omega) _ (w.heap.size + 1) (by simp)).mono ?_
  rintro e w1 ⟨rfl, hv, hn⟩
  have HV := Lib.hid hv
  have HN := Lib.hid hn
  clear hv hn
  go_wp2_with fail
  go_ret
  refine ⟨⟨_, rfl, ?_⟩, New.trans (New.alloc _ _) HN.out⟩
  rw [show refE ⟨24, (d : Int), 0, (m : Int), 0, 0⟩ = 17152 + (m * 8) + (d) from by unfold refE; simp [Bool.cond_eq_ite, Nat.blt_eq, Nat.beq_eq, nmod, ndiv, iediv, iemod]; try omega]
  exact HV.out
theorem qE25 (d n m s c : Int) (h : refR ⟨25, d, n, m, s, c⟩ = true) (w : World) : Calls Try.prog 14 #[.agg #[.int .i64 25, .int .i64 d, .int .i64 n, .int .i64 m, .int .i64 s, .int .i64 c]] w fun e w' => (∃ v, e = .returned v ∧ VwH w' v [refE ⟨25, d, n, m, s, c⟩]) ∧ New w w' := by
  obtain ⟨hd0, hd1, hm0, hm1, rfl, rfl, rfl⟩ : 0 ≤ d ∧ d ≤ 7 ∧ 0 ≤ m ∧ m ≤ 7 ∧ n = 0 ∧ s = 0 ∧ c = 0 := by
    simp [refR, formsP, useP, inP] at h
    omega
  obtain ⟨d, rfl⟩ := Int.eq_ofNat_of_zero_le hd0
  obtain ⟨m, rfl⟩ := Int.eq_ofNat_of_zero_le hm0
  clear h
  go_enter Try.func14, Try.ntmps14
  go_wp2_with fail
  refine (qOneH _ (17216 + (m * 8) + (d)) (by rw [u16_join 6 ((17216 : Int)) ((m : Int) * 8) (by omega) (by omega) (by omega) (by omega) (by omega) (by omega), u16_join 3 ((17216 : Int) + (m : Int) * 8) ((d : Int)) (by omega) (by omega) (by omega) (by omega) (by omega) (by omega)]; omega) (by omega) _ (w.heap.size + 1) (by simp)).mono ?_
  rintro e w1 ⟨rfl, hv, hn⟩
  have HV := Lib.hid hv
  have HN := Lib.hid hn
  clear hv hn
  go_wp2_with fail
  go_ret
  refine ⟨⟨_, rfl, ?_⟩, New.trans (New.alloc _ _) HN.out⟩
  rw [show refE ⟨25, (d : Int), 0, (m : Int), 0, 0⟩ = 17216 + (m * 8) + (d) from by unfold refE; simp [Bool.cond_eq_ite, Nat.blt_eq, Nat.beq_eq, nmod, ndiv, iediv, iemod]; try omega]
  exact HV.out
theorem qE26 (d n m s c : Int) (h : refR ⟨26, d, n, m, s, c⟩ = true) (w : World) : Calls Try.prog 14 #[.agg #[.int .i64 26, .int .i64 d, .int .i64 n, .int .i64 m, .int .i64 s, .int .i64 c]] w fun e w' => (∃ v, e = .returned v ∧ VwH w' v [refE ⟨26, d, n, m, s, c⟩]) ∧ New w w' := by
  obtain ⟨hd0, hd1, hm0, hm1, rfl, rfl, rfl⟩ : 0 ≤ d ∧ d ≤ 7 ∧ 0 ≤ m ∧ m ≤ 7 ∧ n = 0 ∧ s = 0 ∧ c = 0 := by
    simp [refR, formsP, useP, inP] at h
    omega
  obtain ⟨d, rfl⟩ := Int.eq_ofNat_of_zero_le hd0
  obtain ⟨m, rfl⟩ := Int.eq_ofNat_of_zero_le hm0
  clear h
  go_enter Try.func14, Try.ntmps14
  go_wp2_with fail
  refine (qOneH _ (17280 + (m * 8) + (d)) (by rw [u16_join 6 ((17280 : Int)) ((m : Int) * 8) (by omega) (by omega) (by omega) (by omega) (by omega) (by omega), u16_join 3 ((17280 : Int) + (m : Int) * 8) ((d : Int)) (by omega) (by omega) (by omega) (by omega) (by omega) (by omega)]; omega) (by omega) _ (w.heap.size + 1) (by simp)).mono ?_
  rintro e w1 ⟨rfl, hv, hn⟩
  have HV := Lib.hid hv
  have HN := Lib.hid hn
  clear hv hn
  go_wp2_with fail
  go_ret
  refine ⟨⟨_, rfl, ?_⟩, New.trans (New.alloc _ _) HN.out⟩
  rw [show refE ⟨26, (d : Int), 0, (m : Int), 0, 0⟩ = 17280 + (m * 8) + (d) from by unfold refE; simp [Bool.cond_eq_ite, Nat.blt_eq, Nat.beq_eq, nmod, ndiv, iediv, iemod]; try omega]
  exact HV.out
theorem qE27 (d n m s c : Int) (h : refR ⟨27, d, n, m, s, c⟩ = true) (w : World) : Calls Try.prog 14 #[.agg #[.int .i64 27, .int .i64 d, .int .i64 n, .int .i64 m, .int .i64 s, .int .i64 c]] w fun e w' => (∃ v, e = .returned v ∧ VwH w' v [refE ⟨27, d, n, m, s, c⟩]) ∧ New w w' := by
  obtain ⟨hd0, hd1, hm0, hm1, rfl, rfl, rfl⟩ : 0 ≤ d ∧ d ≤ 7 ∧ 0 ≤ m ∧ m ≤ 7 ∧ n = 0 ∧ s = 0 ∧ c = 0 := by
    simp [refR, formsP, useP, inP] at h
    omega
  obtain ⟨d, rfl⟩ := Int.eq_ofNat_of_zero_le hd0
  obtain ⟨m, rfl⟩ := Int.eq_ofNat_of_zero_le hm0
  clear h
  go_enter Try.func14, Try.ntmps14
  go_wp2_with fail
  refine (qOneH _ (17344 + (m * 8) + (d)) (by rw [u16_join 6 ((17344 : Int)) ((m : Int) * 8) (by omega) (by omega) (by omega) (by omega) (by omega) (by omega), u16_join 3 ((17344 : Int) + (m : Int) * 8) ((d : Int)) (by omega) (by omega) (by omega) (by omega) (by omega) (by omega)]; omega) (by omega) _ (w.heap.size + 1) (by simp)).mono ?_
  rintro e w1 ⟨rfl, hv, hn⟩
  have HV := Lib.hid hv
  have HN := Lib.hid hn
  clear hv hn
  go_wp2_with fail
  go_ret
  refine ⟨⟨_, rfl, ?_⟩, New.trans (New.alloc _ _) HN.out⟩
  rw [show refE ⟨27, (d : Int), 0, (m : Int), 0, 0⟩ = 17344 + (m * 8) + (d) from by unfold refE; simp [Bool.cond_eq_ite, Nat.blt_eq, Nat.beq_eq, nmod, ndiv, iediv, iemod]; try omega]
  exact HV.out
theorem qE28 (d n m s c : Int) (h : refR ⟨28, d, n, m, s, c⟩ = true) (w : World) : Calls Try.prog 14 #[.agg #[.int .i64 28, .int .i64 d, .int .i64 n, .int .i64 m, .int .i64 s, .int .i64 c]] w fun e w' => (∃ v, e = .returned v ∧ VwH w' v [refE ⟨28, d, n, m, s, c⟩]) ∧ New w w' := by
  obtain ⟨hd0, hd1, hm0, hm1, rfl, rfl, rfl⟩ : 0 ≤ d ∧ d ≤ 14 ∧ 0 ≤ m ∧ m ≤ 14 ∧ n = 0 ∧ s = 0 ∧ c = 0 := by
    simp [refR, formsP, useP, inP] at h
    omega
  obtain ⟨d, rfl⟩ := Int.eq_ofNat_of_zero_le hd0
  obtain ⟨m, rfl⟩ := Int.eq_ofNat_of_zero_le hm0
  clear h
  go_enter Try.func14, Try.ntmps14
  go_wp2_with fail
  refine (qOneH _ (17920 + (d / 8 * 128) + (m * 8) + (d % 8)) (by rw [u16_join 8 ((17920 : Int)) ((d : Int) / 8 * 128) (by omega) (by omega) (by omega) (by omega) (by omega) (by omega), u16_join 7 ((17920 : Int) + (d : Int) / 8 * 128) ((m : Int) * 8) (by omega) (by omega) (by omega) (by omega) (by omega) (by omega), u16_join 3 ((17920 : Int) + (d : Int) / 8 * 128 + (m : Int) * 8) ((d : Int) % 8) (by omega) (by omega) (by omega) (by omega) (by omega) (by omega)]; omega) (by omega) _ (w.heap.size + 1) (by simp)).mono ?_
  rintro e w1 ⟨rfl, hv, hn⟩
  have HV := Lib.hid hv
  have HN := Lib.hid hn
  clear hv hn
  go_wp2_with fail
  go_ret
  refine ⟨⟨_, rfl, ?_⟩, New.trans (New.alloc _ _) HN.out⟩
  rw [show refE ⟨28, (d : Int), 0, (m : Int), 0, 0⟩ = 17920 + (d / 8 * 128) + (m * 8) + (d % 8) from by unfold refE; simp [Bool.cond_eq_ite, Nat.blt_eq, Nat.beq_eq, nmod, ndiv, iediv, iemod]; try omega]
  exact HV.out
end Go.Proofs.Ytibmgmgkaacibaa

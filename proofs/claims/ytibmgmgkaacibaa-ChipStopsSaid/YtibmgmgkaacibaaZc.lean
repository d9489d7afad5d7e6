/- Package thumb: a row's calls: has, may, lay, take; barred, atLeast. -/
import Derived.Test.YtibmgmgkaacibaaZb
namespace Go.Proofs.Ytibmgmgkaacibaa
open Go.RowKit
set_option linter.unusedVariables false

theorem Upd.drewN (S : Nat → Prop) (w : World) (q : Nat) : Upd S w (w.drewN q) := ⟨rfl, rfl, rfl, Nat.le_refl _, fun _ _ _ => rfl⟩
abbrev New (w w' : World) : Prop := Upd (fun _ => False) w w'
theorem New.trans {a b c : World} (h : New a b) (k : New b c) : New a c := Upd.trans h k (fun _ h _ => h)
theorem New.alloc (w : World) (o : Obj) : New w (w.alloc o) := Upd.alloc _ w o

set_option maxHeartbeats 1000000 in
theorem tHas (r : Rw) (hr : r.Ok) (h : Nat) (hh : h < 65536) (w : World) : Calls Try.prog 60 #[r.val, .int .u16 (h : Int)] w fun e w' => e = .returned (.bool (hasP r h)) ∧ New w w' := by
  have h1 := hr.p.okL.lt
  have h2 := hr.d.okL.lt
  clear hr
  go_enter Try.func60, Try.ntmps60
  go_wp2
  go_ret
  exact ⟨rfl, New.alloc _ _⟩

set_option maxHeartbeats 1000000 in
theorem tBarred (i : I6) (w : World) : Calls Try.prog 87 #[i.val] w fun e w' => e = .returned (.bool (barP i)) ∧ New w w' := by
  cases h1 : (i.op == 28)
  · cases h2 : (i.op == 41)
    · go_enter Try.func87, Try.ntmps87
      go_wp2
      go_ret
      exact ⟨by simp [barP, h1, h2], New.alloc _ _⟩
    · go_enter Try.func87, Try.ntmps87
      go_wp2
      go_ret
      exact ⟨by simp [barP, h1, h2], New.alloc _ _⟩
  · cases h3 : (i.d == 13) <;> cases h4 : (i.d == 15)
    all_goals
      go_enter Try.func87, Try.ntmps87
      go_wp2
      go_ret
      exact ⟨by simp [barP, h1, h3, h4], New.alloc _ _⟩

theorem least_eq (least n : Int) (width : Nat) (h1 : -16777216 ≤ least ∧ least ≤ 1) (h2 : 0 ≤ n ∧ n < 67108864) (h3 : width ≤ 25) :
    wrap64 (least + bits .and .i64 (n - least) (wrap64 (wrap64 (2 ^ width) - 1))) = leastP least n width := by
  have hp : (2 : Int) ^ width ≤ 2 ^ 25 := by exact_mod_cast Nat.pow_le_pow_right (by decide : 0 < 2) h3
  have h0 : (0 : Int) < 2 ^ width := Int.pow_pos (by decide)
  have e1 : wrap64 (wrap64 (2 ^ width) - 1) = 2 ^ width - 1 := by
    generalize (2 : Int) ^ width = P at *
    unfold wrap64; omega
  rw [e1, i64_and_low _ _ (by omega)]
  unfold leastP
  have h4 := Int.emod_nonneg (n - least) (by omega : (2 : Int) ^ width ≠ 0)
  have h5 := Int.emod_lt_of_pos (n - least) h0
  unfold wrap64; omega

set_option maxHeartbeats 1000000 in
theorem tAtLeast (least n : Int) (width : Nat) (h1 : -16777216 ≤ least ∧ least ≤ 1) (h2 : 0 ≤ n ∧ n < 67108864) (h3 : width ≤ 25) (w : World) :
    Calls Try.prog 85 #[.int .i64 least, .int .i64 n, .int .i64 (width : Int)] w fun e w' => e = .returned (.int .i64 (leastP least n width)) ∧ w = w' := by
  have H := Lib.hid (least_eq least n width h1 h2 h3)
  go_enter Try.func85, Try.ntmps85
  go_wp2
  go_ret
  exact ⟨by rw [← H.out]; rfl, rfl⟩

/-- the low bits of a number, behind a shift that is small -/
theorem may_eq (x : Int) (k : Nat) (hk : k < 3) : (bits .and .i64 x (wrap64 (wrap64 (2 ^ k) - 1)) == 0) = (x % 2 ^ k == 0) := by
  have e1 : wrap64 (wrap64 (2 ^ k) - 1) = 2 ^ k - 1 := by
    have : k = 0 ∨ k = 1 ∨ k = 2 := by omega
    rcases this with rfl | rfl | rfl <;> decide +kernel
  rw [e1, i64_and_low _ _ (by omega)]

set_option maxHeartbeats 2000000 in
theorem tMay (r : Rw) (hr : r.Ok) (i : I6) (hi : i.Ok) (w : World) : Calls Try.prog 62 #[r.val, i.val] w fun e w' => e = .returned (.bool (mayP r i)) ∧ New w w' := by
  have HE := Lib.hid (may_eq i.imm r.halved hr.halved)
  have HH := hr.halved
  have HD := Lib.hid hr.d
  have HN := Lib.hid hr.n
  have HM := Lib.hid hr.m
  have HC := Lib.hid hr.cond
  have hl := hr.least
  have hm := hr.most
  clear hr hi
  cases c1 : fitP i.d r.d
  · go_enter Try.func62, Try.ntmps62
    go_wp2_with (first
      | (with_reducible refine (tFits _ _ HD.out _).mono ?_; rintro e _ ⟨rfl, q1, rfl⟩)
      | (with_reducible refine (tFits _ _ HN.out _).mono ?_; rintro e _ ⟨rfl, q2, rfl⟩)
      | (with_reducible refine (tFits _ _ HM.out _).mono ?_; rintro e _ ⟨rfl, q3, rfl⟩)
      | (with_reducible refine (tFits _ _ HC.out _).mono ?_; rintro e _ ⟨rfl, q4, rfl⟩)
      | (with_reducible refine (tBarred _ _).mono ?_; rintro e w9 ⟨rfl, HB⟩))
    go_ret
    exact ⟨by simp [mayP, c1], by (repeat (first | exact Upd.refl _ _ | refine New.trans ?_ (Upd.drewN _ _ _) | refine New.trans ?_ (New.alloc _ _)))⟩
  cases c2 : fitP i.n r.n
  · go_enter Try.func62, Try.ntmps62
    go_wp2_with (first
      | (with_reducible refine (tFits _ _ HD.out _).mono ?_; rintro e _ ⟨rfl, q1, rfl⟩)
      | (with_reducible refine (tFits _ _ HN.out _).mono ?_; rintro e _ ⟨rfl, q2, rfl⟩)
      | (with_reducible refine (tFits _ _ HM.out _).mono ?_; rintro e _ ⟨rfl, q3, rfl⟩)
      | (with_reducible refine (tFits _ _ HC.out _).mono ?_; rintro e _ ⟨rfl, q4, rfl⟩)
      | (with_reducible refine (tBarred _ _).mono ?_; rintro e w9 ⟨rfl, HB⟩))
    go_ret
    exact ⟨by simp [mayP, c1, c2], by (repeat (first | exact Upd.refl _ _ | refine New.trans ?_ (Upd.drewN _ _ _) | refine New.trans ?_ (New.alloc _ _)))⟩
  cases c3 : fitP i.m r.m
  · go_enter Try.func62, Try.ntmps62
    go_wp2_with (first
      | (with_reducible refine (tFits _ _ HD.out _).mono ?_; rintro e _ ⟨rfl, q1, rfl⟩)
      | (with_reducible refine (tFits _ _ HN.out _).mono ?_; rintro e _ ⟨rfl, q2, rfl⟩)
      | (with_reducible refine (tFits _ _ HM.out _).mono ?_; rintro e _ ⟨rfl, q3, rfl⟩)
      | (with_reducible refine (tFits _ _ HC.out _).mono ?_; rintro e _ ⟨rfl, q4, rfl⟩)
      | (with_reducible refine (tBarred _ _).mono ?_; rintro e w9 ⟨rfl, HB⟩))
    go_ret
    exact ⟨by simp [mayP, c1, c2, c3], by (repeat (first | exact Upd.refl _ _ | refine New.trans ?_ (Upd.drewN _ _ _) | refine New.trans ?_ (New.alloc _ _)))⟩
  cases c4 : fitP i.cond r.cond
  · go_enter Try.func62, Try.ntmps62
    go_wp2_with (first
      | (with_reducible refine (tFits _ _ HD.out _).mono ?_; rintro e _ ⟨rfl, q1, rfl⟩)
      | (with_reducible refine (tFits _ _ HN.out _).mono ?_; rintro e _ ⟨rfl, q2, rfl⟩)
      | (with_reducible refine (tFits _ _ HM.out _).mono ?_; rintro e _ ⟨rfl, q3, rfl⟩)
      | (with_reducible refine (tFits _ _ HC.out _).mono ?_; rintro e _ ⟨rfl, q4, rfl⟩)
      | (with_reducible refine (tBarred _ _).mono ?_; rintro e w9 ⟨rfl, HB⟩))
    go_ret
    exact ⟨by simp [mayP, c1, c2, c3, c4], by (repeat (first | exact Upd.refl _ _ | refine New.trans ?_ (Upd.drewN _ _ _) | refine New.trans ?_ (New.alloc _ _)))⟩
  cases c5 : decide (r.least ≤ i.imm)
  · go_enter Try.func62, Try.ntmps62
    go_wp2_with (first
      | (with_reducible refine (tFits _ _ HD.out _).mono ?_; rintro e _ ⟨rfl, q1, rfl⟩)
      | (with_reducible refine (tFits _ _ HN.out _).mono ?_; rintro e _ ⟨rfl, q2, rfl⟩)
      | (with_reducible refine (tFits _ _ HM.out _).mono ?_; rintro e _ ⟨rfl, q3, rfl⟩)
      | (with_reducible refine (tFits _ _ HC.out _).mono ?_; rintro e _ ⟨rfl, q4, rfl⟩)
      | (with_reducible refine (tBarred _ _).mono ?_; rintro e w9 ⟨rfl, HB⟩))
    go_ret
    exact ⟨by simp [mayP, c1, c2, c3, c4, c5], by (repeat (first | exact Upd.refl _ _ | refine New.trans ?_ (Upd.drewN _ _ _) | refine New.trans ?_ (New.alloc _ _)))⟩
  cases c6 : decide (i.imm ≤ r.most)
  · go_enter Try.func62, Try.ntmps62
    go_wp2_with (first
      | (with_reducible refine (tFits _ _ HD.out _).mono ?_; rintro e _ ⟨rfl, q1, rfl⟩)
      | (with_reducible refine (tFits _ _ HN.out _).mono ?_; rintro e _ ⟨rfl, q2, rfl⟩)
      | (with_reducible refine (tFits _ _ HM.out _).mono ?_; rintro e _ ⟨rfl, q3, rfl⟩)
      | (with_reducible refine (tFits _ _ HC.out _).mono ?_; rintro e _ ⟨rfl, q4, rfl⟩)
      | (with_reducible refine (tBarred _ _).mono ?_; rintro e w9 ⟨rfl, HB⟩))
    go_ret
    exact ⟨by simp [mayP, c1, c2, c3, c4, c5, c6], by (repeat (first | exact Upd.refl _ _ | refine New.trans ?_ (Upd.drewN _ _ _) | refine New.trans ?_ (New.alloc _ _)))⟩
  cases c7 : (i.imm % 2 ^ r.halved == 0)
  · have h7 := HE.out
    rw [c7] at h7
    go_enter Try.func62, Try.ntmps62
    go_wp2_with (first
      | (with_reducible refine (tFits _ _ HD.out _).mono ?_; rintro e _ ⟨rfl, q1, rfl⟩)
      | (with_reducible refine (tFits _ _ HN.out _).mono ?_; rintro e _ ⟨rfl, q2, rfl⟩)
      | (with_reducible refine (tFits _ _ HM.out _).mono ?_; rintro e _ ⟨rfl, q3, rfl⟩)
      | (with_reducible refine (tFits _ _ HC.out _).mono ?_; rintro e _ ⟨rfl, q4, rfl⟩)
      | (with_reducible refine (tBarred _ _).mono ?_; rintro e w9 ⟨rfl, HB⟩))
    go_ret
    exact ⟨by simp [mayP, c1, c2, c3, c4, c5, c6, c7], by (repeat (first | exact Upd.refl _ _ | refine New.trans ?_ (Upd.drewN _ _ _) | refine New.trans ?_ (New.alloc _ _)))⟩
  have h7 := HE.out
  rw [c7] at h7
  cases c8 : barP i
  · go_enter Try.func62, Try.ntmps62
    go_wp2_with (first
      | (with_reducible refine (tFits _ _ HD.out _).mono ?_; rintro e _ ⟨rfl, q1, rfl⟩)
      | (with_reducible refine (tFits _ _ HN.out _).mono ?_; rintro e _ ⟨rfl, q2, rfl⟩)
      | (with_reducible refine (tFits _ _ HM.out _).mono ?_; rintro e _ ⟨rfl, q3, rfl⟩)
      | (with_reducible refine (tFits _ _ HC.out _).mono ?_; rintro e _ ⟨rfl, q4, rfl⟩)
      | (with_reducible refine (tBarred _ _).mono ?_; rintro e w9 ⟨rfl, HB⟩))
    go_ret
    exact ⟨by simp [mayP, c1, c2, c3, c4, c5, c6, c7, c8], New.trans (by (repeat (first | exact Upd.refl _ _ | refine New.trans ?_ (Upd.drewN _ _ _) | refine New.trans ?_ (New.alloc _ _)))) HB⟩
  · go_enter Try.func62, Try.ntmps62
    go_wp2_with (first
      | (with_reducible refine (tFits _ _ HD.out _).mono ?_; rintro e _ ⟨rfl, q1, rfl⟩)
      | (with_reducible refine (tFits _ _ HN.out _).mono ?_; rintro e _ ⟨rfl, q2, rfl⟩)
      | (with_reducible refine (tFits _ _ HM.out _).mono ?_; rintro e _ ⟨rfl, q3, rfl⟩)
      | (with_reducible refine (tFits _ _ HC.out _).mono ?_; rintro e _ ⟨rfl, q4, rfl⟩)
      | (with_reducible refine (tBarred _ _).mono ?_; rintro e w9 ⟨rfl, HB⟩))
    go_ret
    exact ⟨by simp [mayP, c1, c2, c3, c4, c5, c6, c7, c8], New.trans (by (repeat (first | exact Upd.refl _ _ | refine New.trans ?_ (Upd.drewN _ _ _) | refine New.trans ?_ (New.alloc _ _)))) HB⟩
end Go.Proofs.Ytibmgmgkaacibaa

/- Package label's calls on kinds, and the reference's: what each answers; the world stays. -/
import Derived.Test.YtebgmpggedeplaaHand
import Derived.LoopTactic
namespace Go.Proofs.Ytebgmpggedeplaa
open Go.RowKit
set_option linter.unusedVariables false

def kI (k : Int) : Bool := k == 1 || k == 2
def kA (k : Int) : Bool := k == 3 || k == 4
def kS (k : Int) : Bool := k == 2 || k == 4
def kK (k : Int) : Bool := kI k || kA k
def fitB (a b : Int) : Bool := (kK a && a == b) || (a == 1 && b == 2)
def joinV (a b : Int) : Int := if fitB a b then b else if fitB b a then a else 0
def joinB (a b : Int) : Bool := fitB a b || fitB b a
def ofV (a : Int) : Int := if a == 3 then 1 else if a == 4 then 2 else 0
def bothV (a b : Int) : Int := if !kI a || !kI b then 0 else joinV a b
def bothR (a b : Int) : Int := if a == 2 || b == 2 then 2 else 1
def fitR (a b : Int) : Bool := (a == b && (kI a || kA a)) || (a == 1 && b == 2)
def joinRB (a b : Int) : Bool := (a == b && (kI a || kA a)) || (kI a && kI b)
def joinRV (a b : Int) : Int := if (a == b && (kI a || kA a)) then a else if (kI a && kI b) then 2 else 0
theorem fitR_eq (a b : Int) : fitR a b = fitB a b := by unfold fitR fitB kK; rw [Bool.and_comm (a == b)]
theorem kI_iff {a : Int} : kI a = true ↔ a = 1 ∨ a = 2 := by simp [kI]
theorem kA_iff {a : Int} : kA a = true ↔ a = 3 ∨ a = 4 := by simp [kA]
theorem fit_iff {a b : Int} : fitB a b = true ↔ (a = b ∧ (a = 1 ∨ a = 2 ∨ a = 3 ∨ a = 4)) ∨ (a = 1 ∧ b = 2) := by
  simp [fitB, kK, kI, kA]; omega
theorem joinRB_eq (a b : Int) : joinRB a b = joinB a b := by
  rw [Bool.eq_iff_iff]
  simp only [joinRB, joinB, Bool.or_eq_true, Bool.and_eq_true, fit_iff, kI_iff, kA_iff, beq_iff_eq]
  omega
theorem joinRV_eq (a b : Int) : joinRV a b = joinV a b := by
  unfold joinRV joinV
  simp only [Bool.or_eq_true, Bool.and_eq_true, fit_iff, kI_iff, kA_iff, beq_iff_eq]
  split
  · split
    · omega
    · split <;> omega
  · split
    · split
      · omega
      · split <;> omega
    · split
      · omega
      · split <;> omega
theorem both_eq {a b : Int} (ha : kI a = true) (hb : kI b = true) : bothV a b = bothR a b := by
  unfold bothV bothR joinV
  simp only [ha, hb, Bool.not_true, Bool.or_self, Bool.false_eq_true, if_false]
  simp only [Bool.or_eq_true, fit_iff, beq_iff_eq]
  rw [kI_iff] at ha hb
  rcases ha with rfl | rfl <;> rcases hb with rfl | rfl <;> simp

set_option maxHeartbeats 2000000 in
theorem lIsInt (k : Int) (w : World) : Calls Try.prog 62 #[.int .i64 k] w fun e w' => e = .returned (.bool (kI k)) ∧ w = w' := by
  cases h0 : (k == 1) <;> cases h1 : (k == 2)
  all_goals
    go_enter Try.func62, Try.ntmps62
    go_wp2
    go_ret
    exact ⟨by simp [kI, h0, h1], rfl⟩

set_option maxHeartbeats 2000000 in
theorem lIsArr (k : Int) (w : World) : Calls Try.prog 61 #[.int .i64 k] w fun e w' => e = .returned (.bool (kA k)) ∧ w = w' := by
  cases h0 : (k == 3) <;> cases h1 : (k == 4)
  all_goals
    go_enter Try.func61, Try.ntmps61
    go_wp2
    go_ret
    exact ⟨by simp [kA, h0, h1], rfl⟩

set_option maxHeartbeats 2000000 in
theorem lIsSecret (k : Int) (w : World) : Calls Try.prog 63 #[.int .i64 k] w fun e w' => e = .returned (.bool (kS k)) ∧ w = w' := by
  cases h0 : (k == 2) <;> cases h1 : (k == 4)
  all_goals
    go_enter Try.func63, Try.ntmps63
    go_wp2
    go_ret
    exact ⟨by simp [kS, h0, h1], rfl⟩

set_option maxHeartbeats 2000000 in
theorem lOf (k : Int) (w : World) : Calls Try.prog 59 #[.int .i64 k] w fun e w' => e = .returned (.int .i64 (ofV k)) ∧ w = w' := by
  cases h0 : (k == 3) <;> cases h1 : (k == 4)
  all_goals
    go_enter Try.func59, Try.ntmps59
    go_wp2
    go_ret
    exact ⟨by simp [ofV, h0, h1], rfl⟩

set_option maxHeartbeats 2000000 in
theorem lIsKind (k : Int) (w : World) : Calls Try.prog 64 #[.int .i64 k] w fun e w' => e = .returned (.bool (kK k)) ∧ w = w' := by
  cases h0 : (kI k) <;> cases h1 : (kA k)
  all_goals
    go_enter Try.func64, Try.ntmps64
    go_wp2_with (first | (with_reducible refine (lIsInt _ _).mono ?_; rintro e _ ⟨rfl, rfl⟩) | (with_reducible refine (lIsArr _ _).mono ?_; rintro e _ ⟨rfl, rfl⟩))
    go_ret
    exact ⟨by simp [kK, h0, h1], rfl⟩

set_option maxHeartbeats 2000000 in
theorem lFits (a b : Int) (w : World) : Calls Try.prog 54 #[.int .i64 a, .int .i64 b] w fun e w' => e = .returned (.bool (fitB a b)) ∧ w = w' := by
  cases h0 : (kK a) <;> cases h1 : (a == b) <;> cases h2 : (a == 1) <;> cases h3 : (b == 2)
  all_goals
    go_enter Try.func54, Try.ntmps54
    go_wp2_with (first | (with_reducible refine (lIsKind _ _).mono ?_; rintro e _ ⟨rfl, rfl⟩))
    go_ret
    exact ⟨by simp [fitB, h0, h1, h2, h3], rfl⟩

set_option maxHeartbeats 2000000 in
theorem lJoin (a b : Int) (w : World) : Calls Try.prog 46 #[.int .i64 a, .int .i64 b] w fun e w' => e = .returned (.tuple #[.int .i64 (joinV a b), .bool (joinB a b)]) ∧ w = w' := by
  cases h0 : (fitB a b) <;> cases h1 : (fitB b a)
  all_goals
    go_enter Try.func46, Try.ntmps46
    go_wp2_with (first | (with_reducible refine (lFits _ _ _).mono ?_; rintro e _ ⟨rfl, rfl⟩))
    go_ret2
    exact ⟨by simp [joinV, joinB, h0, h1], rfl⟩

set_option maxHeartbeats 2000000 in
theorem lBoth (a b : Int) (w : World) : Calls Try.prog 57 #[.int .i64 a, .int .i64 b] w fun e w' => e = .returned (.int .i64 (bothV a b)) ∧ w = w' := by
  cases h0 : (kI a) <;> cases h1 : (kI b)
  all_goals
    go_enter Try.func57, Try.ntmps57
    go_wp2_with (first | (with_reducible refine (lIsInt _ _).mono ?_; rintro e _ ⟨rfl, rfl⟩) | (with_reducible refine (lJoin _ _ _).mono ?_; rintro e _ ⟨rfl, rfl⟩))
    go_ret
    exact ⟨by simp [bothV, h0, h1], rfl⟩

theorem kn_v : joinV 1 2 = 2 := by decide
theorem kn_b : joinB 1 2 = true := by decide
theorem kn_b' : joinB 3 4 = false := by decide
end Go.Proofs.Ytebgmpggedeplaa

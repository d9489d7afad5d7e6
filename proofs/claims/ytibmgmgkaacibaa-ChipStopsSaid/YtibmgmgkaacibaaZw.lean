/- The reference's Right of package thumb's instructions. -/
import Derived.Test.YtibmgmgkaacibaaZh
import Derived.Test.YtibmgmgkaacibaaZp
namespace Go.Proofs.Ytibmgmgkaacibaa
open Go.RowKit
set_option linter.unusedVariables false
set_option linter.unusedSimpArgs false

theorem tmod_zero (n b : Int) : (n.tmod b == 0) = (n % b == 0) := by
  rw [Bool.eq_iff_iff]
  simp only [beq_iff_eq]
  constructor
  · intro h; exact Int.emod_eq_zero_of_dvd (Int.dvd_of_tmod_eq_zero h)
  · intro h; exact Int.tmod_eq_zero_of_dvd (Int.dvd_of_emod_eq_zero h)
set_option maxHeartbeats 1000000 in
theorem qIn (n a b c : Int) (hc : 0 < c) (w : World) : Calls Try.prog 78 #[.int .i64 n, .int .i64 a, .int .i64 b, .int .i64 c] w fun e w' => e = .returned (.bool (inP n a b c)) ∧ w = w' := by
  have HT := Lib.hid (tmod_zero n c)
  have hc0 : (c == 0) = false := by simp; omega
  have hc1 : ¬ c = 0 := by omega
  have hc2 : ¬ c = -1 := by omega
  cases h1 : decide (a ≤ n) <;> cases h2 : decide (n ≤ b)
  all_goals
    go_enter Try.func78, Try.ntmps78
    go_wp2
    go_ret
    refine ⟨?_, rfl⟩
    (try rw [show (n.tmod c == 0) = (n % c == 0) from HT.out])
    simp [inP, h1, h2]
    (try exact HT.out)
def lowP (r : Int) : Bool := decide (0 ≤ r) && decide (r ≤ 7)
theorem qLow (r : Int) (w : World) : Calls Try.prog 98 #[.int .i64 r] w fun e w' => e = .returned (.bool (lowP r)) ∧ w = w' := by
  cases h1 : decide (0 ≤ r)
  all_goals
    go_enter Try.func98, Try.ntmps98
    go_wp2
    go_ret
    exact ⟨by simp [lowP, h1], rfl⟩
theorem qUse (is : Bool) (r : Int) (w : World) : Calls Try.prog 80 #[.bool is, .int .i64 r] w fun e w' => e = .returned (.bool (useP is r)) ∧ w = w' := by
  cases is
  · go_enter Try.func80, Try.ntmps80
    go_wp2
    go_ret
    exact ⟨by simp [useP], rfl⟩
  · cases h1 : lowP r
    all_goals
      go_enter Try.func80, Try.ntmps80
      go_wp2_with (with_reducible refine (qLow _ _).mono ?_; rintro e _ ⟨rfl, rfl⟩)
      go_ret
      exact ⟨by unfold lowP at h1; simp [useP, h1], rfl⟩
abbrev Fm.val (f : Fm) : Value := .agg #[.bool f.d, .bool f.n, .bool f.m, .int .i64 f.lo, .int .i64 f.hi, .int .i64 f.by']
def fmV (o : Option Fm) : Value := match o with
  | some f => .tuple #[f.val, .bool true]
  | none => .tuple #[.agg #[.bool false, .bool false, .bool false, .int .i64 0, .int .i64 0, .int .i64 0], .bool false]
set_option maxHeartbeats 2000000 in
theorem qForms0 (op : Int) (h : op = 1 ∨ op = 2 ∨ op = 3 ∨ op = 4 ∨ op = 5 ∨ op = 6 ∨ op = 7 ∨ op = 8 ∨ op = 9) (w : World) : Calls Try.prog 79 #[.int .i64 op] w fun e w' => e = .returned (fmV (formsP op)) ∧ New w w' := by
  rcases h with rfl | rfl | rfl | rfl | rfl | rfl | rfl | rfl | rfl
  all_goals
    go_enter Try.func79, Try.ntmps79
    go_wp2
    refine bodyPost_ret (by simp only [results, Try.f79]; simp [go_sem]; rfl) rfl ?_
    exact ⟨rfl, New.alloc _ _⟩
set_option maxHeartbeats 2000000 in
theorem qForms1 (op : Int) (h : op = 10 ∨ op = 11 ∨ op = 12 ∨ op = 13 ∨ op = 14 ∨ op = 15 ∨ op = 16 ∨ op = 17 ∨ op = 18) (w : World) : Calls Try.prog 79 #[.int .i64 op] w fun e w' => e = .returned (fmV (formsP op)) ∧ New w w' := by
  rcases h with rfl | rfl | rfl | rfl | rfl | rfl | rfl | rfl | rfl
  all_goals
    go_enter Try.func79, Try.ntmps79
    go_wp2
    refine bodyPost_ret (by simp only [results, Try.f79]; simp [go_sem]; rfl) rfl ?_
    exact ⟨rfl, New.alloc _ _⟩
set_option maxHeartbeats 2000000 in
theorem qForms2 (op : Int) (h : op = 19 ∨ op = 20 ∨ op = 21 ∨ op = 22 ∨ op = 23 ∨ op = 24 ∨ op = 25 ∨ op = 26 ∨ op = 27) (w : World) : Calls Try.prog 79 #[.int .i64 op] w fun e w' => e = .returned (fmV (formsP op)) ∧ New w w' := by
  rcases h with rfl | rfl | rfl | rfl | rfl | rfl | rfl | rfl | rfl
  all_goals
    go_enter Try.func79, Try.ntmps79
    go_wp2
    refine bodyPost_ret (by simp only [results, Try.f79]; simp [go_sem]; rfl) rfl ?_
    exact ⟨rfl, New.alloc _ _⟩
set_option maxHeartbeats 2000000 in
theorem qForms3 (op : Int) (h : op = 28 ∨ op = 29 ∨ op = 30 ∨ op = 31 ∨ op = 32 ∨ op = 33 ∨ op = 34 ∨ op = 35 ∨ op = 36) (w : World) : Calls Try.prog 79 #[.int .i64 op] w fun e w' => e = .returned (fmV (formsP op)) ∧ New w w' := by
  rcases h with rfl | rfl | rfl | rfl | rfl | rfl | rfl | rfl | rfl
  all_goals
    go_enter Try.func79, Try.ntmps79
    go_wp2
    refine bodyPost_ret (by simp only [results, Try.f79]; simp [go_sem]; rfl) rfl ?_
    exact ⟨rfl, New.alloc _ _⟩
set_option maxHeartbeats 2000000 in
theorem qForms4 (op : Int) (h : op = 37 ∨ op = 38 ∨ op = 39 ∨ op = 40 ∨ op = 41 ∨ op = 42 ∨ op = 43 ∨ op = 44 ∨ op = 45) (w : World) : Calls Try.prog 79 #[.int .i64 op] w fun e w' => e = .returned (fmV (formsP op)) ∧ New w w' := by
  rcases h with rfl | rfl | rfl | rfl | rfl | rfl | rfl | rfl | rfl
  all_goals
    go_enter Try.func79, Try.ntmps79
    go_wp2
    refine bodyPost_ret (by simp only [results, Try.f79]; simp [go_sem]; rfl) rfl ?_
    exact ⟨rfl, New.alloc _ _⟩
theorem forms_none {op : Int} (h : op < 1 ∨ 45 < op) : formsP op = none := by
  unfold formsP
  repeat rw [if_neg (by simp; omega)]
set_option maxHeartbeats 2000000 in
theorem qForms_no (op : Int) (h : op < 1 ∨ 45 < op) (w : World) : Calls Try.prog 79 #[.int .i64 op] w fun e w' => e = .returned (fmV (formsP op)) ∧ New w w' := by
  have HN := Lib.hid (forms_none h)
  have n1 : (op == 1) = false := by simp; omega
  have n2 : (op == 2) = false := by simp; omega
  have n3 : (op == 3) = false := by simp; omega
  have n4 : (op == 4) = false := by simp; omega
  have n5 : (op == 5) = false := by simp; omega
  have n29 : (op == 29) = false := by simp; omega
  have n30 : (op == 30) = false := by simp; omega
  have n6 : (op == 6) = false := by simp; omega
  have n7 : (op == 7) = false := by simp; omega
  have n31 : (op == 31) = false := by simp; omega
  have n32 : (op == 32) = false := by simp; omega
  have n33 : (op == 33) = false := by simp; omega
  have n34 : (op == 34) = false := by simp; omega
  have n35 : (op == 35) = false := by simp; omega
  have n36 : (op == 36) = false := by simp; omega
  have n37 : (op == 37) = false := by simp; omega
  have n38 : (op == 38) = false := by simp; omega
  have n39 : (op == 39) = false := by simp; omega
  have n40 : (op == 40) = false := by simp; omega
  have n41 : (op == 41) = false := by simp; omega
  have n42 : (op == 42) = false := by simp; omega
  have n43 : (op == 43) = false := by simp; omega
  have n44 : (op == 44) = false := by simp; omega
  have n45 : (op == 45) = false := by simp; omega
  rcases h with h | h
  · have d1 : decide (8 ≤ op) = false := by simp; omega
    have d2 : decide (12 ≤ op) = false := by simp; omega
    clear h
    go_enter Try.func79, Try.ntmps79
    go_wp2
    rw [HN.out]
    refine bodyPost_ret (by simp only [results, Try.f79]; simp [go_sem]; rfl) rfl ?_
    exact ⟨rfl, New.alloc _ _⟩
  · have d1 : decide (8 ≤ op) = true := by simp; omega
    have d2 : decide (12 ≤ op) = true := by simp; omega
    have d3 : decide (op ≤ 11) = false := by simp; omega
    have d4 : decide (op ≤ 27) = false := by simp; omega
    clear h
    go_enter Try.func79, Try.ntmps79
    go_wp2
    rw [HN.out]
    refine bodyPost_ret (by simp only [results, Try.f79]; simp [go_sem]; rfl) rfl ?_
    exact ⟨rfl, New.alloc _ _⟩
theorem qForms (op : Int) (w : World) : Calls Try.prog 79 #[.int .i64 op] w fun e w' => e = .returned (fmV (formsP op)) ∧ New w w' := by
  by_cases h0 : op < 1 ∨ 45 < op
  · exact qForms_no op h0 w
  · by_cases h1 : op ≤ 9
    · exact qForms0 op (by omega) w
    · by_cases h2 : op ≤ 18
      · exact qForms1 op (by omega) w
      · by_cases h3 : op ≤ 27
        · exact qForms2 op (by omega) w
        · by_cases h4 : op ≤ 36
          · exact qForms3 op (by omega) w
          · exact qForms4 op (by omega) w
end Go.Proofs.Ytibmgmgkaacibaa

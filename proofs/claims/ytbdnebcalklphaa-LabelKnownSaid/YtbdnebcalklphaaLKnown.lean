/- The walk of LabelKnown: two loops over kinds and near them. -/
import Derived.Test.YtbdnebcalklphaaLa
namespace Go.Proofs.Ytbdnebcalklphaa
open Go.RowKit Go.Lib
set_option linter.unusedVariables false

theorem nb (x : Bool) : (x != x) = false := by simp
theorem ni (x : Int) : (x != x) = false := by simp
set_option maxRecDepth 100000 in
set_option maxHeartbeats 8000000 in
theorem labelKnown_walk (w : World) : Calls Try.prog 3 #[] w fun e w' => e = .returned (.bool true) ∧ w = w' := by
  go_enter Try.func3, Try.ntmps3
  go_wp2_with fail
  go_loop [1, 2, 3, 4, 5, 6] (fun a _ _ _ _ _ => ∃ n : Int, -1 ≤ n ∧ n ≤ 7 ∧ a = .int .i64 n) (fun a _ _ _ _ _ => (7 - intOf a).toNat)
  case atStart => exact ⟨-1, by omega, by omega, rfl⟩
  case round =>
    obtain ⟨n, n1, n7, rfl⟩ := hrel
    by_cases hn : n < 7
    · have e1 := nb (kI n)
      have e2 := nb (kA n)
      have e3 := nb (kS n)
      have e4 := ni (ofV n)
      go_wp2_with (first
        | (with_reducible refine (lIsInt _ _).mono ?_; rintro e _ ⟨rfl, rfl⟩)
        | (with_reducible refine (rIsInt _ _).mono ?_; rintro e _ ⟨rfl, rfl⟩)
        | (with_reducible refine (lIsArr _ _).mono ?_; rintro e _ ⟨rfl, rfl⟩)
        | (with_reducible refine (rIsArr _ _).mono ?_; rintro e _ ⟨rfl, rfl⟩)
        | (with_reducible refine (lIsSecret _ _).mono ?_; rintro e _ ⟨rfl, rfl⟩)
        | (with_reducible refine (rIsSecret _ _).mono ?_; rintro e _ ⟨rfl, rfl⟩)
        | (with_reducible refine (lOf _ _).mono ?_; rintro e _ ⟨rfl, rfl⟩)
        | (with_reducible refine (rOf _ _).mono ?_; rintro e _ ⟨rfl, rfl⟩))
      go_loop [2, 3, 4, 5, 6] (fun b _ _ _ _ => ∃ m : Int, -1 ≤ m ∧ m ≤ 7 ∧ b = .int .i64 m) (fun b _ _ _ _ => (7 - intOf b).toNat)
      case atStart => exact ⟨-1, by omega, by omega, rfl⟩
      case round =>
        obtain ⟨m, m1, m7, rfl⟩ := hrel
        by_cases hm : m < 7
        · have g1 := ni (joinV n m)
          have g2 := nb (joinB n m)
          have g3 := nb (fitB n m)
          cases hA : kI n <;> cases hB : kI m
          all_goals
            try have g4 : (bothV n m != bothR n m) = false := by rw [both_eq hA hB]; exact ni _
            go_wp2_with (first
              | (with_reducible refine (lJoin _ _ _).mono ?_; rintro e _ ⟨rfl, rfl⟩)
              | (with_reducible refine (rJoin _ _ _).mono ?_; rintro e _ ⟨rfl, rfl⟩)
              | (with_reducible refine (lFits _ _ _).mono ?_; rintro e _ ⟨rfl, rfl⟩)
              | (with_reducible refine (rFits _ _ _).mono ?_; rintro e _ ⟨rfl, rfl⟩)
              | (with_reducible refine (rIsInt _ _).mono ?_; rintro e _ ⟨rfl, rfl⟩)
              | (with_reducible refine (lBoth _ _ _).mono ?_; rintro e _ ⟨rfl, rfl⟩)
              | (with_reducible refine (rBoth _ _ _).mono ?_; rintro e _ ⟨rfl, rfl⟩))
            go_round
            case rel => exact ⟨m + 1, by omega, by omega, by go_num⟩
            case measure => simp [intOf]; omega
        · go_wp2_with fail
          go_round
          case rel => exact ⟨n + 1, by omega, by omega, by go_num⟩
          case measure => simp [intOf]; omega
    · go_wp2_with (with_reducible refine (known6 _).mono ?_; rintro e _ ⟨rfl, rfl⟩)
      go_ret
      exact ⟨rfl, rfl⟩
theorem labelKnown_below (w : World) : Calls Try.prog 3 #[] w fun e w' => e = .returned (.bool true) ∧ Below w.heap.size w w' := to_below (labelKnown_walk w)
end Go.Proofs.Ytbdnebcalklphaa

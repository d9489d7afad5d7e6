/- Which instructions may be: a contract for each call of package code and of the reference that asks it. -/
import Derived.Test.YtmikibcgphkcfaaGreatDoorNm
import Derived.Test.YtmikibcgphkcfaaGreatDoorSl
import Derived.Deep.Light
import Derived.WalkLawsBesides
namespace Go.Proofs.YtmikibcgphkcfaaGreatDoor
open Go.RowKit
set_option linter.unusedVariables false
set_option linter.unusedSimpArgs false

/-- how many operands -/
def opsB (op : Int) : Int :=
  if op = 27 then 2 else if op = 1 ∨ op = 2 ∨ op = 3 ∨ op = 23 ∨ op = 24 ∨ op = 25 ∨ op = 33 ∨ op = 34 ∨ op = 35 ∨ op = 36 ∨ op = 37 ∨ op = 38 then 1 else 0
def lowB (op : Int) : Int := if op = 1 then -2147483648 else if op = 25 ∨ op = 27 then 3 else if op = 35 ∨ op = 36 then 1 else 0
def highB (op : Int) : Int :=
  if op = 1 then 2147483647 else if op = 2 ∨ op = 3 then 9 else if op = 23 ∨ op = 24 then 119 else if op = 25 ∨ op = 27 then 4 else if op = 33 ∨ op = 34 then 7 else
  if op = 35 ∨ op = 36 then 2 else if op = 37 then 7 else if op = 38 then 3 else 0
def rightP (op a b : Int) : Prop := 1 ≤ op ∧ op ≤ 39 ∧ lowB op ≤ a ∧ a ≤ highB op ∧ (b = 0 ∨ op = 27 ∧ (0 ≤ b ∧ b ≤ 2 ∨ 4 ≤ b ∧ b ≤ 6))
instance (op a b : Int) : Decidable (rightP op a b) := by unfold rightP; infer_instance
def rightB (op a b : Int) : Bool := decide (rightP op a b)
theorem right_iff (op a b : Int) : rightB op a b = true ↔ (1 ≤ op ∧ op ≤ 39 ∧ lowB op ≤ a ∧ a ≤ highB op ∧ (b = 0 ∨ op = 27 ∧ (0 ≤ b ∧ b ≤ 2 ∨ 4 ≤ b ∧ b ≤ 6))) := by
  unfold rightB
  exact decide_eq_true_iff

theorem ret_bool {x y : Bool} (h : x = y) : Ending.returned (.bool x) = Ending.returned (.bool y) := by rw [h]

set_option maxHeartbeats 1000000 in
theorem cOperands (op : Int) (w : World) : Calls Tryz.prog 44 #[.int .i64 op] w fun e w' => e = .returned (.int .i64 (opsB op)) ∧ w' = w := by
  go_enter Tryz.func44, Tryz.ntmps44
  go_wp2
  all_goals go_ret
  all_goals go_light
  all_goals refine ⟨ret_int ?_, rfl⟩
  all_goals simp only [beq_iff_eq, beq_eq_false_iff_ne, ne_eq] at *
  all_goals unfold opsB
  all_goals (split <;> (try split) <;> omega)

set_option maxHeartbeats 1000000 in
theorem rOperands (op : Int) (w : World) : Calls Tryz.prog 24 #[.int .i64 op] w fun e w' => e = .returned (.int .i64 (opsB op)) ∧ w' = w := by
  go_enter Tryz.func24, Tryz.ntmps24
  go_wp2
  all_goals go_ret
  all_goals go_light
  all_goals refine ⟨ret_int ?_, rfl⟩
  all_goals simp only [beq_iff_eq, beq_eq_false_iff_ne, ne_eq] at *
  all_goals unfold opsB
  all_goals (split <;> (try split) <;> omega)

/-- the table, row by row -/
theorem table (op : Int) : (op = 1 ∧ opsB op = 1 ∧ lowB op = -2147483648 ∧ highB op = 2147483647) ∨ ((op = 2 ∨ op = 3) ∧ opsB op = 1 ∧ lowB op = 0 ∧ highB op = 9) ∨
    ((op = 23 ∨ op = 24) ∧ opsB op = 1 ∧ lowB op = 0 ∧ highB op = 119) ∨ (op = 25 ∧ opsB op = 1 ∧ lowB op = 3 ∧ highB op = 4) ∨ (op = 27 ∧ opsB op = 2 ∧ lowB op = 3 ∧ highB op = 4) ∨
    ((op = 33 ∨ op = 34 ∨ op = 37) ∧ opsB op = 1 ∧ lowB op = 0 ∧ highB op = 7) ∨ ((op = 35 ∨ op = 36) ∧ opsB op = 1 ∧ lowB op = 1 ∧ highB op = 2) ∨ (op = 38 ∧ opsB op = 1 ∧ lowB op = 0 ∧ highB op = 3) ∨
    ((op ≠ 1 ∧ op ≠ 2 ∧ op ≠ 3 ∧ op ≠ 23 ∧ op ≠ 24 ∧ op ≠ 25 ∧ op ≠ 27 ∧ op ≠ 33 ∧ op ≠ 34 ∧ op ≠ 35 ∧ op ≠ 36 ∧ op ≠ 37 ∧ op ≠ 38) ∧ opsB op = 0 ∧ lowB op = 0 ∧ highB op = 0) := by
  by_cases h : op = 1 ∨ op = 2 ∨ op = 3 ∨ op = 23 ∨ op = 24 ∨ op = 25 ∨ op = 27 ∨ op = 33 ∨ op = 34 ∨ op = 35 ∨ op = 36 ∨ op = 37 ∨ op = 38
  · rcases h with rfl | rfl | rfl | rfl | rfl | rfl | rfl | rfl | rfl | rfl | rfl | rfl | rfl <;> decide
  · have h' : op ≠ 1 ∧ op ≠ 2 ∧ op ≠ 3 ∧ op ≠ 23 ∧ op ≠ 24 ∧ op ≠ 25 ∧ op ≠ 27 ∧ op ≠ 33 ∧ op ≠ 34 ∧ op ≠ 35 ∧ op ≠ 36 ∧ op ≠ 37 ∧ op ≠ 38 := by omega
    have h2 : opsB op = 0 ∧ lowB op = 0 ∧ highB op = 0 := by simp [opsB, lowB, highB, h']
    exact .inr (.inr (.inr (.inr (.inr (.inr (.inr (.inr ⟨h', h2⟩)))))))
theorem ops3 (op : Int) : opsB op = 0 ∨ opsB op = 1 ∨ opsB op = 2 := by have := table op; omega
theorem ret_two {x y x' y' : Int} (h : x = x' ∧ y = y') : Ending.returned (.tuple #[.int .i64 x, .int .i64 y]) = Ending.returned (.tuple #[.int .i64 x', .int .i64 y']) := by rw [h.1, h.2]
set_option maxHeartbeats 1000000 in
theorem cBounds (op : Int) (w : World) : Calls Tryz.prog 74 #[.int .i64 op] w fun e w' => e = .returned (.tuple #[.int .i64 (lowB op), .int .i64 (highB op)]) ∧ w' = w := by
  go_enter Tryz.func74, Tryz.ntmps74
  go_wp2
  all_goals go_ret2
  all_goals go_light
  all_goals refine ⟨ret_two ?_, rfl⟩
  all_goals simp only [beq_iff_eq, beq_eq_false_iff_ne, ne_eq] at *
  all_goals unfold lowB highB
  all_goals (constructor <;> repeat' (split <;> try omega))
set_option maxHeartbeats 1000000 in
theorem cIsOp (op : Int) (w : World) : Calls Tryz.prog 75 #[.int .i64 op] w fun e w' => e = .returned (.bool (decide (1 ≤ op ∧ op ≤ 39))) ∧ w' = w := by
  go_enter Tryz.func75, Tryz.ntmps75
  go_wp2
  all_goals go_ret
  all_goals go_light
  all_goals refine ⟨ret_bool ?_, rfl⟩
  all_goals (rw [Bool.eq_iff_iff]; simp only [decide_eq_true_eq, Bool.or_eq_true, Bool.and_eq_true, Bool.false_eq_true, true_iff, false_iff]; omega)
set_option maxHeartbeats 1000000 in
theorem cIsLife (op : Int) (w : World) : Calls Tryz.prog 76 #[.int .i64 op] w fun e w' => e = .returned (.bool (decide (0 ≤ op ∧ op ≤ 2 ∨ 4 ≤ op ∧ op ≤ 6))) ∧ w' = w := by
  go_enter Tryz.func76, Tryz.ntmps76
  go_wp2
  all_goals go_ret
  all_goals go_light
  all_goals refine ⟨ret_bool ?_, rfl⟩
  all_goals (refine Bool.eq_iff_iff.2 ?_; simp only [decide_eq_true_eq, Bool.or_eq_true, Bool.and_eq_true, Bool.false_eq_true, true_iff, false_iff] <;> omega)

/-- an instruction as a value -/
abbrev ins (op a b : Int) : Value := .agg #[.int .i64 op, .int .i64 a, .int .i64 b]
set_option maxHeartbeats 1000000 in
theorem cRight (op a b : Int) (w : World) : Calls Tryz.prog 59 #[ins op a b] w fun e w' => e = .returned (.bool (rightB op a b)) ∧ Upd (fun _ => False) w w' := by
  go_enter Tryz.func59, Tryz.ntmps59
  go_wp2_with (first
    | (go_at_call 74; refine (cBounds _ _).mono ?_; rintro e w' ⟨rfl, rfl⟩)
    | (go_at_call 75; refine (cIsOp _ _).mono ?_; rintro e w' ⟨rfl, rfl⟩)
    | (go_at_call 76; refine (cIsLife _ _).mono ?_; rintro e w' ⟨rfl, rfl⟩))
  all_goals go_ret
  all_goals go_light
  all_goals refine ⟨ret_bool ?_, Upd.alloc _ _ _⟩
  all_goals (rw [Bool.eq_iff_iff, right_iff]; simp only [decide_eq_true_eq, Bool.or_eq_true, Bool.and_eq_true, beq_iff_eq, Bool.false_eq_true, true_iff, false_iff]; omega)
theorem rWithin (n lo hi : Int) (w : World) : Calls Tryz.prog 65 #[.int .i64 n, .int .i64 lo, .int .i64 hi] w fun e w' => e = .returned (.bool (decide (lo ≤ n ∧ n ≤ hi))) ∧ w' = w := by
  go_enter Tryz.func65, Tryz.ntmps65
  go_wp2
  all_goals go_ret
  all_goals go_light
  all_goals refine ⟨ret_bool ?_, rfl⟩
  all_goals (rw [Bool.eq_iff_iff]; simp only [decide_eq_true_eq, Bool.or_eq_true, Bool.and_eq_true, Bool.false_eq_true, true_iff, false_iff]; omega)
theorem word_nonempty : (List.range 39).all (fun k => !(wordL.getD k []).isEmpty) = true := by decide +kernel
theorem word_ne {k : Nat} (hk : k < 39) : (wordB k).toList.isEmpty = false := by
  have h := List.all_eq_true.1 word_nonempty k (List.mem_range.2 hk)
  rw [ByteArray.toList_eq]
  simpa [wordB] using h
theorem ops27 : opsB 27 = 2 := by decide
/-- the cells of an instruction that was laid in new memory -/
theorem ins_cells {w w1 : World} {x y z : Value} {t : TypeId} {S : Nat → Prop} (hu : Upd S (w.alloc (.cells #[x, y, z] t)) w1) (hS : ¬ S w.heap.size) :
    w1.cell? ⟨w.heap.size, 0, none⟩ = some x ∧ w1.cell? ⟨w.heap.size, 1, none⟩ = some y ∧ w1.cell? ⟨w.heap.size, 2, none⟩ = some z := by
  have hlt : w.heap.size < (w.alloc (.cells #[x, y, z] t)).heap.size := by simp
  refine ⟨(hu.cell (p := ⟨w.heap.size, 0, none⟩) hlt hS).trans ?_, (hu.cell (p := ⟨w.heap.size, 1, none⟩) hlt hS).trans ?_, (hu.cell (p := ⟨w.heap.size, 2, none⟩) hlt hS).trans ?_⟩ <;> simp
set_option maxHeartbeats 2000000 in
theorem rRight (op a b : Int) (w : World) : Calls Tryz.prog 47 #[ins op a b] w fun e w' => e = .returned (.bool (rightB op a b)) ∧ Upd (fun _ => False) w w' := by
  by_cases hop : 1 ≤ op ∧ op ≤ 39
  · obtain ⟨k, hk, hkl⟩ : ∃ k : Nat, op = (k : Int) + 1 ∧ k < 39 := ⟨(op - 1).toNat, by omega, by omega⟩
    have HN := Lib.hid (show nameB op = wordB k by rw [hk]; exact (nth_at hkl).2)
    have hne := word_ne hkl
    have ho27 := ops27
    clear hk
    go_enter Tryz.func47, Tryz.ntmps47
    go_wp2_with fail
    refine (rName _ _).mono ?_
    rw [HN.out]
    rintro e w1 ⟨rfl, hu⟩
    have HU := Lib.hid ((Upd.alloc (fun _ => False) w _).trans hu (fun _ h _ => h))
    obtain ⟨hc0, hc1, hc2⟩ := ins_cells hu (fun h => h)
    clear hu
    go_wp2_with (first
      | (go_at_call 24; refine (rOperands _ _).mono ?_; rintro e w' ⟨rfl, rfl⟩)
      | (go_at_call 65; refine (rWithin _ _ _ _).mono ?_; rintro e w' ⟨rfl, rfl⟩))
    all_goals go_ret
    all_goals go_light
    all_goals refine ⟨ret_bool ?_, HU.out⟩
    all_goals have T := table op
    all_goals (rw [Bool.eq_iff_iff, right_iff]; simp only [decide_eq_true_eq, Bool.or_eq_true, Bool.and_eq_true, beq_iff_eq, bne_iff_ne, ne_eq, beq_eq_false_iff_ne, bne_eq_false_iff_eq, Bool.false_eq_true, true_iff, false_iff] at *; omega)
  · have HN := Lib.hid (nameB_out (op := op) (by omega))
    go_enter Tryz.func47, Tryz.ntmps47
    go_wp2_with fail
    refine (rName _ _).mono ?_
    rw [HN.out]
    rintro e w1 ⟨rfl, hu⟩
    have HU := Lib.hid ((Upd.alloc (fun _ => False) w _).trans hu (fun _ h _ => h))
    clear hu
    go_wp2_with fail
    all_goals go_ret
    all_goals go_light
    all_goals refine ⟨ret_bool ?_, HU.out⟩
    all_goals (rw [Bool.eq_iff_iff, right_iff]; simp only [Bool.false_eq_true, false_iff]; omega)
end Go.Proofs.YtmikibcgphkcfaaGreatDoor

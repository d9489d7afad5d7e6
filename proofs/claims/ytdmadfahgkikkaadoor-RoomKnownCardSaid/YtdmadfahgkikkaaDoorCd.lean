/- Which instructions may be: a contract for each call of package code and of the reference that asks it. -/
import Derived.Test.YtdmadfahgkikkaaDoorNm
import Derived.Test.YtdmadfahgkikkaaDoorSl
import Derived.Deep.Light
import Derived.WalkLawsBesides
namespace Go.Proofs.YtdmadfahgkikkaaDoor
open Go.RowKit
set_option linter.unusedVariables false
set_option linter.unusedSimpArgs false

/-- how many operands -/
def opsB (op : Int) : Int :=
  if op = 27 then 2 else if op = 1 ∨ op = 2 ∨ op = 3 ∨ op = 23 ∨ op = 24 ∨ op = 25 ∨ op = 33 ∨ op = 34 ∨ op = 35 ∨ op = 36 ∨ op = 37 ∨ op = 38 then 1 else 0
def lowB (op : Int) : Int := if op = 1 then -2147483648 else if op = 25 ∨ op = 27 then 3 else if op = 35 ∨ op = 36 then 1 else 0
def highB (op : Int) : Int :=
  if op = 1 then 2147483647 else if op = 2 ∨ op = 3 then 9 else if op = 23 ∨ op = 24 then 119 else if op = 25 ∨ op = 27 then 4 else if op = 33 ∨ op = 34 then 7 else
  if op = 35 ∨ op = 36 then 2 else if op = 37 then 7 else if op = 38 then 3 else 0
def rightP (op a b : Int) : Prop := 1 ≤ op ∧ op ≤ 39 ∧ lowB op ≤ a ∧ a ≤ highB op ∧ (b = 0 ∨ op = 27 ∧ (0 ≤ b ∧ b ≤ 2 ∨ 4 ≤ b ∧ b ≤ 6))
instance (op a b : Int) : Decidable (rightP op a b) := by unfold rightP; infer_instance
def rightB (op a b : Int) : Bool := decide (rightP op a b)
theorem right_iff (op a b : Int) : rightB op a b = true ↔ (1 ≤ op ∧ op ≤ 39 ∧ lowB op ≤ a ∧ a ≤ highB op ∧ (b = 0 ∨ op = 27 ∧ (0 ≤ b ∧ b ≤ 2 ∨ 4 ≤ b ∧ b ≤ 6))) := by
  unfold rightB
  exact decide_eq_true_iff

theorem ret_bool {x y : Bool} (h : x = y) : Ending.returned (.bool x) = Ending.returned (.bool y) := by rw [h]

/-- the table, row by row -/
theorem table (op : Int) : (op = 1 ∧ opsB op = 1 ∧ lowB op = -2147483648 ∧ highB op = 2147483647) ∨ ((op = 2 ∨ op = 3) ∧ opsB op = 1 ∧ lowB op = 0 ∧ highB op = 9) ∨
    ((op = 23 ∨ op = 24) ∧ opsB op = 1 ∧ lowB op = 0 ∧ highB op = 119) ∨ (op = 25 ∧ opsB op = 1 ∧ lowB op = 3 ∧ highB op = 4) ∨ (op = 27 ∧ opsB op = 2 ∧ lowB op = 3 ∧ highB op = 4) ∨
    ((op = 33 ∨ op = 34 ∨ op = 37) ∧ opsB op = 1 ∧ lowB op = 0 ∧ highB op = 7) ∨ ((op = 35 ∨ op = 36) ∧ opsB op = 1 ∧ lowB op = 1 ∧ highB op = 2) ∨ (op = 38 ∧ opsB op = 1 ∧ lowB op = 0 ∧ highB op = 3) ∨
    ((op ≠ 1 ∧ op ≠ 2 ∧ op ≠ 3 ∧ op ≠ 23 ∧ op ≠ 24 ∧ op ≠ 25 ∧ op ≠ 27 ∧ op ≠ 33 ∧ op ≠ 34 ∧ op ≠ 35 ∧ op ≠ 36 ∧ op ≠ 37 ∧ op ≠ 38) ∧ opsB op = 0 ∧ lowB op = 0 ∧ highB op = 0) := by
  by_cases h : op = 1 ∨ op = 2 ∨ op = 3 ∨ op = 23 ∨ op = 24 ∨ op = 25 ∨ op = 27 ∨ op = 33 ∨ op = 34 ∨ op = 35 ∨ op = 36 ∨ op = 37 ∨ op = 38
  · rcases h with rfl | rfl | rfl | rfl | rfl | rfl | rfl | rfl | rfl | rfl | rfl | rfl | rfl <;> decide
  · have h' : op ≠ 1 ∧ op ≠ 2 ∧ op ≠ 3 ∧ op ≠ 23 ∧ op ≠ 24 ∧ op ≠ 25 ∧ op ≠ 27 ∧ op ≠ 33 ∧ op ≠ 34 ∧ op ≠ 35 ∧ op ≠ 36 ∧ op ≠ 37 ∧ op ≠ 38 := by omega
    have h2 : opsB op = 0 ∧ lowB op = 0 ∧ highB op = 0 := by simp [opsB, lowB, highB, h']
    exact .inr (.inr (.inr (.inr (.inr (.inr (.inr (.inr ⟨h', h2⟩)))))))
theorem ops3 (op : Int) : opsB op = 0 ∨ opsB op = 1 ∨ opsB op = 2 := by have := table op; omega
theorem ret_two {x y x' y' : Int} (h : x = x' ∧ y = y') : Ending.returned (.tuple #[.int .i64 x, .int .i64 y]) = Ending.returned (.tuple #[.int .i64 x', .int .i64 y']) := by rw [h.1, h.2]
/-- an instruction as a value -/
abbrev ins (op a b : Int) : Value := .agg #[.int .i64 op, .int .i64 a, .int .i64 b]
theorem word_nonempty : (List.range 39).all (fun k => !(wordL.getD k []).isEmpty) = true := by decide +kernel
theorem word_ne {k : Nat} (hk : k < 39) : (wordB k).toList.isEmpty = false := by
  have h := List.all_eq_true.1 word_nonempty k (List.mem_range.2 hk)
  rw [ByteArray.toList_eq]
  simpa [wordB] using h
theorem ops27 : opsB 27 = 2 := by decide
/-- the cells of an instruction that was laid in new memory -/
theorem ins_cells {w w1 : World} {x y z : Value} {t : TypeId} {S : Nat → Prop} (hu : Upd S (w.alloc (.cells #[x, y, z] t)) w1) (hS : ¬ S w.heap.size) :
    w1.cell? ⟨w.heap.size, 0, none⟩ = some x ∧ w1.cell? ⟨w.heap.size, 1, none⟩ = some y ∧ w1.cell? ⟨w.heap.size, 2, none⟩ = some z := by
  have hlt : w.heap.size < (w.alloc (.cells #[x, y, z] t)).heap.size := by simp
  refine ⟨(hu.cell (p := ⟨w.heap.size, 0, none⟩) hlt hS).trans ?_, (hu.cell (p := ⟨w.heap.size, 1, none⟩) hlt hS).trans ?_, (hu.cell (p := ⟨w.heap.size, 2, none⟩) hlt hS).trans ?_⟩ <;> simp
end Go.Proofs.YtdmadfahgkikkaaDoor

/- Package thumb: the row of an instruction. -/
import Derived.Test.YtibmgmgkaacibaaZe
import Derived.LoopTactic
namespace Go.Proofs.Ytibmgmgkaacibaa
open Go.RowKit
set_option linter.unusedVariables false

def noRow : Rw := ⟨0, 0, [], [], [], [], [], [], 0, 0, 0⟩
def rowAt (k : Nat) : Rw := rowL.getD k noRow
theorem rows_len : rowL.length = 24 := by kernel_rfl
theorem rowAt_mem {k : Nat} (hk : k < 24) : rowAt k ∈ rowL := by
  have : k < rowL.length := by rw [rows_len]; exact hk
  simp [rowAt, List.getD, this]
theorem rowAt_ok {k : Nat} (hk : k < 24) : (rowAt k).Ok := rows_ok (rowAt_mem hk)
theorem find_at {q : Rw → Bool} : ∀ {l : List Rw} {k : Nat}, k < l.length → (∀ j < k, q (l.getD j noRow) = false) → q (l.getD k noRow) = true → l.find? q = some (l.getD k noRow)
  | [], k, hk, _, _ => by simp at hk
  | r :: l, 0, _, _, hq => by
    have : q r = true := by simpa using hq
    simp [List.find?, this]
  | r :: l, k + 1, hk, h, hq => by
    have h0 : q r = false := by simpa using h 0 (by omega)
    have := find_at (l := l) (k := k) (by simpa using hk) (fun j hj => by simpa using h (j + 1) (by omega)) (by simpa using hq)
    simp [List.find?, h0, this]
theorem find_no {q : Rw → Bool} : ∀ {l : List Rw}, (∀ j < l.length, q (l.getD j noRow) = false) → l.find? q = none
  | [], _ => rfl
  | r :: l, h => by
    have h0 : q r = false := by simpa using h 0 (by simp)
    have := find_no (l := l) (fun j hj => by simpa using h (j + 1) (by simp; omega))
    simp [List.find?, h0, this]
theorem row_index (k : Nat) (hk : k < 24) (w : World) : (Instr.index 119 (.agg rowsC) (.int .i64 (k : Int))).run Try.prog w = .ok (rowAt k).val w := by
  have h : k = 0 ∨ k = 1 ∨ k = 2 ∨ k = 3 ∨ k = 4 ∨ k = 5 ∨ k = 6 ∨ k = 7 ∨ k = 8 ∨ k = 9 ∨ k = 10 ∨ k = 11 ∨ k = 12 ∨ k = 13 ∨ k = 14 ∨ k = 15 ∨ k = 16 ∨ k = 17 ∨ k = 18 ∨ k = 19 ∨ k = 20 ∨ k = 21 ∨ k = 22 ∨ k = 23 := by omega
  clear hk
  rcases h with rfl | rfl | rfl | rfl | rfl | rfl | rfl | rfl | rfl | rfl | rfl | rfl | rfl | rfl | rfl | rfl | rfl | rfl | rfl | rfl | rfl | rfl | rfl | rfl
  all_goals
    show _ = _
    kernel_rfl

theorem fit_wrap (op f : Int) (hop : i64R op) (hf : 1 ≤ f ∧ f ≤ 45) (l : List Nat) (hl : l.length < 12) : fitP (IntKind.i64.wrap (op - f)) l = fitP (op - f) l := by
  unfold i64R at hop
  by_cases h : -9223372036854775808 ≤ op - f
  · rw [show IntKind.i64.wrap (op - f) = op - f by rw [IntKind.wrap_i64]; omega]
  · have hp : (2 : Int) ^ l.length ≤ 2 ^ 11 := by exact_mod_cast Nat.pow_le_pow_right (by decide : 0 < 2) (by omega : l.length ≤ 11)
    have h0 : (0 : Int) < 2 ^ l.length := Int.pow_pos (by decide)
    have e : IntKind.i64.wrap (op - f) = op - f + 18446744073709551616 := by rw [IntKind.wrap_i64]; omega
    unfold fitP
    rw [e]
    generalize (2 : Int) ^ l.length = P at *
    have h1 : (op - f + 18446744073709551616) / P ≠ 0 := by
      intro h2
      have := Int.lt_ediv_add_one_mul_self (op - f + 18446744073709551616) h0
      rw [h2] at this; omega
    have h2 : (op - f) / P ≠ 0 := by
      have := Int.ediv_neg_of_neg_of_pos (by omega : op - f < 0) h0
      omega
    rw [beq_eq_false_iff_ne.2 h1, beq_eq_false_iff_ne.2 h2]

/-- the cells of a block of its own -/
def zeroRowC : Array Value := #[.int .i64 0, .int .u16 0, .int .u16 0, .int .u16 0, .int .u16 0, .int .u16 0, .int .u16 0, .int .u16 0, .int .i32 0, .int .i32 0, .int .u8 0]
theorem zeroRow_cells {w : World} {b : Nat} {t : TypeId} (h : w.heap[b]? = some (.cells zeroRowC t (0, 0))) : w.cell? ⟨b, 0, none⟩ = some (.int .i64 0) ∧ w.cell? ⟨b, 1, none⟩ = some (.int .u16 0) ∧ w.cell? ⟨b, 2, none⟩ = some (.int .u16 0) ∧ w.cell? ⟨b, 3, none⟩ = some (.int .u16 0) ∧ w.cell? ⟨b, 4, none⟩ = some (.int .u16 0) ∧ w.cell? ⟨b, 5, none⟩ = some (.int .u16 0) ∧ w.cell? ⟨b, 6, none⟩ = some (.int .u16 0) ∧ w.cell? ⟨b, 7, none⟩ = some (.int .u16 0) ∧ w.cell? ⟨b, 8, none⟩ = some (.int .i32 0) ∧ w.cell? ⟨b, 9, none⟩ = some (.int .i32 0) ∧ w.cell? ⟨b, 10, none⟩ = some (.int .u8 0) ∧ (∀ j, w.frozen? ⟨b, j, none⟩ = false) := by
  refine ⟨?_, ?_, ?_, ?_, ?_, ?_, ?_, ?_, ?_, ?_, ?_, fun j => frozen_of_row w b j _ t h⟩ <;> (rw [cell_of_row w b _ _ t (0, 0) h]; rfl)
end Go.Proofs.Ytibmgmgkaacibaa

/- Decode is the reference's, Encode its inverse, Right the reference's: plainly. No program is named here. -/
import Derived.Test.YtibmgmgkaacibaaZs
namespace Go.Proofs.Ytibmgmgkaacibaa
open Go.RowKit
set_option linter.unusedVariables false
set_option linter.unusedSimpArgs false

deriving instance DecidableEq for Rw
theorem rowOf_in {op : Int} {r : Rw} (h : rowOfP op = some r) : r ∈ rowL ∧ fitP (op - r.first) r.p = true ∧ 1 ≤ op ∧ op ≤ 45 := by
  have hm := List.mem_of_find?_eq_some h
  have hf : fitP (op - r.first) r.p = true := by have := List.find?_some (p := fun r : Rw => fitP (op - r.first) r.p) h; simpa using this
  have h1 := (rows_ok hm).first
  have h3 : rowL.all (fun r => decide (r.first + 2 ^ r.p.length ≤ 46)) = true := by decide +kernel
  have h2 : r.first + 2 ^ r.p.length ≤ 46 := of_decide_eq_true (List.all_eq_true.1 h3 r hm)
  have h4 := (fit_iff _ _).1 hf
  exact ⟨hm, hf, by omega, by omega⟩
theorem rowOf_all : rowL.all (fun r => (List.range (2 ^ r.p.length)).all fun p => decide (rowOfP (r.first + (p : Int)) = some r)) = true := by decide +kernel
theorem rowOf_at {r : Rw} (hr : r ∈ rowL) {p : Nat} (hp : p < 2 ^ r.p.length) : rowOfP (r.first + (p : Int)) = some r :=
  of_decide_eq_true (List.all_eq_true.1 (List.all_eq_true.1 rowOf_all r hr) p (List.mem_range.2 hp))
theorem far_row : rowL.all (fun r => decide (r.first = 43 → r.fixed = 61440 ∧ totN r = 0) && decide (r.first ≤ 42 → r.first + 2 ^ r.p.length ≤ 43)) = true := by decide +kernel

theorem forms_no {op : Int} (h : op < 1 ∨ 45 < op) : formsP op = none := by
  unfold formsP
  repeat rw [if_neg (by simp; omega)]
set_option maxHeartbeats 1000000 in
theorem right_eq (i : I6) : rightP i = refR i := by
  obtain ⟨op, d, n, m, imm, cond⟩ := i
  by_cases h : 1 ≤ op ∧ op ≤ 45
  · have hk : op = 1 ∨ op = 2 ∨ op = 3 ∨ op = 4 ∨ op = 5 ∨ op = 6 ∨ op = 7 ∨ op = 8 ∨ op = 9 ∨ op = 10 ∨ op = 11 ∨ op = 12 ∨ op = 13 ∨ op = 14 ∨ op = 15 ∨ op = 16 ∨ op = 17 ∨ op = 18 ∨ op = 19 ∨ op = 20 ∨ op = 21 ∨ op = 22 ∨ op = 23 ∨ op = 24 ∨ op = 25 ∨ op = 26 ∨ op = 27 ∨ op = 28 ∨ op = 29 ∨ op = 30 ∨ op = 31 ∨ op = 32 ∨ op = 33 ∨ op = 34 ∨ op = 35 ∨ op = 36 ∨ op = 37 ∨ op = 38 ∨ op = 39 ∨ op = 40 ∨ op = 41 ∨ op = 42 ∨ op = 43 ∨ op = 44 ∨ op = 45 := by omega
    clear h
    rcases hk with rfl | rfl | rfl | rfl | rfl | rfl | rfl | rfl | rfl | rfl | rfl | rfl | rfl | rfl | rfl | rfl | rfl | rfl | rfl | rfl | rfl | rfl | rfl | rfl | rfl | rfl | rfl | rfl | rfl | rfl | rfl | rfl | rfl | rfl | rfl | rfl | rfl | rfl | rfl | rfl | rfl | rfl | rfl | rfl | rfl
    · have hr : rowOfP 1 = some (⟨1, 0, [], [0, 1, 2], [], [3, 4, 5], [6, 7, 8, 9, 10], [], 0, 31, 0⟩ : Rw) := by decide +kernel
      rw [Bool.eq_iff_iff]
      simp [rightP, hr, mayP, barP, refR, formsP, inP, useP, fit_iff]
      try omega
    · have hr : rowOfP 2 = some (⟨2, 2048, [], [0, 1, 2], [], [3, 4, 5], [6, 7, 8, 9, 10], [], 1, 32, 0⟩ : Rw) := by decide +kernel
      rw [Bool.eq_iff_iff]
      simp [rightP, hr, mayP, barP, refR, formsP, inP, useP, fit_iff]
      try omega
    · have hr : rowOfP 3 = some (⟨3, 4096, [], [0, 1, 2], [], [3, 4, 5], [6, 7, 8, 9, 10], [], 1, 32, 0⟩ : Rw) := by decide +kernel
      rw [Bool.eq_iff_iff]
      simp [rightP, hr, mayP, barP, refR, formsP, inP, useP, fit_iff]
      try omega
    · have hr : rowOfP 4 = some (⟨4, 6144, [9], [0, 1, 2], [3, 4, 5], [6, 7, 8], [], [], 0, 0, 0⟩ : Rw) := by decide +kernel
      rw [Bool.eq_iff_iff]
      simp [rightP, hr, mayP, barP, refR, formsP, inP, useP, fit_iff]
      try omega
    · have hr : rowOfP 5 = some (⟨4, 6144, [9], [0, 1, 2], [3, 4, 5], [6, 7, 8], [], [], 0, 0, 0⟩ : Rw) := by decide +kernel
      rw [Bool.eq_iff_iff]
      simp [rightP, hr, mayP, barP, refR, formsP, inP, useP, fit_iff]
      try omega
    · have hr : rowOfP 6 = some (⟨6, 7168, [9], [0, 1, 2], [3, 4, 5], [], [6, 7, 8], [], 0, 7, 0⟩ : Rw) := by decide +kernel
      rw [Bool.eq_iff_iff]
      simp [rightP, hr, mayP, barP, refR, formsP, inP, useP, fit_iff]
      try omega
    · have hr : rowOfP 7 = some (⟨6, 7168, [9], [0, 1, 2], [3, 4, 5], [], [6, 7, 8], [], 0, 7, 0⟩ : Rw) := by decide +kernel
      rw [Bool.eq_iff_iff]
      simp [rightP, hr, mayP, barP, refR, formsP, inP, useP, fit_iff]
      try omega
    · have hr : rowOfP 8 = some (⟨8, 8192, [11, 12], [8, 9, 10], [], [], [0, 1, 2, 3, 4, 5, 6, 7], [], 0, 255, 0⟩ : Rw) := by decide +kernel
      rw [Bool.eq_iff_iff]
      simp [rightP, hr, mayP, barP, refR, formsP, inP, useP, fit_iff]
      try omega
    · have hr : rowOfP 9 = some (⟨8, 8192, [11, 12], [8, 9, 10], [], [], [0, 1, 2, 3, 4, 5, 6, 7], [], 0, 255, 0⟩ : Rw) := by decide +kernel
      rw [Bool.eq_iff_iff]
      simp [rightP, hr, mayP, barP, refR, formsP, inP, useP, fit_iff]
      try omega
    · have hr : rowOfP 10 = some (⟨8, 8192, [11, 12], [8, 9, 10], [], [], [0, 1, 2, 3, 4, 5, 6, 7], [], 0, 255, 0⟩ : Rw) := by decide +kernel
      rw [Bool.eq_iff_iff]
      simp [rightP, hr, mayP, barP, refR, formsP, inP, useP, fit_iff]
      try omega
    · have hr : rowOfP 11 = some (⟨8, 8192, [11, 12], [8, 9, 10], [], [], [0, 1, 2, 3, 4, 5, 6, 7], [], 0, 255, 0⟩ : Rw) := by decide +kernel
      rw [Bool.eq_iff_iff]
      simp [rightP, hr, mayP, barP, refR, formsP, inP, useP, fit_iff]
      try omega
    · have hr : rowOfP 12 = some (⟨12, 16384, [6, 7, 8, 9], [0, 1, 2], [], [3, 4, 5], [], [], 0, 0, 0⟩ : Rw) := by decide +kernel
      rw [Bool.eq_iff_iff]
      simp [rightP, hr, mayP, barP, refR, formsP, inP, useP, fit_iff]
      try omega
    · have hr : rowOfP 13 = some (⟨12, 16384, [6, 7, 8, 9], [0, 1, 2], [], [3, 4, 5], [], [], 0, 0, 0⟩ : Rw) := by decide +kernel
      rw [Bool.eq_iff_iff]
      simp [rightP, hr, mayP, barP, refR, formsP, inP, useP, fit_iff]
      try omega
    · have hr : rowOfP 14 = some (⟨12, 16384, [6, 7, 8, 9], [0, 1, 2], [], [3, 4, 5], [], [], 0, 0, 0⟩ : Rw) := by decide +kernel
      rw [Bool.eq_iff_iff]
      simp [rightP, hr, mayP, barP, refR, formsP, inP, useP, fit_iff]
      try omega
    · have hr : rowOfP 15 = some (⟨12, 16384, [6, 7, 8, 9], [0, 1, 2], [], [3, 4, 5], [], [], 0, 0, 0⟩ : Rw) := by decide +kernel
      rw [Bool.eq_iff_iff]
      simp [rightP, hr, mayP, barP, refR, formsP, inP, useP, fit_iff]
      try omega
    · have hr : rowOfP 16 = some (⟨12, 16384, [6, 7, 8, 9], [0, 1, 2], [], [3, 4, 5], [], [], 0, 0, 0⟩ : Rw) := by decide +kernel
      rw [Bool.eq_iff_iff]
      simp [rightP, hr, mayP, barP, refR, formsP, inP, useP, fit_iff]
      try omega
    · have hr : rowOfP 17 = some (⟨12, 16384, [6, 7, 8, 9], [0, 1, 2], [], [3, 4, 5], [], [], 0, 0, 0⟩ : Rw) := by decide +kernel
      rw [Bool.eq_iff_iff]
      simp [rightP, hr, mayP, barP, refR, formsP, inP, useP, fit_iff]
      try omega
    · have hr : rowOfP 18 = some (⟨12, 16384, [6, 7, 8, 9], [0, 1, 2], [], [3, 4, 5], [], [], 0, 0, 0⟩ : Rw) := by decide +kernel
      rw [Bool.eq_iff_iff]
      simp [rightP, hr, mayP, barP, refR, formsP, inP, useP, fit_iff]
      try omega
    · have hr : rowOfP 19 = some (⟨12, 16384, [6, 7, 8, 9], [0, 1, 2], [], [3, 4, 5], [], [], 0, 0, 0⟩ : Rw) := by decide +kernel
      rw [Bool.eq_iff_iff]
      simp [rightP, hr, mayP, barP, refR, formsP, inP, useP, fit_iff]
      try omega
    · have hr : rowOfP 20 = some (⟨12, 16384, [6, 7, 8, 9], [0, 1, 2], [], [3, 4, 5], [], [], 0, 0, 0⟩ : Rw) := by decide +kernel
      rw [Bool.eq_iff_iff]
      simp [rightP, hr, mayP, barP, refR, formsP, inP, useP, fit_iff]
      try omega
    · have hr : rowOfP 21 = some (⟨12, 16384, [6, 7, 8, 9], [0, 1, 2], [], [3, 4, 5], [], [], 0, 0, 0⟩ : Rw) := by decide +kernel
      rw [Bool.eq_iff_iff]
      simp [rightP, hr, mayP, barP, refR, formsP, inP, useP, fit_iff]
      try omega
    · have hr : rowOfP 22 = some (⟨12, 16384, [6, 7, 8, 9], [0, 1, 2], [], [3, 4, 5], [], [], 0, 0, 0⟩ : Rw) := by decide +kernel
      rw [Bool.eq_iff_iff]
      simp [rightP, hr, mayP, barP, refR, formsP, inP, useP, fit_iff]
      try omega
    · have hr : rowOfP 23 = some (⟨12, 16384, [6, 7, 8, 9], [0, 1, 2], [], [3, 4, 5], [], [], 0, 0, 0⟩ : Rw) := by decide +kernel
      rw [Bool.eq_iff_iff]
      simp [rightP, hr, mayP, barP, refR, formsP, inP, useP, fit_iff]
      try omega
    · have hr : rowOfP 24 = some (⟨12, 16384, [6, 7, 8, 9], [0, 1, 2], [], [3, 4, 5], [], [], 0, 0, 0⟩ : Rw) := by decide +kernel
      rw [Bool.eq_iff_iff]
      simp [rightP, hr, mayP, barP, refR, formsP, inP, useP, fit_iff]
      try omega
    · have hr : rowOfP 25 = some (⟨12, 16384, [6, 7, 8, 9], [0, 1, 2], [], [3, 4, 5], [], [], 0, 0, 0⟩ : Rw) := by decide +kernel
      rw [Bool.eq_iff_iff]
      simp [rightP, hr, mayP, barP, refR, formsP, inP, useP, fit_iff]
      try omega
    · have hr : rowOfP 26 = some (⟨12, 16384, [6, 7, 8, 9], [0, 1, 2], [], [3, 4, 5], [], [], 0, 0, 0⟩ : Rw) := by decide +kernel
      rw [Bool.eq_iff_iff]
      simp [rightP, hr, mayP, barP, refR, formsP, inP, useP, fit_iff]
      try omega
    · have hr : rowOfP 27 = some (⟨12, 16384, [6, 7, 8, 9], [0, 1, 2], [], [3, 4, 5], [], [], 0, 0, 0⟩ : Rw) := by decide +kernel
      rw [Bool.eq_iff_iff]
      simp [rightP, hr, mayP, barP, refR, formsP, inP, useP, fit_iff]
      try omega
    · have hr : rowOfP 28 = some (⟨28, 17920, [], [0, 1, 2, 7], [], [3, 4, 5, 6], [], [], 0, 0, 0⟩ : Rw) := by decide +kernel
      rw [Bool.eq_iff_iff]
      simp [rightP, hr, mayP, barP, refR, formsP, inP, useP, fit_iff]
      try omega
    · have hr : rowOfP 29 = some (⟨29, 22528, [], [0, 1, 2], [3, 4, 5], [6, 7, 8], [], [], 0, 0, 0⟩ : Rw) := by decide +kernel
      rw [Bool.eq_iff_iff]
      simp [rightP, hr, mayP, barP, refR, formsP, inP, useP, fit_iff]
      try omega
    · have hr : rowOfP 30 = some (⟨30, 20480, [], [0, 1, 2], [3, 4, 5], [6, 7, 8], [], [], 0, 0, 0⟩ : Rw) := by decide +kernel
      rw [Bool.eq_iff_iff]
      simp [rightP, hr, mayP, barP, refR, formsP, inP, useP, fit_iff]
      try omega
    · have hr : rowOfP 31 = some (⟨31, 26624, [], [0, 1, 2], [3, 4, 5], [], [6, 7, 8, 9, 10], [], 0, 124, 2⟩ : Rw) := by decide +kernel
      rw [Bool.eq_iff_iff]
      simp [rightP, hr, mayP, barP, refR, formsP, inP, useP, fit_iff]
      try omega
    · have hr : rowOfP 32 = some (⟨32, 24576, [], [0, 1, 2], [3, 4, 5], [], [6, 7, 8, 9, 10], [], 0, 124, 2⟩ : Rw) := by decide +kernel
      rw [Bool.eq_iff_iff]
      simp [rightP, hr, mayP, barP, refR, formsP, inP, useP, fit_iff]
      try omega
    · have hr : rowOfP 33 = some (⟨33, 30720, [], [0, 1, 2], [3, 4, 5], [], [6, 7, 8, 9, 10], [], 0, 31, 0⟩ : Rw) := by decide +kernel
      rw [Bool.eq_iff_iff]
      simp [rightP, hr, mayP, barP, refR, formsP, inP, useP, fit_iff]
      try omega
    · have hr : rowOfP 34 = some (⟨34, 28672, [], [0, 1, 2], [3, 4, 5], [], [6, 7, 8, 9, 10], [], 0, 31, 0⟩ : Rw) := by decide +kernel
      rw [Bool.eq_iff_iff]
      simp [rightP, hr, mayP, barP, refR, formsP, inP, useP, fit_iff]
      try omega
    · have hr : rowOfP 35 = some (⟨35, 38912, [], [8, 9, 10], [], [], [0, 1, 2, 3, 4, 5, 6, 7], [], 0, 1020, 2⟩ : Rw) := by decide +kernel
      rw [Bool.eq_iff_iff]
      simp [rightP, hr, mayP, barP, refR, formsP, inP, useP, fit_iff]
      try omega
    · have hr : rowOfP 36 = some (⟨36, 36864, [], [8, 9, 10], [], [], [0, 1, 2, 3, 4, 5, 6, 7], [], 0, 1020, 2⟩ : Rw) := by decide +kernel
      rw [Bool.eq_iff_iff]
      simp [rightP, hr, mayP, barP, refR, formsP, inP, useP, fit_iff]
      try omega
    · have hr : rowOfP 37 = some (⟨37, 45056, [7], [], [], [], [0, 1, 2, 3, 4, 5, 6], [], 0, 508, 2⟩ : Rw) := by decide +kernel
      rw [Bool.eq_iff_iff]
      simp [rightP, hr, mayP, barP, refR, formsP, inP, useP, fit_iff]
      try omega
    · have hr : rowOfP 38 = some (⟨37, 45056, [7], [], [], [], [0, 1, 2, 3, 4, 5, 6], [], 0, 508, 2⟩ : Rw) := by decide +kernel
      rw [Bool.eq_iff_iff]
      simp [rightP, hr, mayP, barP, refR, formsP, inP, useP, fit_iff]
      try omega
    · have hr : rowOfP 39 = some (⟨39, 46080, [], [], [], [], [0, 1, 2, 3, 4, 5, 6, 7, 8], [], 1, 511, 0⟩ : Rw) := by decide +kernel
      rw [Bool.eq_iff_iff]
      simp [rightP, hr, mayP, barP, refR, formsP, inP, useP, fit_iff]
      try omega
    · have hr : rowOfP 40 = some (⟨40, 48128, [], [], [], [], [0, 1, 2, 3, 4, 5, 6, 7, 8], [], 1, 511, 0⟩ : Rw) := by decide +kernel
      rw [Bool.eq_iff_iff]
      simp [rightP, hr, mayP, barP, refR, formsP, inP, useP, fit_iff]
      try omega
    · have hr : rowOfP 41 = some (⟨41, 53248, [], [], [], [], [0, 1, 2, 3, 4, 5, 6, 7], [8, 9, 10, 11], -256, 254, 1⟩ : Rw) := by decide +kernel
      rw [Bool.eq_iff_iff]
      simp [rightP, hr, mayP, barP, refR, formsP, inP, useP, fit_iff]
      try omega
    · have hr : rowOfP 42 = some (⟨42, 57344, [], [], [], [], [0, 1, 2, 3, 4, 5, 6, 7, 8, 9, 10], [], -2048, 2046, 1⟩ : Rw) := by decide +kernel
      rw [Bool.eq_iff_iff]
      simp [rightP, hr, mayP, barP, refR, formsP, inP, useP, fit_iff]
      try omega
    · have hr : rowOfP 43 = some (⟨43, 61440, [], [], [], [], [], [], -16777216, 16777214, 1⟩ : Rw) := by decide +kernel
      rw [Bool.eq_iff_iff]
      simp [rightP, hr, mayP, barP, refR, formsP, inP, useP, fit_iff]
      try omega
    · have hr : rowOfP 44 = some (⟨44, 57088, [], [], [], [], [0, 1, 2, 3, 4, 5, 6, 7], [], 0, 255, 0⟩ : Rw) := by decide +kernel
      rw [Bool.eq_iff_iff]
      simp [rightP, hr, mayP, barP, refR, formsP, inP, useP, fit_iff]
      try omega
    · have hr : rowOfP 45 = some (⟨45, 48896, [], [], [], [], [], [], 0, 0, 0⟩ : Rw) := by decide +kernel
      rw [Bool.eq_iff_iff]
      simp [rightP, hr, mayP, barP, refR, formsP, inP, useP, fit_iff]
      try omega
  · have hno : rowOfP op = none := by
      cases hq : rowOfP op with
      | none => rfl
      | some r => have := rowOf_in hq; omega
    have hfo := forms_no (op := op) (by omega)
    have h1 : rightP ⟨op, d, n, m, imm, cond⟩ = false := by unfold rightP; rw [hno]
    have h28 : (op == 28) = false := by simp; omega
    rw [h1]
    unfold refR
    rw [hfo, h28]
    simp
end Go.Proofs.Ytibmgmgkaacibaa

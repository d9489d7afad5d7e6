/- Slices of bytes: bytes.Clone, the Writer's Bytes, the hand's Pick and Few, and the chapter's example. -/
import Derived.Test.YtmikibcgphkcfaaGreatDoorWr
import Derived.OpenShut
import Derived.Lib.SlBytesConst
namespace Go.Proofs.YtmikibcgphkcfaaGreatDoor
open Go.RowKit
set_option linter.unusedVariables false

theorem tmod_pick {n m : Int} (h0 : 0 < m) : (0 ≤ n.tmod m ∧ n.tmod m = n % m) ∨ (n.tmod m < 0 ∧ n.tmod m + m = n % m ∧ -m < n.tmod m) := by
  rcases Int.lt_or_le n 0 with hn | hn
  · have e2 : n.tmod m = -((-n) % m) := by
      have := Int.neg_tmod (a := -n) (b := m)
      rw [Int.neg_neg] at this
      rw [this, Int.tmod_eq_emod_of_nonneg (by omega)]
    have e3 := Int.emod_nonneg (-n) (show m ≠ 0 by omega)
    have e4 := Int.emod_lt_of_pos (-n) h0
    have e5 := Int.emod_add_mul_ediv (-n) m
    generalize hr : (-n) % m = r at *
    generalize (-n) / m = q at *
    rw [e2]
    by_cases hz : r = 0
    · left
      subst hz
      have : n = m * (-q) := by rw [Int.mul_neg]; omega
      rw [this, Int.mul_emod_right]
      exact ⟨by omega, rfl⟩
    · right
      have : n = (m - r) + m * (-q - 1) := by rw [Int.mul_sub, Int.mul_neg]; omega
      rw [this, Int.add_mul_emod_self_left, Int.emod_eq_of_lt (by omega) (by omega)]
      exact ⟨by omega, by omega, by omega⟩
  · left
    rw [Int.tmod_eq_emod_of_nonneg hn]
    exact ⟨Int.emod_nonneg n (by omega), rfl⟩

theorem ret_int {k : IntKind} {a b : Int} (h : a = b) : Ending.returned (.int k a) = .returned (.int k b) := by rw [h]
/-- Pick: as a number from 0 to m - 1 -/
theorem pick (w : World) (n m : Int) (wn : (Lit.int .i64 n).wf = true) (h0 : 0 < m) (h1 : m ≤ 1000000) :
    Calls Tryz.prog 6 #[.int .i64 n, .int .i64 m] w fun e w' => e = .returned (.int .i64 (n % m)) ∧ w = w' := by
  have hb := bounds_i64 wn
  have h2 : ((m : Int) == 0) = false := by simp; omega
  have HM := Lib.hid (tmod_pick (n := n) h0)
  have hlo : -m < n.tmod m ∧ n.tmod m < m := by
    have := Int.emod_lt_of_pos n h0
    rcases HM.out with ⟨a, b⟩ | ⟨a, b, c⟩ <;> omega
  obtain ⟨hlo1, hlo2⟩ := hlo
  by_cases hn : n.tmod m < 0
  · have hr : n.tmod m + m = n % m := by rcases HM.out with ⟨a, b⟩ | ⟨a, b, c⟩ <;> omega
    have HR := Lib.hid hr
    clear hr
    go_enter Tryz.func6, Tryz.ntmps6
    go_wp2
    go_ret
    exact ⟨ret_int HR.out, rfl⟩
  · have hr : n.tmod m = n % m := by rcases HM.out with ⟨a, b⟩ | ⟨a, b, c⟩ <;> omega
    have HR := Lib.hid hr
    clear hr
    go_enter Tryz.func6, Tryz.ntmps6
    go_wp2
    go_ret
    exact ⟨ret_int HR.out, rfl⟩

/-- n zeros, as cells -/
def zerosA (n : Nat) : Array Value := (bv (List.replicate n 0)).toArray
theorem run_zeros (u : World) (n : Nat) (N : Int) (hN : N = n) (hn : n ≤ 1048576) : (Instr.makeSlice 47 (.int .i64 N) (.int .i64 N)).run Tryz.prog u = .ok (.slice (some ⟨u.heap.size, 0, none⟩) n n) (u.alloc (.cells (zerosA n) 5)) := by
  subst hN
  obtain ⟨i0, hi, hz0, hz1, hz2⟩ := info_parts info5
  have h := run_make (P := Tryz.prog) u 47 5 i0 (.int .u8 0) Tryz.underlying47 hi hz0 .i64 .i64 (n : Int) (n : Int) (by omega) (Int.le_refl _) (by rw [hz2]; omega) (by omega)
  have e : ((n : Int)).toNat = n := by omega
  rw [e] at h
  have e2 : madeCells (Value.int IntKind.u8 0).cells (n * i0.size) = zerosA n := by
    apply Array.ext'
    rw [hz1, Nat.mul_one]
    show (madeCells #[Value.int IntKind.u8 0] n).toList = _
    rw [toList_madeCells_one]
    simp [zerosA, bv]
  rw [e2] at h
  exact h
theorem vw_zeros (u : World) (n : Nat) (hn : n ≤ 1048576) : Vw (u.alloc (.cells (zerosA n) 5)) (.slice (some ⟨u.heap.size, 0, none⟩) n n) (List.replicate n 0) :=
  vw_lit u _ (0, 0) _ _ n n rfl (by simp) (by omega) (by unfold maxLen; omega) (by intro y hy; have := List.eq_of_mem_replicate hy; omega)

end Go.Proofs.YtmikibcgphkcfaaGreatDoor

/- Package thumb: Right, Encode, and Bl's part of Decode. -/
import Derived.Test.YtibmgmgkaacibaaZf
import Derived.Test.YtibmgmgkaacibaaZg
namespace Go.Proofs.Ytibmgmgkaacibaa
open Go.RowKit
set_option linter.unusedVariables false

/-- a slice value that reads as these halfwords -/
def VwH (w : World) (v : Value) (ys : List Nat) : Prop :=
  (∀ y ∈ ys, y < 65536) ∧ (((∃ a, v = .slice a 0 0) ∧ ys = []) ∨
  ∃ g off c, v = .slice (some ⟨g, off, none⟩) ys.length c ∧ ys.length ≤ c ∧ c ≤ maxLen ∧ ∀ j, j < ys.length → w.cell? ⟨g, off + j, none⟩ = some (.int .u16 ((ys.getD j 0 : Nat) : Int)))
theorem VwH.nil (w : World) (a : Option Addr) : VwH w (.slice a 0 0) [] := ⟨by simp, .inl ⟨⟨a, rfl⟩, rfl⟩⟩
theorem VwH.slice {w : World} {v : Value} {ys : List Nat} (h : VwH w v ys) : ∃ a c, v = .slice a ys.length c ∧ ys.length ≤ c ∧ c ≤ maxLen := by
  rcases h.2 with ⟨⟨a, rfl⟩, rfl⟩ | ⟨g, off, c, rfl, h1, h2, _⟩
  · exact ⟨a, 0, rfl, Nat.le_refl _, by unfold maxLen; omega⟩
  · exact ⟨_, c, rfl, h1, h2⟩
theorem VwH.new {w w' : World} {v : Value} {ys : List Nat} (h : VwH w v ys) (hu : New w w') : VwH w' v ys := by
  refine ⟨h.1, ?_⟩
  rcases h.2 with h | ⟨g, off, c, rfl, h1, h2, h3⟩
  · exact .inl h
  · refine .inr ⟨g, off, c, rfl, h1, h2, fun j hj => ?_⟩
    have hc := h3 j hj
    rw [hu.cell (p := ⟨g, off + j, none⟩) (World.block_lt_of_cell? w _ hc) (fun h => h)]
    exact hc

/-- an instruction's box, whatever came behind it -/
theorem I6.kept {w w1 : World} {i : I6} {t : TypeId} (h : New (w.alloc (.cells #[.int .i64 i.op, .int .i64 i.d, .int .i64 i.n, .int .i64 i.m, .int .i64 i.imm, .int .i64 i.cond] t)) w1) : w.heap.size < w1.heap.size ∧
    w1.cell? ⟨w.heap.size, 0, none⟩ = some (.int .i64 i.op) ∧ w1.cell? ⟨w.heap.size, 1, none⟩ = some (.int .i64 i.d) ∧ w1.cell? ⟨w.heap.size, 2, none⟩ = some (.int .i64 i.n) ∧ w1.cell? ⟨w.heap.size, 3, none⟩ = some (.int .i64 i.m) ∧ w1.cell? ⟨w.heap.size, 4, none⟩ = some (.int .i64 i.imm) ∧ w1.cell? ⟨w.heap.size, 5, none⟩ = some (.int .i64 i.cond) := by
  have hs := h.size
  simp at hs
  have hb : w1.heap[w.heap.size]? = some (.cells #[.int .i64 i.op, .int .i64 i.d, .int .i64 i.n, .int .i64 i.m, .int .i64 i.imm, .int .i64 i.cond] t (0, 0)) := by
    rw [h.block _ (by simp) (fun h => h)]; exact heap_alloc_last w _
  refine ⟨by omega, ?_, ?_, ?_, ?_, ?_, ?_⟩ <;> (rw [cell_of_row w1 _ _ _ t (0, 0) hb]; rfl)
theorem Rw.kept {w w1 : World} {r : Rw} {t : TypeId} (h : New (w.alloc (.cells #[.int .i64 r.first, .int .u16 (r.fixed : Int), .int .u16 (msk r.p : Int), .int .u16 (msk r.d : Int), .int .u16 (msk r.n : Int), .int .u16 (msk r.m : Int), .int .u16 (msk r.imm : Int), .int .u16 (msk r.cond : Int), .int .i32 r.least, .int .i32 r.most, .int .u8 (r.halved : Int)] t)) w1) : w.heap.size < w1.heap.size ∧
    w1.cell? ⟨w.heap.size, 0, none⟩ = some (.int .i64 r.first) ∧ w1.cell? ⟨w.heap.size, 1, none⟩ = some (.int .u16 (r.fixed : Int)) ∧ w1.cell? ⟨w.heap.size, 2, none⟩ = some (.int .u16 (msk r.p : Int)) ∧ w1.cell? ⟨w.heap.size, 3, none⟩ = some (.int .u16 (msk r.d : Int)) ∧ w1.cell? ⟨w.heap.size, 4, none⟩ = some (.int .u16 (msk r.n : Int)) ∧ w1.cell? ⟨w.heap.size, 5, none⟩ = some (.int .u16 (msk r.m : Int)) ∧ w1.cell? ⟨w.heap.size, 6, none⟩ = some (.int .u16 (msk r.imm : Int)) ∧ w1.cell? ⟨w.heap.size, 7, none⟩ = some (.int .u16 (msk r.cond : Int)) ∧ w1.cell? ⟨w.heap.size, 8, none⟩ = some (.int .i32 r.least) ∧ w1.cell? ⟨w.heap.size, 9, none⟩ = some (.int .i32 r.most) ∧ w1.cell? ⟨w.heap.size, 10, none⟩ = some (.int .u8 (r.halved : Int)) := by
  have hs := h.size
  simp at hs
  have hb : w1.heap[w.heap.size]? = some (.cells #[.int .i64 r.first, .int .u16 (r.fixed : Int), .int .u16 (msk r.p : Int), .int .u16 (msk r.d : Int), .int .u16 (msk r.n : Int), .int .u16 (msk r.m : Int), .int .u16 (msk r.imm : Int), .int .u16 (msk r.cond : Int), .int .i32 r.least, .int .i32 r.most, .int .u8 (r.halved : Int)] t (0, 0)) := by
    rw [h.block _ (by simp) (fun h => h)]; exact heap_alloc_last w _
  refine ⟨by omega, ?_, ?_, ?_, ?_, ?_, ?_, ?_, ?_, ?_, ?_, ?_⟩ <;> (rw [cell_of_row w1 _ _ _ t (0, 0) hb]; rfl)
theorem New.keep {w w' : World} (k : New w w') {p : Addr} {v : Value} (h : w.cell? p = some v) : w'.cell? p = some v := by
  rw [k.cell (World.block_lt_of_cell? w _ h) (fun h => h)]; exact h
theorem rows_top : rowL.all (fun r => decide (r.first + 2 ^ r.p.length ≤ 46)) = true := by decide +kernel
theorem rowOf_range {op : Int} {r : Rw} (h : rowOfP op = some r) : r ∈ rowL ∧ 1 ≤ op ∧ op ≤ 45 ∧ fitP (op - r.first) r.p = true := by
  have hm := List.mem_of_find?_eq_some h
  have hf : fitP (op - r.first) r.p = true := by have := List.find?_some (p := fun r : Rw => fitP (op - r.first) r.p) h; simpa using this
  have h1 := (rows_ok hm).first
  have h2 : r.first + 2 ^ r.p.length ≤ 46 := of_decide_eq_true (List.all_eq_true.1 rows_top r hm)
  refine ⟨hm, ?_, ?_, hf⟩
  all_goals
    simp only [fitP, beq_iff_eq] at hf
    have h0 : (0 : Int) < 2 ^ r.p.length := Int.pow_pos (by decide)
    have h3 := Int.emod_add_mul_ediv (op - r.first) (2 ^ r.p.length)
    rw [hf] at h3
    have h4 := Int.emod_nonneg (op - r.first) (by omega : (2 : Int) ^ r.p.length ≠ 0)
    have h5 := Int.emod_lt_of_pos (op - r.first) h0
    simp at h3
    omega
theorem New.set' {w a : World} {b : Nat} (h : New w a) (hb : w.heap.size ≤ b) (j : Nat) (v : Value) : New w (a.setCell ⟨b, j, none⟩ v) := h.set _ v hb

theorem u16_or_range (x y : Int) : 0 ≤ bits .or .u16 x y ∧ bits .or .u16 x y < 65536 := by
  unfold bits
  simp only [IntKind.bits]
  rw [IntKind.wrap_u16]
  omega
theorem lay_range (r : Rw) (i : I6) : 0 ≤ layP r i ∧ layP r i < 65536 := u16_or_range _ _
theorem VwH.one (w : World) (t : TypeId) (x : Nat) (hx : x < 65536) : VwH (w.alloc (.cells #[.int .u16 (x : Int)] t)) (.slice (some ⟨w.heap.size, 0, none⟩) 1 1) [x] := by
  refine ⟨by simpa using hx, .inr ⟨w.heap.size, 0, 1, rfl, by simp, by unfold maxLen; simp, fun j hj => ?_⟩⟩
  have : j = 0 := by simpa using hj
  subst this
  rw [cell_of_row _ _ _ _ t (0, 0) (heap_alloc_last w _)]
  rfl
theorem VwH.two (w : World) (t : TypeId) (x y : Nat) (hx : x < 65536) (hy : y < 65536) : VwH (w.alloc (.cells #[.int .u16 (x : Int), .int .u16 (y : Int)] t)) (.slice (some ⟨w.heap.size, 0, none⟩) 2 2) [x, y] := by
  refine ⟨by simp [hx, hy], .inr ⟨w.heap.size, 0, 2, rfl, by simp, by unfold maxLen; simp, fun j hj => ?_⟩⟩
  have : j = 0 ∨ j = 1 := by simp at hj; omega
  rcases this with rfl | rfl
  · rw [cell_of_row _ _ _ _ t (0, 0) (heap_alloc_last w _)]
    rfl
  · rw [cell_of_row _ _ _ _ t (0, 0) (heap_alloc_last w _)]
    rfl
theorem far1_lt (imm : Int) : far1 imm < 65536 := by have := bitN_lt imm 24; unfold far1; omega
theorem far2_lt (imm : Int) : far2 imm < 65536 := by
  have := turn_lt (bitN imm 23) (bitN imm 24)
  have := turn_lt (bitN imm 22) (bitN imm 24)
  unfold far2; omega

/-- an instruction's halfwords -/
def encP (i : I6) : List Nat := if i.op = 43 then [far1 i.imm, far2 i.imm] else match rowOfP i.op with
  | some r => [(layP r i).toNat]
  | none => []
end Go.Proofs.Ytibmgmgkaacibaa

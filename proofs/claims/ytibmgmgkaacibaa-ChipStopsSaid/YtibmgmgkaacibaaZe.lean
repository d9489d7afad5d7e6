/- Package thumb: the table's rows, and the row of an instruction. -/
import Derived.Test.YtibmgmgkaacibaaZd
import Derived.Deep.WholeRow
import Derived.Deep.Cut
namespace Go.Proofs.Ytibmgmgkaacibaa
open Go.RowKit
set_option linter.unusedVariables false

def rowsC : Array Value := (rowL.flatMap fun r => r.cells.toList).toArray
def zerosC : Array Value := (rowL.flatMap fun _ => [.int .i64 0, .int .u16 0, .int .u16 0, .int .u16 0, .int .u16 0, .int .u16 0, .int .u16 0, .int .u16 0, .int .i32 0, .int .i32 0, .int .u8 0]).toArray
theorem zero_rows : (Try.prog.info? 119).map (fun i => (i.zero, i.size)) = some (some (.agg zerosC), 264) := by kernel_rfl
theorem rows_size : rowsC.size = 264 := by kernel_rfl
theorem zeros_size : zerosC.size = 264 := by kernel_rfl
theorem rows_one : rowsC.all (·.oneCell') = true := by kernel_rfl
theorem rows_under : Try.prog.underlying 119 = some (.array 24 118) := by kernel_rfl
theorem results_cell {P : Program} {fn : Func} {t : Nat} {ty : TypeId} {tmps : Array Value} {w : World} {p : Addr} {v : Value} (hr : fn.results = #[.cell t ty])
    (hp : tmps.getD t undef = .pointer (some p)) (hl : (loadVar ty p).run P w = .ok v w) : (results fn tmps).run P w = .ok v w := by
  have hp2 : tmps[t]?.getD undef = .pointer (some p) := by simpa using hp
  simp [results, hr, hp2, hl, asAddr]
theorem wpList_val {P : Program} {ops : Array Oper} {rest : List Oper} {Q : Exit → Act → World → Prop} {o : Oper} {a : Act} {w : World} (v : Value) (hg : o.guard = none)
    (hr : (execOp a.eval o).run P w = .ok (.value v) w) (h : wpList P ops Q rest (a.put o.dst v) w) : wpList P ops Q (o :: rest) a w := by
  refine wpList_plain hg fun K hK => ?_
  unfold Oper.wp
  rw [hr]
  exact hK _ _ h
set_option maxHeartbeats 2000000 in
set_option maxRecDepth 100000 in
theorem tRows (w : World) : Calls Try.prog 59 #[] w fun e w' => e = .returned (.agg rowsC) ∧ New w w' := by
  have hz := (zero_of_info zero_rows).1
  have hs := (zero_of_info zero_rows).2
  have h1 : (storeVar 119 ⟨w.heap.size, 0, none⟩ (.agg rowsC)).run Try.prog (w.alloc (.cells zerosC 119)) = .ok () (w.alloc (.cells rowsC 119)) := run_storeVar_new w _ zerosC rowsC (by rw [hs, rows_size]) (by rw [zeros_size, rows_size]) rows_one
  have h2 : (loadVar 119 ⟨w.heap.size, 0, none⟩).run Try.prog (w.alloc (.cells rowsC 119)) = .ok (.agg rowsC) (w.alloc (.cells rowsC 119)) := run_loadVar_new w _ rowsC 24 _ rows_under (by rw [hs, rows_size])
  have h3 : (storeCells ⟨w.heap.size, 0, none⟩ rowsC.toList 0).run Try.prog (w.alloc (.cells zerosC 119)) = .ok () (w.alloc (.cells rowsC 119)) := run_storeCells_new w _ zerosC rowsC (by rw [hs, rows_size]) (by rw [zeros_size, rows_size]) rows_one
  have h4 : (loadCellsFrom ⟨w.heap.size, 0, none⟩ 0 264 #[]).run Try.prog (w.alloc (.cells rowsC 119)) = .ok rowsC (w.alloc (.cells rowsC 119)) := run_loadCellsFrom_new w _ rowsC 264 rows_size
  have h5 := rows_size
  clear hs
  go_enter Try.func59, Try.ntmps59
  go_upto_region 1 with fail
  clear hz
  refine wp_region_lit ?_
  refine wpList_val (.agg #[.int .i64 1, .int .u16 0, .int .u16 0, .int .u16 7, .int .u16 0, .int .u16 56, .int .u16 1984, .int .u16 0, .int .i32 0, .int .i32 31, .int .u8 0]) rfl (by kernel_rfl) ?_
  refine wpList_val (.agg #[.int .i64 2, .int .u16 2048, .int .u16 0, .int .u16 7, .int .u16 0, .int .u16 56, .int .u16 1984, .int .u16 0, .int .i32 1, .int .i32 32, .int .u8 0]) rfl (by kernel_rfl) ?_
  refine wpList_val (.agg #[.int .i64 3, .int .u16 4096, .int .u16 0, .int .u16 7, .int .u16 0, .int .u16 56, .int .u16 1984, .int .u16 0, .int .i32 1, .int .i32 32, .int .u8 0]) rfl (by kernel_rfl) ?_
  refine wpList_val (.agg #[.int .i64 4, .int .u16 6144, .int .u16 512, .int .u16 7, .int .u16 56, .int .u16 448, .int .u16 0, .int .u16 0, .int .i32 0, .int .i32 0, .int .u8 0]) rfl (by kernel_rfl) ?_
  refine wpList_val (.agg #[.int .i64 6, .int .u16 7168, .int .u16 512, .int .u16 7, .int .u16 56, .int .u16 0, .int .u16 448, .int .u16 0, .int .i32 0, .int .i32 7, .int .u8 0]) rfl (by kernel_rfl) ?_
  refine wpList_val (.agg #[.int .i64 8, .int .u16 8192, .int .u16 6144, .int .u16 1792, .int .u16 0, .int .u16 0, .int .u16 255, .int .u16 0, .int .i32 0, .int .i32 255, .int .u8 0]) rfl (by kernel_rfl) ?_
  refine wpList_val (.agg #[.int .i64 12, .int .u16 16384, .int .u16 960, .int .u16 7, .int .u16 0, .int .u16 56, .int .u16 0, .int .u16 0, .int .i32 0, .int .i32 0, .int .u8 0]) rfl (by kernel_rfl) ?_
  refine wpList_val (.agg #[.int .i64 28, .int .u16 17920, .int .u16 0, .int .u16 135, .int .u16 0, .int .u16 120, .int .u16 0, .int .u16 0, .int .i32 0, .int .i32 0, .int .u8 0]) rfl (by kernel_rfl) ?_
  refine wpList_val (.agg #[.int .i64 30, .int .u16 20480, .int .u16 0, .int .u16 7, .int .u16 56, .int .u16 448, .int .u16 0, .int .u16 0, .int .i32 0, .int .i32 0, .int .u8 0]) rfl (by kernel_rfl) ?_
  refine wpList_val (.agg #[.int .i64 29, .int .u16 22528, .int .u16 0, .int .u16 7, .int .u16 56, .int .u16 448, .int .u16 0, .int .u16 0, .int .i32 0, .int .i32 0, .int .u8 0]) rfl (by kernel_rfl) ?_
  refine wpList_val (.agg #[.int .i64 32, .int .u16 24576, .int .u16 0, .int .u16 7, .int .u16 56, .int .u16 0, .int .u16 1984, .int .u16 0, .int .i32 0, .int .i32 124, .int .u8 2]) rfl (by kernel_rfl) ?_
  refine wpList_val (.agg #[.int .i64 31, .int .u16 26624, .int .u16 0, .int .u16 7, .int .u16 56, .int .u16 0, .int .u16 1984, .int .u16 0, .int .i32 0, .int .i32 124, .int .u8 2]) rfl (by kernel_rfl) ?_
  refine wpList_val (.agg #[.int .i64 34, .int .u16 28672, .int .u16 0, .int .u16 7, .int .u16 56, .int .u16 0, .int .u16 1984, .int .u16 0, .int .i32 0, .int .i32 31, .int .u8 0]) rfl (by kernel_rfl) ?_
  refine wpList_val (.agg #[.int .i64 33, .int .u16 30720, .int .u16 0, .int .u16 7, .int .u16 56, .int .u16 0, .int .u16 1984, .int .u16 0, .int .i32 0, .int .i32 31, .int .u8 0]) rfl (by kernel_rfl) ?_
  refine wpList_val (.agg #[.int .i64 36, .int .u16 36864, .int .u16 0, .int .u16 1792, .int .u16 0, .int .u16 0, .int .u16 255, .int .u16 0, .int .i32 0, .int .i32 1020, .int .u8 2]) rfl (by kernel_rfl) ?_
  refine wpList_val (.agg #[.int .i64 35, .int .u16 38912, .int .u16 0, .int .u16 1792, .int .u16 0, .int .u16 0, .int .u16 255, .int .u16 0, .int .i32 0, .int .i32 1020, .int .u8 2]) rfl (by kernel_rfl) ?_
  refine wpList_val (.agg #[.int .i64 37, .int .u16 45056, .int .u16 128, .int .u16 0, .int .u16 0, .int .u16 0, .int .u16 127, .int .u16 0, .int .i32 0, .int .i32 508, .int .u8 2]) rfl (by kernel_rfl) ?_
  refine wpList_val (.agg #[.int .i64 39, .int .u16 46080, .int .u16 0, .int .u16 0, .int .u16 0, .int .u16 0, .int .u16 511, .int .u16 0, .int .i32 1, .int .i32 511, .int .u8 0]) rfl (by kernel_rfl) ?_
  refine wpList_val (.agg #[.int .i64 40, .int .u16 48128, .int .u16 0, .int .u16 0, .int .u16 0, .int .u16 0, .int .u16 511, .int .u16 0, .int .i32 1, .int .i32 511, .int .u8 0]) rfl (by kernel_rfl) ?_
  refine wpList_val (.agg #[.int .i64 41, .int .u16 53248, .int .u16 0, .int .u16 0, .int .u16 0, .int .u16 0, .int .u16 255, .int .u16 3840, .int .i32 (-256), .int .i32 254, .int .u8 1]) rfl (by kernel_rfl) ?_
  refine wpList_val (.agg #[.int .i64 42, .int .u16 57344, .int .u16 0, .int .u16 0, .int .u16 0, .int .u16 0, .int .u16 2047, .int .u16 0, .int .i32 (-2048), .int .i32 2046, .int .u8 1]) rfl (by kernel_rfl) ?_
  refine wpList_val (.agg #[.int .i64 43, .int .u16 61440, .int .u16 0, .int .u16 0, .int .u16 0, .int .u16 0, .int .u16 0, .int .u16 0, .int .i32 (-16777216), .int .i32 16777214, .int .u8 1]) rfl (by kernel_rfl) ?_
  refine wpList_val (.agg #[.int .i64 44, .int .u16 57088, .int .u16 0, .int .u16 0, .int .u16 0, .int .u16 0, .int .u16 255, .int .u16 0, .int .i32 0, .int .i32 255, .int .u8 0]) rfl (by kernel_rfl) ?_
  refine wpList_val (.agg #[.int .i64 45, .int .u16 48896, .int .u16 0, .int .u16 0, .int .u16 0, .int .u16 0, .int .u16 0, .int .u16 0, .int .i32 0, .int .i32 0, .int .u8 0]) rfl (by kernel_rfl) ?_
  refine wpList_val (.agg rowsC) rfl (by kernel_rfl) ?_
  simp only [Act.put, List.setIfInBounds_toArray, List.set_cons_zero, List.set_cons_succ]
  go_wp2
  refine bodyPost_ret (v := .agg rowsC) (results_cell (p := ⟨w.heap.size, 0, none⟩) rfl rfl h2) rfl ?_
  exact ⟨rfl, New.alloc _ _⟩
end Go.Proofs.Ytibmgmgkaacibaa

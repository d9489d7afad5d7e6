/- Package chip: a chip plainly, and how one lies in memory; an instruction that is being done. -/
import Derived.Test.YtibmgmgkaacibaaYd
import Derived.Test.YtibmgmgkaacibaaZa
import Derived.Test.YtibmgmgkaacibaaEk
namespace Go.Proofs.Ytibmgmgkaacibaa
open Go.RowKit Go.ChangeShapes Go.WideShapes Go.Deep
set_option linter.unusedVariables false
set_option linter.unusedSimpArgs false

structure Ch where
  R : Nat → Nat
  nf : Bool
  zf : Bool
  cf : Bool
  vf : Bool
  st : Int
  num : Int
  cyc : Int
def rSet (R : Nat → Nat) (k v : Nat) : Nat → Nat := fun j => if j = k then v else R j
abbrev Ch.withR (x : Ch) (k v : Nat) : Ch := { x with R := rSet x.R k v }
abbrev chA (x : Ch) : Array Value := #[.int .u32 (x.R 0 : Int), .int .u32 (x.R 1 : Int), .int .u32 (x.R 2 : Int), .int .u32 (x.R 3 : Int), .int .u32 (x.R 4 : Int), .int .u32 (x.R 5 : Int), .int .u32 (x.R 6 : Int), .int .u32 (x.R 7 : Int), .int .u32 (x.R 8 : Int), .int .u32 (x.R 9 : Int), .int .u32 (x.R 10 : Int), .int .u32 (x.R 11 : Int), .int .u32 (x.R 12 : Int), .int .u32 (x.R 13 : Int), .int .u32 (x.R 14 : Int), .int .u32 (x.R 15 : Int), .bool x.nf, .bool x.zf, .bool x.cf, .bool x.vf, .int .i64 x.st, .int .i64 x.num, .int .i64 x.cyc]
abbrev spA (x : Ch) (mp : Value) (i : I6) (t c : Int) : Array Value := #[.int .u32 (x.R 0 : Int), .int .u32 (x.R 1 : Int), .int .u32 (x.R 2 : Int), .int .u32 (x.R 3 : Int), .int .u32 (x.R 4 : Int), .int .u32 (x.R 5 : Int), .int .u32 (x.R 6 : Int), .int .u32 (x.R 7 : Int), .int .u32 (x.R 8 : Int), .int .u32 (x.R 9 : Int), .int .u32 (x.R 10 : Int), .int .u32 (x.R 11 : Int), .int .u32 (x.R 12 : Int), .int .u32 (x.R 13 : Int), .int .u32 (x.R 14 : Int), .int .u32 (x.R 15 : Int), .bool x.nf, .bool x.zf, .bool x.cf, .bool x.vf, .int .i64 x.st, .int .i64 x.num, .int .i64 x.cyc, mp, .int .i64 i.op, .int .i64 i.d, .int .i64 i.n, .int .i64 i.m, .int .i64 i.imm, .int .i64 i.cond, .int .i64 t, .int .i64 c]
def WordsOk (R : Nat → Nat) : Prop := ∀ k, R k < 4294967296
theorem WordsOk.set {R : Nat → Nat} (h : WordsOk R) (k : Nat) {v : Nat} (hv : v < 4294967296) : WordsOk (rSet R k v) := by
  intro j; unfold rSet; split
  · exact hv
  · exact h j
/-- a chip in block b -/
structure Cp (w : World) (b : Nat) (x : Ch) : Prop where
  box : w.heap[b]? = some (.cells (chA x) 44 (0, 0))
  ok : WordsOk x.R
/-- an instruction that is being done, in block b -/
structure Sp (w : World) (b : Nat) (mp : Value) (i : I6) (x : Ch) (t c : Int) : Prop where
  box : w.heap[b]? = some (.cells (spA x mp i t c) 85 (0, 0))
  ok : WordsOk x.R
section
variable {w w' : World} {b : Nat} {x : Ch} {mp : Value} {i : I6} {t c : Int}
theorem Cp.cells (h : Cp w b x) : w.cell? ⟨b, 0, none⟩ = some (.int .u32 (x.R 0 : Int)) ∧ w.cell? ⟨b, 1, none⟩ = some (.int .u32 (x.R 1 : Int)) ∧ w.cell? ⟨b, 2, none⟩ = some (.int .u32 (x.R 2 : Int)) ∧ w.cell? ⟨b, 3, none⟩ = some (.int .u32 (x.R 3 : Int)) ∧ w.cell? ⟨b, 4, none⟩ = some (.int .u32 (x.R 4 : Int)) ∧ w.cell? ⟨b, 5, none⟩ = some (.int .u32 (x.R 5 : Int)) ∧ w.cell? ⟨b, 6, none⟩ = some (.int .u32 (x.R 6 : Int)) ∧ w.cell? ⟨b, 7, none⟩ = some (.int .u32 (x.R 7 : Int)) ∧ w.cell? ⟨b, 8, none⟩ = some (.int .u32 (x.R 8 : Int)) ∧ w.cell? ⟨b, 9, none⟩ = some (.int .u32 (x.R 9 : Int)) ∧ w.cell? ⟨b, 10, none⟩ = some (.int .u32 (x.R 10 : Int)) ∧ w.cell? ⟨b, 11, none⟩ = some (.int .u32 (x.R 11 : Int)) ∧ w.cell? ⟨b, 12, none⟩ = some (.int .u32 (x.R 12 : Int)) ∧ w.cell? ⟨b, 13, none⟩ = some (.int .u32 (x.R 13 : Int)) ∧ w.cell? ⟨b, 14, none⟩ = some (.int .u32 (x.R 14 : Int)) ∧ w.cell? ⟨b, 15, none⟩ = some (.int .u32 (x.R 15 : Int)) ∧ w.cell? ⟨b, 16, none⟩ = some (.bool x.nf) ∧ w.cell? ⟨b, 17, none⟩ = some (.bool x.zf) ∧ w.cell? ⟨b, 18, none⟩ = some (.bool x.cf) ∧ w.cell? ⟨b, 19, none⟩ = some (.bool x.vf) ∧ w.cell? ⟨b, 20, none⟩ = some (.int .i64 x.st) ∧ w.cell? ⟨b, 21, none⟩ = some (.int .i64 x.num) ∧ w.cell? ⟨b, 22, none⟩ = some (.int .i64 x.cyc) ∧ ∀ q, w.frozen? ⟨b, q, none⟩ = false := by
  have := h.box
  refine ⟨?_, ?_, ?_, ?_, ?_, ?_, ?_, ?_, ?_, ?_, ?_, ?_, ?_, ?_, ?_, ?_, ?_, ?_, ?_, ?_, ?_, ?_, ?_, ?_⟩
  all_goals first | (intro q; simp [World.frozen?, this]; done) | (simp [World.cell?, this])
theorem Sp.cells (h : Sp w b mp i x t c) : w.cell? ⟨b, 0, none⟩ = some (.int .u32 (x.R 0 : Int)) ∧ w.cell? ⟨b, 1, none⟩ = some (.int .u32 (x.R 1 : Int)) ∧ w.cell? ⟨b, 2, none⟩ = some (.int .u32 (x.R 2 : Int)) ∧ w.cell? ⟨b, 3, none⟩ = some (.int .u32 (x.R 3 : Int)) ∧ w.cell? ⟨b, 4, none⟩ = some (.int .u32 (x.R 4 : Int)) ∧ w.cell? ⟨b, 5, none⟩ = some (.int .u32 (x.R 5 : Int)) ∧ w.cell? ⟨b, 6, none⟩ = some (.int .u32 (x.R 6 : Int)) ∧ w.cell? ⟨b, 7, none⟩ = some (.int .u32 (x.R 7 : Int)) ∧ w.cell? ⟨b, 8, none⟩ = some (.int .u32 (x.R 8 : Int)) ∧ w.cell? ⟨b, 9, none⟩ = some (.int .u32 (x.R 9 : Int)) ∧ w.cell? ⟨b, 10, none⟩ = some (.int .u32 (x.R 10 : Int)) ∧ w.cell? ⟨b, 11, none⟩ = some (.int .u32 (x.R 11 : Int)) ∧ w.cell? ⟨b, 12, none⟩ = some (.int .u32 (x.R 12 : Int)) ∧ w.cell? ⟨b, 13, none⟩ = some (.int .u32 (x.R 13 : Int)) ∧ w.cell? ⟨b, 14, none⟩ = some (.int .u32 (x.R 14 : Int)) ∧ w.cell? ⟨b, 15, none⟩ = some (.int .u32 (x.R 15 : Int)) ∧ w.cell? ⟨b, 16, none⟩ = some (.bool x.nf) ∧ w.cell? ⟨b, 17, none⟩ = some (.bool x.zf) ∧ w.cell? ⟨b, 18, none⟩ = some (.bool x.cf) ∧ w.cell? ⟨b, 19, none⟩ = some (.bool x.vf) ∧ w.cell? ⟨b, 20, none⟩ = some (.int .i64 x.st) ∧ w.cell? ⟨b, 21, none⟩ = some (.int .i64 x.num) ∧ w.cell? ⟨b, 22, none⟩ = some (.int .i64 x.cyc) ∧ w.cell? ⟨b, 23, none⟩ = some (mp) ∧ w.cell? ⟨b, 24, none⟩ = some (.int .i64 i.op) ∧ w.cell? ⟨b, 25, none⟩ = some (.int .i64 i.d) ∧ w.cell? ⟨b, 26, none⟩ = some (.int .i64 i.n) ∧ w.cell? ⟨b, 27, none⟩ = some (.int .i64 i.m) ∧ w.cell? ⟨b, 28, none⟩ = some (.int .i64 i.imm) ∧ w.cell? ⟨b, 29, none⟩ = some (.int .i64 i.cond) ∧ w.cell? ⟨b, 30, none⟩ = some (.int .i64 t) ∧ w.cell? ⟨b, 31, none⟩ = some (.int .i64 c) ∧ ∀ q, w.frozen? ⟨b, q, none⟩ = false := by
  have := h.box
  refine ⟨?_, ?_, ?_, ?_, ?_, ?_, ?_, ?_, ?_, ?_, ?_, ?_, ?_, ?_, ?_, ?_, ?_, ?_, ?_, ?_, ?_, ?_, ?_, ?_, ?_, ?_, ?_, ?_, ?_, ?_, ?_, ?_, ?_⟩
  all_goals first | (intro q; simp [World.frozen?, this]; done) | (simp [World.cell?, this])
theorem Sp.c0 (h : Sp w b mp i x t c) : w.cell? ⟨b, 0, none⟩ = some (.int .u32 (x.R 0 : Int)) := by have := h.box; simp [World.cell?, this]
theorem Sp.c1 (h : Sp w b mp i x t c) : w.cell? ⟨b, 1, none⟩ = some (.int .u32 (x.R 1 : Int)) := by have := h.box; simp [World.cell?, this]
theorem Sp.c2 (h : Sp w b mp i x t c) : w.cell? ⟨b, 2, none⟩ = some (.int .u32 (x.R 2 : Int)) := by have := h.box; simp [World.cell?, this]
theorem Sp.c3 (h : Sp w b mp i x t c) : w.cell? ⟨b, 3, none⟩ = some (.int .u32 (x.R 3 : Int)) := by have := h.box; simp [World.cell?, this]
theorem Sp.c4 (h : Sp w b mp i x t c) : w.cell? ⟨b, 4, none⟩ = some (.int .u32 (x.R 4 : Int)) := by have := h.box; simp [World.cell?, this]
theorem Sp.c5 (h : Sp w b mp i x t c) : w.cell? ⟨b, 5, none⟩ = some (.int .u32 (x.R 5 : Int)) := by have := h.box; simp [World.cell?, this]
theorem Sp.c6 (h : Sp w b mp i x t c) : w.cell? ⟨b, 6, none⟩ = some (.int .u32 (x.R 6 : Int)) := by have := h.box; simp [World.cell?, this]
theorem Sp.c7 (h : Sp w b mp i x t c) : w.cell? ⟨b, 7, none⟩ = some (.int .u32 (x.R 7 : Int)) := by have := h.box; simp [World.cell?, this]
theorem Sp.c8 (h : Sp w b mp i x t c) : w.cell? ⟨b, 8, none⟩ = some (.int .u32 (x.R 8 : Int)) := by have := h.box; simp [World.cell?, this]
theorem Sp.c9 (h : Sp w b mp i x t c) : w.cell? ⟨b, 9, none⟩ = some (.int .u32 (x.R 9 : Int)) := by have := h.box; simp [World.cell?, this]
theorem Sp.c10 (h : Sp w b mp i x t c) : w.cell? ⟨b, 10, none⟩ = some (.int .u32 (x.R 10 : Int)) := by have := h.box; simp [World.cell?, this]
theorem Sp.c11 (h : Sp w b mp i x t c) : w.cell? ⟨b, 11, none⟩ = some (.int .u32 (x.R 11 : Int)) := by have := h.box; simp [World.cell?, this]
theorem Sp.c12 (h : Sp w b mp i x t c) : w.cell? ⟨b, 12, none⟩ = some (.int .u32 (x.R 12 : Int)) := by have := h.box; simp [World.cell?, this]
theorem Sp.c13 (h : Sp w b mp i x t c) : w.cell? ⟨b, 13, none⟩ = some (.int .u32 (x.R 13 : Int)) := by have := h.box; simp [World.cell?, this]
theorem Sp.c14 (h : Sp w b mp i x t c) : w.cell? ⟨b, 14, none⟩ = some (.int .u32 (x.R 14 : Int)) := by have := h.box; simp [World.cell?, this]
theorem Sp.c15 (h : Sp w b mp i x t c) : w.cell? ⟨b, 15, none⟩ = some (.int .u32 (x.R 15 : Int)) := by have := h.box; simp [World.cell?, this]
theorem Sp.c16 (h : Sp w b mp i x t c) : w.cell? ⟨b, 16, none⟩ = some (.bool x.nf) := by have := h.box; simp [World.cell?, this]
theorem Sp.c17 (h : Sp w b mp i x t c) : w.cell? ⟨b, 17, none⟩ = some (.bool x.zf) := by have := h.box; simp [World.cell?, this]
theorem Sp.c18 (h : Sp w b mp i x t c) : w.cell? ⟨b, 18, none⟩ = some (.bool x.cf) := by have := h.box; simp [World.cell?, this]
theorem Sp.c19 (h : Sp w b mp i x t c) : w.cell? ⟨b, 19, none⟩ = some (.bool x.vf) := by have := h.box; simp [World.cell?, this]
theorem Sp.c20 (h : Sp w b mp i x t c) : w.cell? ⟨b, 20, none⟩ = some (.int .i64 x.st) := by have := h.box; simp [World.cell?, this]
theorem Sp.c21 (h : Sp w b mp i x t c) : w.cell? ⟨b, 21, none⟩ = some (.int .i64 x.num) := by have := h.box; simp [World.cell?, this]
theorem Sp.c22 (h : Sp w b mp i x t c) : w.cell? ⟨b, 22, none⟩ = some (.int .i64 x.cyc) := by have := h.box; simp [World.cell?, this]
theorem Sp.c23 (h : Sp w b mp i x t c) : w.cell? ⟨b, 23, none⟩ = some (mp) := by have := h.box; simp [World.cell?, this]
theorem Sp.c24 (h : Sp w b mp i x t c) : w.cell? ⟨b, 24, none⟩ = some (.int .i64 i.op) := by have := h.box; simp [World.cell?, this]
theorem Sp.c25 (h : Sp w b mp i x t c) : w.cell? ⟨b, 25, none⟩ = some (.int .i64 i.d) := by have := h.box; simp [World.cell?, this]
theorem Sp.c26 (h : Sp w b mp i x t c) : w.cell? ⟨b, 26, none⟩ = some (.int .i64 i.n) := by have := h.box; simp [World.cell?, this]
theorem Sp.c27 (h : Sp w b mp i x t c) : w.cell? ⟨b, 27, none⟩ = some (.int .i64 i.m) := by have := h.box; simp [World.cell?, this]
theorem Sp.c28 (h : Sp w b mp i x t c) : w.cell? ⟨b, 28, none⟩ = some (.int .i64 i.imm) := by have := h.box; simp [World.cell?, this]
theorem Sp.c29 (h : Sp w b mp i x t c) : w.cell? ⟨b, 29, none⟩ = some (.int .i64 i.cond) := by have := h.box; simp [World.cell?, this]
theorem Sp.c30 (h : Sp w b mp i x t c) : w.cell? ⟨b, 30, none⟩ = some (.int .i64 t) := by have := h.box; simp [World.cell?, this]
theorem Sp.c31 (h : Sp w b mp i x t c) : w.cell? ⟨b, 31, none⟩ = some (.int .i64 c) := by have := h.box; simp [World.cell?, this]
theorem Cp.c0 (h : Cp w b x) : w.cell? ⟨b, 0, none⟩ = some (.int .u32 (x.R 0 : Int)) := by have := h.box; simp [World.cell?, this]
theorem Cp.c1 (h : Cp w b x) : w.cell? ⟨b, 1, none⟩ = some (.int .u32 (x.R 1 : Int)) := by have := h.box; simp [World.cell?, this]
theorem Cp.c2 (h : Cp w b x) : w.cell? ⟨b, 2, none⟩ = some (.int .u32 (x.R 2 : Int)) := by have := h.box; simp [World.cell?, this]
theorem Cp.c3 (h : Cp w b x) : w.cell? ⟨b, 3, none⟩ = some (.int .u32 (x.R 3 : Int)) := by have := h.box; simp [World.cell?, this]
theorem Cp.c4 (h : Cp w b x) : w.cell? ⟨b, 4, none⟩ = some (.int .u32 (x.R 4 : Int)) := by have := h.box; simp [World.cell?, this]
theorem Cp.c5 (h : Cp w b x) : w.cell? ⟨b, 5, none⟩ = some (.int .u32 (x.R 5 : Int)) := by have := h.box; simp [World.cell?, this]
theorem Cp.c6 (h : Cp w b x) : w.cell? ⟨b, 6, none⟩ = some (.int .u32 (x.R 6 : Int)) := by have := h.box; simp [World.cell?, this]
theorem Cp.c7 (h : Cp w b x) : w.cell? ⟨b, 7, none⟩ = some (.int .u32 (x.R 7 : Int)) := by have := h.box; simp [World.cell?, this]
theorem Cp.c8 (h : Cp w b x) : w.cell? ⟨b, 8, none⟩ = some (.int .u32 (x.R 8 : Int)) := by have := h.box; simp [World.cell?, this]
theorem Cp.c9 (h : Cp w b x) : w.cell? ⟨b, 9, none⟩ = some (.int .u32 (x.R 9 : Int)) := by have := h.box; simp [World.cell?, this]
theorem Cp.c10 (h : Cp w b x) : w.cell? ⟨b, 10, none⟩ = some (.int .u32 (x.R 10 : Int)) := by have := h.box; simp [World.cell?, this]
theorem Cp.c11 (h : Cp w b x) : w.cell? ⟨b, 11, none⟩ = some (.int .u32 (x.R 11 : Int)) := by have := h.box; simp [World.cell?, this]
theorem Cp.c12 (h : Cp w b x) : w.cell? ⟨b, 12, none⟩ = some (.int .u32 (x.R 12 : Int)) := by have := h.box; simp [World.cell?, this]
theorem Cp.c13 (h : Cp w b x) : w.cell? ⟨b, 13, none⟩ = some (.int .u32 (x.R 13 : Int)) := by have := h.box; simp [World.cell?, this]
theorem Cp.c14 (h : Cp w b x) : w.cell? ⟨b, 14, none⟩ = some (.int .u32 (x.R 14 : Int)) := by have := h.box; simp [World.cell?, this]
theorem Cp.c15 (h : Cp w b x) : w.cell? ⟨b, 15, none⟩ = some (.int .u32 (x.R 15 : Int)) := by have := h.box; simp [World.cell?, this]
theorem Cp.c16 (h : Cp w b x) : w.cell? ⟨b, 16, none⟩ = some (.bool x.nf) := by have := h.box; simp [World.cell?, this]
theorem Cp.c17 (h : Cp w b x) : w.cell? ⟨b, 17, none⟩ = some (.bool x.zf) := by have := h.box; simp [World.cell?, this]
theorem Cp.c18 (h : Cp w b x) : w.cell? ⟨b, 18, none⟩ = some (.bool x.cf) := by have := h.box; simp [World.cell?, this]
theorem Cp.c19 (h : Cp w b x) : w.cell? ⟨b, 19, none⟩ = some (.bool x.vf) := by have := h.box; simp [World.cell?, this]
theorem Cp.c20 (h : Cp w b x) : w.cell? ⟨b, 20, none⟩ = some (.int .i64 x.st) := by have := h.box; simp [World.cell?, this]
theorem Cp.c21 (h : Cp w b x) : w.cell? ⟨b, 21, none⟩ = some (.int .i64 x.num) := by have := h.box; simp [World.cell?, this]
theorem Cp.c22 (h : Cp w b x) : w.cell? ⟨b, 22, none⟩ = some (.int .i64 x.cyc) := by have := h.box; simp [World.cell?, this]
theorem Sp.fz (h : Sp w b mp i x t c) (q : Nat) : w.frozen? ⟨b, q, none⟩ = false := by have := h.box; simp [World.frozen?, this]
theorem Cp.fz (h : Cp w b x) (q : Nat) : w.frozen? ⟨b, q, none⟩ = false := by have := h.box; simp [World.frozen?, this]
theorem Cp.lt (h : Cp w b x) : b < w.heap.size := (Array.getElem?_eq_some_iff.1 h.box).1
theorem Sp.lt (h : Sp w b mp i x t c) : b < w.heap.size := (Array.getElem?_eq_some_iff.1 h.box).1
theorem Cp.upd {S : Nat → Prop} (h : Cp w b x) (hu : Upd S w w') (hS : ¬ S b) : Cp w' b x := ⟨(hu.block b h.lt hS).trans h.box, h.ok⟩
theorem Sp.upd {S : Nat → Prop} (h : Sp w b mp i x t c) (hu : Upd S w w') (hS : ¬ S b) : Sp w' b mp i x t c := ⟨(hu.block b h.lt hS).trans h.box, h.ok⟩
theorem Sp.reg (h : Sp w b mp i x t c) (k : Nat) (hk : k < 16) : w.cell? ⟨b, k, none⟩ = some (.int .u32 (x.R k : Int)) := by
  obtain ⟨h0, h1, h2, h3, h4, h5, h6, h7, h8, h9, h10, h11, h12, h13, h14, h15, -⟩ := h.cells
  rcases (by omega : k = 0 ∨ k = 1 ∨ k = 2 ∨ k = 3 ∨ k = 4 ∨ k = 5 ∨ k = 6 ∨ k = 7 ∨ k = 8 ∨ k = 9 ∨ k = 10 ∨ k = 11 ∨ k = 12 ∨ k = 13 ∨ k = 14 ∨ k = 15) with rfl | rfl | rfl | rfl | rfl | rfl | rfl | rfl | rfl | rfl | rfl | rfl | rfl | rfl | rfl | rfl <;> assumption
theorem Cp.reg (h : Cp w b x) (k : Nat) (hk : k < 16) : w.cell? ⟨b, k, none⟩ = some (.int .u32 (x.R k : Int)) := by
  obtain ⟨h0, h1, h2, h3, h4, h5, h6, h7, h8, h9, h10, h11, h12, h13, h14, h15, -⟩ := h.cells
  rcases (by omega : k = 0 ∨ k = 1 ∨ k = 2 ∨ k = 3 ∨ k = 4 ∨ k = 5 ∨ k = 6 ∨ k = 7 ∨ k = 8 ∨ k = 9 ∨ k = 10 ∨ k = 11 ∨ k = 12 ∨ k = 13 ∨ k = 14 ∨ k = 15) with rfl | rfl | rfl | rfl | rfl | rfl | rfl | rfl | rfl | rfl | rfl | rfl | rfl | rfl | rfl | rfl <;> assumption
theorem spA_set (k : Nat) (hk : k < 16) (v : Nat) : (spA x mp i t c).setIfInBounds k (.int .u32 (v : Int)) = spA (x.withR k v) mp i t c := by
  rcases (by omega : k = 0 ∨ k = 1 ∨ k = 2 ∨ k = 3 ∨ k = 4 ∨ k = 5 ∨ k = 6 ∨ k = 7 ∨ k = 8 ∨ k = 9 ∨ k = 10 ∨ k = 11 ∨ k = 12 ∨ k = 13 ∨ k = 14 ∨ k = 15) with rfl | rfl | rfl | rfl | rfl | rfl | rfl | rfl | rfl | rfl | rfl | rfl | rfl | rfl | rfl | rfl <;> simp [rSet]
theorem chA_set (k : Nat) (hk : k < 16) (v : Nat) : (chA x).setIfInBounds k (.int .u32 (v : Int)) = chA (x.withR k v) := by
  rcases (by omega : k = 0 ∨ k = 1 ∨ k = 2 ∨ k = 3 ∨ k = 4 ∨ k = 5 ∨ k = 6 ∨ k = 7 ∨ k = 8 ∨ k = 9 ∨ k = 10 ∨ k = 11 ∨ k = 12 ∨ k = 13 ∨ k = 14 ∨ k = 15) with rfl | rfl | rfl | rfl | rfl | rfl | rfl | rfl | rfl | rfl | rfl | rfl | rfl | rfl | rfl | rfl <;> simp [rSet]
theorem setCell_at (w : World) (b k : Nat) (A : Array Value) (T : TypeId) (u : Value) (h : w.heap[b]? = some (.cells A T (0, 0))) : (w.setCell ⟨b, k, none⟩ u).heap[b]? = some (.cells (A.setIfInBounds k u) T (0, 0)) := by
  simp [World.setCell, Array.getElem?_modify, h]
theorem Sp.setR (h : Sp w b mp i x t c) (k : Nat) (hk : k < 16) (v : Nat) (hv : v < 4294967296) : Sp (w.setCell ⟨b, k, none⟩ (.int .u32 (v : Int))) b mp i (x.withR k v) t c := by
  refine ⟨?_, h.ok.set k hv⟩
  rw [setCell_at _ _ _ _ _ _ h.box, spA_set k hk v]
theorem Cp.setR (h : Cp w b x) (k : Nat) (hk : k < 16) (v : Nat) (hv : v < 4294967296) : Cp (w.setCell ⟨b, k, none⟩ (.int .u32 (v : Int))) b (x.withR k v) := by
  refine ⟨?_, h.ok.set k hv⟩
  rw [setCell_at _ _ _ _ _ _ h.box, chA_set k hk v]
theorem Sp.set_nf (h : Sp w b mp i x t c) (v : Bool) : Sp (w.setCell ⟨b, 16, none⟩ (.bool v)) b mp i { x with nf := v } t c := ⟨by rw [setCell_at _ _ _ _ _ _ h.box]; rfl, h.ok⟩
theorem Cp.set_nf (h : Cp w b x) (v : Bool) : Cp (w.setCell ⟨b, 16, none⟩ (.bool v)) b { x with nf := v } := ⟨by rw [setCell_at _ _ _ _ _ _ h.box]; rfl, h.ok⟩
theorem Sp.set_zf (h : Sp w b mp i x t c) (v : Bool) : Sp (w.setCell ⟨b, 17, none⟩ (.bool v)) b mp i { x with zf := v } t c := ⟨by rw [setCell_at _ _ _ _ _ _ h.box]; rfl, h.ok⟩
theorem Cp.set_zf (h : Cp w b x) (v : Bool) : Cp (w.setCell ⟨b, 17, none⟩ (.bool v)) b { x with zf := v } := ⟨by rw [setCell_at _ _ _ _ _ _ h.box]; rfl, h.ok⟩
theorem Sp.set_cf (h : Sp w b mp i x t c) (v : Bool) : Sp (w.setCell ⟨b, 18, none⟩ (.bool v)) b mp i { x with cf := v } t c := ⟨by rw [setCell_at _ _ _ _ _ _ h.box]; rfl, h.ok⟩
theorem Cp.set_cf (h : Cp w b x) (v : Bool) : Cp (w.setCell ⟨b, 18, none⟩ (.bool v)) b { x with cf := v } := ⟨by rw [setCell_at _ _ _ _ _ _ h.box]; rfl, h.ok⟩
theorem Sp.set_vf (h : Sp w b mp i x t c) (v : Bool) : Sp (w.setCell ⟨b, 19, none⟩ (.bool v)) b mp i { x with vf := v } t c := ⟨by rw [setCell_at _ _ _ _ _ _ h.box]; rfl, h.ok⟩
theorem Cp.set_vf (h : Cp w b x) (v : Bool) : Cp (w.setCell ⟨b, 19, none⟩ (.bool v)) b { x with vf := v } := ⟨by rw [setCell_at _ _ _ _ _ _ h.box]; rfl, h.ok⟩
theorem Sp.set_st (h : Sp w b mp i x t c) (v : Int) : Sp (w.setCell ⟨b, 20, none⟩ (.int .i64 v)) b mp i { x with st := v } t c := ⟨by rw [setCell_at _ _ _ _ _ _ h.box]; rfl, h.ok⟩
theorem Cp.set_st (h : Cp w b x) (v : Int) : Cp (w.setCell ⟨b, 20, none⟩ (.int .i64 v)) b { x with st := v } := ⟨by rw [setCell_at _ _ _ _ _ _ h.box]; rfl, h.ok⟩
theorem Sp.set_num (h : Sp w b mp i x t c) (v : Int) : Sp (w.setCell ⟨b, 21, none⟩ (.int .i64 v)) b mp i { x with num := v } t c := ⟨by rw [setCell_at _ _ _ _ _ _ h.box]; rfl, h.ok⟩
theorem Cp.set_num (h : Cp w b x) (v : Int) : Cp (w.setCell ⟨b, 21, none⟩ (.int .i64 v)) b { x with num := v } := ⟨by rw [setCell_at _ _ _ _ _ _ h.box]; rfl, h.ok⟩
theorem Sp.set_cyc (h : Sp w b mp i x t c) (v : Int) : Sp (w.setCell ⟨b, 22, none⟩ (.int .i64 v)) b mp i { x with cyc := v } t c := ⟨by rw [setCell_at _ _ _ _ _ _ h.box]; rfl, h.ok⟩
theorem Cp.set_cyc (h : Cp w b x) (v : Int) : Cp (w.setCell ⟨b, 22, none⟩ (.int .i64 v)) b { x with cyc := v } := ⟨by rw [setCell_at _ _ _ _ _ _ h.box]; rfl, h.ok⟩
theorem Sp.set_t (h : Sp w b mp i x t c) (v : Int) : Sp (w.setCell ⟨b, 30, none⟩ (.int .i64 v)) b mp i x v c := ⟨by rw [setCell_at _ _ _ _ _ _ h.box]; rfl, h.ok⟩
theorem Sp.set_c (h : Sp w b mp i x t c) (v : Int) : Sp (w.setCell ⟨b, 31, none⟩ (.int .i64 v)) b mp i x t v := ⟨by rw [setCell_at _ _ _ _ _ _ h.box]; rfl, h.ok⟩
theorem Sp.setU (w : World) (b k : Nat) (v : Value) : Upd (fun q => q = b) w (w.setCell ⟨b, k, none⟩ v) := Upd.setCell (S := fun q => q = b) w (.inl rfl) v
theorem Upd.putU {w w' : World} {b : Nat} (h : Upd (fun q => q = b) w w') (k : Nat) (v : Value) : Upd (fun q => q = b) w (w'.setCell ⟨b, k, none⟩ v) := h.trans (Sp.setU w' b k v) (fun _ h _ => h)
end
end Go.Proofs.Ytibmgmgkaacibaa

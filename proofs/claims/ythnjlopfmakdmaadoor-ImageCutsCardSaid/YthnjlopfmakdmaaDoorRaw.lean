/- How an argument of type Raw, and one of type []Raw, reads: four numbers each. -/
import Derived.Test.YthnjlopfmakdmaaDoorBytes
import Derived.ProofKit
import Derived.Deep.Slices
import Derived.Deep.Fields
import Derived.ChangeSame
import Derived.Carry
import Derived.Lib.SmallJoins
namespace Go.Proofs.YthnjlopfmakdmaaDoor
open Go.RowKit Go.ChangeShapes Go.WideShapes Go.Deep Go.Joins
set_option linter.unusedVariables false

abbrev raw4 (o a b c : Int) : Value := .agg #[.int .i64 o, .int .i64 a, .int .i64 b, .int .i64 c]
def wf64 (n : Int) : Prop := (Lit.int .i64 n).wf = true

set_option maxRecDepth 100000 in
theorem cells_raw : Tryd.prog.cellsOf 148 = 4 := by kernel_rfl
theorem one_raw : Tryd.prog.cellsOf 3 = 1 := by kernel_rfl

section
variable {H : Type} {enc : TypeId × Value → H} {W : World}
set_option maxRecDepth 100000 in
theorem lit_of {n : Nat} {v : Value} {y : DataW H × List MemPlace} {bs : Nat} {sp : Nat → Bool} {hd : Bool} (h : DataW.trod enc Tryd.prog W bs sp hd n 3 [v] = some y) : ∃ k, v = .int .i64 k ∧ y = (.lit (.int .i64 k), []) ∧ wf64 k := by
  obtain ⟨k, e, rfl, w⟩ := DataW.trod_int Tryd.underlying3 h
  simp at e
  exact ⟨k, e, rfl, w⟩
set_option maxRecDepth 100000 in
theorem open_raw {r : Reach} {b0 bs : Nat} {sp : Nat → Bool} {hd : Bool} {v : Value} {d : DataW H} {p : List MemPlace} (hv : Value.okWide Tryd.prog W r b0 148 v) (h : DataW.Trod enc Tryd.prog W bs sp hd 148 v d p) :
    ∃ o a b c, v = raw4 o a b c ∧ d = .agg [.lit (.int .i64 o), .lit (.int .i64 a), .lit (.int .i64 b), .lit (.int .i64 c)] ∧ p = [] ∧ wf64 o ∧ wf64 a ∧ wf64 b ∧ wf64 c := by
  obtain ⟨v0, v1, v2, v3, y0, y1, y2, y3, n, rfl, rfl, rfl, t0, t1, t2, t3⟩ := open_agg4 Tryd.underlying148 (by kernel_rfl) cells_raw hv h
  obtain ⟨o, rfl, rfl, wo⟩ := lit_of t0
  obtain ⟨a, rfl, rfl, wa⟩ := lit_of t1
  obtain ⟨b, rfl, rfl, wb⟩ := lit_of t2
  obtain ⟨c, rfl, rfl, wc⟩ := lit_of t3
  exact ⟨o, a, b, c, rfl, rfl, rfl, wo, wa, wb, wc⟩
theorem lit_mk {k : Int} {bs : Nat} {sp : Nat → Bool} {hd : Bool} (hw : wf64 k) : ∃ n, DataW.trod enc Tryd.prog W bs sp hd n 3 [.int .i64 k] = some (.lit (.int .i64 k), []) := by
  obtain ⟨n, h⟩ := shut_int (enc := enc) (P := Tryd.prog) (w := W) (base := bs) (spare := sp) (held := hd) Tryd.underlying3 hw
  exact ⟨n, by simpa [Value.cells] using h⟩
set_option maxRecDepth 100000 in
theorem shut_raw {o a b c : Int} {bs : Nat} {sp : Nat → Bool} {hd : Bool} (wo : wf64 o) (wa : wf64 a) (wb : wf64 b) (wc : wf64 c) : DataW.Trod enc Tryd.prog W bs sp hd 148 (raw4 o a b c) (.agg [.lit (.int .i64 o), .lit (.int .i64 a), .lit (.int .i64 b), .lit (.int .i64 c)]) [] :=
  shut_agg4 Tryd.underlying148 (by kernel_rfl) cells_raw (lit_mk wo) (lit_mk wa) (lit_mk wb) (lit_mk wc)
end
end Go.Proofs.YthnjlopfmakdmaaDoor

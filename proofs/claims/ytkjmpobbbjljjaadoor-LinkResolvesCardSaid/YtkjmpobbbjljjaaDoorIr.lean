/- Which images are right: package image: a contract for each call. -/
import Derived.Test.YtkjmpobbbjljjaaDoorIa
import Derived.Test.YtkjmpobbbjljjaaDoorCd
import Derived.Lib.OthersKept
import Derived.LoopN
import Derived.WalkSmall
import Derived.Shelf.Abstract
import Derived.Outline
namespace Go.Proofs.YtkjmpobbbjljjaaDoor
open Go.RowKit Go.Lib
set_option linter.unusedVariables false

theorem beq_num (r k : Nat) (K : Int) (hK : K = k) : ((r : Int) == K) = decide (r = k) := by
  subst hK
  rw [Bool.eq_iff_iff]
  simp
  omega
theorem size_nil {s : ByteArray} (h : s.toList = []) : s.size = 0 := by rw [ByteArray.toList_eq] at h; simpa using congrArg List.length h
theorem nil_size {s : ByteArray} (h : s.size = 0) : s.toList = [] := by rw [ByteArray.toList_eq]; exact List.eq_nil_of_length_eq_zero (by simpa using h)
theorem upd_iter (w : World) (s : ByteArray) (p : Nat) : Upd (fun _ => False) w (w.iter s p) := Upd.alloc _ _ _
theorem upd_iterAt {w0 w : World} (k : Nat) (s : ByteArray) (p : Nat) (h : Upd (fun _ => False) w0 w) (hk : w0.heap.size ≤ k) : Upd (fun _ => False) w0 (w.iterAt k s p) :=
  ⟨h.os, h.tape, h.output, by rw [show (w.iterAt k s p).heap.size = w.heap.size from Lib.iterAt_size _ _ _ _]; exact h.size, fun i hi hS => (Lib.iterAt_other _ _ _ _ _ (by omega)).trans (h.block i hi hS)⟩
theorem upd_below {w w' : World} (h : Upd (fun _ => False) w w') : Below w.heap.size w w' := h.below (Nat.le_refl _) (fun _ h => h.elim)
/-- a function value that answers b of v, in each later world -/
def PredIs (g : FuncId) (lb : Array Value) (W : World) (v : Value) (b : Bool) : Prop :=
  ∀ w, Below W.heap.size W w → Calls Tryd.prog g (#[v] ++ lb) w (fun e w' => e = .returned (.bool b) ∧ Upd (fun _ => False) w w')

theorem all_take {α : Type} [Inhabited α] {L : List α} {p : α → Bool} {k : Nat} (hk : k < L.length) (h : (L.take k).all p = true) (hq : p (L.getD k default) = true) : (L.take (k + 1)).all p = true := by
  rw [List.take_succ_eq_append_getElem hk, List.all_append, h]
  simpa [List.getD, hk] using hq
theorem all_false {α : Type} [Inhabited α] {L : List α} {p : α → Bool} {k : Nat} (hk : k < L.length) (hq : p (L.getD k default) = false) : L.all p = false := by
  cases h : L.all p with
  | false => rfl
  | true =>
    have := List.all_eq_true.1 h _ (mem_getD hk)
    rw [hq] at this
    exact this.symm
theorem all_full {α : Type} {L : List α} {p : α → Bool} {k : Nat} (hk : L.length ≤ k) (h : (L.take k).all p = true) : L.all p = true := by
  rwa [List.take_of_length_le hk] at h
instance : Inhabited Int := ⟨0⟩

/-- an instruction, by value -/
def InsV (w : World) (v : Value) (x : InsM) : Prop := v = ins x.op x.a x.b ∧ wi64 x.op ∧ wi64 x.a ∧ wi64 x.b

end Go.Proofs.YtkjmpobbbjljjaaDoor

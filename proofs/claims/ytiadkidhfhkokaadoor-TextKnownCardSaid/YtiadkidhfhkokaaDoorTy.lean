/- Package text: Itoa; what a method prints. -/
import Derived.Test.YtiadkidhfhkokaaDoorTx
import Derived.Lib.ItoaLen
namespace Go.Proofs.YtiadkidhfhkokaaDoor
open Go.RowKit Go.Shelf Go.Lib
set_option linter.unusedVariables false
set_option linter.unusedSimpArgs false

abbrev P10 : String := "internal/strconv.uint64pow10"
/-- strconv's table, in a block below B -/
def Tb (B : Nat) (w : World) : Prop := ∃ g, Tryd.prog.globalNamed P10 = some g ∧ g < B ∧ TabIs Tryd.prog w P10 .u64 pow10Tab
theorem Tb.kept {B : Nat} {w w' : World} (h : Tb B w) (hb : Below B w w') : Tb B w' := by
  obtain ⟨g, hg, hlt, ht⟩ := h
  refine ⟨g, hg, hlt, ?_⟩
  unfold TabIs World.var? at ht ⊢
  rw [hg] at ht ⊢
  simp only [Option.bind_some] at ht ⊢
  rw [hb.block g hlt]
  exact ht
theorem tItoa {B : Nat} {w : World} (ht : Tb B w) {n : Int} (hn : wi64 n) : Calls Tryd.prog 26 #[.int .i64 n] w fun e w' => e = .returned (.string (bs (itoa n))) ∧ Upd (fun _ => False) w w' := by
  obtain ⟨g, hg, hlt, ht⟩ := ht
  obtain ⟨h0, h1⟩ := hn
  refine (Any.strconv_Itoa Tryd.laysItoaM n (by omega) (by omega) w ht).mono ?_
  rintro e w' ⟨rfl, k, os, rfl⟩
  refine ⟨rfl, upd_of_below ⟨rfl, rfl, rfl, by show w.heap.size ≤ (w.heap ++ os).size; simp, fun j hj => ?_⟩⟩
  show (w.heap ++ os)[j]? = _
  rw [Array.getElem?_append_left hj]
end Go.Proofs.YtiadkidhfhkokaaDoor

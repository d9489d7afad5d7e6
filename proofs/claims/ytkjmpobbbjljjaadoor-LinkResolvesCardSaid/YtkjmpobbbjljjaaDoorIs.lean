/- Which images are right: package image: rightCall to Right. -/
import Derived.Test.YtkjmpobbbjljjaaDoorIr
import Derived.IntWalk
namespace Go.Proofs.YtkjmpobbbjljjaaDoor
open Go.RowKit Go.Lib Go.Shelf
set_option linter.unusedVariables false

theorem cell4 {w w1 : World} {x y z u : Value} {t : TypeId} {S : Nat → Prop} (hu : Upd S (w.alloc (.cells #[x, y, z, u] t)) w1) (hS : ¬ S w.heap.size) :
    w1.cell? ⟨w.heap.size, 0, none⟩ = some x ∧ w1.cell? ⟨w.heap.size, 1, none⟩ = some y ∧ w1.cell? ⟨w.heap.size, 2, none⟩ = some z ∧ w1.cell? ⟨w.heap.size, 3, none⟩ = some u := by
  have h : ∀ o, w1.cell? ⟨w.heap.size, o, none⟩ = (w.alloc (.cells #[x, y, z, u] t)).cell? ⟨w.heap.size, o, none⟩ := fun o => hu.cell (p := ⟨w.heap.size, o, none⟩) (by simp) hS
  rw [h, h, h, h]
  simp
theorem cell5 {w w1 : World} {x y z u v : Value} {t : TypeId} {S : Nat → Prop} (hu : Upd S (w.alloc (.cells #[x, y, z, u, v] t)) w1) (hS : ¬ S w.heap.size) :
    w1.cell? ⟨w.heap.size, 0, none⟩ = some x ∧ w1.cell? ⟨w.heap.size, 1, none⟩ = some y ∧ w1.cell? ⟨w.heap.size, 2, none⟩ = some z ∧ w1.cell? ⟨w.heap.size, 3, none⟩ = some u ∧ w1.cell? ⟨w.heap.size, 4, none⟩ = some v := by
  have h : ∀ o, w1.cell? ⟨w.heap.size, o, none⟩ = (w.alloc (.cells #[x, y, z, u, v] t)).cell? ⟨w.heap.size, o, none⟩ := fun o => hu.cell (p := ⟨w.heap.size, o, none⟩) (by simp) hS
  rw [h, h, h, h, h]
  simp

/-- may it be an instruction? -/
def insB (i : InsM) : Bool := rightB i.op i.a i.b
theorem keep5 {w w1 : World} {b : Nat} {x y z u v : Value} (hu : Upd (fun _ => False) w w1) (h : w.cell? ⟨b, 0, none⟩ = some x ∧ w.cell? ⟨b, 1, none⟩ = some y ∧ w.cell? ⟨b, 2, none⟩ = some z ∧ w.cell? ⟨b, 3, none⟩ = some u ∧ w.cell? ⟨b, 4, none⟩ = some v) :
    w1.cell? ⟨b, 0, none⟩ = some x ∧ w1.cell? ⟨b, 1, none⟩ = some y ∧ w1.cell? ⟨b, 2, none⟩ = some z ∧ w1.cell? ⟨b, 3, none⟩ = some u ∧ w1.cell? ⟨b, 4, none⟩ = some v := by
  have hb := World.block_lt_of_cell? _ _ h.1
  exact ⟨(hu.cell (p := ⟨b, 0, none⟩) hb (fun h => h)).trans h.1, (hu.cell (p := ⟨b, 1, none⟩) hb (fun h => h)).trans h.2.1, (hu.cell (p := ⟨b, 2, none⟩) hb (fun h => h)).trans h.2.2.1, (hu.cell (p := ⟨b, 3, none⟩) hb (fun h => h)).trans h.2.2.2.1, (hu.cell (p := ⟨b, 4, none⟩) hb (fun h => h)).trans h.2.2.2.2⟩

end Go.Proofs.YtkjmpobbbjljjaaDoor

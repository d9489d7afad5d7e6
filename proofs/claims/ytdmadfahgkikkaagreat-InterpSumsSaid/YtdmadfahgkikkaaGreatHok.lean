/- The reference's heap: what is used, a new one, an array, whether two are the same. -/
import Derived.Test.YtdmadfahgkikkaaGreatHlk
import Derived.Test.YtdmadfahgkikkaaGreatKHf
import Derived.Deep.QuietTactic
namespace Go.Proofs.YtdmadfahgkikkaaGreat
open Go.RowKit Go.Lib Go.ChangeShapes Go.WideShapes Go.Deep
set_option linter.unusedVariables false
set_option linter.unusedSimpArgs false

section
variable {F : Nat → Prop} {w : World} {b : Nat} {sz : Int} {av : Value} {R : List (ArrM × Value)}
end
theorem setFrom_snoc {α : Type} : ∀ (vs xs : List α) (o : Nat) (v : α), setFrom xs o (vs ++ [v]) = (setFrom xs o vs).set (o + vs.length) v
  | [], xs, o, v => rfl
  | u :: r, xs, o, v => by
    show setFrom (xs.set o u) (o + 1) (r ++ [v]) = _
    rw [setFrom_snoc r (xs.set o u) (o + 1) v]
    show _ = (setFrom (xs.set o u) (o + 1) r).set (o + (r.length + 1)) v
    rw [show o + 1 + r.length = o + (r.length + 1) by omega]
theorem setFrom_byte : ∀ (vs xs : List Int) (o : Nat), (∀ y ∈ xs, 0 ≤ y ∧ y ≤ 255) → (∀ y ∈ vs, 0 ≤ y ∧ y ≤ 255) → ∀ y ∈ setFrom xs o vs, 0 ≤ y ∧ y ≤ 255
  | [], xs, o, hx, hv => hx
  | v :: r, xs, o, hx, hv => setFrom_byte r (xs.set o v) (o + 1) (fun y hy => by
      rcases List.mem_or_eq_of_mem_set hy with h | rfl
      · exact hx y h
      · exact hv y (by simp)) (fun y hy => hv y (by simp [hy]))
theorem hpSrcRow {w : World} {base : Nat} {e : TypeId} {size : Nat} {v : Value} {n : Nat} {xs : List Value} (h : w.ownsRow base e size v n xs) (h1 : ∀ u ∈ xs, u.oneCell' = true) : Src w size v n xs := by
  rcases h.2 with ⟨rfl, rfl⟩ | ⟨g, cap, cur, rfl, _⟩
  · exact .inl ⟨rfl, rfl, List.eq_nil_of_length_eq_zero (by simpa using h.1)⟩
  · exact .inr ⟨⟨g, 0, none⟩, cap, rfl, h.1, h.cells (g := g) rfl, h1⟩
theorem freshRow {w w3 : World} {o : Obj} {v3 : Value} (hg : (w.alloc o).grownBy w3 (Value.slice (some ⟨w.heap.size, 0, none⟩) 0 0).ownBlock) (hf : Fresh (w.alloc o) (.slice (some ⟨w.heap.size, 0, none⟩) 0 0) v3) :
    Upd (fun _ => False) w w3 ∧ ∀ k, v3.ownBlock = some k → w.heap.size ≤ k := by
  refine ⟨?_, fun k hk => ?_⟩
  · exact (Upd.alloc _ w _).trans (T := fun k => k = w.heap.size) (Upd.grown hg (fun k hk => .inl (by simpa [Value.ownBlock] using hk.symm))) (fun i hi hlt => by omega)
  · rcases hf k hk with h | h
    · simp [Value.ownBlock] at h
      omega
    · simp at h
      omega
theorem rowHead {w : World} {base : Nat} {e : TypeId} {size n : Nat} {v : Value} {xs : List Value} (h : w.ownsRow base e size v n xs) (h0 : 0 < n) : ∃ g c, v = .slice (some ⟨g, 0, none⟩) n c ∧ g < w.heap.size := by
  rcases h.2 with ⟨_, h1⟩ | ⟨g, cap, cur, rfl, _, hg, _⟩
  · omega
  · exact ⟨g, cap, rfl, (Array.getElem?_eq_some_iff.1 hg).1⟩
theorem rowCell {w : World} {base : Nat} {e : TypeId} {size n g c : Nat} {xs : List Value} (h : w.ownsRow base e size (.slice (some ⟨g, 0, none⟩) n c) n xs) {j : Nat} {u : Value} (hu : xs[j]? = some u) : w.cell? ⟨g, j, none⟩ = some u := by
  have := h.cells (g := g) rfl j u hu
  rw [addr_add, Nat.zero_add] at this
  exact this
section
variable {F : Nat → Prop} {w : World} {b : Nat} {sz : Int} {av : Value} {R : List (ArrM × Value)}
end
end Go.Proofs.YtdmadfahgkikkaaGreat

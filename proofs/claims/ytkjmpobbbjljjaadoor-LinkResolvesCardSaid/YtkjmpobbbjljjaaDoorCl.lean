/- Laying an instruction: a contract for each Lay. -/
import Derived.Test.YtkjmpobbbjljjaaDoorCd
import Derived.Test.YtkjmpobbbjljjaaDoorWref
namespace Go.Proofs.YtkjmpobbbjljjaaDoor
open Go.RowKit
set_option linter.unusedVariables false

theorem wr_inn {t : TypeId} {w : World} {b : Nat} {v : Value} {xs : List Int} (h : Wr t w b v xs) : ∀ k, fp b v k → k < w.heap.size := by
  intro k hk
  rcases hk with rfl | hk
  · exact h.lt
  · exact (h.own.lt k hk).2
theorem Laid.pre {t : TypeId} {w wa w' : World} {b : Nat} {v : Value} {zs : List Int} (hu : Upd (fun _ => False) w wa) (h : Laid t wa b v zs w') : Laid t w b v zs w' := by
  obtain ⟨v', h1, h2, h3⟩ := h
  exact ⟨v', h1, (hu.mono (fun _ h _ => h.elim)).trans h2 (fun _ h _ => h), fun k hk => (h3 k hk).imp id (Nat.le_trans hu.size)⟩
theorem Laid.same {t : TypeId} {w : World} {b : Nat} {v : Value} {xs : List Int} (h : Wr t w b v xs) : Laid t w b v xs w := ⟨v, h, Upd.refl _ _, fun k hk => .inl hk⟩
/-- one more call behind one that has laid -/
theorem Laid.then {t : TypeId} {w w1 w2 : World} {b : Nat} {v v1 : Value} {ys zs : List Int} (h1 : Wr t w1 b v1 ys) (h2 : Upd (fp b v) w w1) (h3 : ∀ k, v1.ownBlock = some k → v.ownBlock = some k ∨ w.heap.size ≤ k) (k : Laid t w1 b v1 zs w2) : Laid t w b v zs w2 :=
  Laid.trans (ys := ys) ⟨v1, h1, h2, h3⟩ fun v' hv' => by
    have : v' = v1 := by have e1 := hv'.blk; rw [h1.blk] at e1; simpa using e1.symm
    subst this
    exact k
/-- the footprint, and what is beyond the world where the call began -/
theorem fp_then {w : World} {b : Nat} {v v1 : Value} {n : Nat} (hw : ∀ k, fp b v k → k < n) (hn : n < w.heap.size) (h3 : ∀ k, v1.ownBlock = some k → v.ownBlock = some k ∨ w.heap.size ≤ k) : ¬ fp b v1 n := by
  intro hf
  rcases hf with rfl | hf
  · have := hw _ (.inl rfl); omega
  · rcases h3 _ hf with h | h
    · have := hw _ (.inr h); omega
    · omega

/-- the operands that are laid in one byte each -/
def tailB (op a b : Int) : List Int := if opsB op = 2 then [a % 256, b % 256] else if opsB op = 1 then [a % 256] else []
/-- the bytes of an instruction -/
def layB (op a b : Int) : List Int :=
  op % 256 :: (if op = 1 then [a / 16777216 % 256, a / 65536 % 256, a / 256 % 256, a % 256] else if op = 23 ∨ op = 24 then [a / 256 % 256, a % 256] else tailB op a b)
theorem lay_len (op a b : Int) : (layB op a b).length ≤ 5 := by
  unfold layB tailB
  repeat' split
  all_goals simp

end Go.Proofs.YtkjmpobbbjljjaaDoor

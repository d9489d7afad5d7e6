/- Slices of bytes: what is new memory, a slice's copy, the hand's Few, bytes of an argument. -/
import Derived.Test.YtkleofpiikbpmaaRows
import Derived.Test.YtkleofpiikbpmaaBase
import Derived.OpenShut
import Derived.WalkLawsBesides
import Derived.Lib.SlBytesConst
import Derived.ProofKit
import Derived.Deep.Slices
import Derived.Deep.Fields
import Derived.ChangeSame
import Derived.Carry
namespace Go.Proofs.Ytkleofpiikbpmaa
open Go.RowKit Go.ChangeShapes Go.WideShapes Go.Deep
set_option linter.unusedVariables false

theorem info5 : (Try.prog.info? 5).map (fun i => (i.zero, i.size, i.bytes)) = some (some (.int .u8 0), 1, 1) := by kernel_rfl

/-- a new slice of these bytes, in memory of its own -/
def New (w : World) (x : Value) (ys : List Int) (w' : World) : Prop :=
  w'.ownsRow 0 5 1 x ys.length (bv ys) ∧ Upd (fun _ => False) w w' ∧ ∀ k, x.ownBlock = some k → w.heap.size ≤ k

theorem New.vw {w w' : World} {x : Value} {ys : List Int} (h : New w x ys w') (hb : ∀ y ∈ ys, 0 ≤ y ∧ y ≤ 255) : Vw w' x ys := vw_of_row h.1 hb

/-- append([]byte{}, x...) -/
theorem new_of {w w1 : World} {v' : Value} {ys : List Int} (ho : w1.ownsRow 0 5 1 v' ys.length (bv ys)) (hg : (w.alloc (.cells #[] 5)).grownBy w1 (Value.slice (some ⟨w.heap.size, 0, none⟩) 0 0).ownBlock)
    (hf : Fresh (w.alloc (.cells #[] 5)) (.slice (some ⟨w.heap.size, 0, none⟩) 0 0) v') : New w v' ys w1 := by
  refine ⟨ho, ?_, fun k hk => ?_⟩
  · exact (Upd.alloc _ w _).trans (T := fun k => k = w.heap.size) (Upd.grown hg (fun k hk => .inl (by simpa [Value.ownBlock] using hk.symm))) (fun i hi hlt => by omega)
  · rcases hf k hk with h | h
    · simp [Value.ownBlock] at h
      omega
    · simp at h
      omega

theorem Vw.below {W w : World} {v : Value} {ys : List Int} (h : Vw W v ys) (hb : Below W.heap.size W w) : Vw w v ys := by
  refine ⟨h.1, ?_⟩
  rcases h.2 with h | ⟨g, off, c, rfl, h1, h2, h3⟩
  · exact .inl h
  · refine .inr ⟨g, off, c, rfl, h1, h2, fun j hj => ?_⟩
    have hc := h3 j hj
    rw [hb.cell (p := ⟨g, off + j, none⟩) (World.block_lt_of_cell? W _ hc)]
    exact hc

theorem cells_int : Try.prog.cellsOf 3 = 1 := by kernel_rfl

theorem bulk_lits {H : Type} (k : IntKind) (ys : List Int) : Rows.uptoBulkAll (lits (H := H) k ys) = ys.length := by
  induction ys with
  | nil => simp [lits, Rows.uptoBulkAll]
  | cons y ys ih =>
    simp only [lits, List.map_cons, Rows.uptoBulkAll, Rows.uptoBulk, List.length_cons] at ih ⊢
    omega

theorem bulk_mem {H : Type} {d : DataW H} {l : List (DataW H)} (h : d ∈ l) : Rows.uptoBulk d ≤ Rows.uptoBulkAll l := by
  induction l with
  | nil => cases h
  | cons x r ih =>
    simp only [Rows.uptoBulkAll]
    cases List.mem_cons.1 h with
    | inl e => subst e; omega
    | inr e => have := ih e; omega
theorem vw_lit (u : World) (e : TypeId) (fr : Nat × Nat) (ys : List Int) (C : Array Value) (n c : Nat) (hC : C = (bv ys).toArray) (hn : n = ys.length) (hc : n ≤ c) (hm : c ≤ maxLen) (hr : ∀ y ∈ ys, 0 ≤ y ∧ y ≤ 255) :
    Vw (u.alloc (.cells C e fr)) (.slice (some ⟨u.heap.size, 0, none⟩) n c) ys := by
  subst hn hC
  refine ⟨hr, .inr ⟨_, _, _, rfl, hc, hm, fun j hj => ?_⟩⟩
  show (match (u.heap.push _)[u.heap.size]? with | some (.cells c _ _) => _ | _ => _) = _
  simp [bv, hj]
end Go.Proofs.Ytkleofpiikbpmaa

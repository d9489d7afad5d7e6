/- Slices of halfwords, appended to. -/
import Derived.Test.YtibmgmgkaacibaaZh
import Derived.WalkLawsBesides
import Derived.OwnWalk
namespace Go.Proofs.Ytibmgmgkaacibaa
open Go.RowKit
set_option linter.unusedVariables false
set_option linter.unusedSimpArgs false

def hvl (ys : List Nat) : List Value := ys.map fun (y : Nat) => .int .u16 (y : Int)
theorem hvl_length (ys : List Nat) : (hvl ys).length = ys.length := by simp [hvl]
theorem hvl_append (xs ys : List Nat) : hvl (xs ++ ys) = hvl xs ++ hvl ys := by simp [hvl]
theorem hvl_one (ys : List Nat) : ∀ u ∈ hvl ys, u.oneCell' = true := by
  intro u hu
  obtain ⟨n, _, rfl⟩ := List.mem_map.1 hu
  rfl
theorem hvl_get {ys : List Nat} {j : Nat} {u : Value} (h : (hvl ys)[j]? = some u) : j < ys.length ∧ u = .int .u16 ((ys.getD j 0 : Nat) : Int) := by
  simp only [hvl, List.getElem?_map, Option.map_eq_some_iff] at h
  obtain ⟨n, hn, rfl⟩ := h
  exact ⟨(List.getElem?_eq_some_iff.1 hn).1, by simp [List.getD, hn]⟩
theorem VwH.src {w : World} {v : Value} {ys : List Nat} (h : VwH w v ys) : Src w 1 v ys.length (hvl ys) := by
  rcases h.2 with ⟨⟨a, rfl⟩, rfl⟩ | ⟨g, off, c, rfl, h1, h2, h3⟩
  · cases a with
    | none => exact .inl ⟨rfl, rfl, rfl⟩
    | some a => exact .inr ⟨a, 0, rfl, rfl, by simp [hvl], by simp [hvl]⟩
  · refine .inr ⟨_, _, rfl, by simp [hvl], fun j u hj => ?_, hvl_one ys⟩
    obtain ⟨hl, rfl⟩ := hvl_get hj
    rw [addr_add]
    exact h3 j hl
theorem vwh_of_row {w : World} {base : Nat} {e : TypeId} {v : Value} {ys : List Nat} (h : w.ownsRow base e 1 v ys.length (hvl ys)) (hr : ∀ y ∈ ys, y < 65536) : VwH w v ys := by
  refine ⟨hr, ?_⟩
  rcases h.2 with ⟨rfl, hn⟩ | ⟨g, cap, cur, rfl, _, _, hc, hm, _⟩
  · exact .inl ⟨⟨none, rfl⟩, List.eq_nil_of_length_eq_zero hn⟩
  · refine .inr ⟨g, 0, cap, rfl, hc, hm, fun j hj => ?_⟩
    have := h.cells (g := g) rfl j (.int .u16 ((ys.getD j 0 : Nat) : Int)) (by simp [hvl, List.getElem?_eq_getElem hj, List.getD])
    rwa [addr_add] at this
theorem info_u16 : (Try.prog.info? 77).map (fun i => (i.zero, i.size, i.bytes)) = some (some (.int .u16 0), 1, 2) := by kernel_rfl
theorem New.row {w w' : World} {row : Option Nat} (hg : w.grownBy w' row) (hr : ∀ k, row = some k → w.heap.size ≤ k) : New w w' :=
  Upd.grown (S := fun _ => False) hg (fun k hk => .inr (hr k hk))
theorem New.row2 {w a w' : World} {row : Option Nat} (h : New w a) (hg : a.grownBy w' row) (hr : ∀ k, row = some k → w.heap.size ≤ k) : New w w' :=
  Upd.trans h (Upd.grown (S := fun k => row = some k) hg (fun k hk => .inl hk)) (fun i hi hlt => by have := hr i hi; omega)
end Go.Proofs.Ytibmgmgkaacibaa

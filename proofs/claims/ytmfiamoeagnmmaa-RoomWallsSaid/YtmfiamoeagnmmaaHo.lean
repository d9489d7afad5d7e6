/- The reference's heap: what is used, a new one, an array, whether two are the same. -/
import Derived.Test.YtmfiamoeagnmmaaHl
import Derived.Test.YtmfiamoeagnmmaaHf
import Derived.Deep.QuietTactic
namespace Go.Proofs.Ytmfiamoeagnmmaa
open Go.RowKit Go.Lib Go.ChangeShapes Go.WideShapes Go.Deep
set_option linter.unusedVariables false
set_option linter.unusedSimpArgs false

section
variable {F : Nat → Prop} {w : World} {b : Nat} {sz : Int} {av : Value} {R : List (ArrM × Value)}
end
theorem rSame (own lab life : Int) (sh : Bool) (d1 d2 : Value) (ys : List Int) (w : World) (h1 : Vw w d1 ys) (h2 : Vw w d2 ys) : Calls Try.prog 15 #[.agg #[.int .i64 own, .int .i64 lab, .int .i64 life, .bool sh, d1], .agg #[.int .i64 own, .int .i64 lab, .int .i64 life, .bool sh, d2]] w fun e w' => e = .returned (.bool true) ∧ Upd (fun _ => False) w w' := by
  obtain ⟨a1, c1, rfl, -, -⟩ := h1.slice
  obtain ⟨a2, c2, rfl, -, -⟩ := h2.slice
  obtain ⟨w1, hw1⟩ : ∃ w1, w1 = (w.alloc (.cells #[.int .i64 own, .int .i64 lab, .int .i64 life, .bool sh, .slice a1 ys.length c1] 42)).alloc (.cells #[.int .i64 own, .int .i64 lab, .int .i64 life, .bool sh, .slice a2 ys.length c2] 42) := ⟨_, rfl⟩
  have hu : Upd (fun _ => False) w w1 := by rw [hw1]; exact (Upd.alloc _ _ _).trans (Upd.alloc _ _ _) (fun _ h _ => h)
  have e1 := run_str (P := Try.prog) Try.underlying31 Try.underlying5 Try.underlying9 (h1.upd hu (fun _ _ h => h))
  have e2 := run_str (P := Try.prog) Try.underlying31 Try.underlying5 Try.underlying9 (h2.upd hu (fun _ _ h => h))
  have hbq : ((strOfNums ys).toList == (strOfNums ys).toList) = true := by simp
  have HU := Lib.hid hu
  clear h1 h2 hu
  generalize strOfNums ys = st at *
  generalize ys.length = n at *
  subst hw1
  go_enter Try.func15, Try.ntmps15
  go_wp2_with fail
  go_ret
  exact ⟨rfl, HU.out⟩

theorem setFrom_snoc {α : Type} : ∀ (vs xs : List α) (o : Nat) (v : α), setFrom xs o (vs ++ [v]) = (setFrom xs o vs).set (o + vs.length) v
  | [], xs, o, v => rfl
  | u :: r, xs, o, v => by
    show setFrom (xs.set o u) (o + 1) (r ++ [v]) = _
    rw [setFrom_snoc r (xs.set o u) (o + 1) v]
    show _ = (setFrom (xs.set o u) (o + 1) r).set (o + (r.length + 1)) v
    rw [show o + 1 + r.length = o + (r.length + 1) by omega]
theorem setFrom_byte : ∀ (vs xs : List Int) (o : Nat), (∀ y ∈ xs, 0 ≤ y ∧ y ≤ 255) → (∀ y ∈ vs, 0 ≤ y ∧ y ≤ 255) → ∀ y ∈ setFrom xs o vs, 0 ≤ y ∧ y ≤ 255
  | [], xs, o, hx, hv => hx
  | v :: r, xs, o, hx, hv => setFrom_byte r (xs.set o v) (o + 1) (fun y hy => by
      rcases List.mem_or_eq_of_mem_set hy with h | rfl
      · exact hx y h
      · exact hv y (by simp)) (fun y hy => hv y (by simp [hy]))
theorem hpSrcRow {w : World} {base : Nat} {e : TypeId} {size : Nat} {v : Value} {n : Nat} {xs : List Value} (h : w.ownsRow base e size v n xs) (h1 : ∀ u ∈ xs, u.oneCell' = true) : Src w size v n xs := by
  rcases h.2 with ⟨rfl, rfl⟩ | ⟨g, cap, cur, rfl, _⟩
  · exact .inl ⟨rfl, rfl, List.eq_nil_of_length_eq_zero (by simpa using h.1)⟩
  · exact .inr ⟨⟨g, 0, none⟩, cap, rfl, h.1, h.cells (g := g) rfl, h1⟩
theorem freshRow {w w3 : World} {o : Obj} {v3 : Value} (hg : (w.alloc o).grownBy w3 (Value.slice (some ⟨w.heap.size, 0, none⟩) 0 0).ownBlock) (hf : Fresh (w.alloc o) (.slice (some ⟨w.heap.size, 0, none⟩) 0 0) v3) :
    Upd (fun _ => False) w w3 ∧ ∀ k, v3.ownBlock = some k → w.heap.size ≤ k := by
  refine ⟨?_, fun k hk => ?_⟩
  · exact (Upd.alloc _ w _).trans (T := fun k => k = w.heap.size) (Upd.grown hg (fun k hk => .inl (by simpa [Value.ownBlock] using hk.symm))) (fun i hi hlt => by omega)
  · rcases hf k hk with h | h
    · simp [Value.ownBlock] at h
      omega
    · simp at h
      omega
theorem rowHead {w : World} {base : Nat} {e : TypeId} {size n : Nat} {v : Value} {xs : List Value} (h : w.ownsRow base e size v n xs) (h0 : 0 < n) : ∃ g c, v = .slice (some ⟨g, 0, none⟩) n c ∧ g < w.heap.size := by
  rcases h.2 with ⟨_, h1⟩ | ⟨g, cap, cur, rfl, _, hg, _⟩
  · omega
  · exact ⟨g, cap, rfl, (Array.getElem?_eq_some_iff.1 hg).1⟩
theorem rowCell {w : World} {base : Nat} {e : TypeId} {size n g c : Nat} {xs : List Value} (h : w.ownsRow base e size (.slice (some ⟨g, 0, none⟩) n c) n xs) {j : Nat} {u : Value} (hu : xs[j]? = some u) : w.cell? ⟨g, j, none⟩ = some u := by
  have := h.cells (g := g) rfl j u hu
  rw [addr_add, Nat.zero_add] at this
  exact this
section
variable {F : Nat → Prop} {w : World} {b : Nat} {sz : Int} {av : Value} {R : List (ArrM × Value)}
end
end Go.Proofs.Ytmfiamoeagnmmaa

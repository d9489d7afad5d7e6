/- Clones of slices: of numbers, of instructions, of imports, of methods: a new row of the same cells. -/
import Derived.Test.YtkleofpiikbpmaaBytes
import Derived.Test.YtkleofpiikbpmaaIa
import Derived.LoopTactic
namespace Go.Proofs.Ytkleofpiikbpmaa
open Go.RowKit Go.ChangeShapes Go.WideShapes Go.Deep
set_option linter.unusedVariables false
set_option linter.unusedSimpArgs false

def cellsQ (sz n : Nat) (f : Nat → Nat → Value) : List Value := (List.range (n * sz)).map (fun t => f (t / sz) (t % sz))
theorem cellsQ_len (sz n : Nat) (f : Nat → Nat → Value) : (cellsQ sz n f).length = n * sz := by simp [cellsQ]
theorem cellsQ_get {sz n t : Nat} {f : Nat → Nat → Value} (ht : t < n * sz) : (cellsQ sz n f)[t]? = some (f (t / sz) (t % sz)) := by simp [cellsQ, ht]
theorem cellsQ_at {sz n i j : Nat} {f : Nat → Nat → Value} (hi : i < n) (hj : j < sz) : (cellsQ sz n f)[i * sz + j]? = some (f i j) := by
  have h : i * sz + j < n * sz := by
    have : (i + 1) * sz ≤ n * sz := Nat.mul_le_mul_right _ hi
    rw [Nat.add_mul] at this
    omega
  have h1 : (i * sz + j) / sz = i := by rw [Nat.mul_comm, Nat.mul_add_div (by omega), Nat.div_eq_of_lt hj, Nat.add_zero]
  have h2 : (i * sz + j) % sz = j := by rw [Nat.mul_comm, Nat.mul_add_mod, Nat.mod_eq_of_lt hj]
  rw [cellsQ_get h, h1, h2]
theorem cellsQ_one {sz n : Nat} {f : Nat → Nat → Value} (hsz : 0 < sz) (h1 : ∀ i, i < n → ∀ j, j < sz → (f i j).oneCell' = true) : ∀ u ∈ cellsQ sz n f, u.oneCell' = true := by
  intro u hu
  obtain ⟨t, ht, rfl⟩ := List.mem_map.1 hu
  have hlt := List.mem_range.1 ht
  exact h1 _ (Nat.div_lt_of_lt_mul (by rw [Nat.mul_comm]; exact hlt)) _ (Nat.mod_lt _ hsz)
theorem Sl.srcQ {w : World} {sz n c : Nat} {a : Addr} {f : Nat → Nat → Value} (hsz : 0 < sz) (h : Sl w (.slice (some a) n c) sz n f) (h1 : ∀ i, i < n → ∀ j, j < sz → (f i j).oneCell' = true) : Src w sz (.slice (some a) n c) n (cellsQ sz n f) := by
  obtain ⟨a', c', he, _, _, h3⟩ := h
  simp at he
  obtain ⟨rfl, rfl⟩ := he
  refine .inr ⟨_, _, rfl, cellsQ_len _ _ _, fun t u ht => ?_, cellsQ_one hsz h1⟩
  have hlt : t < n * sz := by
    have := (List.getElem?_eq_some_iff.1 ht).1
    rwa [cellsQ_len] at this
  rw [cellsQ_get hlt] at ht
  simp at ht
  subst ht
  rcases h3 with h3 | ⟨g, off, he, h4⟩
  · subst h3; simp at hlt
  · simp at he
    subst he
    rw [addr_add]
    have hi : t / sz < n := Nat.div_lt_of_lt_mul (by rw [Nat.mul_comm]; exact hlt)
    have := h4 (t / sz) hi (t % sz) (Nat.mod_lt _ hsz)
    rw [show off + t / sz * sz + t % sz = off + t by rw [Nat.add_assoc, Nat.div_add_mod']] at this
    exact this
/-- a new row of these cells -/
def Clo (e : TypeId) (sz : Nat) (w : World) (v : Value) (n : Nat) (xs : List Value) (w' : World) : Prop :=
  w'.ownsRow 0 e sz v n xs ∧ Upd (fun _ => False) w w' ∧ ∀ k, v.ownBlock = some k → w.heap.size ≤ k
theorem clo_of {e : TypeId} {sz n : Nat} {w w1 : World} {v' : Value} {xs : List Value} (ho : w1.ownsRow 0 e sz v' n xs) (hg : (w.alloc (.cells #[] e)).grownBy w1 (Value.slice (some ⟨w.heap.size, 0, none⟩) 0 0).ownBlock)
    (hf : Fresh (w.alloc (.cells #[] e)) (.slice (some ⟨w.heap.size, 0, none⟩) 0 0) v') : Clo e sz w v' n xs w1 := by
  refine ⟨ho, ?_, fun k hk => ?_⟩
  · exact (Upd.alloc _ w _).trans (T := fun k => k = w.heap.size) (Upd.grown hg (fun k hk => .inl (by simpa [Value.ownBlock] using hk.symm))) (fun i hi hlt => by omega)
  · rcases hf k hk with h | h
    · simp [Value.ownBlock] at h
      omega
    · simp at h
      omega
theorem clIntsInfo : (Try.prog.info? 3).map (fun i => (i.zero, i.size, i.bytes)) = some (some (.int .i64 0), 1, 8) := by kernel_rfl
set_option maxHeartbeats 400000 in
theorem clInts (w : World) (v : Value) (n : Nat) (f : Nat → Nat → Value) (h : Sl w v 1 n f) (h1 : ∀ i, i < n → ∀ j, j < 1 → (f i j).oneCell' = true) (hl : n ≤ 100000000) :
    Calls Try.prog 33 #[v] w fun e w' => ∃ v', e = .returned v' ∧ Clo 3 1 w v' n (cellsQ 1 n f) w' := by
  obtain ⟨i0, hi, hz0, hz1, hz2⟩ := info_parts clIntsInfo
  obtain ⟨a, c, rfl, hc, hm⟩ := h.slice
  cases a with
  | none =>
    obtain rfl : n = 0 := by
      obtain ⟨a, c1, e, _, _, h3⟩ := h
      rcases h3 with h3 | ⟨g, off, h3, _⟩
      · exact h3
      · subst h3; simp at e
    have hq := fun u : World => Lib.run_eql_slice_nil (P := Try.prog) u 42 3 none 0 c 0 0 Try.underlying42
    clear h h1
    go_enter Try.func33, Try.ntmps33
    go_wp2
    go_ret
    exact ⟨_, rfl, World.ownsRow_nil _ _ _ _, Upd.refl _ _, by simp [Value.ownBlock]⟩
  | some a =>
    have hsl := h.later (w := w.alloc (.cells #[] 3)) ((Upd.alloc (fun _ => False) w _).below (Nat.le_refl _) (fun _ h => h.elim))
    have HS := Lib.hid (hsl.srcQ (by omega) h1)
    have HO := Lib.hid (World.ownsRow_lit (base := 0) (e := 3) (size := 1) w #[] 0 (Nat.zero_le _) (by unfold maxLen; omega) rfl)
    have hq := fun u : World => Lib.run_eql_slice_nil (P := Try.prog) u 42 3 (some a) n c 0 0 Try.underlying42
    clear h h1 hsl
    go_enter Try.func33, Try.ntmps33
    go_wp2_with (at_builtin; go_loud (refine wpList_append_mine _ rfl _ _ 42 rfl 0 3 i0 (.int .i64 0) 1 8 Try.underlying42 hi hz0 hz1 hz2 rfl (by decide) (.slice (some ⟨w.heap.size, 0, none⟩) 0 0) 0 [] rfl HO.out n (cellsQ 1 n f) HS.out (by unfold maxLen; omega) (by omega) (Nat.zero_le _) ?_))
    intro v' w1 ho hg hf
    have HN := Lib.hid (clo_of ho hg hf)
    clear ho hg hf
    go_wp2
    go_ret
    exact ⟨_, rfl, by simpa using HN.out⟩
end Go.Proofs.Ytkleofpiikbpmaa

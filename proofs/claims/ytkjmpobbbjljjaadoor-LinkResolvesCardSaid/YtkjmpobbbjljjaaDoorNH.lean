/- Lists of images that grow: what they read stays while their own block is written. -/
import Derived.Test.YtkjmpobbbjljjaaDoorNG
namespace Go.Proofs.YtkjmpobbbjljjaaDoor
open Go.RowKit Go.Lib
set_option linter.unusedVariables false
set_option linter.unusedSimpArgs false

/-- a world without one block -/
def hide (o : Option Nat) (w : World) : World := match o with
  | none => w
  | some b => { w with heap := w.heap.setIfInBounds b (.cells #[] 3 (0, 0)) }
theorem hide_size (o : Option Nat) (w : World) : (hide o w).heap.size = w.heap.size := by
  cases o with
  | none => rfl
  | some b => show (w.heap.setIfInBounds b _).size = _; simp
theorem hide_other (o : Option Nat) (w : World) (k : Nat) (h : o ≠ some k) : (hide o w).heap[k]? = w.heap[k]? := by
  cases o with
  | none => rfl
  | some b =>
    show (w.heap.setIfInBounds b _)[k]? = _
    rw [Array.getElem?_setIfInBounds_ne (fun e => h (by rw [e]))]
theorem hide_own (b : Nat) (w : World) (j : Nat) : (hide (some b) w).cell? ⟨b, j, none⟩ = none := by
  cases h : (hide (some b) w).cell? ⟨b, j, none⟩ with
  | none => rfl
  | some x =>
    have hlt := World.block_lt_of_cell? _ _ h
    rw [hide_size] at hlt
    have hb : (hide (some b) w).heap[b]? = some (.cells #[] 3 (0, 0)) := by
      show (w.heap.setIfInBounds b _)[b]? = _
      simp only [Array.getElem?_setIfInBounds_self]
      rw [if_pos hlt]
    have h2 : (hide (some b) w).cell? ⟨b, j, none⟩ = (#[] : Array Value)[j]? := by
      show (match (hide (some b) w).heap[b]? with | some (.cells c _ _) => _ | _ => _) = _
      rw [hb]
      rfl
    rw [h2] at h
    simp at h
theorem hide_upd (o : Option Nat) (w : World) : Upd (fun k => o = some k) w (hide o w) := by
  refine ⟨?_, ?_, ?_, by rw [hide_size]; exact Nat.le_refl _, fun k _ hk => hide_other o w k hk⟩ <;> (cases o <;> rfl)
theorem hide_cell {o : Option Nat} {w : World} {g j : Nat} {x : Value} (h : (hide o w).cell? ⟨g, j, none⟩ = some x) : o ≠ some g ∧ w.cell? ⟨g, j, none⟩ = some x := by
  have hne : o ≠ some g := fun e => by
    subst e
    rw [hide_own] at h
    cases h
  refine ⟨hne, ?_⟩
  rw [World.cell?_of_block (w := w) (hide_other o w g hne)] at h
  exact h
theorem hide_to {o : Option Nat} {w : World} {g j : Nat} {x : Value} (hne : o ≠ some g) (h : w.cell? ⟨g, j, none⟩ = some x) : (hide o w).cell? ⟨g, j, none⟩ = some x := by
  rw [World.cell?_of_block (w := w) (hide_other o w g hne)]
  exact h
/-- what has a cell there has it here -/
def Cov (w w' : World) : Prop := ∀ g j x, w.cell? ⟨g, j, none⟩ = some x → w'.cell? ⟨g, j, none⟩ = some x
section
variable {w w' : World} {v : Value} (hc : Cov w w')
include hc
theorem Sl.cov {sz n : Nat} {f : Nat → Nat → Value} (h : Sl w v sz n f) : Sl w' v sz n f := by
  obtain ⟨a, c, rfl, h1, h2, h3⟩ := h
  refine ⟨a, c, rfl, h1, h2, ?_⟩
  rcases h3 with h3 | ⟨g, off, rfl, h4⟩
  · exact .inl h3
  · exact .inr ⟨g, off, rfl, fun i hi j hj => hc _ _ _ (h4 i hi j hj)⟩
theorem Ints.cov {L : List Int} (h : Ints w v L) : Ints w' v L := ⟨h.1.cov hc, h.2⟩
theorem Inss.cov {L : List InsM} (h : Inss w v L) : Inss w' v L := ⟨h.1.cov hc, h.2⟩
theorem Imps.cov {L : List ImpM} (h : Imps w v L) : Imps w' v L := by
  obtain ⟨p, h1, h2, h3⟩ := h
  exact ⟨p, h1.cov hc, fun i hi => (h2 i hi).cov hc, h3⟩
theorem Mets.cov {L : List MetM} (h : Mets w v L) : Mets w' v L := by
  obtain ⟨p, q, r, h1, h2, h3⟩ := h
  exact ⟨p, q, r, h1.cov hc, fun i hi => ⟨(h2 i hi).1.cov hc, (h2 i hi).2.1.cov hc, (h2 i hi).2.2.cov hc⟩, h3⟩
theorem IsP.cov {p : PIm} (h : IsP w p) : IsP w' p := ⟨h.1.cov hc, h.2.1.cov hc, h.2.2.1.cov hc, h.2.2.2.1.cov hc, h.2.2.2.2⟩
end
theorem cov_hide (o : Option Nat) (w : World) : Cov (hide o w) w := fun _ _ _ h => (hide_cell h).2
theorem cov_step {o o' : Option Nat} {w w' : World} (hu : Upd (fun k => o = some k) w w') (hf : ∀ k, o' = some k → o = some k ∨ w.heap.size ≤ k) : Cov (hide o w) (hide o' w') := fun g j x h => by
  obtain ⟨h1, h2⟩ := hide_cell h
  have hlt := World.block_lt_of_cell? _ _ h2
  refine hide_to (fun e => ?_) ((hu.cell (p := ⟨g, j, none⟩) hlt h1).trans h2)
  rcases hf g e with h3 | h3
  · exact h1 h3
  · exact Nat.lt_irrefl _ (Nat.lt_of_lt_of_le hlt h3)
/-- what was read of blocks that there were stays, whatever is done with those that came -/
theorem IsP.past {o : Option Nat} {w w' : World} {p : PIm} (h : IsP (hide o w) p) (hu : Upd (fun k => w.heap.size ≤ k) w w') : IsP (hide o w') p :=
  h.cov fun g j x hx => by
    obtain ⟨h1, h2⟩ := hide_cell hx
    have hlt := World.block_lt_of_cell? _ _ h2
    exact hide_to h1 ((hu.cell (p := ⟨g, j, none⟩) hlt (fun hge => Nat.lt_irrefl _ (Nat.lt_of_lt_of_le hlt hge))).trans h2)
theorem App.hid {w0 w : World} {N : Nat} {s s1 s2 : ByteArray} {c0 c1 c2 : Value} {C0 C1 C2 : List InsM} (h : App w0 w N s s1 s2 c0 c1 c2 C0 C1 C2) (o : Option Nat) (ho : ∀ k, o = some k → k < N) : IsP (hide o w) (appP N s s1 s2 C0 C1 C2) := by
  have hu := hide_upd o w
  have hS : ∀ k, o = some k → k < N + 11 := fun k hk => by have := ho k hk; omega
  have hn : ∀ d, ¬ o = some (N + d) := fun d e => by have := ho _ e; omega
  have hn0 : ¬ o = some N := fun e => by have := ho _ e; omega
  have e1 := stay_blk hu h.b1 (hn 1)
  have e2 := stay_blk hu h.b2 (hn 2)
  have e3 := stay_blk hu h.b3 (hn 3)
  have e5 := stay_blk hu h.b5 (hn 5)
  have e6 := stay_blk hu h.b6 (hn 6)
  have e7 := stay_blk hu h.b7 (hn 7)
  have e8 := stay_blk hu h.b8 (hn 8)
  have e9 := stay_blk hu h.b9 (hn 9)
  have e10 := stay_blk hu h.b10 (hn 10)
  have k0 := Inss.stay h.k0 hu hS
  have k1 := Inss.stay h.k1 hu hS
  have k2 := Inss.stay h.k2 hu hS
  obtain ⟨W, hW⟩ : ∃ W, W = hide o w := ⟨_, rfl⟩
  rw [← hW] at e1 e2 e3 e5 e6 e7 e8 e9 e10 k0 k1 k2 ⊢
  have hAW : ∀ w0' : World, w0'.heap.size = N → Upd (fun _ => False) w0' W → App w0' W N s s1 s2 c0 c1 c2 C0 C1 C2 := fun w0' hs hu' =>
    ⟨hs, hu', (h.b0.imp fun a ⟨b, c, d, e, x⟩ => ⟨b, c, d, e, by rw [hW]; exact stay_blk hu x hn0⟩), e1, e2, e3, by rw [hW]; exact stay_blk hu h.b4 (hn 4), e5, e6, e7, e8, e9, e10, k0, k1, k2, h.ns⟩
  have hN : N ≤ W.heap.size := by
    have := (Array.getElem?_eq_some_iff.1 e1).1
    omega
  refine (hAW { W with heap := W.heap.extract 0 N } (by show (W.heap.extract 0 N).size = N; simp; omega) ⟨rfl, rfl, rfl, by show (W.heap.extract 0 N).size ≤ _; simp; omega, fun i hi _ => ?_⟩).isP
  have hi' : i < N := by
    have : i < (W.heap.extract 0 N).size := hi
    simp at this
    omega
  show W.heap[i]? = (W.heap.extract 0 N)[i]?
  rw [Array.getElem?_extract]
  simp [hi']
  omega
/-- an own list of images -/
structure Lst (w0 w : World) (v : Value) (P : List PIm) : Prop where
  row : w.ownsRow 0 26 5 v P.length (P.flatMap pimC)
  each : ∀ p ∈ P, IsP (hide v.ownBlock w) p
  own : ∀ k, v.ownBlock = some k → w0.heap.size ≤ k
instance : Inhabited PIm := ⟨pim0⟩
theorem Lst.nil (w0 w : World) : Lst w0 w (.slice none 0 0) [] := ⟨World.ownsRow_nil _ _ _ _, by simp, fun k hk => by simp [Value.ownBlock] at hk⟩
theorem Lst.imgs {w0 w : World} {v : Value} {P : List PIm} (h : Lst w0 w v P) : Imgs w v P := by
  refine ⟨(Sl.own h.row).congr fun i hi j hj => ?_, fun p hp => (h.each p hp).cov (cov_hide _ _)⟩
  have e := flat_get pimC 5 (.int .i64 0) (fun _ => rfl) P i j hi hj
  rw [e]
  have : P.getD i default = P.getD i pim0 := by simp [List.getD, hi]
  rw [this]
theorem Lst.keep {w0 w w' : World} {v : Value} {P : List PIm} (h : Lst w0 w v P) (hu : Upd (fun _ => False) w w') : Lst w0 w' v P :=
  ⟨ownsRow_upd h.row hu (fun _ _ h => h), fun p hp => (h.each p hp).cov (cov_step (hu.mono (fun _ h _ => h.elim)) (fun k hk => .inl hk)), h.own⟩
theorem Lst.slice {w0 w : World} {v : Value} {P : List PIm} (h : Lst w0 w v P) : ∃ a c, v = .slice a P.length c := by
  obtain ⟨a, c, he, -⟩ := h.imgs.slice
  exact ⟨a, c, he⟩
theorem Lst.add {w0 w w' : World} {v v' : Value} {P : List PIm} {p : PIm} (h : Lst w0 w v P) (hp : IsP (hide v.ownBlock w) p) (hr : w'.ownsRow 0 26 5 v' (P.length + 1) (P.flatMap pimC ++ pimC p)) (hg : w.grownBy w' v.ownBlock) (hf : Fresh w v v') (h0 : w0.heap.size ≤ w.heap.size) : Lst w0 w' v' (P ++ [p]) := by
  have hu : Upd (fun k => v.ownBlock = some k) w w' := Upd.grown hg (fun k hk => .inl hk)
  have hc := cov_step (o' := v'.ownBlock) hu hf
  refine ⟨by simpa using hr, fun q hq => ?_, fun k hk => ?_⟩
  · rcases List.mem_append.1 hq with hq | hq
    · exact (h.each q hq).cov hc
    · simp at hq
      subst hq
      exact hp.cov hc
  · rcases hf k hk with h1 | h1
    · exact h.own k h1
    · omega
end Go.Proofs.YtkjmpobbbjljjaaDoor

/- What the Writers of octet and of the reference do to the world: a contract for each call. -/
import Derived.Test.YtmikibcgphkcfaaGreatDoorBytes
import Derived.WalkLawsBesides
namespace Go.Proofs.YtmikibcgphkcfaaGreatDoor
open Go.RowKit
set_option linter.unusedVariables false

/-- A Writer: one cell, that holds the slice of what was laid. -/
structure Wr (t : TypeId) (w : World) (b : Nat) (v : Value) (xs : List Int) : Prop where
  blk : w.heap[b]? = some (.cells #[v] t (0, 0))
  own : w.ownsRow 0 5 1 v xs.length (bv xs)
  byte : ∀ y ∈ xs, 0 ≤ y ∧ y ≤ 255

section
variable {t : TypeId} (ht : t ≠ 5) {w : World} {b : Nat} {v : Value} {xs : List Int}
theorem Wr.cell (h : Wr t w b v xs) : w.cell? ⟨b, 0, none⟩ = some v := by have := h.blk; simp [World.cell?, this]
theorem Wr.free (h : Wr t w b v xs) : w.frozen? ⟨b, 0, none⟩ = false := by have := h.blk; simp [World.frozen?, this]
theorem Wr.lt (h : Wr t w b v xs) : b < w.heap.size := (Array.getElem?_eq_some_iff.1 h.blk).1
include ht in
theorem Wr.ne (h : Wr t w b v xs) : v.ownBlock ≠ some b := by
  intro e
  rcases h.own.2 with ⟨rfl, _⟩ | ⟨g, cap, cur, rfl, _, hg, _⟩
  · simp [Value.ownBlock] at e
  · simp [Value.ownBlock] at e
    subst e
    have := h.blk
    rw [hg] at this
    simp at this
    exact ht this.2.symm
end
def fp (b : Nat) (v : Value) : Nat → Prop := fun k => k = b ∨ v.ownBlock = some k
/-- behind a call that has laid: now the Writer has zs -/
def Laid (t : TypeId) (w : World) (b : Nat) (v : Value) (zs : List Int) (w' : World) : Prop :=
  ∃ v', Wr t w' b v' zs ∧ Upd (fp b v) w w' ∧ ∀ k, v'.ownBlock = some k → v.ownBlock = some k ∨ w.heap.size ≤ k

theorem Wr.upd {t : TypeId} {w w' : World} {b : Nat} {v : Value} {xs : List Int} {S : Nat → Prop} (h : Wr t w b v xs) (hu : Upd S w w') (hS : ∀ k, fp b v k → ¬ S k) : Wr t w' b v xs :=
  ⟨by rw [hu.block b h.lt (hS b (.inl rfl))]; exact h.blk, ownsRow_upd h.own hu (fun k hk => hS k (.inr hk)), h.byte⟩
theorem Wr.vw {t : TypeId} {w : World} {b : Nat} {v : Value} {xs : List Int} (h : Wr t w b v xs) : Vw w v xs := vw_of_row h.own h.byte

/-- the store behind an append -/
theorem laid {t : TypeId} (ht : t ≠ 5) {w wa w1 : World} {b : Nat} {v v' : Value} {xs zs : List Int} {n : Nat} (h : Wr t w b v xs) (ha : Upd (fun _ => False) w wa) (hg : wa.grownBy w1 v.ownBlock) (ho : w1.ownsRow 0 5 1 v' n (bv zs)) (hn : n = zs.length) (hf : Fresh wa v v') (hz : ∀ y ∈ zs, 0 ≤ y ∧ y ≤ 255) :
    Laid t w b v zs (w1.setCell ⟨b, 0, none⟩ v') := by
  subst hn
  have hlt := h.lt
  have hs := ha.size
  have hblk : w1.heap[b]? = some (.cells #[v] t (0, 0)) := by
    rw [hg.block b (by omega) (fun e => h.ne ht e.symm), ha.block b hlt (fun e => e)]
    exact h.blk
  have hu : Upd (fp b v) w1 (w1.setCell ⟨b, 0, none⟩ v') := Upd.setCell _ (.inl (.inl rfl)) _
  refine ⟨v', ⟨?_, ?_, hz⟩, ?_, fun k hk => ?_⟩
  · simp [World.setCell, Array.getElem?_modify, hblk]
  · refine ownsRow_upd ho (S := fun k => k = b) (Upd.setCell (S := fun k => k = b) w1 (p := ⟨b, 0, none⟩) (.inl rfl) v') (fun k hk e => ?_)
    subst e
    rcases ho.2 with ⟨rfl, _⟩ | ⟨g, cap, cur, rfl, _, hgg, _⟩
    · simp [Value.ownBlock] at hk
    · simp [Value.ownBlock] at hk
      subst hk
      rw [hblk] at hgg
      simp at hgg
      exact ht hgg.2
  · refine (ha.mono (fun _ h _ => h.elim)).trans (T := fp b v) ((Upd.grown hg (fun k hk => .inl (.inr hk))).trans hu (fun i hi _ => hi)) (fun i hi _ => hi)
  · rcases hf k hk with h | h
    · exact .inl h
    · exact .inr (by omega)

theorem Laid.trans {t : TypeId} {w w1 w2 : World} {b : Nat} {v : Value} {ys zs : List Int} (h : Laid t w b v ys w1) (k : ∀ v', Wr t w1 b v' ys → Laid t w1 b v' zs w2) : Laid t w b v zs w2 := by
  obtain ⟨v1, h1, h2, h3⟩ := h
  obtain ⟨v2, k1, k2, k3⟩ := k v1 h1
  refine ⟨v2, k1, h2.trans k2 (fun i hi hlt => ?_), fun i hi => ?_⟩
  · rcases hi with rfl | hi
    · exact .inl rfl
    · rcases h3 i hi with h | h
      · exact .inr h
      · omega
  · have := h2.size
    rcases k3 i hi with h | h
    · exact h3 i h
    · exact .inr (by omega)
theorem byte_app {xs ys : List Int} (hx : ∀ y ∈ xs, 0 ≤ y ∧ y ≤ 255) (hy : ∀ y ∈ ys, 0 ≤ y ∧ y ≤ 255) : ∀ y ∈ xs ++ ys, 0 ≤ y ∧ y ≤ 255 := by
  intro y h
  rcases List.mem_append.1 h with h | h
  · exact hx y h
  · exact hy y h

end Go.Proofs.YtmikibcgphkcfaaGreatDoor

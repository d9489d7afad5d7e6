/- Laying an instruction: a contract for each Lay. Reading an instruction: a contract for each call. -/
import Derived.Test.YtmikibcgphkcfaaGreatDoorCd
import Derived.Test.YtmikibcgphkcfaaGreatDoorRref
import Derived.Outline
namespace Go.Proofs.YtmikibcgphkcfaaGreatDoor
section
open Go.RowKit
set_option linter.unusedVariables false

theorem wr_inn {t : TypeId} {w : World} {b : Nat} {v : Value} {xs : List Int} (h : Wr t w b v xs) : ∀ k, fp b v k → k < w.heap.size := by
  intro k hk
  rcases hk with rfl | hk
  · exact h.lt
  · exact (h.own.lt k hk).2
theorem Laid.pre {t : TypeId} {w wa w' : World} {b : Nat} {v : Value} {zs : List Int} (hu : Upd (fun _ => False) w wa) (h : Laid t wa b v zs w') : Laid t w b v zs w' := by
  obtain ⟨v', h1, h2, h3⟩ := h
  exact ⟨v', h1, (hu.mono (fun _ h _ => h.elim)).trans h2 (fun _ h _ => h), fun k hk => (h3 k hk).imp id (Nat.le_trans hu.size)⟩
theorem Laid.same {t : TypeId} {w : World} {b : Nat} {v : Value} {xs : List Int} (h : Wr t w b v xs) : Laid t w b v xs w := ⟨v, h, Upd.refl _ _, fun k hk => .inl hk⟩
/-- one more call behind one that has laid -/
theorem Laid.then {t : TypeId} {w w1 w2 : World} {b : Nat} {v v1 : Value} {ys zs : List Int} (h1 : Wr t w1 b v1 ys) (h2 : Upd (fp b v) w w1) (h3 : ∀ k, v1.ownBlock = some k → v.ownBlock = some k ∨ w.heap.size ≤ k) (k : Laid t w1 b v1 zs w2) : Laid t w b v zs w2 :=
  Laid.trans (ys := ys) ⟨v1, h1, h2, h3⟩ fun v' hv' => by
    have : v' = v1 := by have e1 := hv'.blk; rw [h1.blk] at e1; simpa using e1.symm
    subst this
    exact k
/-- the footprint, and what is beyond the world where the call began -/
theorem fp_then {w : World} {b : Nat} {v v1 : Value} {n : Nat} (hw : ∀ k, fp b v k → k < n) (hn : n < w.heap.size) (h3 : ∀ k, v1.ownBlock = some k → v.ownBlock = some k ∨ w.heap.size ≤ k) : ¬ fp b v1 n := by
  intro hf
  rcases hf with rfl | hf
  · have := hw _ (.inl rfl); omega
  · rcases h3 _ hf with h | h
    · have := hw _ (.inr h); omega
    · omega

/-- the operands that are laid in one byte each -/
def tailB (op a b : Int) : List Int := if opsB op = 2 then [a % 256, b % 256] else if opsB op = 1 then [a % 256] else []
/-- the bytes of an instruction -/
def layB (op a b : Int) : List Int :=
  op % 256 :: (if op = 1 then [a / 16777216 % 256, a / 65536 % 256, a / 256 % 256, a % 256] else if op = 23 ∨ op = 24 then [a / 256 % 256, a % 256] else tailB op a b)
theorem lay_len (op a b : Int) : (layB op a b).length ≤ 5 := by
  unfold layB tailB
  repeat' split
  all_goals simp

end

section
open Go.RowKit
set_option linter.unusedVariables false

/-- three cells in a block -/
def Is3 (t : TypeId) (w : World) (b : Nat) (x y z : Value) : Prop := w.heap[b]? = some (.cells #[x, y, z] t (0, 0))
theorem is3_new (t : TypeId) (w : World) (x y z : Value) : Is3 t (w.alloc (.cells #[x, y, z] t)) w.heap.size x y z := by
  unfold Is3
  show (w.heap.push _)[w.heap.size]? = _
  simp
theorem Is3.c0 {t : TypeId} {w : World} {b : Nat} {x y z : Value} (h : Is3 t w b x y z) : w.cell? ⟨b, 0, none⟩ = some x := by unfold Is3 at h; simp [World.cell?, h]
theorem Is3.c1 {t : TypeId} {w : World} {b : Nat} {x y z : Value} (h : Is3 t w b x y z) : w.cell? ⟨b, 1, none⟩ = some y := by unfold Is3 at h; simp [World.cell?, h]
theorem Is3.c2 {t : TypeId} {w : World} {b : Nat} {x y z : Value} (h : Is3 t w b x y z) : w.cell? ⟨b, 2, none⟩ = some z := by unfold Is3 at h; simp [World.cell?, h]
theorem Is3.fr {t : TypeId} {w : World} {b : Nat} {x y z : Value} (h : Is3 t w b x y z) (o : Nat) : w.frozen? ⟨b, o, none⟩ = false := by unfold Is3 at h; simp [World.frozen?, h]
theorem Is3.lt {t : TypeId} {w : World} {b : Nat} {x y z : Value} (h : Is3 t w b x y z) : b < w.heap.size := (Array.getElem?_eq_some_iff.1 h).1
theorem Is3.upd {t : TypeId} {w w' : World} {b : Nat} {x y z : Value} {S : Nat → Prop} (h : Is3 t w b x y z) (hu : Upd S w w') (hS : ¬ S b) : Is3 t w' b x y z := (hu.block b h.lt hS).trans h
theorem Is3.set0 {t : TypeId} {w : World} {b : Nat} {x y z : Value} (h : Is3 t w b x y z) (u : Value) : Is3 t (w.setCell ⟨b, 0, none⟩ u) b u y z := by unfold Is3 at *; simp [World.setCell, Array.getElem?_modify, h]
theorem Is3.set1 {t : TypeId} {w : World} {b : Nat} {x y z : Value} (h : Is3 t w b x y z) (u : Value) : Is3 t (w.setCell ⟨b, 1, none⟩ u) b x u z := by unfold Is3 at *; simp [World.setCell, Array.getElem?_modify, h]
theorem Is3.set2 {t : TypeId} {w : World} {b : Nat} {x y z : Value} (h : Is3 t w b x y z) (u : Value) : Is3 t (w.setCell ⟨b, 2, none⟩ u) b x y u := by unfold Is3 at *; simp [World.setCell, Array.getElem?_modify, h]

theorem fin3 {t : TypeId} {w : World} {b : Nat} {x y z : Value} (h : Is3 t w b x y z) (u0 u1 u2 : Value) :
    Is3 t (((w.setCell ⟨b, 0, none⟩ u0).setCell ⟨b, 1, none⟩ u1).setCell ⟨b, 2, none⟩ u2) b u0 u1 u2 ∧ Upd (fun k => k = b) w (((w.setCell ⟨b, 0, none⟩ u0).setCell ⟨b, 1, none⟩ u1).setCell ⟨b, 2, none⟩ u2) :=
  ⟨((h.set0 u0).set1 u1).set2 u2, ((Upd.setCell (S := fun k => k = b) w (.inl rfl) _).trans (Upd.setCell (S := fun k => k = b) _ (.inl rfl) _) (fun _ h _ => h)).trans (Upd.setCell (S := fun k => k = b) _ (.inl rfl) _) (fun _ h _ => h)⟩
/-- what one byte each holds of the operands -/
def tailI (op : Int) (lk : Bool) (ys : List Int) : Int × Int × Bool × List Int :=
  if opsB op = 2 then (beN (takeP 1 lk ys).1, beN (takeP 1 (takeP 1 lk ys).2.1 (takeP 1 lk ys).2.2).1, (takeP 1 (takeP 1 lk ys).2.1 (takeP 1 lk ys).2.2).2.1, (takeP 1 (takeP 1 lk ys).2.1 (takeP 1 lk ys).2.2).2.2)
  else if opsB op = 1 then (beN (takeP 1 lk ys).1, 0, (takeP 1 lk ys).2.1, (takeP 1 lk ys).2.2) else (0, 0, lk, ys)
/-- the operands: A, B, whether the reader lacks then, what is left -/
def argI (op : Int) (lk : Bool) (ys : List Int) : Int × Int × Bool × List Int :=
  if op = 1 then (sgn (beN (takeP 4 lk ys).1), 0, (takeP 4 lk ys).2.1, (takeP 4 lk ys).2.2)
  else if op = 23 ∨ op = 24 then (beN (takeP 2 lk ys).1, 0, (takeP 2 lk ys).2.1, (takeP 2 lk ys).2.2) else tailI op lk ys
def opI (lk : Bool) (ys : List Int) : Int := beN (takeP 1 lk ys).1
/-- behind the first byte -/
def restI (lk : Bool) (ys : List Int) : Int × Int × Bool × List Int := argI (opI lk ys) (takeP 1 lk ys).2.1 (takeP 1 lk ys).2.2

/-- a reader and three cells beside it, turned -/
structure Two3 (t : TypeId) (w : World) (b bi : Nat) (v : Value) (lk : Bool) (ys : List Int) (x y z : Value) (w' : World) : Prop where
  ex : ∃ v', Rd t w' b v' lk ys ∧ (∀ k, v'.ownBlock = some k → v.ownBlock = some k)
  is : Is3 41 w' bi x y z
  upd : Upd (fun k => k = b ∨ k = bi) w w'

/-- what Read answers beside the instruction -/
def errI (lk : Bool) (ys : List Int) : Int :=
  if (restI lk ys).2.2.1 = true then 7 else if 1 ≤ opI lk ys ∧ opI lk ys ≤ 39 then (if rightB (opI lk ys) (restI lk ys).1 (restI lk ys).2.1 = true then 0 else 9) else 8
/-- a copy of a Reader, in new memory -/
theorem rd_copy {t : TypeId} {w : World} {b : Nat} {v : Value} {lk : Bool} {ys : List Int} (h : Rd t w b v lk ys) (u : World) (hu : Upd (fun _ => False) w u) : Rd t (u.alloc (.cells #[v, .bool lk] t)) u.heap.size v lk ys := by
  have ha := Upd.alloc (fun _ => False) u (.cells #[v, .bool lk] t)
  refine ⟨?_, (h.vw.upd hu (fun _ _ h => h)).upd ha (fun _ _ h => h), ?_, h.small, h.lacks, fun k hk => by have := h.inn k hk; have := hu.size; simp; omega⟩
  · show (u.heap.push _)[u.heap.size]? = _
    simp
  · intro e
    have := h.inn _ e
    have := hu.size
    omega

/-- a Reader's two cells set to another's -/
theorem rd_store {t : TypeId} {w : World} {b bt : Nat} {v v' : Value} {lk lk' : Bool} {ys ys' : List Int} (h : Rd t w b v lk ys) (k : Rd t w bt v' lk' ys') (ho : ∀ i, v'.ownBlock = some i → v.ownBlock = some i) :
    Rd t ((w.setCell ⟨b, 0, none⟩ v').setCell ⟨b, 1, none⟩ (.bool lk')) b v' lk' ys' ∧ Upd (fun i => i = b) w ((w.setCell ⟨b, 0, none⟩ v').setCell ⟨b, 1, none⟩ (.bool lk')) := by
  have hu := (Upd.setCell (S := fun i => i = b) w (p := ⟨b, 0, none⟩) (.inl rfl) v').trans (Upd.setCell (S := fun i => i = b) _ (p := ⟨b, 1, none⟩) (.inl rfl) (.bool lk')) (fun _ h _ => h)
  have hne : v'.ownBlock ≠ some b := fun e => h.ne (ho _ e)
  refine ⟨⟨?_, k.vw.upd hu (fun i hi e => hne (by rw [hi, e])), hne, k.small, k.lacks, fun i hi => Nat.lt_of_lt_of_le (k.inn i hi) hu.size⟩, hu⟩
  have := h.blk
  simp [World.setCell, Array.getElem?_modify, this]

end
end Go.Proofs.YtmikibcgphkcfaaGreatDoor

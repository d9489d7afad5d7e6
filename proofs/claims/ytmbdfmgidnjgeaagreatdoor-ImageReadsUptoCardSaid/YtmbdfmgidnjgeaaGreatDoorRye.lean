/- ImageReads: what the reference's Read holds in memory; its parts, step by step. -/
import Derived.Test.YtmbdfmgidnjgeaaGreatDoorRyd
namespace Go.Proofs.YtmbdfmgidnjgeaaGreatDoor
open Go.RowKit Go.Lib
set_option linter.unusedVariables false

/-- the image's box at p, and the reader -/
structure IX (W w : World) (b p : Nat) (V : Value) (lk : Bool) (ys : List Int) (x y z u s : Value) : Prop where
  I : Is5 32 w p x y z u s
  K : RdW RR W w b V lk ys
  pl : W.heap.size ≤ p
section
variable {W w w' : World} {b p : Nat} {V : Value} {lk lk' : Bool} {ys ys' : List Int} {x y z u s : Value}
theorem IX.bp (h : IX W w b p V lk ys x y z u s) : b < p := by have := h.K.lt; have := h.pl; omega
theorem IX.rd (h : IX W w b p V lk ys x y z u s) (k1 : RdW RR W w' b V lk' ys') (k2 : Upd (fun k => k = b) w w') : IX W w' b p V lk' ys' x y z u s :=
  ⟨h.I.upd k2 (fun e => by have := h.bp; omega), k1, h.pl⟩
theorem IX.step {T : Nat → Prop} (h : IX W w b p V lk ys x y z u s) (hu : Upd T w w') (hT : ∀ k, T k → p + 1 ≤ k) : IX W w' b p V lk ys x y z u s :=
  ⟨h.I.upd hu (fun e => by have := hT _ e; omega), h.K.step hu (fun k hk => by have := hT k hk; have := h.pl; omega), h.pl⟩
theorem IX.mono (h : IX W w b p V lk ys x y z u s) (hu : Upd (fun _ => False) w w') : IX W w' b p V lk ys x y z u s := h.step hu (fun _ h => h.elim)
theorem IX.boxed {x' y' z' u' s' : Value} (h : IX W w b p V lk ys x y z u s) (hI : Is5 32 w' p x' y' z' u' s') (hu : Upd (fun k => k = p) w w') : IX W w' b p V lk ys x' y' z' u' s' :=
  ⟨hI, h.K.step hu (fun k hk => by have := h.pl; omega), h.pl⟩
theorem IX.set1 (h : IX W w b p V lk ys x y z u s) (v : Value) : IX W (w.setCell ⟨p, 1, none⟩ v) b p V lk ys x v z u s := h.boxed (h.I.set1 v) (box_upd _ _ _ _)
theorem IX.set2 (h : IX W w b p V lk ys x y z u s) (v : Value) : IX W (w.setCell ⟨p, 2, none⟩ v) b p V lk ys x y v u s := h.boxed (h.I.set2 v) (box_upd _ _ _ _)
theorem IX.set3 (h : IX W w b p V lk ys x y z u s) (v : Value) : IX W (w.setCell ⟨p, 3, none⟩ v) b p V lk ys x y z v s := h.boxed (h.I.set3 v) (box_upd _ _ _ _)
theorem IX.set4 (h : IX W w b p V lk ys x y z u s) (v : Value) : IX W (w.setCell ⟨p, 4, none⟩ v) b p V lk ys x y z u v := h.boxed (h.I.set4 v) (box_upd _ _ _ _)
end
/-- a round's own box of four cells, new since wr, and the reader -/
structure BX (t : TypeId) (W wr w : World) (b xb : Nat) (V : Value) (lk : Bool) (ys : List Int) (x y z u : Value) : Prop where
  I : Is4 t w xb x y z u
  K : RdW RR W w b V lk ys
  U : Upd (fun k => k = b) wr w
  nx : wr.heap.size ≤ xb
  Ww : W.heap.size ≤ wr.heap.size
section
variable {t : TypeId} {W wr w w' : World} {b xb : Nat} {V : Value} {lk lk' : Bool} {ys ys' : List Int} {x y z u : Value}
theorem BX.start (h : RdW RR W w b V lk ys) (hu : Upd (fun k => k = b) wr w) (hW : W.heap.size ≤ wr.heap.size) (x y z u : Value) : BX t W wr (w.alloc (.cells #[x, y, z, u] t)) b w.heap.size V lk ys x y z u :=
  ⟨is4_new t w x y z u, h.mono (Upd.alloc _ _ _), hu.trans (Upd.alloc (fun _ => False) _ _) (fun _ h _ => h.elim), hu.size, hW⟩
theorem BX.bx (h : BX t W wr w b xb V lk ys x y z u) : b < xb := by have := h.K.lt; have := h.nx; have := h.Ww; omega
theorem BX.rd (h : BX t W wr w b xb V lk ys x y z u) (k1 : RdW RR W w' b V lk' ys') (k2 : Upd (fun k => k = b) w w') : BX t W wr w' b xb V lk' ys' x y z u :=
  ⟨h.I.upd k2 (fun e => by have := h.bx; omega), k1, h.U.trans k2 (fun _ h _ => h), h.nx, h.Ww⟩
theorem BX.boxed {x' y' z' u' : Value} (h : BX t W wr w b xb V lk ys x y z u) (hI : Is4 t w' xb x' y' z' u') (hu : Upd (fun k => k = xb) w w') : BX t W wr w' b xb V lk ys x' y' z' u' :=
  ⟨hI, h.K.step hu (fun k hk => by have := h.nx; have := h.Ww; omega), h.U.trans hu (fun i hi hlt => by have := h.nx; omega), h.nx, h.Ww⟩
theorem BX.step {T : Nat → Prop} (h : BX t W wr w b xb V lk ys x y z u) (hu : Upd T w w') (hT : ∀ k, T k → xb + 1 ≤ k) : BX t W wr w' b xb V lk ys x y z u :=
  ⟨h.I.upd hu (fun e => by have := hT _ e; omega), h.K.step hu (fun k hk => by have := hT k hk; have := h.nx; have := h.Ww; omega), h.U.trans hu (fun i hi hlt => by have := hT i hi; have := h.nx; omega), h.nx, h.Ww⟩
theorem BX.mono (h : BX t W wr w b xb V lk ys x y z u) (hu : Upd (fun _ => False) w w') : BX t W wr w' b xb V lk ys x y z u := h.step hu (fun _ h => h.elim)
theorem BX.set0 (h : BX t W wr w b xb V lk ys x y z u) (v : Value) : BX t W wr (w.setCell ⟨xb, 0, none⟩ v) b xb V lk ys v y z u := h.boxed (h.I.set0 v) (box_upd _ _ _ _)
theorem BX.set1 (h : BX t W wr w b xb V lk ys x y z u) (v : Value) : BX t W wr (w.setCell ⟨xb, 1, none⟩ v) b xb V lk ys x v z u := h.boxed (h.I.set1 v) (box_upd _ _ _ _)
theorem BX.set2 (h : BX t W wr w b xb V lk ys x y z u) (v : Value) : BX t W wr (w.setCell ⟨xb, 2, none⟩ v) b xb V lk ys x y v u := h.boxed (h.I.set2 v) (box_upd _ _ _ _)
theorem BX.set3 (h : BX t W wr w b xb V lk ys x y z u) (v : Value) : BX t W wr (w.setCell ⟨xb, 3, none⟩ v) b xb V lk ys x y z v := h.boxed (h.I.set3 v) (box_upd _ _ _ _)
end
theorem NF.low {B B' : Nat} {w : World} {v : Value} {L : List Int} (h : NF B w v L) (hb : B' ≤ B) : NF B' w v L := ⟨h.row, fun k hk => Nat.le_trans hb (h.new k hk)⟩
theorem NF.mono {B : Nat} {w w' : World} {v : Value} {L : List Int} (h : NF B w v L) (hu : Upd (fun _ => False) w w') : NF B w' v L := h.stay hu (fun _ h => h.elim)
/-- a store into a box of another type -/
theorem NF.box {B xb : Nat} {w : World} {v : Value} {L : List Int} {cs : Array Value} {e : TypeId} (h : NF B w v L) (hI : w.heap[xb]? = some (.cells cs e (0, 0))) (he : 3 ≠ e) (j : Nat) (v' : Value) : NF B (w.setCell ⟨xb, j, none⟩ v') v L := by
  have hne := row_blk h.row.1 hI he
  exact ⟨h.row.upd (box_upd w xb j v') (fun k hk hk2 => hne (by rw [hk, hk2])), h.new⟩
theorem IRow.box {xb : Nat} {w : World} {v : Value} {L : List InsM} {cs : Array Value} {e : TypeId} (h : IRow w v L) (hI : w.heap[xb]? = some (.cells cs e (0, 0))) (he : 55 ≠ e) (j : Nat) (v' : Value) : IRow (w.setCell ⟨xb, j, none⟩ v') v L := by
  have hne := row_blk h.1 hI he
  exact h.upd (box_upd w xb j v') (fun k hk hk2 => hne (by rw [hk, hk2]))
/-- the imports, step by step -/
theorem rImps_step {n : Nat} {ys : List Int} (L : List ImpM) : preL L (rImpsGo (n + 1) false ys) = preL (L ++ [(rImpP false ys).1]) (rImpsGo n (rImpP false ys).2.1 (rImpP false ys).2.2) := by
  unfold preL
  rw [rImpsGo, if_neg (by simp)]
  simp
theorem rImps_stop {n : Nat} {lk : Bool} {ys : List Int} (L : List ImpM) (h : n = 0 ∨ lk = true) : preL L (rImpsGo n lk ys) = (L, lk, ys) := by
  rcases h with rfl | rfl
  · unfold preL; rw [rImpsGo]; simp
  · cases n with
    | zero => unfold preL; rw [rImpsGo]; simp
    | succ n => unfold preL; rw [rImpsGo, if_pos rfl]; simp
theorem rMets_step {n : Nat} {ys : List Int} (L : List MetM) (h : (rMetP false ys).1 = 0) : pre L (rMetsGo (n + 1) false ys) = pre (L ++ [(rMetP false ys).2.1]) (rMetsGo n (rMetP false ys).2.2.1 (rMetP false ys).2.2.2) := by
  unfold pre
  rw [rMetsGo, if_neg (by simp), if_pos h]
  simp
theorem rMets_err {n : Nat} {ys : List Int} (L : List MetM) (h : (rMetP false ys).1 ≠ 0) : (pre L (rMetsGo (n + 1) false ys)).1 = (rMetP false ys).1 := by
  unfold pre
  rw [rMetsGo, if_neg (by simp), if_neg h]
theorem rMets_stop {n : Nat} {lk : Bool} {ys : List Int} (L : List MetM) (h : n = 0 ∨ lk = true) : pre L (rMetsGo n lk ys) = (0, L, lk, ys) := by
  rcases h with rfl | rfl
  · unfold pre; rw [rMetsGo]; simp
  · cases n with
    | zero => unfold pre; rw [rMetsGo]; simp
    | succ n => unfold pre; rw [rMetsGo, if_pos rfl]; simp
/-- the world ahead of the first byte read: two images' boxes, the reader -/
abbrev zImg : Obj := .cells #[.string { data := #[] }, .slice none 0 0, .slice none 0 0, .slice none 0 0, .slice none 0 0] 32
theorem topAt (w : World) (o : Obj) (k : Nat) (h : k = w.heap.size) : (w.alloc o).heap[k]? = some o := by
  subst h
  show (w.heap.push o)[w.heap.size]? = _
  simp
theorem read_start (w : World) (a : Option Addr) (c : Nat) (ys : List Int) (h : Vw w (.slice a ys.length c) ys) (hi : ∀ k, (Value.slice a ys.length c).ownBlock = some k → k < w.heap.size) (hn : ys.length ≤ 8192) :
    RdW RR (((w.alloc zImg).alloc zImg).alloc (.cells #[.slice a ys.length c, .bool false] RR)) (((w.alloc zImg).alloc zImg).alloc (.cells #[.slice a ys.length c, .bool false] RR)) (w.heap.size + 1 + 1) (.slice a ys.length c) false ys ∧
    Is5 32 (((w.alloc zImg).alloc zImg).alloc (.cells #[.slice a ys.length c, .bool false] RR)) w.heap.size (.string { data := #[] }) (.slice none 0 0) (.slice none 0 0) (.slice none 0 0) (.slice none 0 0) ∧
    Is5 32 (((w.alloc zImg).alloc zImg).alloc (.cells #[.slice a ys.length c, .bool false] RR)) (w.heap.size + 1) (.string { data := #[] }) (.slice none 0 0) (.slice none 0 0) (.slice none 0 0) (.slice none 0 0) ∧
    Upd (fun _ => False) w (((w.alloc zImg).alloc zImg).alloc (.cells #[.slice a ys.length c, .bool false] RR)) ∧ (((w.alloc zImg).alloc zImg).alloc (.cells #[.slice a ys.length c, .bool false] RR)).heap.size = w.heap.size + 3 := by
  have u1 := Upd.alloc (fun _ => False) w zImg
  have u2 := Upd.alloc (fun _ => False) (w.alloc zImg) zImg
  have u3 := Upd.alloc (fun _ => False) ((w.alloc zImg).alloc zImg) (.cells #[.slice a ys.length c, .bool false] RR)
  have hu := (u1.trans u2 (fun _ h _ => h)).trans u3 (fun _ h _ => h)
  have s2 : ((w.alloc zImg).alloc zImg).heap.size = w.heap.size + 2 := by simp
  refine ⟨RdW.of ⟨?_, h.upd hu (fun _ _ h => h), fun hk => ?_, by omega, (fun h => by cases h), fun k hk => Nat.lt_of_lt_of_le (hi k hk) hu.size⟩, ?_, ?_, hu, by simp⟩
  · exact topAt _ _ _ s2.symm
  · have := hi _ hk; omega
  · have h1 : Is5 32 (w.alloc zImg) w.heap.size (.string { data := #[] }) (.slice none 0 0) (.slice none 0 0) (.slice none 0 0) (.slice none 0 0) := cells5_new (w := w) (t := 32)
    exact (h1.upd u2 (fun h => h)).upd u3 (fun h => h)
  · have h1 : Is5 32 ((w.alloc zImg).alloc zImg) (w.alloc zImg).heap.size (.string { data := #[] }) (.slice none 0 0) (.slice none 0 0) (.slice none 0 0) (.slice none 0 0) := cells5_new (w := w.alloc zImg) (t := 32)
    rw [show (w.alloc zImg).heap.size = w.heap.size + 1 by simp] at h1
    exact h1.upd u3 (fun h => h)
end Go.Proofs.YtmbdfmgidnjgeaaGreatDoor

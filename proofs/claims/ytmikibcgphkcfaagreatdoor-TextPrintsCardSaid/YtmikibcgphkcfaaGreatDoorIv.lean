/- Package image's Read: an import, a method, taken. Package image's Read: a method, taken. -/
import Derived.Test.YtmikibcgphkcfaaGreatDoorIt
import Derived.Test.YtmikibcgphkcfaaGreatDoorCk
namespace Go.Proofs.YtmikibcgphkcfaaGreatDoor
section
open Go.RowKit Go.Lib
set_option linter.unusedVariables false

/-- four cells in a block -/
def Is4 (t : TypeId) (w : World) (b : Nat) (x y z u : Value) : Prop := w.heap[b]? = some (.cells #[x, y, z, u] t (0, 0))
section
variable {t : TypeId} {w w' : World} {b : Nat} {x y z u : Value}
theorem is4_new (t : TypeId) (w : World) (x y z u : Value) : Is4 t (w.alloc (.cells #[x, y, z, u] t)) w.heap.size x y z u := by
  show (w.heap.push _)[w.heap.size]? = _
  simp
theorem Is4.c0 (h : Is4 t w b x y z u) : w.cell? ⟨b, 0, none⟩ = some x := by unfold Is4 at h; simp [World.cell?, h]
theorem Is4.c1 (h : Is4 t w b x y z u) : w.cell? ⟨b, 1, none⟩ = some y := by unfold Is4 at h; simp [World.cell?, h]
theorem Is4.c2 (h : Is4 t w b x y z u) : w.cell? ⟨b, 2, none⟩ = some z := by unfold Is4 at h; simp [World.cell?, h]
theorem Is4.c3 (h : Is4 t w b x y z u) : w.cell? ⟨b, 3, none⟩ = some u := by unfold Is4 at h; simp [World.cell?, h]
theorem Is4.fr (h : Is4 t w b x y z u) (o : Nat) : w.frozen? ⟨b, o, none⟩ = false := by unfold Is4 at h; simp [World.frozen?, h]
theorem Is4.lt (h : Is4 t w b x y z u) : b < w.heap.size := (Array.getElem?_eq_some_iff.1 h).1
theorem Is4.upd {S : Nat → Prop} (h : Is4 t w b x y z u) (hu : Upd S w w') (hS : ¬ S b) : Is4 t w' b x y z u := (hu.block b h.lt hS).trans h
theorem Is4.set0 (h : Is4 t w b x y z u) (v : Value) : Is4 t (w.setCell ⟨b, 0, none⟩ v) b v y z u := by unfold Is4 at *; simp [World.setCell, Array.getElem?_modify, h]
theorem Is4.set1 (h : Is4 t w b x y z u) (v : Value) : Is4 t (w.setCell ⟨b, 1, none⟩ v) b x v z u := by unfold Is4 at *; simp [World.setCell, Array.getElem?_modify, h]
theorem Is4.set2 (h : Is4 t w b x y z u) (v : Value) : Is4 t (w.setCell ⟨b, 2, none⟩ v) b x y v u := by unfold Is4 at *; simp [World.setCell, Array.getElem?_modify, h]
theorem Is4.set3 (h : Is4 t w b x y z u) (v : Value) : Is4 t (w.setCell ⟨b, 3, none⟩ v) b x y z v := by unfold Is4 at *; simp [World.setCell, Array.getElem?_modify, h]
end

/-- four stores into a block -/
theorem fin4 {t : TypeId} {w : World} {b : Nat} {x y z u : Value} (h : Is4 t w b x y z u) (u0 u1 u2 u3 : Value) :
    Is4 t ((((w.setCell ⟨b, 0, none⟩ u0).setCell ⟨b, 1, none⟩ u1).setCell ⟨b, 2, none⟩ u2).setCell ⟨b, 3, none⟩ u3) b u0 u1 u2 u3 ∧ Upd (fun k => k = b) w ((((w.setCell ⟨b, 0, none⟩ u0).setCell ⟨b, 1, none⟩ u1).setCell ⟨b, 2, none⟩ u2).setCell ⟨b, 3, none⟩ u3) :=
  ⟨(((h.set0 u0).set1 u1).set2 u2).set3 u3, (((Upd.setCell (S := fun k => k = b) w (.inl rfl) _).trans (Upd.setCell (S := fun k => k = b) _ (.inl rfl) _) (fun _ h _ => h)).trans (Upd.setCell (S := fun k => k = b) _ (.inl rfl) _) (fun _ h _ => h)).trans (Upd.setCell (S := fun k => k = b) _ (.inl rfl) _) (fun _ h _ => h)⟩
/-- an import, taken; whether it lacks then; what is left -/
def impP (lk : Bool) (ys : List Int) : ImpM × Bool × List Int :=
  let a := shortP lk ys
  let b := takeP 1 a.2.1 a.2.2
  let c := shortP b.2.1 b.2.2
  let d := takeP 1 c.2.1 c.2.2
  (⟨strOfNums a.1, beN b.1, c.1, beN d.1⟩, d.2)

end

section
open Go.RowKit Go.Lib
set_option linter.unusedVariables false

/-- may it be an instruction? -/
def insR (i : InsM) : Bool := rightB i.op i.a i.b
theorem insR_wi {i : InsM} (h : insR i = true) : wi64 i.op ∧ wi64 i.a ∧ wi64 i.b := by
  unfold insR at h
  have h1 := (right_iff _ _ _).1 h
  obtain ⟨h1, h2, h3, h4, h5⟩ := h1
  have l : -2147483648 ≤ lowB i.op := by unfold lowB; repeat' split; all_goals omega
  have u : highB i.op ≤ 2147483647 := by unfold highB; repeat' split; all_goals omega
  unfold wi64
  omega
theorem flat_get {α : Type} [Inhabited α] (f : α → List Value) (sz : Nat) (d : Value) (hf : ∀ x, (f x).length = sz) : ∀ (L : List α) (i j : Nat), i < L.length → j < sz → (L.flatMap f).getD (i * sz + j) d = (f (L.getD i default)).getD j d
  | [], i, j, hi, _ => by simp at hi
  | x :: r, 0, j, _, hj => by
    simp [List.getD, List.getElem?_append, hf, hj]
  | x :: r, i + 1, j, hi, hj => by
    have := flat_get f sz d hf r i j (by simpa using hi) hj
    rw [List.flatMap_cons, List.getD_eq_getElem?_getD, List.getElem?_append_right (by rw [hf, Nat.add_mul]; omega), hf, show (i + 1) * sz + j - sz = i * sz + j by rw [Nat.add_mul]; omega, ← List.getD_eq_getElem?_getD, this]
    simp [List.getD]
def icl (i : InsM) : List Value := [.int .i64 i.op, .int .i64 i.a, .int .i64 i.b]
/-- own instructions -/
def IRow (w : World) (v : Value) (L : List InsM) : Prop := w.ownsRow 0 41 3 v L.length (L.flatMap icl) ∧ ∀ i ∈ L, insR i = true
theorem IRow.inss {w : World} {v : Value} {L : List InsM} (h : IRow w v L) : Inss w v L := by
  refine ⟨(Sl.own h.1).congr (fun i hi j hj => ?_), fun x hx => insR_wi (h.2 x hx)⟩
  rw [flat_get icl 3 _ (fun _ => rfl) L i j hi hj]
  unfold insF icl
  match j, hj with
  | 0, _ => rfl
  | 1, _ => rfl
  | 2, _ => rfl
theorem IRow.upd {w w' : World} {v : Value} {L : List InsM} {S : Nat → Prop} (h : IRow w v L) (hu : Upd S w w') (hS : ∀ k, v.ownBlock = some k → ¬ S k) : IRow w' v L := ⟨ownsRow_upd h.1 hu hS, h.2⟩

/-- so many instructions, taken: the error, or 0; they; whether it lacks; what is left -/
def codeGo : Nat → Bool → List Int → Int × List InsM × Bool × List Int
  | 0, lk, ys => (0, [], lk, ys)
  | n + 1, lk, ys => if errI lk ys = 0 then ((codeGo n false (restI lk ys).2.2.2).1, ⟨opI lk ys, (restI lk ys).1, (restI lk ys).2.1⟩ :: (codeGo n false (restI lk ys).2.2.2).2.1, (codeGo n false (restI lk ys).2.2.2).2.2) else (errI lk ys, [], lk, ys)
/-- some are taken already -/
def pre {α β : Type} (L : List α) (r : Int × List α × β) : Int × List α × β := (r.1, L ++ r.2.1, r.2.2)
theorem pre_nil {α β : Type} (r : Int × List α × β) : pre [] r = r := rfl
theorem codeGo_step {n : Nat} {lk : Bool} {ys : List Int} (L : List InsM) (h : errI lk ys = 0) : pre L (codeGo (n + 1) lk ys) = pre (L ++ [⟨opI lk ys, (restI lk ys).1, (restI lk ys).2.1⟩]) (codeGo n false (restI lk ys).2.2.2) := by
  unfold pre
  rw [codeGo, if_pos h]
  simp
theorem codeGo_err {n : Nat} {lk : Bool} {ys : List Int} (L : List InsM) (h : errI lk ys ≠ 0) : (pre L (codeGo (n + 1) lk ys)).1 = errI lk ys := by
  unfold pre
  rw [codeGo, if_neg h]
/-- a method, taken -/
def metP (lk : Bool) (ys : List Int) : Int × MetM × Bool × List Int :=
  let a := shortP lk ys
  let b := takeP 1 a.2.1 a.2.2
  let c := shortP b.2.1 b.2.2
  let d := takeP 1 c.2.1 c.2.2
  let g := codeGo (beN d.1).toNat d.2.1 d.2.2
  (g.1, ⟨a.1, beN b.1, c.1, g.2.1⟩, g.2.2)
theorem err_right {lk : Bool} {ys : List Int} (h : errI lk ys = 0) : rightB (opI lk ys) (restI lk ys).1 (restI lk ys).2.1 = true := by
  unfold errI at h
  split at h
  · omega
  · split at h
    · split at h
      · assumption
      · omega
    · omega
/-- two boxes of four cells at the head of new memory, a reader of old, and what was turned of old memory: the reader alone -/
structure MB (tr t : TypeId) (W w wr : World) (b : Nat) (V : Value) (lk : Bool) (ys : List Int) (x0 y0 z0 u0 x y z u : Value) : Prop where
  I : Is4 t wr (w.heap.size + 1) x y z u
  J : Is4 t wr w.heap.size x0 y0 z0 u0
  K : RdW tr W wr b V lk ys
  U : Upd (fun k => k = b) w wr
  bl : b < w.heap.size
  Wl : W.heap.size ≤ w.heap.size
section
variable {tr t : TypeId} {W w wr w' : World} {b : Nat} {V : Value} {lk lk' : Bool} {ys ys' : List Int} {x0 y0 z0 u0 x y z u : Value}
theorem MB.start (h : RdW tr W w b V lk ys) : MB tr t W w ((w.alloc (.cells #[x0, y0, z0, u0] t)).alloc (.cells #[x0, y0, z0, u0] t)) b V lk ys x0 y0 z0 u0 x0 y0 z0 u0 := by
  have HA := (Upd.alloc (fun _ => False) w (.cells #[x0, y0, z0, u0] t)).trans (Upd.alloc (fun _ => False) _ (.cells #[x0, y0, z0, u0] t)) (fun _ h _ => h)
  have HI := is4_new t (w.alloc (.cells #[x0, y0, z0, u0] t)) x0 y0 z0 u0
  rw [show (w.alloc (.cells #[x0, y0, z0, u0] t)).heap.size = w.heap.size + 1 by simp] at HI
  exact ⟨HI, (is4_new t w x0 y0 z0 u0).upd (Upd.alloc (fun _ => False) _ _) (fun h => h), h.mono HA, HA.mono (fun _ h _ => h.elim), Nat.lt_of_lt_of_le h.lt h.size, h.size⟩
theorem MB.rd (h : MB tr t W w wr b V lk ys x0 y0 z0 u0 x y z u) (k1 : RdW tr W w' b V lk' ys') (k2 : Upd (fun k => k = b) wr w') : MB tr t W w w' b V lk' ys' x0 y0 z0 u0 x y z u :=
  ⟨h.I.upd k2 (fun e => by have := h.bl; omega), h.J.upd k2 (fun e => by have := h.bl; omega), k1, h.U.trans k2 (fun _ h _ => h), h.bl, h.Wl⟩
theorem MB.step {T : Nat → Prop} (h : MB tr t W w wr b V lk ys x0 y0 z0 u0 x y z u) (hu : Upd T wr w') (hT : ∀ k, T k → w.heap.size + 2 ≤ k) : MB tr t W w w' b V lk ys x0 y0 z0 u0 x y z u :=
  ⟨h.I.upd hu (fun e => by have := hT _ e; omega), h.J.upd hu (fun e => by have := hT _ e; omega), h.K.step hu (fun k hk => by have := hT k hk; have := h.Wl; omega), h.U.trans hu (fun i hi hlt => by have := hT i hi; omega), h.bl, h.Wl⟩
theorem MB.mono (h : MB tr t W w wr b V lk ys x0 y0 z0 u0 x y z u) (hu : Upd (fun _ => False) wr w') : MB tr t W w w' b V lk ys x0 y0 z0 u0 x y z u := h.step hu (fun _ h => h.elim)
theorem box_upd (wr : World) (n j : Nat) (v : Value) : Upd (fun k => k = n) wr (wr.setCell ⟨n, j, none⟩ v) := Upd.setCell (S := fun k => k = n) wr (p := ⟨n, j, none⟩) (.inl rfl) v
theorem MB.boxed (h : MB tr t W w wr b V lk ys x0 y0 z0 u0 x y z u) {x' y' z' u' : Value} (hI : Is4 t w' (w.heap.size + 1) x' y' z' u') (hu : Upd (fun k => k = w.heap.size + 1) wr w') : MB tr t W w w' b V lk ys x0 y0 z0 u0 x' y' z' u' :=
  ⟨hI, h.J.upd hu (fun e => by omega), h.K.step hu (fun k hk => by have := h.Wl; omega), h.U.trans hu (fun i hi hlt => by omega), h.bl, h.Wl⟩
theorem MB.set0 (h : MB tr t W w wr b V lk ys x0 y0 z0 u0 x y z u) (v : Value) : MB tr t W w (wr.setCell ⟨w.heap.size + 1, 0, none⟩ v) b V lk ys x0 y0 z0 u0 v y z u := h.boxed (h.I.set0 v) (box_upd _ _ _ _)
theorem MB.set1 (h : MB tr t W w wr b V lk ys x0 y0 z0 u0 x y z u) (v : Value) : MB tr t W w (wr.setCell ⟨w.heap.size + 1, 1, none⟩ v) b V lk ys x0 y0 z0 u0 x v z u := h.boxed (h.I.set1 v) (box_upd _ _ _ _)
theorem MB.set2 (h : MB tr t W w wr b V lk ys x0 y0 z0 u0 x y z u) (v : Value) : MB tr t W w (wr.setCell ⟨w.heap.size + 1, 2, none⟩ v) b V lk ys x0 y0 z0 u0 x y v u := h.boxed (h.I.set2 v) (box_upd _ _ _ _)
theorem MB.set3 (h : MB tr t W w wr b V lk ys x0 y0 z0 u0 x y z u) (v : Value) : MB tr t W w (wr.setCell ⟨w.heap.size + 1, 3, none⟩ v) b V lk ys x0 y0 z0 u0 x y z v := h.boxed (h.I.set3 v) (box_upd _ _ _ _)
/-- the result's box -/
theorem MB.fin (h : MB tr t W w wr b V lk ys x0 y0 z0 u0 x y z u) (v0 v1 v2 v3 : Value) : MB tr t W w ((((wr.setCell ⟨w.heap.size, 0, none⟩ v0).setCell ⟨w.heap.size, 1, none⟩ v1).setCell ⟨w.heap.size, 2, none⟩ v2).setCell ⟨w.heap.size, 3, none⟩ v3) b V lk ys v0 v1 v2 v3 x y z u ∧ Upd (fun k => k = w.heap.size) wr ((((wr.setCell ⟨w.heap.size, 0, none⟩ v0).setCell ⟨w.heap.size, 1, none⟩ v1).setCell ⟨w.heap.size, 2, none⟩ v2).setCell ⟨w.heap.size, 3, none⟩ v3) := by
  obtain ⟨h1, h2⟩ := fin4 h.J v0 v1 v2 v3
  exact ⟨⟨h.I.upd h2 (fun e => by omega), h1, h.K.step h2 (fun k hk => by have := h.Wl; omega), h.U.trans h2 (fun i hi hlt => by omega), h.bl, h.Wl⟩, h2⟩
theorem MB.size (h : MB tr t W w wr b V lk ys x0 y0 z0 u0 x y z u) : w.heap.size + 2 ≤ wr.heap.size := h.I.lt
end
/-- numbers in new memory, behind the boxes -/
structure NNew (w wr : World) (v : Value) (L : List Int) : Prop where
  row : NRow wr v L
  new : ∀ k, v.ownBlock = some k → w.heap.size + 2 ≤ k
theorem NNew.stay {w wr w' : World} {v : Value} {L : List Int} {T : Nat → Prop} (h : NNew w wr v L) (hu : Upd T wr w') (hT : ∀ k, T k → k < w.heap.size + 2) : NNew w w' v L :=
  ⟨h.row.upd hu (fun k hk hTk => by have := h.new k hk; have := hT k hTk; omega), h.new⟩
theorem NNew.mono {w wr w' : World} {v : Value} {L : List Int} (h : NNew w wr v L) (hu : Upd (fun _ => False) wr w') : NNew w w' v L := h.stay hu (fun _ h => h.elim)
theorem NNew.apart {w wr w' : World} {v v' : Value} {L : List Int} {base : Nat} {e : TypeId} {sz n : Nat} {xs : List Value} (h : NNew w wr v L) (hr : wr.ownsRow base e sz v' n xs) (he : 3 ≠ e) (hu : Upd (fun k => v'.ownBlock = some k) wr w') : NNew w w' v L :=
  ⟨h.row.upd hu (fun k hk => row_ne h.row.1 hr he k hk), h.new⟩

end
end Go.Proofs.YtmikibcgphkcfaaGreatDoor

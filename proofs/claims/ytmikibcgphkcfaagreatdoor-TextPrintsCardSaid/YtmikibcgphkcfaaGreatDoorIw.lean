/- Readings that lie in memory from some block on; rows of imports and methods; five cells in a block. -/
import Derived.Test.YtmikibcgphkcfaaGreatDoorIv
namespace Go.Proofs.YtmikibcgphkcfaaGreatDoor
open Go.RowKit Go.Lib
set_option linter.unusedVariables false

theorem Sl.upd {w w' : World} {v : Value} {sz n : Nat} {f : Nat → Nat → Value} {S : Nat → Prop} (h : Sl w v sz n f) (hu : Upd S w w') (hS : ∀ k, v.ownBlock = some k → ¬ S k) : Sl w' v sz n f := by
  obtain ⟨a, c, rfl, h1, h2, h3⟩ := h
  refine ⟨a, c, rfl, h1, h2, ?_⟩
  rcases h3 with h3 | ⟨g, off, rfl, h4⟩
  · exact .inl h3
  · refine .inr ⟨g, off, rfl, fun i hi j hj => ?_⟩
    have hc := h4 i hi j hj
    rw [hu.cell (p := ⟨g, off + i * sz + j, none⟩) (World.block_lt_of_cell? w _ hc) (hS g rfl)]
    exact hc
/-- no block of it lies below B -/
def From (B : Nat) (v : Value) : Prop := ∀ k, v.ownBlock = some k → B ≤ k
structure IntsB (B : Nat) (w : World) (v : Value) (L : List Int) : Prop where
  is : Ints w v L
  fr : From B v
structure InssB (B : Nat) (w : World) (v : Value) (L : List InsM) : Prop where
  is : Inss w v L
  fr : From B v
def ImpsB (B : Nat) (w : World) (v : Value) (L : List ImpM) : Prop := From B v ∧ ∃ p, Sl w v 4 L.length (impF L p) ∧ (∀ i, i < L.length → IntsB B w (p i) (L.getD i default).params) ∧ ∀ x ∈ L, wi64 x.exp ∧ wi64 x.res ∧ x.name.size ≤ maxLen
def MetsB (B : Nat) (w : World) (v : Value) (L : List MetM) : Prop := From B v ∧ ∃ p q r, Sl w v 4 L.length (metF L p q r) ∧ (∀ i, i < L.length → IntsB B w (p i) (L.getD i default).params ∧ IntsB B w (q i) (L.getD i default).locals ∧ InssB B w (r i) (L.getD i default).code) ∧ ∀ x ∈ L, wi64 x.res
def ImgFrom (B : Nat) (w : World) (v : Value) (I : ImgM) : Prop := ∃ f i m x, v = img5 I.name f i m x ∧ IntsB B w f I.fields ∧ ImpsB B w i I.imports ∧ MetsB B w m I.methods ∧ IntsB B w x I.exports ∧ I.name.size ≤ maxLen
section
variable {B : Nat} {w w' : World} {v : Value} {S : Nat → Prop}
theorem IntsB.upd {L : List Int} (h : IntsB B w v L) (hu : Upd S w w') (hS : ∀ k, S k → k < B) : IntsB B w' v L := ⟨⟨h.is.1.upd hu (fun k hk hSk => by have := h.fr k hk; have := hS k hSk; omega), h.is.2⟩, h.fr⟩
theorem InssB.upd {L : List InsM} (h : InssB B w v L) (hu : Upd S w w') (hS : ∀ k, S k → k < B) : InssB B w' v L := ⟨⟨h.is.1.upd hu (fun k hk hSk => by have := h.fr k hk; have := hS k hSk; omega), h.is.2⟩, h.fr⟩
theorem ImpsB.upd {L : List ImpM} (h : ImpsB B w v L) (hu : Upd S w w') (hS : ∀ k, S k → k < B) : ImpsB B w' v L := by
  obtain ⟨h0, p, h1, h2, h3⟩ := h
  exact ⟨h0, p, h1.upd hu (fun k hk hSk => by have := h0 k hk; have := hS k hSk; omega), fun i hi => (h2 i hi).upd hu hS, h3⟩
theorem MetsB.upd {L : List MetM} (h : MetsB B w v L) (hu : Upd S w w') (hS : ∀ k, S k → k < B) : MetsB B w' v L := by
  obtain ⟨h0, p, q, r, h1, h2, h3⟩ := h
  exact ⟨h0, p, q, r, h1.upd hu (fun k hk hSk => by have := h0 k hk; have := hS k hSk; omega), fun i hi => ⟨(h2 i hi).1.upd hu hS, (h2 i hi).2.1.upd hu hS, (h2 i hi).2.2.upd hu hS⟩, h3⟩
theorem ImgFrom.upd {I : ImgM} (h : ImgFrom B w v I) (hu : Upd S w w') (hS : ∀ k, S k → k < B) : ImgFrom B w' v I := by
  obtain ⟨f, i, m, x, rfl, h1, h2, h3, h4, h5⟩ := h
  exact ⟨f, i, m, x, rfl, h1.upd hu hS, h2.upd hu hS, h3.upd hu hS, h4.upd hu hS, h5⟩
theorem ImpsB.is {L : List ImpM} (h : ImpsB B w v L) : Imps w v L := by
  obtain ⟨_, p, h1, h2, h3⟩ := h
  exact ⟨p, h1, fun i hi => (h2 i hi).is, h3⟩
theorem MetsB.is {L : List MetM} (h : MetsB B w v L) : Mets w v L := by
  obtain ⟨_, p, q, r, h1, h2, h3⟩ := h
  exact ⟨p, q, r, h1, fun i hi => ⟨(h2 i hi).1.is, (h2 i hi).2.1.is, (h2 i hi).2.2.is⟩, h3⟩
theorem ImgFrom.is {I : ImgM} (h : ImgFrom B w v I) : Img w v I := by
  obtain ⟨f, i, m, x, rfl, h1, h2, h3, h4, h5⟩ := h
  exact ⟨f, i, m, x, rfl, h1.is, h2.is, h3.is, h4.is, h5⟩
theorem From.mono {B' : Nat} (h : From B v) (hb : B' ≤ B) : From B' v := fun k hk => Nat.le_trans hb (h k hk)
end

theorem cells5_new {w : World} {x y z u s : Value} {t : TypeId} : (w.alloc (.cells #[x, y, z, u, s] t)).heap[w.heap.size]? = some (.cells #[x, y, z, u, s] t (0, 0)) := by
  show (w.heap.push _)[w.heap.size]? = _
  simp
/-- five cells in a block -/
def Is5 (t : TypeId) (w : World) (b : Nat) (x y z u s : Value) : Prop := w.heap[b]? = some (.cells #[x, y, z, u, s] t (0, 0))
section
variable {t : TypeId} {w w' : World} {b : Nat} {x y z u s : Value}
theorem Is5.c0 (h : Is5 t w b x y z u s) : w.cell? ⟨b, 0, none⟩ = some x := by unfold Is5 at h; simp [World.cell?, h]
theorem Is5.c1 (h : Is5 t w b x y z u s) : w.cell? ⟨b, 1, none⟩ = some y := by unfold Is5 at h; simp [World.cell?, h]
theorem Is5.c2 (h : Is5 t w b x y z u s) : w.cell? ⟨b, 2, none⟩ = some z := by unfold Is5 at h; simp [World.cell?, h]
theorem Is5.c3 (h : Is5 t w b x y z u s) : w.cell? ⟨b, 3, none⟩ = some u := by unfold Is5 at h; simp [World.cell?, h]
theorem Is5.c4 (h : Is5 t w b x y z u s) : w.cell? ⟨b, 4, none⟩ = some s := by unfold Is5 at h; simp [World.cell?, h]
theorem Is5.fr (h : Is5 t w b x y z u s) (o : Nat) : w.frozen? ⟨b, o, none⟩ = false := by unfold Is5 at h; simp [World.frozen?, h]
theorem Is5.lt (h : Is5 t w b x y z u s) : b < w.heap.size := (Array.getElem?_eq_some_iff.1 h).1
theorem Is5.upd {S : Nat → Prop} (h : Is5 t w b x y z u s) (hu : Upd S w w') (hS : ¬ S b) : Is5 t w' b x y z u s := (hu.block b h.lt hS).trans h
theorem Is5.set0 (h : Is5 t w b x y z u s) (v : Value) : Is5 t (w.setCell ⟨b, 0, none⟩ v) b v y z u s := by unfold Is5 at *; simp [World.setCell, Array.getElem?_modify, h]
theorem Is5.set1 (h : Is5 t w b x y z u s) (v : Value) : Is5 t (w.setCell ⟨b, 1, none⟩ v) b x v z u s := by unfold Is5 at *; simp [World.setCell, Array.getElem?_modify, h]
theorem Is5.set2 (h : Is5 t w b x y z u s) (v : Value) : Is5 t (w.setCell ⟨b, 2, none⟩ v) b x y v u s := by unfold Is5 at *; simp [World.setCell, Array.getElem?_modify, h]
theorem Is5.set3 (h : Is5 t w b x y z u s) (v : Value) : Is5 t (w.setCell ⟨b, 3, none⟩ v) b x y z v s := by unfold Is5 at *; simp [World.setCell, Array.getElem?_modify, h]
theorem Is5.set4 (h : Is5 t w b x y z u s) (v : Value) : Is5 t (w.setCell ⟨b, 4, none⟩ v) b x y z u v := by unfold Is5 at *; simp [World.setCell, Array.getElem?_modify, h]
/-- five stores into a block -/
theorem fin5 (h : Is5 t w b x y z u s) (u0 u1 u2 u3 u4 : Value) :
    Is5 t (((((w.setCell ⟨b, 0, none⟩ u0).setCell ⟨b, 1, none⟩ u1).setCell ⟨b, 2, none⟩ u2).setCell ⟨b, 3, none⟩ u3).setCell ⟨b, 4, none⟩ u4) b u0 u1 u2 u3 u4 ∧ Upd (fun k => k = b) w (((((w.setCell ⟨b, 0, none⟩ u0).setCell ⟨b, 1, none⟩ u1).setCell ⟨b, 2, none⟩ u2).setCell ⟨b, 3, none⟩ u3).setCell ⟨b, 4, none⟩ u4) :=
  ⟨((((h.set0 u0).set1 u1).set2 u2).set3 u3).set4 u4, ((((box_upd w b 0 u0).trans (box_upd _ b 1 u1) (fun _ h _ => h)).trans (box_upd _ b 2 u2) (fun _ h _ => h)).trans (box_upd _ b 3 u3) (fun _ h _ => h)).trans (box_upd _ b 4 u4) (fun _ h _ => h)⟩
end

/-- two boxes of five cells at the head of new memory, and a reader of old -/
structure MC (tr t : TypeId) (W w wr : World) (b : Nat) (V : Value) (lk : Bool) (ys : List Int) (x0 y0 z0 u0 s0 x y z u s : Value) : Prop where
  I : Is5 t wr (w.heap.size + 1) x y z u s
  J : Is5 t wr w.heap.size x0 y0 z0 u0 s0
  K : RdW tr W wr b V lk ys
  U : Upd (fun k => k = b) w wr
  bl : b < w.heap.size
  Wl : W.heap.size ≤ w.heap.size
section
variable {tr t : TypeId} {W w wr w' : World} {b : Nat} {V : Value} {lk lk' : Bool} {ys ys' : List Int} {x0 y0 z0 u0 s0 x y z u s : Value}
theorem MC.start (h : RdW tr W w b V lk ys) : MC tr t W w ((w.alloc (.cells #[x0, y0, z0, u0, s0] t)).alloc (.cells #[x0, y0, z0, u0, s0] t)) b V lk ys x0 y0 z0 u0 s0 x0 y0 z0 u0 s0 := by
  have HA := (Upd.alloc (fun _ => False) w (.cells #[x0, y0, z0, u0, s0] t)).trans (Upd.alloc (fun _ => False) _ (.cells #[x0, y0, z0, u0, s0] t)) (fun _ h _ => h)
  have HI : Is5 t _ _ x0 y0 z0 u0 s0 := cells5_new (w := w.alloc (.cells #[x0, y0, z0, u0, s0] t)) (t := t)
  have HJ : Is5 t _ _ x0 y0 z0 u0 s0 := cells5_new (w := w) (t := t)
  rw [show (w.alloc (.cells #[x0, y0, z0, u0, s0] t)).heap.size = w.heap.size + 1 by simp] at HI
  exact ⟨HI, HJ.upd (Upd.alloc (fun _ => False) _ _) (fun h => h), h.mono HA, HA.mono (fun _ h _ => h.elim), Nat.lt_of_lt_of_le h.lt h.size, h.size⟩
theorem MC.rd (h : MC tr t W w wr b V lk ys x0 y0 z0 u0 s0 x y z u s) (k1 : RdW tr W w' b V lk' ys') (k2 : Upd (fun k => k = b) wr w') : MC tr t W w w' b V lk' ys' x0 y0 z0 u0 s0 x y z u s :=
  ⟨h.I.upd k2 (fun e => by have := h.bl; omega), h.J.upd k2 (fun e => by have := h.bl; omega), k1, h.U.trans k2 (fun _ h _ => h), h.bl, h.Wl⟩
theorem MC.step {T : Nat → Prop} (h : MC tr t W w wr b V lk ys x0 y0 z0 u0 s0 x y z u s) (hu : Upd T wr w') (hT : ∀ k, T k → w.heap.size + 2 ≤ k) : MC tr t W w w' b V lk ys x0 y0 z0 u0 s0 x y z u s :=
  ⟨h.I.upd hu (fun e => by have := hT _ e; omega), h.J.upd hu (fun e => by have := hT _ e; omega), h.K.step hu (fun k hk => by have := hT k hk; have := h.Wl; omega), h.U.trans hu (fun i hi hlt => by have := hT i hi; omega), h.bl, h.Wl⟩
theorem MC.mono (h : MC tr t W w wr b V lk ys x0 y0 z0 u0 s0 x y z u s) (hu : Upd (fun _ => False) wr w') : MC tr t W w w' b V lk ys x0 y0 z0 u0 s0 x y z u s := h.step hu (fun _ h => h.elim)
theorem MC.boxed (h : MC tr t W w wr b V lk ys x0 y0 z0 u0 s0 x y z u s) {x' y' z' u' s' : Value} (hI : Is5 t w' (w.heap.size + 1) x' y' z' u' s') (hu : Upd (fun k => k = w.heap.size + 1) wr w') : MC tr t W w w' b V lk ys x0 y0 z0 u0 s0 x' y' z' u' s' :=
  ⟨hI, h.J.upd hu (fun e => by omega), h.K.step hu (fun k hk => by have := h.Wl; omega), h.U.trans hu (fun i hi hlt => by omega), h.bl, h.Wl⟩
theorem MC.set0 (h : MC tr t W w wr b V lk ys x0 y0 z0 u0 s0 x y z u s) (v : Value) : MC tr t W w (wr.setCell ⟨w.heap.size + 1, 0, none⟩ v) b V lk ys x0 y0 z0 u0 s0 v y z u s := h.boxed (h.I.set0 v) (box_upd _ _ _ _)
theorem MC.set1 (h : MC tr t W w wr b V lk ys x0 y0 z0 u0 s0 x y z u s) (v : Value) : MC tr t W w (wr.setCell ⟨w.heap.size + 1, 1, none⟩ v) b V lk ys x0 y0 z0 u0 s0 x v z u s := h.boxed (h.I.set1 v) (box_upd _ _ _ _)
theorem MC.set2 (h : MC tr t W w wr b V lk ys x0 y0 z0 u0 s0 x y z u s) (v : Value) : MC tr t W w (wr.setCell ⟨w.heap.size + 1, 2, none⟩ v) b V lk ys x0 y0 z0 u0 s0 x y v u s := h.boxed (h.I.set2 v) (box_upd _ _ _ _)
theorem MC.set3 (h : MC tr t W w wr b V lk ys x0 y0 z0 u0 s0 x y z u s) (v : Value) : MC tr t W w (wr.setCell ⟨w.heap.size + 1, 3, none⟩ v) b V lk ys x0 y0 z0 u0 s0 x y z v s := h.boxed (h.I.set3 v) (box_upd _ _ _ _)
theorem MC.set4 (h : MC tr t W w wr b V lk ys x0 y0 z0 u0 s0 x y z u s) (v : Value) : MC tr t W w (wr.setCell ⟨w.heap.size + 1, 4, none⟩ v) b V lk ys x0 y0 z0 u0 s0 x y z u v := h.boxed (h.I.set4 v) (box_upd _ _ _ _)
theorem MC.fin (h : MC tr t W w wr b V lk ys x0 y0 z0 u0 s0 x y z u s) (v0 v1 v2 v3 v4 : Value) : MC tr t W w (((((wr.setCell ⟨w.heap.size, 0, none⟩ v0).setCell ⟨w.heap.size, 1, none⟩ v1).setCell ⟨w.heap.size, 2, none⟩ v2).setCell ⟨w.heap.size, 3, none⟩ v3).setCell ⟨w.heap.size, 4, none⟩ v4) b V lk ys v0 v1 v2 v3 v4 x y z u s ∧ Upd (fun k => k = w.heap.size) wr (((((wr.setCell ⟨w.heap.size, 0, none⟩ v0).setCell ⟨w.heap.size, 1, none⟩ v1).setCell ⟨w.heap.size, 2, none⟩ v2).setCell ⟨w.heap.size, 3, none⟩ v3).setCell ⟨w.heap.size, 4, none⟩ v4) := by
  obtain ⟨h1, h2⟩ := fin5 h.J v0 v1 v2 v3 v4
  exact ⟨⟨h.I.upd h2 (fun e => by omega), h1, h.K.step h2 (fun k hk => by have := h.Wl; omega), h.U.trans h2 (fun i hi hlt => by omega), h.bl, h.Wl⟩, h2⟩
theorem MC.size (h : MC tr t W w wr b V lk ys x0 y0 z0 u0 s0 x y z u s) : w.heap.size + 2 ≤ wr.heap.size := h.I.lt
end

/-- own imports: each with its params -/
instance : Inhabited Value := ⟨.int .i64 0⟩
def ipc (x : ImpM × Value) : List Value := [.string x.1.name, .int .i64 x.1.exp, x.2, .int .i64 x.1.res]
structure ImpOk (B : Nat) (w : World) (x : ImpM × Value) : Prop where
  row : NRow w x.2 x.1.params
  new : From B x.2
  exp : 0 ≤ x.1.exp ∧ x.1.exp ≤ 255
  res : 0 ≤ x.1.res ∧ x.1.res ≤ 255
  name : x.1.name.size ≤ 255
structure ImpRow (B : Nat) (w : World) (v : Value) (Q : List (ImpM × Value)) : Prop where
  row : w.ownsRow 0 43 4 v Q.length (Q.flatMap ipc)
  new : From B v
  each : ∀ x ∈ Q, ImpOk B w x
theorem ImpOk.upd {B : Nat} {w w' : World} {x : ImpM × Value} {S : Nat → Prop} (h : ImpOk B w x) (hu : Upd S w w') (hS : ∀ k, x.2.ownBlock = some k → ¬ S k) : ImpOk B w' x := ⟨h.row.upd hu hS, h.new, h.exp, h.res, h.name⟩
theorem ImpRow.stay {B : Nat} {w w' : World} {v : Value} {Q : List (ImpM × Value)} {T : Nat → Prop} (h : ImpRow B w v Q) (hu : Upd T w w') (hT : ∀ k, T k → k < B) : ImpRow B w' v Q :=
  ⟨ownsRow_upd h.row hu (fun k hk hTk => by have := h.new k hk; have := hT k hTk; omega), h.new, fun x hx => (h.each x hx).upd hu (fun k hk hTk => by have := (h.each x hx).new k hk; have := hT k hTk; omega)⟩
theorem ImpRow.mono {B : Nat} {w w' : World} {v : Value} {Q : List (ImpM × Value)} (h : ImpRow B w v Q) (hu : Upd (fun _ => False) w w') : ImpRow B w' v Q := h.stay hu (fun _ h => h.elim)
theorem ImpRow.apart {B : Nat} {w w' : World} {v v' : Value} {Q : List (ImpM × Value)} {base : Nat} {e : TypeId} {sz n : Nat} {xs : List Value} (h : ImpRow B w v Q) (hr : w.ownsRow base e sz v' n xs) (he : 3 ≠ e) (he2 : 43 ≠ e) (hu : Upd (fun k => v'.ownBlock = some k) w w') : ImpRow B w' v Q :=
  ⟨ownsRow_upd h.row hu (fun k hk => row_ne h.row hr he2 k hk), h.new, fun x hx => (h.each x hx).upd hu (fun k hk => row_ne (h.each x hx).row.1 hr he k hk)⟩
theorem ImpRow.imps {B : Nat} {w : World} {v : Value} {Q : List (ImpM × Value)} (h : ImpRow B w v Q) : ImpsB B w v (Q.map (·.1)) := by
  have hg : ∀ i, i < Q.length → (Q.map (·.1)).getD i default = (Q.getD i default).1 := fun i hi => by simp [List.getD, hi]
  refine ⟨h.new, fun i => (Q.getD i default).2, ?_, fun i hi => ?_, fun x hx => ?_⟩
  · rw [List.length_map]
    refine (Sl.own h.row).congr (fun i hi j hj => ?_)
    rw [flat_get ipc 4 _ (fun _ => rfl) Q i j hi hj]
    unfold impF ipc
    rw [hg i hi]
    match j, hj with
    | 0, _ => rfl
    | 1, _ => rfl
    | 2, _ => rfl
    | 3, _ => rfl
  · rw [List.length_map] at hi
    rw [hg i hi]
    have := h.each _ (mem_getD hi)
    exact ⟨this.row.ints, this.new⟩
  · obtain ⟨y, hy, rfl⟩ := List.mem_map.1 hx
    have := h.each y hy
    have h1 := this.exp
    have h2 := this.res
    have h3 := this.name
    unfold wi64 maxLen
    omega
/-- own methods -/
def mtc (x : MetM × Value × Value × Value) : List Value := [x.2.1, .int .i64 x.1.res, x.2.2.1, x.2.2.2]
structure MetOk (B : Nat) (w : World) (x : MetM × Value × Value × Value) : Prop where
  p : NRow w x.2.1 x.1.params
  q : NRow w x.2.2.1 x.1.locals
  r : IRow w x.2.2.2 x.1.code
  np : From B x.2.1
  nq : From B x.2.2.1
  nr : From B x.2.2.2
  res : 0 ≤ x.1.res ∧ x.1.res ≤ 255
structure MetRow (B : Nat) (w : World) (v : Value) (Q : List (MetM × Value × Value × Value)) : Prop where
  row : w.ownsRow 0 39 4 v Q.length (Q.flatMap mtc)
  new : From B v
  each : ∀ x ∈ Q, MetOk B w x
theorem MetOk.upd {B : Nat} {w w' : World} {x : MetM × Value × Value × Value} {S : Nat → Prop} (h : MetOk B w x) (hu : Upd S w w') (h1 : ∀ k, x.2.1.ownBlock = some k → ¬ S k) (h2 : ∀ k, x.2.2.1.ownBlock = some k → ¬ S k) (h3 : ∀ k, x.2.2.2.ownBlock = some k → ¬ S k) : MetOk B w' x := ⟨h.p.upd hu h1, h.q.upd hu h2, h.r.upd hu h3, h.np, h.nq, h.nr, h.res⟩
theorem MetRow.stay {B : Nat} {w w' : World} {v : Value} {Q : List (MetM × Value × Value × Value)} {T : Nat → Prop} (h : MetRow B w v Q) (hu : Upd T w w') (hT : ∀ k, T k → k < B) : MetRow B w' v Q :=
  ⟨ownsRow_upd h.row hu (fun k hk hTk => by have := h.new k hk; have := hT k hTk; omega), h.new, fun x hx => (h.each x hx).upd hu (fun k hk hTk => by have := (h.each x hx).np k hk; have := hT k hTk; omega) (fun k hk hTk => by have := (h.each x hx).nq k hk; have := hT k hTk; omega) (fun k hk hTk => by have := (h.each x hx).nr k hk; have := hT k hTk; omega)⟩
theorem MetRow.mono {B : Nat} {w w' : World} {v : Value} {Q : List (MetM × Value × Value × Value)} (h : MetRow B w v Q) (hu : Upd (fun _ => False) w w') : MetRow B w' v Q := h.stay hu (fun _ h => h.elim)
theorem MetRow.mets {B : Nat} {w : World} {v : Value} {Q : List (MetM × Value × Value × Value)} (h : MetRow B w v Q) : MetsB B w v (Q.map (·.1)) := by
  have hg : ∀ i, i < Q.length → (Q.map (·.1)).getD i default = (Q.getD i default).1 := fun i hi => by simp [List.getD, hi]
  refine ⟨h.new, fun i => (Q.getD i default).2.1, fun i => (Q.getD i default).2.2.1, fun i => (Q.getD i default).2.2.2, ?_, fun i hi => ?_, fun x hx => ?_⟩
  · rw [List.length_map]
    refine (Sl.own h.row).congr (fun i hi j hj => ?_)
    rw [flat_get mtc 4 _ (fun _ => rfl) Q i j hi hj]
    unfold metF mtc
    rw [hg i hi]
    match j, hj with
    | 0, _ => rfl
    | 1, _ => rfl
    | 2, _ => rfl
    | 3, _ => rfl
  · rw [List.length_map] at hi
    rw [hg i hi]
    have := h.each _ (mem_getD hi)
    exact ⟨⟨this.p.ints, this.np⟩, ⟨this.q.ints, this.nq⟩, ⟨this.r.inss, this.nr⟩⟩
  · obtain ⟨y, hy, rfl⟩ := List.mem_map.1 hx
    have := (h.each y hy).res
    unfold wi64
    omega
end Go.Proofs.YtmikibcgphkcfaaGreatDoor

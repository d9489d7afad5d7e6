/- Package text: a draft in memory that grows. -/
import Derived.Test.YtiadkidhfhkokaaDoorTj
namespace Go.Proofs.YtiadkidhfhkokaaDoor
open Go.RowKit Go.Lib
set_option linter.unusedVariables false
set_option linter.unusedSimpArgs false

section
variable {B b : Nat} {w w' : World} {D : DrM} {V : DrV} {S : Nat → Prop}
theorem DrAt.roLt (h : DrAt B w b D V) : ∀ z, V.ro z → ∀ k, z.ownBlock = some k → k < w.heap.size := fun z hz => by
  rcases hz with ⟨p, hp, rfl⟩ | ⟨m, hm, rfl | rfl⟩
  · exact (h.prow p hp).lt
  · exact (h.qrow m hm).1.lt
  · exact (h.qrow m hm).2.1.lt
theorem Ap.fresh {z v v' : Value} (ha : Ap z v) (hz : ∀ k, z.ownBlock = some k → k < w.heap.size) (hf : Fresh w v v') : Ap z v' := fun k h1 h2 => by
  rcases hf k h2 with h3 | h3
  · exact ha k h1 h3
  · have := hz k h1; omega
theorem freshB {v v' : Value} (hn : ∀ k, v.ownBlock = some k → B ≤ k) (hs : B ≤ w.heap.size) (hf : Fresh w v v') : ∀ k, v'.ownBlock = some k → B ≤ k := fun k hk => by
  rcases hf k hk with h1 | h1
  · exact hn k h1
  · omega
theorem Row.offBox {α : Type} {e : TypeId} {sz : Nat} {cl : α → List Value} {z : Value} {L : List α} {C : Array Value} (h1 : Row w e sz cl z L) (hbox : w.heap[b]? = some (.cells C DT (0, 0))) (q : Nat) (v : Value) (he : e ≠ DT) : Row (w.setCell ⟨b, q, none⟩ v) e sz cl z L :=
  h1.upd (updBox w b q v) (fun k hk hkb => by
    obtain ⟨C2, fr, hc2⟩ := h1.type hk
    rw [hkb, hbox] at hc2
    simp at hc2
    exact he hc2.2.1.symm)
theorem DrAt.exports (h : DrAt B w b D V) {L : List Int} {v : Value} (hr : Row w' INT 1 intC v L) (hu : Upd (fun k => V.xv.ownBlock = some k) w w') (hf : Fresh w V.xv v) (hl : L.length ≤ 5) :
    DrAt B (w'.setCell ⟨b, 4, none⟩ v) b (D.setX L) ⟨V.fv, V.iv, V.mv, v, V.P, V.M⟩ := by
  have hbox : w'.heap[b]? = _ := tBlk hu h.box (fun hk => by have := h.nx b hk; have := h.bB; omega)
  have hrow : ∀ {α : Type} {e : TypeId} {sz : Nat} {cl : α → List Value} {z : Value} {L : List α}, Row w e sz cl z L → Ap z V.xv → Row w' e sz cl z L := fun h1 ha => h1.upd hu ha
  have hset : ∀ {α : Type} {e : TypeId} {sz : Nat} {cl : α → List Value} {z : Value} {L : List α}, Row w' e sz cl z L → e ≠ DT → Row (w'.setCell ⟨b, 4, none⟩ v) e sz cl z L := fun h1 he => h1.offBox hbox 4 v he
  exact ⟨tPut hbox 4 v, hset (hrow h.frow h.afx) (by decide), hset hr (by decide), hset (hrow h.irow (h.irow.ne h.xrow (by decide))) (by decide), hset (hrow h.mrow (h.mrow.ne h.xrow (by decide))) (by decide), h.pI, h.mI,
    fun p hp => hset (hrow (h.prow p hp) (h.apx _ (.inl ⟨p, hp, rfl⟩))) (by decide),
    fun m hm => ⟨hset (hrow (h.qrow m hm).1 (h.apx _ (.inr ⟨m, hm, .inl rfl⟩))) (by decide), hset (hrow (h.qrow m hm).2.1 (h.apx _ (.inr ⟨m, hm, .inr rfl⟩))) (by decide), hset (hrow (h.qrow m hm).2.2 ((h.qrow m hm).2.2.ne h.xrow (by decide))) (by decide)⟩,
    h.apf, fun z hz => (h.apx z hz).fresh (h.roLt z hz) hf, h.afx.fresh h.frow.lt hf, h.apc, h.nf, freshB h.nx h.sB hf, h.ni, h.nm, h.nr, h.nc, h.bB, by have := hu.size; have := h.sB; have := (updBox w' b 4 v).size; omega, h.lf, hl, h.li, h.lm, h.lc⟩
/-- an import more: its params are an own row of w, apart from the fields' and the exports' -/
theorem DrAt.imports (h : DrAt B w b D V) {P : List PI} {v : Value} (hr : Row w' IMP 4 impC v P) (hu : Upd (fun k => V.iv.ownBlock = some k) w w') (hf : Fresh w V.iv v) (hl : P.length ≤ 5)
    (hP : ∀ p ∈ P, p ∈ V.P ∨ (Row w INT 1 intC p.2 p.1.params ∧ Ap p.2 V.fv ∧ Ap p.2 V.xv ∧ ∀ k, p.2.ownBlock = some k → B ≤ k)) :
    DrAt B (w'.setCell ⟨b, 2, none⟩ v) b (D.setI (P.map Prod.fst)) ⟨V.fv, v, V.mv, V.xv, P, V.M⟩ := by
  have hbox : w'.heap[b]? = _ := tBlk hu h.box (fun hk => by have := h.ni b hk; have := h.bB; omega)
  have hrow : ∀ {α : Type} {e : TypeId} {sz : Nat} {cl : α → List Value} {z : Value} {L : List α}, Row w e sz cl z L → e ≠ IMP → Row w' e sz cl z L := fun h1 he => h1.upd hu (h1.ne h.irow he)
  have hset : ∀ {α : Type} {e : TypeId} {sz : Nat} {cl : α → List Value} {z : Value} {L : List α}, Row w' e sz cl z L → e ≠ DT → Row (w'.setCell ⟨b, 2, none⟩ v) e sz cl z L := fun h1 he => h1.offBox hbox 2 v he
  have hro : ∀ z, (⟨V.fv, v, V.mv, V.xv, P, V.M⟩ : DrV).ro z → V.ro z ∨ (Ap z V.fv ∧ Ap z V.xv ∧ ∀ k, z.ownBlock = some k → B ≤ k) := fun z hz => by
    rcases hz with ⟨p, hp, rfl⟩ | hz
    · rcases hP p hp with h1 | ⟨_, h1, h2, h3⟩
      · exact .inl (.inl ⟨p, h1, rfl⟩)
      · exact .inr ⟨h1, h2, h3⟩
    · exact .inl (.inr hz)
  exact ⟨tPut hbox 2 v, hset (hrow h.frow (by decide)) (by decide), hset (hrow h.xrow (by decide)) (by decide), hset hr (by decide), hset (hrow h.mrow (by decide)) (by decide), rfl, h.mI,
    fun p hp => hset (hrow (by
      rcases hP p hp with h1 | h1
      · exact h.prow p h1
      · exact h1.1) (by decide)) (by decide),
    fun m hm => ⟨hset (hrow (h.qrow m hm).1 (by decide)) (by decide), hset (hrow (h.qrow m hm).2.1 (by decide)) (by decide), hset (hrow (h.qrow m hm).2.2 (by decide)) (by decide)⟩,
    fun z hz => by
      rcases hro z hz with h1 | h1
      · exact h.apf z h1
      · exact h1.1,
    fun z hz => by
      rcases hro z hz with h1 | h1
      · exact h.apx z h1
      · exact h1.2.1,
    h.afx, h.apc, h.nf, h.nx, freshB h.ni h.sB hf, h.nm, fun z hz => by
      rcases hro z hz with h1 | h1
      · exact h.nr z h1
      · exact h1.2.2,
    h.nc, h.bB, by have := hu.size; have := h.sB; have := (updBox w' b 2 v).size; omega, h.lf, h.lx, hl, h.lm, h.lc⟩
/-- a method more -/
theorem DrAt.methods (h : DrAt B w b D V) {M : List PM} {v : Value} (hr : Row w' MET 4 metC v M) (hu : Upd (fun k => V.mv.ownBlock = some k) w w') (hf : Fresh w V.mv v) (hl : M.length ≤ 9)
    (hM : ∀ m ∈ M, m ∈ V.M ∨ (Row w INT 1 intC m.2.1 m.1.params ∧ Ap m.2.1 V.fv ∧ Ap m.2.1 V.xv ∧ (∀ k, m.2.1.ownBlock = some k → B ≤ k) ∧ m.2.2.1 = .slice none 0 0 ∧ m.2.2.2 = .slice none 0 0 ∧ m.1.locals = [] ∧ m.1.code = []))
    (hap : M.Pairwise (fun m n => Ap m.2.2.2 n.2.2.2)) :
    DrAt B (w'.setCell ⟨b, 3, none⟩ v) b (D.setM (M.map Prod.fst)) ⟨V.fv, V.iv, v, V.xv, V.P, M⟩ := by
  have hbox : w'.heap[b]? = _ := tBlk hu h.box (fun hk => by have := h.nm b hk; have := h.bB; omega)
  have hrow : ∀ {α : Type} {e : TypeId} {sz : Nat} {cl : α → List Value} {z : Value} {L : List α}, Row w e sz cl z L → e ≠ MET → Row w' e sz cl z L := fun h1 he => h1.upd hu (h1.ne h.mrow he)
  have hset : ∀ {α : Type} {e : TypeId} {sz : Nat} {cl : α → List Value} {z : Value} {L : List α}, Row w' e sz cl z L → e ≠ DT → Row (w'.setCell ⟨b, 3, none⟩ v) e sz cl z L := fun h1 he => h1.offBox hbox 3 v he
  have hnil : ∀ z : Value, Ap (.slice none 0 0) z := fun z k hk => by simp [Value.ownBlock] at hk
  have hro : ∀ z, (⟨V.fv, V.iv, v, V.xv, V.P, M⟩ : DrV).ro z → V.ro z ∨ (Ap z V.fv ∧ Ap z V.xv ∧ ∀ k, z.ownBlock = some k → B ≤ k) := fun z hz => by
    rcases hz with hz | ⟨m, hm, hz⟩
    · exact .inl (.inl hz)
    · rcases hM m hm with h1 | ⟨_, h1, h2, h3, h4, h5, -⟩
      · exact .inl (.inr ⟨m, h1, hz⟩)
      · rcases hz with rfl | rfl
        · exact .inr ⟨h1, h2, h3⟩
        · rw [h4]; exact .inr ⟨hnil _, hnil _, fun k hk => by simp [Value.ownBlock] at hk⟩
  exact ⟨tPut hbox 3 v, hset (hrow h.frow (by decide)) (by decide), hset (hrow h.xrow (by decide)) (by decide), hset (hrow h.irow (by decide)) (by decide), hset hr (by decide), h.pI, rfl,
    fun p hp => hset (hrow (h.prow p hp) (by decide)) (by decide),
    fun m hm => by
      rcases hM m hm with h1 | ⟨h1, _, _, _, h4, h5, h6, h7⟩
      · exact ⟨hset (hrow (h.qrow m h1).1 (by decide)) (by decide), hset (hrow (h.qrow m h1).2.1 (by decide)) (by decide), hset (hrow (h.qrow m h1).2.2 (by decide)) (by decide)⟩
      · rw [h4, h5, h6, h7]
        exact ⟨hset (hrow h1 (by decide)) (by decide), Row.nil _ _ _ _, Row.nil _ _ _ _⟩,
    fun z hz => by
      rcases hro z hz with h1 | h1
      · exact h.apf z h1
      · exact h1.1,
    fun z hz => by
      rcases hro z hz with h1 | h1
      · exact h.apx z h1
      · exact h1.2.1,
    h.afx, hap, h.nf, h.nx, h.ni, freshB h.nm h.sB hf, fun z hz => by
      rcases hro z hz with h1 | h1
      · exact h.nr z h1
      · exact h1.2.2,
    fun m hm => by
      rcases hM m hm with h1 | ⟨_, _, _, _, _, h5, -⟩
      · exact h.nc m h1
      · rw [h5]; intro k hk; simp [Value.ownBlock] at hk,
    h.bB, by have := hu.size; have := h.sB; have := (updBox w' b 3 v).size; omega, h.lf, h.lx, h.li, hl, fun m hm => by
      rcases hM m hm with h1 | ⟨_, _, _, _, _, _, _, h7⟩
      · exact h.lc m h1
      · rw [h7]; simp⟩
theorem metC_len (R : List PM) : (R.flatMap metC).length = R.length * 4 := by
  induction R with
  | nil => rfl
  | cons p R ih => rw [List.flatMap_cons, List.length_append, ih, List.length_cons]; simp [metC]; omega
theorem metC_at : ∀ (R : List PM) (i j : Nat) (hi : i < R.length), j < 4 → (R.flatMap metC)[i * 4 + j]? = (metC R[i])[j]?
  | [], i, j, hi, _ => by simp at hi
  | p :: R, 0, j, hi, hj => by
    rw [List.flatMap_cons, List.getElem?_append_left (by simp [metC]; omega)]; simp
  | p :: R, i + 1, j, hi, hj => by
    rw [List.flatMap_cons, List.getElem?_append_right (by simp [metC]; omega)]
    have := metC_at R i j (by simpa using hi) hj
    rw [show (i + 1) * 4 + j - (metC p).length = i * 4 + j by simp [metC]; omega, this]; simp
theorem metC_set : ∀ (R : List PM) (i j : Nat) (hi : i < R.length) (m : PM) (u : Value), j < 4 → metC m = (metC R[i]).set j u → (R.set i m).flatMap metC = (R.flatMap metC).set (i * 4 + j) u
  | [], i, j, hi, _, _, _, _ => by simp at hi
  | p :: R, 0, j, hi, m, u, hj, hm => by
    have hm2 : metC m = (metC p).set j u := hm
    rw [List.set_cons_zero, List.flatMap_cons, List.flatMap_cons, hm2, List.set_append_left _ _ (by simp [metC]; omega)]
    simp
  | p :: R, i + 1, j, hi, m, u, hj, hm => by
    rw [List.set_cons_succ, List.flatMap_cons, List.flatMap_cons, List.set_append_right _ _ (by simp [metC]; omega)]
    have := metC_set R i j (by simpa using hi) m u hj (by simpa using hm)
    rw [this, show (i + 1) * 4 + j - (metC p).length = i * 4 + j by simp [metC]; omega]
end
end Go.Proofs.YtiadkidhfhkokaaDoor

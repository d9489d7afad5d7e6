/- Package text: a draft in memory. Package text: a draft in memory that grows. Package text: a draft's last method. -/
import Derived.Test.YtmikibcgphkcfaaGreatDoorTi
import Derived.Test.YtmikibcgphkcfaaGreatDoorHa
namespace Go.Proofs.YtmikibcgphkcfaaGreatDoor
section
open Go.RowKit Go.Lib
set_option linter.unusedVariables false
set_option linter.unusedSimpArgs false

abbrev INT : TypeId := 3
abbrev IMP : TypeId := 43
abbrev MET : TypeId := 39
abbrev INS : TypeId := 41
abbrev DT : TypeId := 89
abbrev WT : TypeId := 100
abbrev PI := ImpM × Value
abbrev PM := MetM × Value × Value × Value
/-- v and u have no block in common -/
def Ap (v u : Value) : Prop := ∀ k, v.ownBlock = some k → ¬ u.ownBlock = some k
theorem Ap.symm {v u : Value} (h : Ap v u) : Ap u v := fun k h1 h2 => h k h2 h1
section
variable {α : Type} {w w' : World} {e : TypeId} {sz : Nat} {cl : α → List Value} {v : Value} {L : List α}
theorem Row.lt (h : Row w e sz cl v L) : ∀ k, v.ownBlock = some k → k < w.heap.size := hpRowLt h
theorem Row.type (h : Row w e sz cl v L) {k : Nat} (hk : v.ownBlock = some k) : ∃ C fr, w.heap[k]? = some (.cells C e fr) := by
  rcases h.2 with ⟨rfl, _⟩ | ⟨g, cap, cur, rfl, _, hg, _⟩
  · simp [Value.ownBlock] at hk
  · simp [Value.ownBlock] at hk
    subst hk
    exact ⟨_, _, hg⟩
theorem Row.ne {β : Type} {e' : TypeId} {sz' : Nat} {cl' : β → List Value} {v' : Value} {L' : List β} (h : Row w e sz cl v L) (h' : Row w e' sz' cl' v' L') (he : e ≠ e') : Ap v v' := hpRowNe h h' he
theorem Row.one (h : Row w e sz cl v L) : v.oneCell' = true := by
  obtain ⟨a, c, rfl⟩ := ownsRow_slice h
  rfl
end
/-- all that was taken so far, as lists of bytes and numbers, and where the next line may stand -/
structure DrM where
  img : ImgM
  pos : Int
/-- the values in memory of a draft -/
structure DrV where
  fv : Value
  iv : Value
  mv : Value
  xv : Value
  P : List PI
  M : List PM
/-- the read-only rows of numbers -/
def DrV.ro (V : DrV) (z : Value) : Prop := (∃ p ∈ V.P, z = p.2) ∨ ∃ m ∈ V.M, z = m.2.1 ∨ z = m.2.2.1
structure DrAt (B : Nat) (w : World) (b : Nat) (D : DrM) (V : DrV) : Prop where
  box : w.heap[b]? = some (.cells #[.string D.img.name, V.fv, V.iv, V.mv, V.xv, .int .i64 D.pos] DT (0, 0))
  frow : Row w INT 1 intC V.fv D.img.fields
  xrow : Row w INT 1 intC V.xv D.img.exports
  irow : Row w IMP 4 impC V.iv V.P
  mrow : Row w MET 4 metC V.mv V.M
  pI : V.P.map Prod.fst = D.img.imports
  mI : V.M.map Prod.fst = D.img.methods
  prow : ∀ p ∈ V.P, Row w INT 1 intC p.2 p.1.params
  qrow : ∀ m ∈ V.M, Row w INT 1 intC m.2.1 m.1.params ∧ Row w INT 1 intC m.2.2.1 m.1.locals ∧ Row w INS 3 insC m.2.2.2 m.1.code
  apf : ∀ z, V.ro z → Ap z V.fv
  apx : ∀ z, V.ro z → Ap z V.xv
  afx : Ap V.fv V.xv
  apc : V.M.Pairwise (fun m n => Ap m.2.2.2 n.2.2.2)
  nf : ∀ k, V.fv.ownBlock = some k → B ≤ k
  nx : ∀ k, V.xv.ownBlock = some k → B ≤ k
  ni : ∀ k, V.iv.ownBlock = some k → B ≤ k
  nm : ∀ k, V.mv.ownBlock = some k → B ≤ k
  nr : ∀ z, V.ro z → ∀ k, z.ownBlock = some k → B ≤ k
  nc : ∀ m ∈ V.M, ∀ k, m.2.2.2.ownBlock = some k → B ≤ k
  bB : b < B
  sB : B ≤ w.heap.size
  lf : D.img.fields.length ≤ 9
  lx : D.img.exports.length ≤ 5
  li : V.P.length ≤ 5
  lm : V.M.length ≤ 9
  lc : ∀ m ∈ V.M, m.1.code.length ≤ 121
/-- blocks that bear no row of a draft -/
def Alien (B b : Nat) (w : World) (S : Nat → Prop) : Prop := ∀ k, S k → k ≠ b ∧ (B ≤ k → ∀ C e fr, w.heap[k]? = some (.cells C e fr) → e ≠ INT ∧ e ≠ IMP ∧ e ≠ MET ∧ e ≠ INS)
theorem Alien.no (B b : Nat) (w : World) : Alien B b w (fun _ => False) := fun k h => h.elim
section
variable {B b : Nat} {w w' : World} {D : DrM} {V : DrV} {S : Nat → Prop}
theorem Row.keepA {α : Type} {e : TypeId} {sz : Nat} {cl : α → List Value} {v : Value} {L : List α} (h : Row w e sz cl v L) (hu : Upd S w w') (hA : Alien B b w S) (hn : ∀ k, v.ownBlock = some k → B ≤ k) (he : e = INT ∨ e = IMP ∨ e = MET ∨ e = INS) : Row w' e sz cl v L :=
  h.upd hu (fun k hk hS => by
    obtain ⟨C, fr, hc⟩ := h.type hk
    obtain ⟨h1, h2, h3, h4⟩ := (hA k hS).2 (hn k hk) C e fr hc
    rcases he with he | he | he | he <;> simp_all)
theorem DrAt.keep (h : DrAt B w b D V) (hu : Upd S w w') (hA : Alien B b w S) : DrAt B w' b D V :=
  ⟨tBlk hu h.box (fun hb => (hA b hb).1 rfl), h.frow.keepA hu hA h.nf (.inl rfl), h.xrow.keepA hu hA h.nx (.inl rfl), h.irow.keepA hu hA h.ni (.inr (.inl rfl)), h.mrow.keepA hu hA h.nm (.inr (.inr (.inl rfl))), h.pI, h.mI,
    fun p hp => (h.prow p hp).keepA hu hA (h.nr _ (.inl ⟨p, hp, rfl⟩)) (.inl rfl),
    fun m hm => ⟨(h.qrow m hm).1.keepA hu hA (h.nr _ (.inr ⟨m, hm, .inl rfl⟩)) (.inl rfl), (h.qrow m hm).2.1.keepA hu hA (h.nr _ (.inr ⟨m, hm, .inr rfl⟩)) (.inl rfl), (h.qrow m hm).2.2.keepA hu hA (h.nc m hm) (.inr (.inr (.inr rfl)))⟩,
    h.apf, h.apx, h.afx, h.apc, h.nf, h.nx, h.ni, h.nm, h.nr, h.nc, h.bB, Nat.le_trans h.sB hu.size, h.lf, h.lx, h.li, h.lm, h.lc⟩
theorem DrAt.lt (h : DrAt B w b D V) : b < w.heap.size := (Array.getElem?_eq_some_iff.1 h.box).1
/-- nothing but the box has turned -/
theorem DrAt.onBox (h : DrAt B w b D V) (hu : Upd (fun k => k = b) w w') {C : Array Value} (hb : w'.heap[b]? = some (.cells C DT (0, 0))) {D' : DrM} (hc : C = #[.string D'.img.name, V.fv, V.iv, V.mv, V.xv, .int .i64 D'.pos])
    (hf : D'.img.fields = D.img.fields) (hx : D'.img.exports = D.img.exports) (hi : D'.img.imports = D.img.imports) (hm : D'.img.methods = D.img.methods) : DrAt B w' b D' V := by
  have hr : ∀ {α : Type} {e : TypeId} {sz : Nat} {cl : α → List Value} {v : Value} {L : List α}, Row w e sz cl v L → e ≠ DT → Row w' e sz cl v L := fun h1 he => h1.upd hu (fun k hk hkb => by
    obtain ⟨C2, fr, hc2⟩ := h1.type hk
    rw [hkb, h.box] at hc2
    simp at hc2
    exact he hc2.2.1.symm)
  exact ⟨by rw [hb, hc], by rw [hf]; exact hr h.frow (by decide), by rw [hx]; exact hr h.xrow (by decide), hr h.irow (by decide), hr h.mrow (by decide), by rw [hi]; exact h.pI, by rw [hm]; exact h.mI,
    fun p hp => hr (h.prow p hp) (by decide), fun m hm => ⟨hr (h.qrow m hm).1 (by decide), hr (h.qrow m hm).2.1 (by decide), hr (h.qrow m hm).2.2 (by decide)⟩,
    h.apf, h.apx, h.afx, h.apc, h.nf, h.nx, h.ni, h.nm, h.nr, h.nc, h.bB, Nat.le_trans h.sB hu.size, by rw [hf]; exact h.lf, by rw [hx]; exact h.lx, h.li, h.lm, h.lc⟩
def DrM.setName (D : DrM) (s : ByteArray) : DrM := ⟨⟨s, D.img.fields, D.img.imports, D.img.methods, D.img.exports⟩, D.pos⟩
def DrM.setPos (D : DrM) (t : Int) : DrM := ⟨D.img, t⟩
def DrM.setF (D : DrM) (L : List Int) : DrM := ⟨⟨D.img.name, L, D.img.imports, D.img.methods, D.img.exports⟩, D.pos⟩
def DrM.setX (D : DrM) (L : List Int) : DrM := ⟨⟨D.img.name, D.img.fields, D.img.imports, D.img.methods, L⟩, D.pos⟩
def DrM.setI (D : DrM) (L : List ImpM) : DrM := ⟨⟨D.img.name, D.img.fields, L, D.img.methods, D.img.exports⟩, D.pos⟩
def DrM.setM (D : DrM) (L : List MetM) : DrM := ⟨⟨D.img.name, D.img.fields, D.img.imports, L, D.img.exports⟩, D.pos⟩
theorem updBox (w : World) (b q : Nat) (u : Value) : Upd (fun k => k = b) w (w.setCell ⟨b, q, none⟩ u) := Upd.setCell (S := fun k => k = b) w (p := ⟨b, q, none⟩) (.inl rfl) u
theorem DrAt.name (h : DrAt B w b D V) (s : ByteArray) : DrAt B (w.setCell ⟨b, 0, none⟩ (.string s)) b (D.setName s) V :=
  h.onBox (updBox w b 0 _) (tPut h.box 0 _) rfl rfl rfl rfl rfl
theorem DrAt.goes (h : DrAt B w b D V) (t : Int) : DrAt B (w.setCell ⟨b, 5, none⟩ (.int .i64 t)) b (D.setPos t) V :=
  h.onBox (updBox w b 5 _) (tPut h.box 5 _) rfl rfl rfl rfl rfl
/-- the fields' row has grown, and the box tells of it -/
theorem DrAt.fields (h : DrAt B w b D V) {L : List Int} {v : Value} (hr : Row w' INT 1 intC v L) (hu : Upd (fun k => V.fv.ownBlock = some k) w w') (hf : Fresh w V.fv v) (hl : L.length ≤ 9) :
    DrAt B (w'.setCell ⟨b, 1, none⟩ v) b (D.setF L) ⟨v, V.iv, V.mv, V.xv, V.P, V.M⟩ := by
  have hbox : w'.heap[b]? = _ := tBlk hu h.box (fun hk => by have := h.nf b hk; have := h.bB; omega)
  have hnew : ∀ k, v.ownBlock = some k → B ≤ k := fun k hk => by
    rcases hf k hk with h1 | h1
    · exact h.nf k h1
    · have := h.sB; omega
  have hap : ∀ {z : Value}, (∀ k, z.ownBlock = some k → k < w.heap.size) → Ap z V.fv → Ap z v := fun hz ha k h1 h2 => by
    rcases hf k h2 with h3 | h3
    · exact ha k h1 h3
    · have := hz k h1; omega
  have hrow : ∀ {α : Type} {e : TypeId} {sz : Nat} {cl : α → List Value} {z : Value} {L : List α}, Row w e sz cl z L → Ap z V.fv → Row w' e sz cl z L := fun h1 ha => h1.upd hu ha
  have hro : ∀ z, V.ro z → ∀ k, z.ownBlock = some k → k < w.heap.size := fun z hz => by
    rcases hz with ⟨p, hp, rfl⟩ | ⟨m, hm, rfl | rfl⟩
    · exact (h.prow p hp).lt
    · exact (h.qrow m hm).1.lt
    · exact (h.qrow m hm).2.1.lt
  have h1 : DrAt B w' b (D.setF L) ⟨v, V.iv, V.mv, V.xv, V.P, V.M⟩ → True := fun _ => trivial
  have hb2 := updBox w' b 1 v
  have hset : ∀ {α : Type} {e : TypeId} {sz : Nat} {cl : α → List Value} {z : Value} {L : List α}, Row w' e sz cl z L → e ≠ DT → Row (w'.setCell ⟨b, 1, none⟩ v) e sz cl z L := fun h1 he => h1.upd hb2 (fun k hk hkb => by
    obtain ⟨C2, fr, hc2⟩ := h1.type hk
    rw [hkb, hbox] at hc2
    simp at hc2
    exact he hc2.2.1.symm)
  exact ⟨tPut hbox 1 v, hset hr (by decide), hset (hrow h.xrow h.afx.symm) (by decide), hset (hrow h.irow (h.irow.ne h.frow (by decide))) (by decide), hset (hrow h.mrow (h.mrow.ne h.frow (by decide))) (by decide), h.pI, h.mI,
    fun p hp => hset (hrow (h.prow p hp) (h.apf _ (.inl ⟨p, hp, rfl⟩))) (by decide),
    fun m hm => ⟨hset (hrow (h.qrow m hm).1 (h.apf _ (.inr ⟨m, hm, .inl rfl⟩))) (by decide), hset (hrow (h.qrow m hm).2.1 (h.apf _ (.inr ⟨m, hm, .inr rfl⟩))) (by decide), hset (hrow (h.qrow m hm).2.2 ((h.qrow m hm).2.2.ne h.frow (by decide))) (by decide)⟩,
    fun z hz => hap (hro z hz) (h.apf z hz), h.apx, (hap h.xrow.lt h.afx.symm).symm, h.apc, hnew, h.nx, h.ni, h.nm, h.nr, h.nc, h.bB, by have := hu.size; have := h.sB; have := hb2.size; omega, hl, h.lx, h.li, h.lm, h.lc⟩
end
end

section
open Go.RowKit Go.Lib
set_option linter.unusedVariables false
set_option linter.unusedSimpArgs false

section
variable {B b : Nat} {w w' : World} {D : DrM} {V : DrV} {S : Nat → Prop}
theorem DrAt.roLt (h : DrAt B w b D V) : ∀ z, V.ro z → ∀ k, z.ownBlock = some k → k < w.heap.size := fun z hz => by
  rcases hz with ⟨p, hp, rfl⟩ | ⟨m, hm, rfl | rfl⟩
  · exact (h.prow p hp).lt
  · exact (h.qrow m hm).1.lt
  · exact (h.qrow m hm).2.1.lt
theorem Ap.fresh {z v v' : Value} (ha : Ap z v) (hz : ∀ k, z.ownBlock = some k → k < w.heap.size) (hf : Fresh w v v') : Ap z v' := fun k h1 h2 => by
  rcases hf k h2 with h3 | h3
  · exact ha k h1 h3
  · have := hz k h1; omega
theorem freshB {v v' : Value} (hn : ∀ k, v.ownBlock = some k → B ≤ k) (hs : B ≤ w.heap.size) (hf : Fresh w v v') : ∀ k, v'.ownBlock = some k → B ≤ k := fun k hk => by
  rcases hf k hk with h1 | h1
  · exact hn k h1
  · omega
theorem Row.offBox {α : Type} {e : TypeId} {sz : Nat} {cl : α → List Value} {z : Value} {L : List α} {C : Array Value} (h1 : Row w e sz cl z L) (hbox : w.heap[b]? = some (.cells C DT (0, 0))) (q : Nat) (v : Value) (he : e ≠ DT) : Row (w.setCell ⟨b, q, none⟩ v) e sz cl z L :=
  h1.upd (updBox w b q v) (fun k hk hkb => by
    obtain ⟨C2, fr, hc2⟩ := h1.type hk
    rw [hkb, hbox] at hc2
    simp at hc2
    exact he hc2.2.1.symm)
theorem DrAt.exports (h : DrAt B w b D V) {L : List Int} {v : Value} (hr : Row w' INT 1 intC v L) (hu : Upd (fun k => V.xv.ownBlock = some k) w w') (hf : Fresh w V.xv v) (hl : L.length ≤ 5) :
    DrAt B (w'.setCell ⟨b, 4, none⟩ v) b (D.setX L) ⟨V.fv, V.iv, V.mv, v, V.P, V.M⟩ := by
  have hbox : w'.heap[b]? = _ := tBlk hu h.box (fun hk => by have := h.nx b hk; have := h.bB; omega)
  have hrow : ∀ {α : Type} {e : TypeId} {sz : Nat} {cl : α → List Value} {z : Value} {L : List α}, Row w e sz cl z L → Ap z V.xv → Row w' e sz cl z L := fun h1 ha => h1.upd hu ha
  have hset : ∀ {α : Type} {e : TypeId} {sz : Nat} {cl : α → List Value} {z : Value} {L : List α}, Row w' e sz cl z L → e ≠ DT → Row (w'.setCell ⟨b, 4, none⟩ v) e sz cl z L := fun h1 he => h1.offBox hbox 4 v he
  exact ⟨tPut hbox 4 v, hset (hrow h.frow h.afx) (by decide), hset hr (by decide), hset (hrow h.irow (h.irow.ne h.xrow (by decide))) (by decide), hset (hrow h.mrow (h.mrow.ne h.xrow (by decide))) (by decide), h.pI, h.mI,
    fun p hp => hset (hrow (h.prow p hp) (h.apx _ (.inl ⟨p, hp, rfl⟩))) (by decide),
    fun m hm => ⟨hset (hrow (h.qrow m hm).1 (h.apx _ (.inr ⟨m, hm, .inl rfl⟩))) (by decide), hset (hrow (h.qrow m hm).2.1 (h.apx _ (.inr ⟨m, hm, .inr rfl⟩))) (by decide), hset (hrow (h.qrow m hm).2.2 ((h.qrow m hm).2.2.ne h.xrow (by decide))) (by decide)⟩,
    h.apf, fun z hz => (h.apx z hz).fresh (h.roLt z hz) hf, h.afx.fresh h.frow.lt hf, h.apc, h.nf, freshB h.nx h.sB hf, h.ni, h.nm, h.nr, h.nc, h.bB, by have := hu.size; have := h.sB; have := (updBox w' b 4 v).size; omega, h.lf, hl, h.li, h.lm, h.lc⟩
/-- an import more: its params are an own row of w, apart from the fields' and the exports' -/
theorem DrAt.imports (h : DrAt B w b D V) {P : List PI} {v : Value} (hr : Row w' IMP 4 impC v P) (hu : Upd (fun k => V.iv.ownBlock = some k) w w') (hf : Fresh w V.iv v) (hl : P.length ≤ 5)
    (hP : ∀ p ∈ P, p ∈ V.P ∨ (Row w INT 1 intC p.2 p.1.params ∧ Ap p.2 V.fv ∧ Ap p.2 V.xv ∧ ∀ k, p.2.ownBlock = some k → B ≤ k)) :
    DrAt B (w'.setCell ⟨b, 2, none⟩ v) b (D.setI (P.map Prod.fst)) ⟨V.fv, v, V.mv, V.xv, P, V.M⟩ := by
  have hbox : w'.heap[b]? = _ := tBlk hu h.box (fun hk => by have := h.ni b hk; have := h.bB; omega)
  have hrow : ∀ {α : Type} {e : TypeId} {sz : Nat} {cl : α → List Value} {z : Value} {L : List α}, Row w e sz cl z L → e ≠ IMP → Row w' e sz cl z L := fun h1 he => h1.upd hu (h1.ne h.irow he)
  have hset : ∀ {α : Type} {e : TypeId} {sz : Nat} {cl : α → List Value} {z : Value} {L : List α}, Row w' e sz cl z L → e ≠ DT → Row (w'.setCell ⟨b, 2, none⟩ v) e sz cl z L := fun h1 he => h1.offBox hbox 2 v he
  have hro : ∀ z, (⟨V.fv, v, V.mv, V.xv, P, V.M⟩ : DrV).ro z → V.ro z ∨ (Ap z V.fv ∧ Ap z V.xv ∧ ∀ k, z.ownBlock = some k → B ≤ k) := fun z hz => by
    rcases hz with ⟨p, hp, rfl⟩ | hz
    · rcases hP p hp with h1 | ⟨_, h1, h2, h3⟩
      · exact .inl (.inl ⟨p, h1, rfl⟩)
      · exact .inr ⟨h1, h2, h3⟩
    · exact .inl (.inr hz)
  exact ⟨tPut hbox 2 v, hset (hrow h.frow (by decide)) (by decide), hset (hrow h.xrow (by decide)) (by decide), hset hr (by decide), hset (hrow h.mrow (by decide)) (by decide), rfl, h.mI,
    fun p hp => hset (hrow (by
      rcases hP p hp with h1 | h1
      · exact h.prow p h1
      · exact h1.1) (by decide)) (by decide),
    fun m hm => ⟨hset (hrow (h.qrow m hm).1 (by decide)) (by decide), hset (hrow (h.qrow m hm).2.1 (by decide)) (by decide), hset (hrow (h.qrow m hm).2.2 (by decide)) (by decide)⟩,
    fun z hz => by
      rcases hro z hz with h1 | h1
      · exact h.apf z h1
      · exact h1.1,
    fun z hz => by
      rcases hro z hz with h1 | h1
      · exact h.apx z h1
      · exact h1.2.1,
    h.afx, h.apc, h.nf, h.nx, freshB h.ni h.sB hf, h.nm, fun z hz => by
      rcases hro z hz with h1 | h1
      · exact h.nr z h1
      · exact h1.2.2,
    h.nc, h.bB, by have := hu.size; have := h.sB; have := (updBox w' b 2 v).size; omega, h.lf, h.lx, hl, h.lm, h.lc⟩
/-- a method more -/
theorem DrAt.methods (h : DrAt B w b D V) {M : List PM} {v : Value} (hr : Row w' MET 4 metC v M) (hu : Upd (fun k => V.mv.ownBlock = some k) w w') (hf : Fresh w V.mv v) (hl : M.length ≤ 9)
    (hM : ∀ m ∈ M, m ∈ V.M ∨ (Row w INT 1 intC m.2.1 m.1.params ∧ Ap m.2.1 V.fv ∧ Ap m.2.1 V.xv ∧ (∀ k, m.2.1.ownBlock = some k → B ≤ k) ∧ m.2.2.1 = .slice none 0 0 ∧ m.2.2.2 = .slice none 0 0 ∧ m.1.locals = [] ∧ m.1.code = []))
    (hap : M.Pairwise (fun m n => Ap m.2.2.2 n.2.2.2)) :
    DrAt B (w'.setCell ⟨b, 3, none⟩ v) b (D.setM (M.map Prod.fst)) ⟨V.fv, V.iv, v, V.xv, V.P, M⟩ := by
  have hbox : w'.heap[b]? = _ := tBlk hu h.box (fun hk => by have := h.nm b hk; have := h.bB; omega)
  have hrow : ∀ {α : Type} {e : TypeId} {sz : Nat} {cl : α → List Value} {z : Value} {L : List α}, Row w e sz cl z L → e ≠ MET → Row w' e sz cl z L := fun h1 he => h1.upd hu (h1.ne h.mrow he)
  have hset : ∀ {α : Type} {e : TypeId} {sz : Nat} {cl : α → List Value} {z : Value} {L : List α}, Row w' e sz cl z L → e ≠ DT → Row (w'.setCell ⟨b, 3, none⟩ v) e sz cl z L := fun h1 he => h1.offBox hbox 3 v he
  have hnil : ∀ z : Value, Ap (.slice none 0 0) z := fun z k hk => by simp [Value.ownBlock] at hk
  have hro : ∀ z, (⟨V.fv, V.iv, v, V.xv, V.P, M⟩ : DrV).ro z → V.ro z ∨ (Ap z V.fv ∧ Ap z V.xv ∧ ∀ k, z.ownBlock = some k → B ≤ k) := fun z hz => by
    rcases hz with hz | ⟨m, hm, hz⟩
    · exact .inl (.inl hz)
    · rcases hM m hm with h1 | ⟨_, h1, h2, h3, h4, h5, -⟩
      · exact .inl (.inr ⟨m, h1, hz⟩)
      · rcases hz with rfl | rfl
        · exact .inr ⟨h1, h2, h3⟩
        · rw [h4]; exact .inr ⟨hnil _, hnil _, fun k hk => by simp [Value.ownBlock] at hk⟩
  exact ⟨tPut hbox 3 v, hset (hrow h.frow (by decide)) (by decide), hset (hrow h.xrow (by decide)) (by decide), hset (hrow h.irow (by decide)) (by decide), hset hr (by decide), h.pI, rfl,
    fun p hp => hset (hrow (h.prow p hp) (by decide)) (by decide),
    fun m hm => by
      rcases hM m hm with h1 | ⟨h1, _, _, _, h4, h5, h6, h7⟩
      · exact ⟨hset (hrow (h.qrow m h1).1 (by decide)) (by decide), hset (hrow (h.qrow m h1).2.1 (by decide)) (by decide), hset (hrow (h.qrow m h1).2.2 (by decide)) (by decide)⟩
      · rw [h4, h5, h6, h7]
        exact ⟨hset (hrow h1 (by decide)) (by decide), Row.nil _ _ _ _, Row.nil _ _ _ _⟩,
    fun z hz => by
      rcases hro z hz with h1 | h1
      · exact h.apf z h1
      · exact h1.1,
    fun z hz => by
      rcases hro z hz with h1 | h1
      · exact h.apx z h1
      · exact h1.2.1,
    h.afx, hap, h.nf, h.nx, h.ni, freshB h.nm h.sB hf, fun z hz => by
      rcases hro z hz with h1 | h1
      · exact h.nr z h1
      · exact h1.2.2,
    fun m hm => by
      rcases hM m hm with h1 | ⟨_, _, _, _, _, h5, -⟩
      · exact h.nc m h1
      · rw [h5]; intro k hk; simp [Value.ownBlock] at hk,
    h.bB, by have := hu.size; have := h.sB; have := (updBox w' b 3 v).size; omega, h.lf, h.lx, h.li, hl, fun m hm => by
      rcases hM m hm with h1 | ⟨_, _, _, _, _, _, _, h7⟩
      · exact h.lc m h1
      · rw [h7]; simp⟩
theorem metC_len (R : List PM) : (R.flatMap metC).length = R.length * 4 := by
  induction R with
  | nil => rfl
  | cons p R ih => rw [List.flatMap_cons, List.length_append, ih, List.length_cons]; simp [metC]; omega
theorem metC_at : ∀ (R : List PM) (i j : Nat) (hi : i < R.length), j < 4 → (R.flatMap metC)[i * 4 + j]? = (metC R[i])[j]?
  | [], i, j, hi, _ => by simp at hi
  | p :: R, 0, j, hi, hj => by
    rw [List.flatMap_cons, List.getElem?_append_left (by simp [metC]; omega)]; simp
  | p :: R, i + 1, j, hi, hj => by
    rw [List.flatMap_cons, List.getElem?_append_right (by simp [metC]; omega)]
    have := metC_at R i j (by simpa using hi) hj
    rw [show (i + 1) * 4 + j - (metC p).length = i * 4 + j by simp [metC]; omega, this]; simp
theorem metC_set : ∀ (R : List PM) (i j : Nat) (hi : i < R.length) (m : PM) (u : Value), j < 4 → metC m = (metC R[i]).set j u → (R.set i m).flatMap metC = (R.flatMap metC).set (i * 4 + j) u
  | [], i, j, hi, _, _, _, _ => by simp at hi
  | p :: R, 0, j, hi, m, u, hj, hm => by
    have hm2 : metC m = (metC p).set j u := hm
    rw [List.set_cons_zero, List.flatMap_cons, List.flatMap_cons, hm2, List.set_append_left _ _ (by simp [metC]; omega)]
    simp
  | p :: R, i + 1, j, hi, m, u, hj, hm => by
    rw [List.set_cons_succ, List.flatMap_cons, List.flatMap_cons, List.set_append_right _ _ (by simp [metC]; omega)]
    have := metC_set R i j (by simpa using hi) m u hj (by simpa using hm)
    rw [this, show (i + 1) * 4 + j - (metC p).length = i * 4 + j by simp [metC]; omega]
end
end

section
open Go.RowKit Go.Lib
set_option linter.unusedVariables false
set_option linter.unusedSimpArgs false

section
variable {B b : Nat} {w w' : World} {D : DrM} {V : DrV} {S : Nat → Prop}
theorem Row.cellSet {w : World} {g c q : Nat} {M M' : List PM} {u : Value} (h : Row w MET 4 metC (.slice (some ⟨g, 0, none⟩) M.length c) M) (hM : M'.flatMap metC = (M.flatMap metC).set q u) (hl : M'.length = M.length) :
    Row (w.setCell ⟨g, q, none⟩ u) MET 4 metC (.slice (some ⟨g, 0, none⟩) M.length c) M' := by
  have := hpSet h q u
  unfold Row
  rw [hM, hl]
  exact this
theorem memSet {α : Type} {L : List α} {i : Nat} {x y : α} (h : y ∈ L.set i x) : y ∈ L ∨ y = x := List.mem_or_eq_of_mem_set h
/-- method i is another one: its cells are so already; its rows are as they should be -/
theorem DrAt.turnM (h : DrAt B w b D V) {i : Nat} (hi : i < V.M.length) (m : PM) {g c q : Nat} {u : Value} (hmv : V.mv = .slice (some ⟨g, 0, none⟩) V.M.length c) (hset : (V.M.set i m).flatMap metC = (V.M.flatMap metC).set q u)
    (hp : Row w INT 1 intC m.2.1 m.1.params) (hq : Row w INT 1 intC m.2.2.1 m.1.locals) (hc : Row w INS 3 insC m.2.2.2 m.1.code)
    (h1 : Ap m.2.1 V.fv ∧ Ap m.2.1 V.xv ∧ ∀ k, m.2.1.ownBlock = some k → B ≤ k) (h2 : Ap m.2.2.1 V.fv ∧ Ap m.2.2.1 V.xv ∧ ∀ k, m.2.2.1.ownBlock = some k → B ≤ k)
    (h3 : (∀ k, m.2.2.2.ownBlock = some k → B ≤ k) ∧ m.1.code.length ≤ 121) (h4 : (V.M.set i m).Pairwise (fun m n => Ap m.2.2.2 n.2.2.2)) :
    DrAt B (w.setCell ⟨g, q, none⟩ u) b (D.setM ((V.M.set i m).map Prod.fst)) ⟨V.fv, V.iv, V.mv, V.xv, V.P, V.M.set i m⟩ := by
  have hown : V.mv.ownBlock = some g := by rw [hmv]; rfl
  obtain ⟨C0, fr0, hg0⟩ := h.mrow.type hown
  have hu := updBox w g q u
  have hbg : b ≠ g := fun e => by have := h.nm g hown; have := h.bB; omega
  have hr : ∀ {α : Type} {e : TypeId} {sz : Nat} {cl : α → List Value} {z : Value} {L : List α}, Row w e sz cl z L → e ≠ MET → Row (w.setCell ⟨g, q, none⟩ u) e sz cl z L := fun hz he => hz.upd hu (fun k hk hkg => by
    obtain ⟨C2, fr, hc2⟩ := hz.type hk
    rw [hkg, hg0] at hc2
    simp at hc2
    exact he hc2.2.1.symm)
  have hro : ∀ z, (⟨V.fv, V.iv, V.mv, V.xv, V.P, V.M.set i m⟩ : DrV).ro z → V.ro z ∨ (Ap z V.fv ∧ Ap z V.xv ∧ ∀ k, z.ownBlock = some k → B ≤ k) := fun z hz => by
    rcases hz with hz | ⟨n, hn, hz⟩
    · exact .inl (.inl hz)
    · rcases memSet hn with hn | rfl
      · exact .inl (.inr ⟨n, hn, hz⟩)
      · rcases hz with rfl | rfl
        · exact .inr h1
        · exact .inr h2
  have hrow := h.mrow
  rw [hmv] at hrow
  exact ⟨tBlk hu h.box hbg, hr h.frow (by decide), hr h.xrow (by decide), hr h.irow (by decide), by rw [hmv]; exact hrow.cellSet hset (by simp), h.pI, rfl,
    fun p hp => hr (h.prow p hp) (by decide),
    fun n hn => by
      rcases memSet hn with hn | rfl
      · exact ⟨hr (h.qrow n hn).1 (by decide), hr (h.qrow n hn).2.1 (by decide), hr (h.qrow n hn).2.2 (by decide)⟩
      · exact ⟨hr hp (by decide), hr hq (by decide), hr hc (by decide)⟩,
    fun z hz => by
      rcases hro z hz with h1 | h1
      · exact h.apf z h1
      · exact h1.1,
    fun z hz => by
      rcases hro z hz with h1 | h1
      · exact h.apx z h1
      · exact h1.2.1,
    h.afx, h4, h.nf, h.nx, h.ni, h.nm, fun z hz => by
      rcases hro z hz with h1 | h1
      · exact h.nr z h1
      · exact h1.2.2,
    fun n hn => by
      rcases memSet hn with hn | rfl
      · exact h.nc n hn
      · exact h3.1,
    h.bB, by have := hu.size; have := h.sB; omega, h.lf, h.lx, h.li, by rw [List.length_set]; exact h.lm, fun n hn => by
      rcases memSet hn with hn | rfl
      · exact h.lc n hn
      · exact h3.2⟩
theorem DrAt.locals (h : DrAt B w b D V) {i : Nat} (hi : i < V.M.length) {g c : Nat} (hmv : V.mv = .slice (some ⟨g, 0, none⟩) V.M.length c) {L : List Int} {v : Value} (hr : Row w INT 1 intC v L) (ha : Ap v V.fv ∧ Ap v V.xv ∧ ∀ k, v.ownBlock = some k → B ≤ k) :
    ∃ V', DrAt B (w.setCell ⟨g, i * 4 + 2, none⟩ v) b (D.setM ((V.M.set i (⟨V.M[i].1.params, V.M[i].1.res, L, V.M[i].1.code⟩, V.M[i].2.1, v, V.M[i].2.2.2)).map Prod.fst)) V' := by
  have hm := List.getElem_mem hi
  have hq := h.qrow _ hm
  refine ⟨_, h.turnM hi _ hmv (metC_set V.M i 2 hi _ v (by omega) rfl) hq.1 hr hq.2.2 ⟨h.apf _ (.inr ⟨_, hm, .inl rfl⟩), h.apx _ (.inr ⟨_, hm, .inl rfl⟩), h.nr _ (.inr ⟨_, hm, .inl rfl⟩)⟩ ha ⟨h.nc V.M[i] hm, h.lc V.M[i] hm⟩ ?_⟩
  rw [List.pairwise_iff_getElem]
  intro x y hx hy hxy
  rw [List.length_set] at hx hy
  have hp := List.pairwise_iff_getElem.1 h.apc x y hx hy hxy
  rw [List.getElem_set, List.getElem_set]
  split <;> split <;> simp_all
theorem DrAt.code (h : DrAt B w b D V) {i : Nat} (hi : i < V.M.length) {g c : Nat} (hmv : V.mv = .slice (some ⟨g, 0, none⟩) V.M.length c) {C : List InsM} {v : Value} (hr : Row w' INS 3 insC v C) (hu : Upd (fun k => V.M[i].2.2.2.ownBlock = some k) w w') (hf : Fresh w V.M[i].2.2.2 v) (hl : C.length ≤ 121) :
    ∃ V', DrAt B (w'.setCell ⟨g, i * 4 + 3, none⟩ v) b (D.setM ((V.M.set i (⟨V.M[i].1.params, V.M[i].1.res, V.M[i].1.locals, C⟩, V.M[i].2.1, V.M[i].2.2.1, v)).map Prod.fst)) V' := by
  have hm := List.getElem_mem hi
  have hq := h.qrow _ hm
  have hnb := h.nc _ hm
  have hr2 : ∀ {α : Type} {e : TypeId} {sz : Nat} {cl : α → List Value} {z : Value} {L : List α}, Row w e sz cl z L → e ≠ INS → Row w' e sz cl z L := fun hz he => hz.upd hu (hz.ne hq.2.2 he)
  have hbnd : ∀ n ∈ V.M, ∀ k, n.2.2.2.ownBlock = some k → k < w.heap.size := fun n hn => (h.qrow n hn).2.2.lt
  have hpw := List.pairwise_iff_getElem.1 h.apc
  have hother : ∀ j (hj : j < V.M.length), j ≠ i → Ap V.M[j].2.2.2 V.M[i].2.2.2 := fun j hj hji => by
    rcases Nat.lt_or_ge j i with h1 | h1
    · exact hpw j i hj hi h1
    · exact (hpw i j hi hj (by omega)).symm
  -- the draft in w', but for method i, whose code is told of by v
  have hset := metC_set V.M i 3 hi (⟨V.M[i].1.params, V.M[i].1.res, V.M[i].1.locals, C⟩, V.M[i].2.1, V.M[i].2.2.1, v) v (by omega) rfl
  have hown : V.mv.ownBlock = some g := by rw [hmv]; rfl
  have hmr := hr2 h.mrow (by decide)
  obtain ⟨C0, fr0, hg0⟩ := hmr.type hown
  have hus := updBox w' g (i * 4 + 3) v
  have hbg : b ≠ g := fun e => by have := h.nm g hown; have := h.bB; omega
  have hbox : w'.heap[b]? = _ := tBlk hu h.box (fun hk => by have := hnb b hk; have := h.bB; omega)
  have hrs : ∀ {α : Type} {e : TypeId} {sz : Nat} {cl : α → List Value} {z : Value} {L : List α}, Row w' e sz cl z L → e ≠ MET → Row (w'.setCell ⟨g, i * 4 + 3, none⟩ v) e sz cl z L := fun hz he => hz.upd hus (fun k hk hkg => by
    obtain ⟨C2, fr, hc2⟩ := hz.type hk
    rw [hkg, hg0] at hc2
    simp at hc2
    exact he hc2.2.1.symm)
  obtain ⟨m, hmdef⟩ : ∃ m : PM, m = (⟨V.M[i].1.params, V.M[i].1.res, V.M[i].1.locals, C⟩, V.M[i].2.1, V.M[i].2.2.1, v) := ⟨_, rfl⟩
  rw [← hmdef] at hset ⊢
  have e1 : m.2.1 = V.M[i].2.1 := by rw [hmdef]
  have e2 : m.2.2.1 = V.M[i].2.2.1 := by rw [hmdef]
  have e3 : m.2.2.2 = v := by rw [hmdef]
  have e4 : m.1 = ⟨V.M[i].1.params, V.M[i].1.res, V.M[i].1.locals, C⟩ := by rw [hmdef]
  have hro : ∀ z, (⟨V.fv, V.iv, V.mv, V.xv, V.P, V.M.set i m⟩ : DrV).ro z → V.ro z := fun z hz => by
    rcases hz with hz | ⟨n, hn, hz⟩
    · exact .inl hz
    · rcases memSet hn with hn | rfl
      · exact .inr ⟨n, hn, hz⟩
      · rw [e1, e2] at hz
        exact .inr ⟨_, hm, hz⟩
  have hcode : ∀ j (hj : j < V.M.length), j ≠ i → Ap V.M[j].2.2.2 v := fun j hj hji => (hother j hj hji).fresh (hbnd _ (List.getElem_mem hj)) hf
  have hin : ∀ j (hj : j < V.M.length), j ≠ i → Row w' INS 3 insC V.M[j].2.2.2 V.M[j].1.code := fun j hj hji => (h.qrow _ (List.getElem_mem hj)).2.2.upd hu (hother j hj hji)
  have hmem : ∀ n ∈ V.M.set i m, n = m ∨ ∃ j, ∃ hj : j < V.M.length, j ≠ i ∧ n = V.M[j] := fun n hn => by
    obtain ⟨j, hj, rfl⟩ := List.mem_iff_getElem.1 hn
    rw [List.length_set] at hj
    rw [List.getElem_set]
    by_cases hji : i = j
    · left; rw [if_pos hji]
    · right; rw [if_neg hji]; exact ⟨j, hj, fun e => hji e.symm, rfl⟩
  have hrow := hmr
  rw [hmv] at hrow
  refine ⟨⟨V.fv, V.iv, V.mv, V.xv, V.P, V.M.set i m⟩, tBlk hus hbox hbg, hrs (hr2 h.frow (by decide)) (by decide), hrs (hr2 h.xrow (by decide)) (by decide), hrs (hr2 h.irow (by decide)) (by decide), by rw [hmv]; exact hrow.cellSet hset (by simp), h.pI, rfl,
    fun p hp => hrs (hr2 (h.prow p hp) (by decide)) (by decide), fun n hn => ?_, fun z hz => h.apf z (hro z hz), fun z hz => h.apx z (hro z hz), h.afx, ?_, h.nf, h.nx, h.ni, h.nm, fun z hz => h.nr z (hro z hz), fun n hn => ?_, h.bB,
    by have := hus.size; have := hu.size; have := h.sB; omega, h.lf, h.lx, h.li, by rw [List.length_set]; exact h.lm, fun n hn => ?_⟩
  · rcases hmem n hn with rfl | ⟨j, hj, hji, rfl⟩
    · rw [e1, e2, e3, e4]
      exact ⟨hrs (hr2 hq.1 (by decide)) (by decide), hrs (hr2 hq.2.1 (by decide)) (by decide), hrs hr (by decide)⟩
    · have := h.qrow _ (List.getElem_mem hj)
      exact ⟨hrs (hr2 this.1 (by decide)) (by decide), hrs (hr2 this.2.1 (by decide)) (by decide), hrs (hin j hj hji) (by decide)⟩
  · rw [List.pairwise_iff_getElem]
    intro x y hx hy hxy
    rw [List.length_set] at hx hy
    rw [List.getElem_set, List.getElem_set]
    by_cases h1 : i = x
    · rw [if_pos h1, if_neg (by omega), e3]
      exact (hcode y hy (by omega)).symm
    · rw [if_neg h1]
      by_cases h2 : i = y
      · rw [if_pos h2, e3]
        exact hcode x hx (by omega)
      · rw [if_neg h2]
        exact hpw x y hx hy hxy
  · rcases hmem n hn with rfl | ⟨j, hj, hji, rfl⟩
    · rw [e3]; exact freshB hnb h.sB hf
    · exact h.nc _ (List.getElem_mem hj)
  · rcases hmem n hn with rfl | ⟨j, hj, hji, rfl⟩
    · rw [e4]; exact hl
    · exact h.lc _ (List.getElem_mem hj)
end
end
end Go.Proofs.YtmikibcgphkcfaaGreatDoor

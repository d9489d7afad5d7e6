/- Package text: a draft in memory. -/
import Derived.Test.YtiadkidhfhkokaaDoorTi
import Derived.Test.YtiadkidhfhkokaaDoorHa
namespace Go.Proofs.YtiadkidhfhkokaaDoor
open Go.RowKit Go.Lib
set_option linter.unusedVariables false
set_option linter.unusedSimpArgs false

abbrev INT : TypeId := 3
abbrev IMP : TypeId := 62
abbrev MET : TypeId := 66
abbrev INS : TypeId := 70
abbrev DT : TypeId := 50
abbrev WT : TypeId := 85
abbrev PI := ImpM × Value
abbrev PM := MetM × Value × Value × Value
/-- v and u have no block in common -/
def Ap (v u : Value) : Prop := ∀ k, v.ownBlock = some k → ¬ u.ownBlock = some k
theorem Ap.symm {v u : Value} (h : Ap v u) : Ap u v := fun k h1 h2 => h k h2 h1
section
variable {α : Type} {w w' : World} {e : TypeId} {sz : Nat} {cl : α → List Value} {v : Value} {L : List α}
theorem Row.lt (h : Row w e sz cl v L) : ∀ k, v.ownBlock = some k → k < w.heap.size := hpRowLt h
theorem Row.type (h : Row w e sz cl v L) {k : Nat} (hk : v.ownBlock = some k) : ∃ C fr, w.heap[k]? = some (.cells C e fr) := by
  rcases h.2 with ⟨rfl, _⟩ | ⟨g, cap, cur, rfl, _, hg, _⟩
  · simp [Value.ownBlock] at hk
  · simp [Value.ownBlock] at hk
    subst hk
    exact ⟨_, _, hg⟩
theorem Row.ne {β : Type} {e' : TypeId} {sz' : Nat} {cl' : β → List Value} {v' : Value} {L' : List β} (h : Row w e sz cl v L) (h' : Row w e' sz' cl' v' L') (he : e ≠ e') : Ap v v' := hpRowNe h h' he
theorem Row.one (h : Row w e sz cl v L) : v.oneCell' = true := by
  obtain ⟨a, c, rfl⟩ := ownsRow_slice h
  rfl
end
/-- all that was taken so far, as lists of bytes and numbers, and where the next line may stand -/
structure DrM where
  img : ImgM
  pos : Int
/-- the values in memory of a draft -/
structure DrV where
  fv : Value
  iv : Value
  mv : Value
  xv : Value
  P : List PI
  M : List PM
/-- the read-only rows of numbers -/
def DrV.ro (V : DrV) (z : Value) : Prop := (∃ p ∈ V.P, z = p.2) ∨ ∃ m ∈ V.M, z = m.2.1 ∨ z = m.2.2.1
structure DrAt (B : Nat) (w : World) (b : Nat) (D : DrM) (V : DrV) : Prop where
  box : w.heap[b]? = some (.cells #[.string D.img.name, V.fv, V.iv, V.mv, V.xv, .int .i64 D.pos] DT (0, 0))
  frow : Row w INT 1 intC V.fv D.img.fields
  xrow : Row w INT 1 intC V.xv D.img.exports
  irow : Row w IMP 4 impC V.iv V.P
  mrow : Row w MET 4 metC V.mv V.M
  pI : V.P.map Prod.fst = D.img.imports
  mI : V.M.map Prod.fst = D.img.methods
  prow : ∀ p ∈ V.P, Row w INT 1 intC p.2 p.1.params
  qrow : ∀ m ∈ V.M, Row w INT 1 intC m.2.1 m.1.params ∧ Row w INT 1 intC m.2.2.1 m.1.locals ∧ Row w INS 3 insC m.2.2.2 m.1.code
  apf : ∀ z, V.ro z → Ap z V.fv
  apx : ∀ z, V.ro z → Ap z V.xv
  afx : Ap V.fv V.xv
  apc : V.M.Pairwise (fun m n => Ap m.2.2.2 n.2.2.2)
  nf : ∀ k, V.fv.ownBlock = some k → B ≤ k
  nx : ∀ k, V.xv.ownBlock = some k → B ≤ k
  ni : ∀ k, V.iv.ownBlock = some k → B ≤ k
  nm : ∀ k, V.mv.ownBlock = some k → B ≤ k
  nr : ∀ z, V.ro z → ∀ k, z.ownBlock = some k → B ≤ k
  nc : ∀ m ∈ V.M, ∀ k, m.2.2.2.ownBlock = some k → B ≤ k
  bB : b < B
  sB : B ≤ w.heap.size
  lf : D.img.fields.length ≤ 9
  lx : D.img.exports.length ≤ 5
  li : V.P.length ≤ 5
  lm : V.M.length ≤ 9
  lc : ∀ m ∈ V.M, m.1.code.length ≤ 121
/-- blocks that bear no row of a draft -/
def Alien (B b : Nat) (w : World) (S : Nat → Prop) : Prop := ∀ k, S k → k ≠ b ∧ (B ≤ k → ∀ C e fr, w.heap[k]? = some (.cells C e fr) → e ≠ INT ∧ e ≠ IMP ∧ e ≠ MET ∧ e ≠ INS)
theorem Alien.no (B b : Nat) (w : World) : Alien B b w (fun _ => False) := fun k h => h.elim
section
variable {B b : Nat} {w w' : World} {D : DrM} {V : DrV} {S : Nat → Prop}
theorem Row.keepA {α : Type} {e : TypeId} {sz : Nat} {cl : α → List Value} {v : Value} {L : List α} (h : Row w e sz cl v L) (hu : Upd S w w') (hA : Alien B b w S) (hn : ∀ k, v.ownBlock = some k → B ≤ k) (he : e = INT ∨ e = IMP ∨ e = MET ∨ e = INS) : Row w' e sz cl v L :=
  h.upd hu (fun k hk hS => by
    obtain ⟨C, fr, hc⟩ := h.type hk
    obtain ⟨h1, h2, h3, h4⟩ := (hA k hS).2 (hn k hk) C e fr hc
    rcases he with he | he | he | he <;> simp_all)
theorem DrAt.keep (h : DrAt B w b D V) (hu : Upd S w w') (hA : Alien B b w S) : DrAt B w' b D V :=
  ⟨tBlk hu h.box (fun hb => (hA b hb).1 rfl), h.frow.keepA hu hA h.nf (.inl rfl), h.xrow.keepA hu hA h.nx (.inl rfl), h.irow.keepA hu hA h.ni (.inr (.inl rfl)), h.mrow.keepA hu hA h.nm (.inr (.inr (.inl rfl))), h.pI, h.mI,
    fun p hp => (h.prow p hp).keepA hu hA (h.nr _ (.inl ⟨p, hp, rfl⟩)) (.inl rfl),
    fun m hm => ⟨(h.qrow m hm).1.keepA hu hA (h.nr _ (.inr ⟨m, hm, .inl rfl⟩)) (.inl rfl), (h.qrow m hm).2.1.keepA hu hA (h.nr _ (.inr ⟨m, hm, .inr rfl⟩)) (.inl rfl), (h.qrow m hm).2.2.keepA hu hA (h.nc m hm) (.inr (.inr (.inr rfl)))⟩,
    h.apf, h.apx, h.afx, h.apc, h.nf, h.nx, h.ni, h.nm, h.nr, h.nc, h.bB, Nat.le_trans h.sB hu.size, h.lf, h.lx, h.li, h.lm, h.lc⟩
theorem DrAt.lt (h : DrAt B w b D V) : b < w.heap.size := (Array.getElem?_eq_some_iff.1 h.box).1
/-- nothing but the box has turned -/
theorem DrAt.onBox (h : DrAt B w b D V) (hu : Upd (fun k => k = b) w w') {C : Array Value} (hb : w'.heap[b]? = some (.cells C DT (0, 0))) {D' : DrM} (hc : C = #[.string D'.img.name, V.fv, V.iv, V.mv, V.xv, .int .i64 D'.pos])
    (hf : D'.img.fields = D.img.fields) (hx : D'.img.exports = D.img.exports) (hi : D'.img.imports = D.img.imports) (hm : D'.img.methods = D.img.methods) : DrAt B w' b D' V := by
  have hr : ∀ {α : Type} {e : TypeId} {sz : Nat} {cl : α → List Value} {v : Value} {L : List α}, Row w e sz cl v L → e ≠ DT → Row w' e sz cl v L := fun h1 he => h1.upd hu (fun k hk hkb => by
    obtain ⟨C2, fr, hc2⟩ := h1.type hk
    rw [hkb, h.box] at hc2
    simp at hc2
    exact he hc2.2.1.symm)
  exact ⟨by rw [hb, hc], by rw [hf]; exact hr h.frow (by decide), by rw [hx]; exact hr h.xrow (by decide), hr h.irow (by decide), hr h.mrow (by decide), by rw [hi]; exact h.pI, by rw [hm]; exact h.mI,
    fun p hp => hr (h.prow p hp) (by decide), fun m hm => ⟨hr (h.qrow m hm).1 (by decide), hr (h.qrow m hm).2.1 (by decide), hr (h.qrow m hm).2.2 (by decide)⟩,
    h.apf, h.apx, h.afx, h.apc, h.nf, h.nx, h.ni, h.nm, h.nr, h.nc, h.bB, Nat.le_trans h.sB hu.size, by rw [hf]; exact h.lf, by rw [hx]; exact h.lx, h.li, h.lm, h.lc⟩
def DrM.setName (D : DrM) (s : ByteArray) : DrM := ⟨⟨s, D.img.fields, D.img.imports, D.img.methods, D.img.exports⟩, D.pos⟩
def DrM.setPos (D : DrM) (t : Int) : DrM := ⟨D.img, t⟩
def DrM.setF (D : DrM) (L : List Int) : DrM := ⟨⟨D.img.name, L, D.img.imports, D.img.methods, D.img.exports⟩, D.pos⟩
def DrM.setX (D : DrM) (L : List Int) : DrM := ⟨⟨D.img.name, D.img.fields, D.img.imports, D.img.methods, L⟩, D.pos⟩
def DrM.setI (D : DrM) (L : List ImpM) : DrM := ⟨⟨D.img.name, D.img.fields, L, D.img.methods, D.img.exports⟩, D.pos⟩
def DrM.setM (D : DrM) (L : List MetM) : DrM := ⟨⟨D.img.name, D.img.fields, D.img.imports, L, D.img.exports⟩, D.pos⟩
theorem updBox (w : World) (b q : Nat) (u : Value) : Upd (fun k => k = b) w (w.setCell ⟨b, q, none⟩ u) := Upd.setCell (S := fun k => k = b) w (p := ⟨b, q, none⟩) (.inl rfl) u
theorem DrAt.name (h : DrAt B w b D V) (s : ByteArray) : DrAt B (w.setCell ⟨b, 0, none⟩ (.string s)) b (D.setName s) V :=
  h.onBox (updBox w b 0 _) (tPut h.box 0 _) rfl rfl rfl rfl rfl
theorem DrAt.goes (h : DrAt B w b D V) (t : Int) : DrAt B (w.setCell ⟨b, 5, none⟩ (.int .i64 t)) b (D.setPos t) V :=
  h.onBox (updBox w b 5 _) (tPut h.box 5 _) rfl rfl rfl rfl rfl
/-- the fields' row has grown, and the box tells of it -/
theorem DrAt.fields (h : DrAt B w b D V) {L : List Int} {v : Value} (hr : Row w' INT 1 intC v L) (hu : Upd (fun k => V.fv.ownBlock = some k) w w') (hf : Fresh w V.fv v) (hl : L.length ≤ 9) :
    DrAt B (w'.setCell ⟨b, 1, none⟩ v) b (D.setF L) ⟨v, V.iv, V.mv, V.xv, V.P, V.M⟩ := by
  have hbox : w'.heap[b]? = _ := tBlk hu h.box (fun hk => by have := h.nf b hk; have := h.bB; omega)
  have hnew : ∀ k, v.ownBlock = some k → B ≤ k := fun k hk => by
    rcases hf k hk with h1 | h1
    · exact h.nf k h1
    · have := h.sB; omega
  have hap : ∀ {z : Value}, (∀ k, z.ownBlock = some k → k < w.heap.size) → Ap z V.fv → Ap z v := fun hz ha k h1 h2 => by
    rcases hf k h2 with h3 | h3
    · exact ha k h1 h3
    · have := hz k h1; omega
  have hrow : ∀ {α : Type} {e : TypeId} {sz : Nat} {cl : α → List Value} {z : Value} {L : List α}, Row w e sz cl z L → Ap z V.fv → Row w' e sz cl z L := fun h1 ha => h1.upd hu ha
  have hro : ∀ z, V.ro z → ∀ k, z.ownBlock = some k → k < w.heap.size := fun z hz => by
    rcases hz with ⟨p, hp, rfl⟩ | ⟨m, hm, rfl | rfl⟩
    · exact (h.prow p hp).lt
    · exact (h.qrow m hm).1.lt
    · exact (h.qrow m hm).2.1.lt
  have h1 : DrAt B w' b (D.setF L) ⟨v, V.iv, V.mv, V.xv, V.P, V.M⟩ → True := fun _ => trivial
  have hb2 := updBox w' b 1 v
  have hset : ∀ {α : Type} {e : TypeId} {sz : Nat} {cl : α → List Value} {z : Value} {L : List α}, Row w' e sz cl z L → e ≠ DT → Row (w'.setCell ⟨b, 1, none⟩ v) e sz cl z L := fun h1 he => h1.upd hb2 (fun k hk hkb => by
    obtain ⟨C2, fr, hc2⟩ := h1.type hk
    rw [hkb, hbox] at hc2
    simp at hc2
    exact he hc2.2.1.symm)
  exact ⟨tPut hbox 1 v, hset hr (by decide), hset (hrow h.xrow h.afx.symm) (by decide), hset (hrow h.irow (h.irow.ne h.frow (by decide))) (by decide), hset (hrow h.mrow (h.mrow.ne h.frow (by decide))) (by decide), h.pI, h.mI,
    fun p hp => hset (hrow (h.prow p hp) (h.apf _ (.inl ⟨p, hp, rfl⟩))) (by decide),
    fun m hm => ⟨hset (hrow (h.qrow m hm).1 (h.apf _ (.inr ⟨m, hm, .inl rfl⟩))) (by decide), hset (hrow (h.qrow m hm).2.1 (h.apf _ (.inr ⟨m, hm, .inr rfl⟩))) (by decide), hset (hrow (h.qrow m hm).2.2 ((h.qrow m hm).2.2.ne h.frow (by decide))) (by decide)⟩,
    fun z hz => hap (hro z hz) (h.apf z hz), h.apx, (hap h.xrow.lt h.afx.symm).symm, h.apc, hnew, h.nx, h.ni, h.nm, h.nr, h.nc, h.bB, by have := hu.size; have := h.sB; have := hb2.size; omega, hl, h.lx, h.li, h.lm, h.lc⟩
end
end Go.Proofs.YtiadkidhfhkokaaDoor

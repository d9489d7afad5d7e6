/- Package room: an image's clone reads as the same image. -/
import Derived.Test.YtdmadfahgkikkaaGreatQyk
namespace Go.Proofs.YtdmadfahgkikkaaGreat
open Go.RowKit Go.Lib Go.ChangeShapes Go.WideShapes Go.Deep
set_option linter.unusedVariables false
set_option linter.unusedSimpArgs false

/-- numbers that lie in none of the blocks F, which are stored into -/
def IntsP (F : Nat → Prop) (w : World) (v : Value) (L : List Int) : Prop := Ints w v L ∧ (L.length = 0 ∨ ∀ b, v.ownBlock = some b → ¬ F b ∧ b < w.heap.size)
def InssP (F : Nat → Prop) (w : World) (v : Value) (L : List InsM) : Prop := Inss w v L ∧ (L.length = 0 ∨ ∀ b, v.ownBlock = some b → ¬ F b ∧ b < w.heap.size)
section
variable {F F' S : Nat → Prop} {w w' : World} {v : Value}
theorem IntsP.upd {L : List Int} (h : IntsP F w v L) (hu : Upd S w w') (hS : ∀ b, S b → b < w.heap.size → F b) : IntsP F w' v L := by
  refine ⟨⟨h.1.1.updQ hu ?_, h.1.2⟩, ?_⟩
  · rcases h.2 with h | h
    · exact .inl h
    · exact .inr (fun b hb hs => (h b hb).1 (hS b hs (h b hb).2))
  · rcases h.2 with h | h
    · exact .inl h
    · exact .inr (fun b hb => ⟨(h b hb).1, Nat.lt_of_lt_of_le (h b hb).2 hu.size⟩)
theorem InssP.upd {L : List InsM} (h : InssP F w v L) (hu : Upd S w w') (hS : ∀ b, S b → b < w.heap.size → F b) : InssP F w' v L := by
  refine ⟨⟨h.1.1.updQ hu ?_, h.1.2⟩, ?_⟩
  · rcases h.2 with h | h
    · exact .inl h
    · exact .inr (fun b hb hs => (h b hb).1 (hS b hs (h b hb).2))
  · rcases h.2 with h | h
    · exact .inl h
    · exact .inr (fun b hb => ⟨(h b hb).1, Nat.lt_of_lt_of_le (h b hb).2 hu.size⟩)
theorem IntsP.more {L : List Int} (h : IntsP F w v L) (hF : ∀ b, F' b → F b ∨ w.heap.size ≤ b) : IntsP F' w v L := by
  refine ⟨h.1, ?_⟩
  rcases h.2 with h | h
  · exact .inl h
  · exact .inr (fun b hb => ⟨fun hf => by rcases hF b hf with h1 | h1; exact (h b hb).1 h1; have := (h b hb).2; omega, (h b hb).2⟩)
theorem InssP.more {L : List InsM} (h : InssP F w v L) (hF : ∀ b, F' b → F b ∨ w.heap.size ≤ b) : InssP F' w v L := by
  refine ⟨h.1, ?_⟩
  rcases h.2 with h | h
  · exact .inl h
  · exact .inr (fun b hb => ⟨fun hf => by rcases hF b hf with h1 | h1; exact (h b hb).1 h1; have := (h b hb).2; omega, (h b hb).2⟩)
theorem Ints.toP {L : List Int} (h : Ints w v L) : IntsP (fun b => w.heap.size ≤ b) w v L := by
  refine ⟨h, ?_⟩
  rcases h.1.ltQ (by omega) with h | h
  · exact .inl h
  · exact .inr (fun b hb => ⟨by have := h b hb; omega, h b hb⟩)
theorem Inss.toP {L : List InsM} (h : Inss w v L) : InssP (fun b => w.heap.size ≤ b) w v L := by
  refine ⟨h, ?_⟩
  rcases h.1.ltQ (by omega) with h | h
  · exact .inl h
  · exact .inr (fun b hb => ⟨by have := h b hb; omega, h b hb⟩)
theorem Ints.cloP {L : List Int} (hw : ∀ n ∈ L, wi64 n) (h : Clo 3 1 w v L.length (cellsQ 1 L.length (intF L)) w') (hF : ∀ b, F b → b < w.heap.size) : IntsP F w' v L :=
  ⟨⟨Sl.cloQ h, hw⟩, .inr (fun b hb => ⟨fun hf => by have := h.2.2 b hb; have := hF b hf; omega, hpRowLt h.1 b hb⟩)⟩
theorem Inss.cloP {L : List InsM} (hw : ∀ x ∈ L, wi64 x.op ∧ wi64 x.a ∧ wi64 x.b) (h : Clo 30 3 w v L.length (cellsQ 3 L.length (insF L)) w') (hF : ∀ b, F b → b < w.heap.size) : InssP F w' v L :=
  ⟨⟨Sl.cloQ h, hw⟩, .inr (fun b hb => ⟨fun hf => by have := h.2.2 b hb; have := hF b hf; omega, hpRowLt h.1 b hb⟩)⟩
end
/-- of a block that is not older than B -/
def Newer (B : Nat) (v : Value) : Prop := ∀ b, v.ownBlock = some b → B ≤ b
theorem IntsP.low {F : Nat → Prop} {w : World} {v : Value} {L : List Int} {B : Nat} (h : IntsP F w v L) (hn : Newer B v) : IntsP (fun b => F b ∨ b < B) w v L := by
  refine ⟨h.1, ?_⟩
  rcases h.2 with h2 | h2
  · exact .inl h2
  · exact .inr (fun b hb => ⟨fun hf => by
      rcases hf with h3 | h3
      · exact (h2 b hb).1 h3
      · have := hn b hb; omega, (h2 b hb).2⟩)
theorem InssP.low {F : Nat → Prop} {w : World} {v : Value} {L : List InsM} {B : Nat} (h : InssP F w v L) (hn : Newer B v) : InssP (fun b => F b ∨ b < B) w v L := by
  refine ⟨h.1, ?_⟩
  rcases h.2 with h2 | h2
  · exact .inl h2
  · exact .inr (fun b hb => ⟨fun hf => by
      rcases hf with h3 | h3
      · exact (h2 b hb).1 h3
      · have := hn b hb; omega, (h2 b hb).2⟩)
/-- small enough to be cloned -/
def ImgS (I : ImgM) : Prop := I.fields.length ≤ 100000000 ∧ I.imports.length ≤ 100000000 ∧ I.methods.length ≤ 100000000 ∧ I.exports.length ≤ 100000000 ∧ (∀ x ∈ I.imports, x.params.length ≤ 100000000) ∧ ∀ x ∈ I.methods, x.params.length ≤ 100000000 ∧ x.locals.length ≤ 100000000 ∧ x.code.length ≤ 100000000
theorem rowAtA {w : World} {e : TypeId} {sz n k : Nat} {v : Value} {f : Nat → Nat → Value} (h : w.ownsRow 0 e sz v n (cellsQ sz n f)) (hk : k < n) (hsz : 0 < sz) : ∃ g c, v = .slice (some ⟨g, 0, none⟩) n c ∧ ∀ j, j < sz → w.cell? ⟨g, k * sz + j, none⟩ = some (f k j) ∧ w.frozen? ⟨g, k * sz + j, none⟩ = false := by
  obtain ⟨g, c, rfl, -, -⟩ := rowAt h hk hsz
  refine ⟨g, c, rfl, fun j hj => ?_⟩
  obtain ⟨g', c', he, h1, h2⟩ := rowAt h hk hj
  simp at he
  obtain ⟨rfl, rfl⟩ := he
  exact ⟨h1, h2⟩
/-- one method has new lists -/
theorem met_turn {w : World} {g c n : Nat} {L : List MetM} {p q r : Nat → Value} (h : w.ownsRow 0 55 4 (.slice (some ⟨g, 0, none⟩) n c) n (cellsQ 4 n (metF L p q r))) {k : Nat} (hk : k < n) (a b d : Value) :
    (((w.setCell ⟨g, k * 4, none⟩ a).setCell ⟨g, k * 4 + 2, none⟩ b).setCell ⟨g, k * 4 + 3, none⟩ d).ownsRow 0 55 4 (.slice (some ⟨g, 0, none⟩) n c) n (cellsQ 4 n (metF L (fun i => if i = k then a else p i) (fun i => if i = k then b else q i) (fun i => if i = k then d else r i))) := by
  have h1 := hpSet (hpSet (hpSet h (k * 4 + 0) a) (k * 4 + 2) b) (k * 4 + 3) d
  rw [cellsQ_set hk (by omega), cellsQ_set hk (by omega), cellsQ_set hk (by omega)] at h1
  refine Eq.mp (congrArg _ (cellsQ_congr ?_)) h1
  intro i hi j hj
  by_cases e : i = k
  · subst e
    rcases (by omega : j = 0 ∨ j = 1 ∨ j = 2 ∨ j = 3) with rfl | rfl | rfl | rfl <;> simp [metF]
  · simp [metF, e]
theorem Sl.rowQ {e : TypeId} {sz n : Nat} {w : World} {v : Value} {f : Nat → Nat → Value} (h : w.ownsRow 0 e sz v n (cellsQ sz n f)) : Sl w v sz n f := by
  refine (Sl.own h).congr (fun i hi j hj => ?_)
  rw [List.getD, cellsQ_at hi hj]
  rfl
/-- a value that reads as one image in all these worlds, its lists at the same places -/
def ImgAll (W : World → Prop) (v : Value) (I : ImgM) : Prop := ∃ f i m x, ∃ p mp mq mr : Nat → Value, v = img5 I.name f i m x ∧ ((∀ x ∈ I.imports, wi64 x.exp ∧ wi64 x.res ∧ x.name.size ≤ maxLen) ∧ (∀ x ∈ I.methods, wi64 x.res) ∧ I.name.size ≤ maxLen) ∧
  ∀ w, W w → Ints w f I.fields ∧ (Sl w i 4 I.imports.length (impF I.imports p) ∧ ∀ j, j < I.imports.length → Ints w (p j) (I.imports.getD j default).params) ∧ (Sl w m 4 I.methods.length (metF I.methods mp mq mr) ∧ ∀ j, j < I.methods.length → Ints w (mp j) (I.methods.getD j default).params ∧ Ints w (mq j) (I.methods.getD j default).locals ∧ Inss w (mr j) (I.methods.getD j default).code) ∧ Ints w x I.exports
theorem ImgAll.img {W : World → Prop} {v : Value} {I : ImgM} (h : ImgAll W v I) {w : World} (hw : W w) : Img w v I := by
  obtain ⟨f, i, m, x, p, mp, mq, mr, hv, ⟨h1, h2, h3⟩, h⟩ := h
  obtain ⟨k1, ⟨k2, k3⟩, ⟨k4, k5⟩, k6⟩ := h w hw
  exact ⟨f, i, m, x, hv, k1, ⟨p, k2, k3, h1⟩, ⟨mp, mq, mr, k4, k5, h2⟩, k6, h3⟩
theorem ImgAll.mono {W W' : World → Prop} {v : Value} {I : ImgM} (h : ImgAll W v I) (hW : ∀ w, W' w → W w) : ImgAll W' v I := by
  obtain ⟨f, i, m, x, p, mp, mq, mr, hv, hb, h⟩ := h
  exact ⟨f, i, m, x, p, mp, mq, mr, hv, hb, fun w hw => h w (hW w hw)⟩
theorem endQ {F : Nat → Prop} {B : Nat} {w wr w10 wf : World} {I : ImgM} {fv iv mv xv : Value} {p mp mq mr : Nat → Value} (hF : IntsP F wr fv I.fields)
    (hiR : wr.ownsRow 0 96 4 iv I.imports.length (cellsQ 4 I.imports.length (impF I.imports p))) (hiP : ∀ j, j < I.imports.length → IntsP F wr (p j) (I.imports.getD j default).params) (hib : ∀ x ∈ I.imports, wi64 x.exp ∧ wi64 x.res ∧ x.name.size ≤ maxLen)
    (hmR : wr.ownsRow 0 55 4 mv I.methods.length (cellsQ 4 I.methods.length (metF I.methods mp mq mr))) (hmP : ∀ j, j < I.methods.length → IntsP F wr (mp j) (I.methods.getD j default).params ∧ IntsP F wr (mq j) (I.methods.getD j default).locals ∧ InssP F wr (mr j) (I.methods.getD j default).code) (hmb : ∀ x ∈ I.methods, wi64 x.res)
    (hc : Clo 3 1 wr xv I.exports.length (cellsQ 1 I.exports.length (intF I.exports)) w10) (hxw : ∀ n ∈ I.exports, wi64 n) (hu : Upd (fun b => b = B ∨ b = B + 1) w10 wf) (hB0 : F B) (hB1 : F (B + 1)) (hBs : B + 1 < wr.heap.size) (hB : w.heap.size = B)
    (hin : ∀ b, iv.ownBlock = some b → B + 2 ≤ b) (hmn : ∀ b, mv.ownBlock = some b → B + 2 ≤ b) (huw : Upd (fun _ => False) w wr) (hs : I.name.size ≤ maxLen)
    (hnf : Newer B fv) (hni : ∀ j, j < I.imports.length → Newer B (p j)) (hnm : ∀ j, j < I.methods.length → Newer B (mp j) ∧ Newer B (mq j) ∧ Newer B (mr j)) :
    ∃ v', Ending.returned (img5 I.name fv iv mv xv) = .returned v' ∧ ImgAll (fun wg => Upd (fun b => b < w.heap.size) wf wg) v' I ∧ Upd (fun _ => False) w wf := by
  refine ⟨_, rfl, ⟨_, _, _, _, p, mp, mq, mr, rfl, ⟨hib, hmb, hs⟩, fun wg hg => ?_⟩, (huw.trans hc.2.1 (fun _ h _ => h)).trans hu (fun b hb hl => by omega)⟩
  have hv : Upd (fun b => b < B + 2) w10 wg := (hu.mono (T := fun b => b < B + 2) (fun b hb _ => by omega)).trans (hg.mono (T := fun b => b < B + 2) (fun b hb _ => by omega)) (fun b hb _ => hb)
  have hS : ∀ b, b < B + 2 → b < w10.heap.size → F b ∨ b < B := fun b hb _ => by
    by_cases h1 : b = B
    · subst h1; exact .inl hB0
    · by_cases h2 : b = B + 1
      · subst h2; exact .inl hB1
      · exact .inr (by omega)
  exact ⟨(((hF.low hnf).upd hc.2.1 (fun _ h => h.elim)).upd hv hS).1, ⟨Sl.rowQ (ownsRow_upd (ownsRow_upd hiR hc.2.1 (fun _ _ h => h)) hv (fun b hb h => by have := hin b hb; omega)), fun j hj => ((((hiP j hj).low (hni j hj)).upd hc.2.1 (fun _ h => h.elim)).upd hv hS).1⟩,
    ⟨Sl.rowQ (ownsRow_upd (ownsRow_upd hmR hc.2.1 (fun _ _ h => h)) hv (fun b hb h => by have := hmn b hb; omega)), fun j hj => ⟨((((hmP j hj).1.low (hnm j hj).1).upd hc.2.1 (fun _ h => h.elim)).upd hv hS).1, ((((hmP j hj).2.1.low (hnm j hj).2.1).upd hc.2.1 (fun _ h => h.elim)).upd hv hS).1, ((((hmP j hj).2.2.low (hnm j hj).2.2).upd hc.2.1 (fun _ h => h.elim)).upd hv hS).1⟩⟩,
    ((Ints.cloP (F := fun b => b < B + 2) hxw hc (fun b hb => by omega)).upd hv (fun b hb _ => hb)).1⟩
theorem turnM {F : Nat → Prop} {w8 wr wa wb wc : World} {g c k : Nat} {I : ImgM} {fv : Value} {p mp mq mr : Nat → Value} {qa qb qc : Value} {PL LL : List Int} {CL : List InsM}
    (hRM : wr.ownsRow 0 55 4 (.slice (some ⟨g, 0, none⟩) I.methods.length c) I.methods.length (cellsQ 4 I.methods.length (metF I.methods mp mq mr))) (hk : k < I.methods.length)
    (hMQ : ∀ j, j < I.methods.length → IntsP F wr (mp j) (I.methods.getD j default).params ∧ IntsP F wr (mq j) (I.methods.getD j default).locals ∧ InssP F wr (mr j) (I.methods.getD j default).code)
    (hPQ : ∀ j, j < I.imports.length → IntsP F wr (p j) (I.imports.getD j default).params) (hPF : IntsP F wr fv I.fields) (hUS : Upd (fun b => (Value.slice (some ⟨g, 0, none⟩) I.methods.length c).ownBlock = some b) w8 wr)
    (hF : ∀ b, F b → b < wr.heap.size) (hg : F g) (ePL : PL = (I.methods.getD k default).params) (eLL : LL = (I.methods.getD k default).locals) (eCL : CL = (I.methods.getD k default).code)
    (hw1 : ∀ n ∈ PL, wi64 n) (hw2 : ∀ n ∈ LL, wi64 n) (hw3 : ∀ x ∈ CL, wi64 x.op ∧ wi64 x.a ∧ wi64 x.b)
    (ha : Clo 3 1 wr.drew qa PL.length (cellsQ 1 PL.length (intF PL)) wa) (hb : Clo 3 1 wa qb LL.length (cellsQ 1 LL.length (intF LL)) wb) (hc : Clo 30 3 wb qc CL.length (cellsQ 3 CL.length (insF CL)) wc)
    {B : Nat} (hBw : B ≤ wr.heap.size) (hNW : ∀ j, j < k → Newer B (mp j) ∧ Newer B (mq j) ∧ Newer B (mr j))
    {W : World} (hW : W = ((wc.setCell ⟨g, k * 4, none⟩ qa).setCell ⟨g, k * 4 + 2, none⟩ qb).setCell ⟨g, k * 4 + 3, none⟩ qc) :
    ∃ mp mq mr, Hid (W.ownsRow 0 55 4 (.slice (some ⟨g, 0, none⟩) I.methods.length c) I.methods.length (cellsQ 4 I.methods.length (metF I.methods mp mq mr))) ∧ Hid (∀ j, j < I.methods.length → IntsP F W (mp j) (I.methods.getD j default).params ∧ IntsP F W (mq j) (I.methods.getD j default).locals ∧ InssP F W (mr j) (I.methods.getD j default).code) ∧ Hid (∀ j, j < I.imports.length → IntsP F W (p j) (I.imports.getD j default).params) ∧ Hid (IntsP F W fv I.fields) ∧ Hid (Upd (fun b => (Value.slice (some ⟨g, 0, none⟩) I.methods.length c).ownBlock = some b) w8 W) ∧ Hid (∀ j, j < k + 1 → Newer B (mp j) ∧ Newer B (mq j) ∧ Newer B (mr j)) := by
  subst hW
  have u0 := Upd.drew (fun _ => False) wr
  have ua := u0.trans ha.2.1 (fun _ h _ => h)
  have ub := ua.trans hb.2.1 (fun _ h _ => h)
  have uc := ub.trans hc.2.1 (fun _ h _ => h)
  have ubc := hb.2.1.trans hc.2.1 (fun _ h _ => h)
  have hst : Upd (fun b => b = g) wc (((wc.setCell ⟨g, k * 4, none⟩ qa).setCell ⟨g, k * 4 + 2, none⟩ qb).setCell ⟨g, k * 4 + 3, none⟩ qc) := hpS (hpS (hpS (Upd.refl _ _) rfl) rfl) rfl
  have hFg : ∀ b, b = g → b < wc.heap.size → F b := fun b h _ => by rw [h]; exact hg
  refine ⟨fun i => if i = k then qa else mp i, fun i => if i = k then qb else mq i, fun i => if i = k then qc else mr i, Lib.hid (met_turn (ownsRow_upd hRM uc (fun _ _ h => h)) hk qa qb qc), Lib.hid (fun j hj => ?_), Lib.hid (fun j hj => ((hPQ j hj).upd uc (fun _ h => h.elim)).upd hst hFg), Lib.hid ((hPF.upd uc (fun _ h => h.elim)).upd hst hFg),
    Lib.hid ((hUS.trans uc (fun _ h _ => h.elim)).trans (hst.mono (T := fun b => (Value.slice (some ⟨g, 0, none⟩) I.methods.length c).ownBlock = some b) (fun b hb _ => by rw [hb]; rfl)) (fun _ h _ => h)), Lib.hid (fun j hj => by
      have z1 := u0.size
      have z2 := ua.size
      have z3 := ub.size
      by_cases e : j = k
      · simp only [e, if_true]
        exact ⟨fun b h => by have := ha.2.2 b h; omega, fun b h => by have := hb.2.2 b h; omega, fun b h => by have := hc.2.2 b h; omega⟩
      · simp only [if_neg e]
        exact hNW j (by omega))⟩
  by_cases e : j = k
  · subst e
    simp only [if_true]
    rw [← ePL, ← eLL, ← eCL]
    exact ⟨((Ints.cloP (F := F) hw1 ha (fun b h => Nat.lt_of_lt_of_le (hF b h) u0.size)).upd ubc (fun _ h => h.elim)).upd hst hFg, ((Ints.cloP (F := F) hw2 hb (fun b h => Nat.lt_of_lt_of_le (hF b h) ua.size)).upd hc.2.1 (fun _ h => h.elim)).upd hst hFg, (Inss.cloP (F := F) hw3 hc (fun b h => Nat.lt_of_lt_of_le (hF b h) ub.size)).upd hst hFg⟩
  · simp only [if_neg e]
    obtain ⟨h1, h2, h3⟩ := hMQ j hj
    exact ⟨(h1.upd uc (fun _ h => h.elim)).upd hst hFg, (h2.upd uc (fun _ h => h.elim)).upd hst hFg, (h3.upd uc (fun _ h => h.elim)).upd hst hFg⟩
def FB (B : Nat) (g : Nat → Prop) (b : Nat) : Prop := b = B ∨ b = B + 1 ∨ g b
set_option maxRecDepth 100000 in
set_option maxHeartbeats 4000000 in
theorem rCloneImage (w : World) (v : Value) (I : ImgM) (h : Img w v I) (hS : ImgS I) : Calls Tryz.prog 30 #[v] w fun e w' => ∃ v', e = .returned v' ∧ ImgAll (fun wg => Upd (fun b => b < w.heap.size) w' wg) v' I ∧ Upd (fun _ => False) w w' := by
  obtain ⟨f, i, m, x, rfl, hf, hi, hm, hx, hs⟩ := h
  obtain ⟨s1, s2, s3, s4, s5, s6⟩ := hS
  obtain ⟨fa, fc, rfl, -, -⟩ := hf.slice
  obtain ⟨ia, ic, rfl, -, -⟩ := hi.slice
  obtain ⟨ma, mc, rfl, -, -⟩ := hm.slice
  obtain ⟨xa, xc, rfl, -, -⟩ := hx.slice
  obtain ⟨w1, hw1⟩ : ∃ w1, w1 = (w.alloc (.cells #[.string I.name, .slice fa I.fields.length fc, .slice ia I.imports.length ic, .slice ma I.methods.length mc, .slice xa I.exports.length xc] 59)).alloc (.cells #[.string { data := #[] }, .slice none 0 0, .slice none 0 0, .slice none 0 0, .slice none 0 0] 59) := ⟨_, rfl⟩
  have hu1 : Upd (fun _ => False) w w1 := by rw [hw1]; exact (Upd.alloc _ _ _).trans (Upd.alloc _ _ _) (fun _ h _ => h)
  have hq1 : w1.heap[w.heap.size]? = some (.cells #[.string I.name, .slice fa I.fields.length fc, .slice ia I.imports.length ic, .slice ma I.methods.length mc, .slice xa I.exports.length xc] 59 (0, 0)) := by
    rw [hw1]; exact hpBlk (S := fun _ => False) (Upd.alloc _ _ _) (hpTop w _ _ rfl) (fun h => h)
  have hr1 : w1.heap[w.heap.size + 1]? = some (.cells #[.string { data := #[] }, .slice none 0 0, .slice none 0 0, .slice none 0 0, .slice none 0 0] 59 (0, 0)) := by
    rw [hw1]; exact hpTop _ _ _ (by simp)
  have hz1 : w1.heap.size = w.heap.size + 2 := by rw [hw1]; simp
  obtain ⟨B, hB⟩ : ∃ B, B = w.heap.size := ⟨_, rfl⟩
  have HF := Lib.hid hf
  have HI := Lib.hid hi
  have HM := Lib.hid hm
  have HX := Lib.hid hx
  have HU1 := Lib.hid hu1
  have HQ1 := Lib.hid hq1
  have HR1 := Lib.hid hr1
  have HZ1 := Lib.hid hz1
  have HW1 := Lib.hid hw1
  have HC1 := Lib.hid (clInts w1 (.slice fa I.fields.length fc) I.fields.length (intF I.fields) (hf.1.updQ hu1 (.inr (fun _ _ h => h))) (fun _ _ _ _ => rfl) s1)
  clear hf hi hm hx hu1 hq1 hr1 hz1 hw1 hB
  go_enter Tryz.func30, Tryz.ntmps30
  go_wp2_with fail
  rw [← HW1.out]
  refine HC1.out.mono ?_
  rintro e w2 ⟨f', rfl, hc2⟩
  obtain ⟨fa', fc', rfl⟩ := ownsRow_slice hc2.1
  have HP2 : Hid (IntsP (fun b => b = w.heap.size ∨ b = w.heap.size + 1) w2 (.slice fa' I.fields.length fc') I.fields) := Lib.hid (Ints.cloP HF.out.2 hc2 (fun b hb => by rw [HZ1.out]; omega))
  have HNF : Hid (Newer w.heap.size (.slice fa' I.fields.length fc')) := Lib.hid (fun b hb => by have := hc2.2.2 b hb; have := HZ1.out; omega)
  have hq2 := hpBlk hc2.2.1 HQ1.out (fun h => h)
  have hr2 := hpBlk hc2.2.1 HR1.out (fun h => h)
  obtain ⟨b0, b1, b2, b3, b4, bf⟩ := five hq2
  have f1 := bf 1
  obtain ⟨w3, hw3⟩ : ∃ w3, w3 = w2.setCell ⟨w.heap.size, 1, none⟩ (.slice fa' I.fields.length fc') := ⟨_, rfl⟩
  have hu3 : Upd (fun b => b = w.heap.size) w2 w3 := by rw [hw3]; exact hpS (Upd.refl _ _) rfl
  have hq3 : w3.heap[w.heap.size]? = some (.cells #[.string I.name, .slice fa' I.fields.length fc', .slice ia I.imports.length ic, .slice ma I.methods.length mc, .slice xa I.exports.length xc] 59 (0, 0)) := by rw [hw3]; simp [World.setCell, Array.getElem?_modify, hq2]
  have HU3 : Hid (Upd (fun _ => False) w w3) := Lib.hid ((HU1.out.trans hc2.2.1 (fun _ h _ => h)).trans hu3 (fun b hb hl => by omega))
  have HP3 := Lib.hid (HP2.out.upd hu3 (fun b hb _ => .inl hb))
  have HQ3 := Lib.hid hq3
  have HR3 := Lib.hid (hpBlk hu3 hr2 (by omega))
  have HZ3 : Hid (w.heap.size + 2 ≤ w3.heap.size) := Lib.hid (by have := hc2.2.1.size; have := hu3.size; have := HZ1.out; omega)
  have HW3 := Lib.hid hw3
  clear hc2 hq2 hr2 hu3 hq3 hw3 bf HC1
  go_wp2_with fail
  rw [← HW3.out]
  clear b0 b1 b2 b3 b4 f1
  obtain ⟨p, hpsl, hpin, hpb⟩ := HI.out
  have HPB := Lib.hid hpb
  have HC4 := Lib.hid (clImps w3 (.slice ia I.imports.length ic) I.imports.length (impF I.imports p) (hpsl.updQ HU3.out (.inr (fun _ _ h => h))) (impF_one _ _ (fun j hj => (hpin j hj).oneQ)) s2)
  have hpP : ∀ j, j < I.imports.length → IntsP (fun b => w.heap.size ≤ b) w (p j) (I.imports.getD j default).params := fun j hj => (hpin j hj).toP
  have HPP := Lib.hid hpP
  clear hpsl hpin hpb hpP
  refine HC4.out.mono ?_
  rintro e w4 ⟨i', rfl, hc4⟩
  obtain ⟨ia', ic', rfl⟩ := ownsRow_slice hc4.1
  have hq4 := hpBlk hc4.2.1 HQ3.out (fun h => h)
  have hr4 := hpBlk hc4.2.1 HR3.out (fun h => h)
  obtain ⟨b0, b1, b2, b3, b4, bf⟩ := five hq4
  have f2 := bf 2
  obtain ⟨w5, hw5⟩ : ∃ w5, w5 = w4.setCell ⟨w.heap.size, 2, none⟩ (.slice ia' I.imports.length ic') := ⟨_, rfl⟩
  have hu5 : Upd (fun b => b = w.heap.size) w4 w5 := by rw [hw5]; exact hpS (Upd.refl _ _) rfl
  have hq5 : w5.heap[w.heap.size]? = some (.cells #[.string I.name, .slice fa' I.fields.length fc', .slice ia' I.imports.length ic', .slice ma I.methods.length mc, .slice xa I.exports.length xc] 59 (0, 0)) := by rw [hw5]; simp [World.setCell, Array.getElem?_modify, hq4]
  have hnb4 : ∀ b, (Value.slice ia' I.imports.length ic').ownBlock = some b → w3.heap.size ≤ b ∧ b < w5.heap.size := fun b hb => ⟨hc4.2.2 b hb, Nat.lt_of_lt_of_le (hpRowLt hc4.1 b hb) hu5.size⟩
  have HNB4 := Lib.hid hnb4
  have HU5 : Hid (Upd (fun _ => False) w w5) := Lib.hid ((HU3.out.trans hc4.2.1 (fun _ h _ => h)).trans hu5 (fun b hb hl => by omega))
  obtain ⟨F1, hF1⟩ : ∃ F1 : Nat → Prop, F1 = fun b => b = w.heap.size ∨ b = w.heap.size + 1 ∨ (Value.slice ia' I.imports.length ic').ownBlock = some b := ⟨_, rfl⟩
  have HFD := Lib.hid hF1
  have HP5 : Hid (IntsP F1 w5 (.slice fa' I.fields.length fc') I.fields) := Lib.hid (((HP3.out.more (F' := F1) (fun b hb => by
    rw [hF1] at hb
    rcases hb with h | h | h
    · exact .inl (.inl h)
    · exact .inl (.inr h)
    · exact .inr (hnb4 b h).1)).upd hc4.2.1 (fun _ h => h.elim)).upd hu5 (fun b hb _ => by rw [hF1]; exact .inl hb))
  have HPP5 : Hid (∀ j, j < I.imports.length → IntsP F1 w5 (p j) (I.imports.getD j default).params) := Lib.hid (fun j hj => ((HPP.out j hj).upd HU5.out (fun _ h => h.elim)).more (fun b hb => by
    rw [hF1] at hb
    have h3 := HU3.out.size
    rcases hb with h | h | h
    · exact .inl (by omega)
    · exact .inl (by omega)
    · exact .inl (by have := (hnb4 b h).1; omega)))
  have HRO5 : Hid (w5.ownsRow 0 96 4 (.slice ia' I.imports.length ic') I.imports.length (cellsQ 4 I.imports.length (impF I.imports p))) := Lib.hid (ownsRow_upd hc4.1 hu5 (fun b hb hb' => by have := (hnb4 b hb).1; have := HZ3.out; omega))
  have h35 : w3.heap.size ≤ w5.heap.size := Nat.le_trans hc4.2.1.size hu5.size
  have H35 := Lib.hid h35
  have HQ5 := Lib.hid hq5
  have HR5 := Lib.hid (hpBlk hu5 hr4 (by omega))
  have HW5 := Lib.hid hw5
  have hi2 : I.imports.length ≤ 9223372036854775807 := by omega
  clear h35 hc4 hq4 hr4 hu5 hq5 hw5 bf HC4 hF1 hnb4 HP3 HPP HQ3 HR3 HP2
  go_wp2_with fail
  rw [← HW5.out]
  clear b0 b1 b2 b3 b4 f2
  obtain ⟨c0, c1, c2, c3, c4, -⟩ := five HQ5.out
  go_wp2_with fail
  have HUA := Lib.hid (Upd.refl (fun b => (Value.slice ia' I.imports.length ic').ownBlock = some b) w5)
  go_loopw [18, 3, 4] (fun t _ _ wr => ∃ k p, k ≤ I.imports.length ∧ t = .int .i64 (k : Nat) ∧ Hid (wr.ownsRow 0 96 4 (.slice ia' I.imports.length ic') I.imports.length (cellsQ 4 I.imports.length (impF I.imports p))) ∧ Hid (∀ j, j < I.imports.length → IntsP F1 wr (p j) (I.imports.getD j default).params) ∧ Hid (IntsP F1 wr (.slice fa' I.fields.length fc') I.fields) ∧ Hid (Upd (fun b => (Value.slice ia' I.imports.length ic').ownBlock = some b) w5 wr) ∧ Hid (∀ j, j < k → Newer w.heap.size (p j))) (fun t _ _ _ => I.imports.length - (intOf t).toNat)
  case atStart => exact ⟨0, p, Nat.zero_le _, rfl, HRO5, HPP5, HP5, HUA, Lib.hid (fun j hj => absurd hj (Nat.not_lt_zero _))⟩
  case round =>
    obtain ⟨k, p, hk, rfl, HRO, HPQ, HPF, HUR, HNI⟩ := hrel
    have hqr := hpBlk HUR.out HQ5.out (fun h => by have := (HNB4.out _ h).1; have := HZ3.out; omega)
    obtain ⟨c0, c1, c2, c3, c4, -⟩ := five hqr
    have HQR := Lib.hid hqr
    by_cases hlt : k < I.imports.length
    · obtain ⟨g, cc, he, hc, hfz⟩ := rowAt HRO.out hlt (show 2 < 4 by omega)
      simp at he
      obtain ⟨rfl, rfl⟩ := he
      have hpk := HPQ.out k hlt
      have hln : (I.imports.getD k default).params.length ≤ 100000000 := s5 _ (by simp [List.getD, hlt])
      obtain ⟨PL, hPL⟩ : ∃ PL, PL = (I.imports.getD k default).params := ⟨_, rfl⟩
      rw [← hPL] at hpk hln
      have HPL := Lib.hid hPL
      clear hPL
      obtain ⟨ka, kc, hke, -, -⟩ := hpk.1.slice
      have hc' : wr.cell? ⟨g, k * 4 + 2, none⟩ = some (.slice ka PL.length kc) := by rw [hc]; simp [impF, hke]
      have HCK := Lib.hid (clInts wr (p k) PL.length (intF PL) hpk.1.1 (fun _ _ _ _ => rfl) hln)
      rw [hke] at HCK
      have HWF := Lib.hid hpk.1.2
      have hgl : g < wr.heap.size := hpRowLt HRO.out g rfl
      have hk0 : (0 : Int) ≤ (k : Int) := Int.natCast_nonneg _
      have hk1 : (k : Int) < (I.imports.length : Int) := by omega
      have HHL := Lib.hid hlt
      clear hc hpk hke hqr
      go_wp2_with fail
      refine HCK.out.mono ?_
      rintro e w6 ⟨q, rfl, hcq⟩
      obtain ⟨qa, qc, rfl⟩ := ownsRow_slice hcq.1
      have HCQ := Lib.hid hcq
      have hx6 : w6.cell? ⟨g, k * 4 + 2, none⟩ = some (.slice ka PL.length kc) := (hcq.2.1.cell (p := ⟨g, k * 4 + 2, none⟩) hgl (fun h => h)).trans hc'
      have hf6 : w6.frozen? ⟨g, k * 4 + 2, none⟩ = false := (hcq.2.1.frozen (p := ⟨g, k * 4 + 2, none⟩) hgl (fun h => h)).trans hfz
      clear hcq hc' hfz c0 c1 c2 c3 c4 HCK
      go_wp2_with fail
      go_roundw
      case rel =>
        have hq := HCQ.out
        have hst : Upd (fun b => b = g) w6 (w6.setCell ⟨g, k * 4 + 2, none⟩ (.slice qa PL.length qc)) := hpS (Upd.refl _ _) rfl
        have hF1g : F1 g := by rw [HFD.out]; exact .inr (.inr rfl)
        refine ⟨k + 1, fun i => if i = k then .slice qa PL.length qc else p i, by omega, by go_num, Lib.hid (imp_turn (ownsRow_upd HRO.out hq.2.1 (fun _ _ h => h)) hlt _), Lib.hid (fun j hj => ?_), Lib.hid ((HPF.out.upd hq.2.1 (fun _ h => h.elim)).upd hst (fun b hb _ => by rw [hb]; exact hF1g)), Lib.hid ((HUR.out.trans hq.2.1 (fun _ h => h.elim)).trans (hst.mono (T := fun b => (Value.slice (some ⟨g, 0, none⟩) I.imports.length ic').ownBlock = some b) (fun b hb _ => by rw [hb]; rfl)) (fun _ h _ => h)), Lib.hid (fun j hj => ?_)⟩
        rotate_left
        · by_cases e : j = k
          · simp only [e, if_true]
            intro b h
            have z1 := hq.2.2 b h
            have z2 := HUR.out.size
            have z3 := HZ3.out
            have z4 := H35.out
            omega
          · simp only [if_neg e]
            exact HNI.out j (by omega)
        by_cases e : j = k
        · subst e
          simp only [if_true]
          rw [← HPL.out]
          refine (Ints.cloP (F := F1) HWF.out hq (fun b hb => ?_)).upd hst (fun b hb _ => by rw [hb]; exact hF1g)
          rw [HFD.out] at hb
          have h3 := HUR.out.size
          have h4 := HZ3.out
          have h5 := H35.out
          rcases hb with h | h | h
          · omega
          · omega
          · have := (HNB4.out b h).2; omega
        · simp only [if_neg e]
          exact ((HPQ.out j hj).upd hq.2.1 (fun _ h => h.elim)).upd hst (fun b hb _ => by rw [hb]; exact hF1g)
      case measure => simp [intOf]; omega
    · have hke : k = I.imports.length := by omega
      subst hke
      have hUW : Upd (fun _ => False) w wr := HU5.out.trans HUR.out (fun b hb hl => by have := (HNB4.out b hb).1; have := HZ3.out; omega)
      have HUW := Lib.hid hUW
      obtain ⟨mp, mq, mr, hmsl, hmin, hmb⟩ := HM.out
      have HMB := Lib.hid hmb
      have HC6 := Lib.hid (clMets wr (.slice ma I.methods.length mc) I.methods.length (metF I.methods mp mq mr) (hmsl.updQ hUW (.inr (fun _ _ h => h))) (metF_one _ _ _ _ (fun j hj => ⟨(hmin j hj).1.oneQ, (hmin j hj).2.1.oneQ, (hmin j hj).2.2.oneQ⟩)) s3)
      have HMP : Hid (∀ j, j < I.methods.length → IntsP (fun b => w.heap.size ≤ b) w (mp j) (I.methods.getD j default).params ∧ IntsP (fun b => w.heap.size ≤ b) w (mq j) (I.methods.getD j default).locals ∧ InssP (fun b => w.heap.size ≤ b) w (mr j) (I.methods.getD j default).code) := Lib.hid (fun j hj => ⟨(hmin j hj).1.toP, (hmin j hj).2.1.toP, (hmin j hj).2.2.toP⟩)
      have HRR := Lib.hid (hpBlk HUR.out HR5.out (fun h => by have := (HNB4.out _ h).1; have := HZ3.out; omega))
      have hi3 : ¬ (I.imports.length : Int) < (I.imports.length : Int) := by omega
      clear hmsl hmin hmb hUW
      go_wp2_with fail
      refine HC6.out.mono ?_
      rintro e w7 ⟨m', rfl, hc7⟩
      obtain ⟨ma', mc', rfl⟩ := ownsRow_slice hc7.1
      have hq7 := hpBlk hc7.2.1 HQR.out (fun h => h)
      have hr7 := hpBlk hc7.2.1 HRR.out (fun h => h)
      obtain ⟨b0, b1, b2, b3, b4, bf⟩ := five hq7
      have f3 := bf 3
      obtain ⟨w8, hw8⟩ : ∃ w8, w8 = w7.setCell ⟨w.heap.size, 3, none⟩ (.slice ma' I.methods.length mc') := ⟨_, rfl⟩
      have hu8 : Upd (fun b => b = w.heap.size) w7 w8 := by rw [hw8]; exact hpS (Upd.refl _ _) rfl
      have hq8 : w8.heap[w.heap.size]? = some (.cells #[.string I.name, .slice fa' I.fields.length fc', .slice ia' I.imports.length ic', .slice ma' I.methods.length mc', .slice xa I.exports.length xc] 59 (0, 0)) := by rw [hw8]; simp [World.setCell, Array.getElem?_modify, hq7]
      have hnb7 : ∀ b, (Value.slice ma' I.methods.length mc').ownBlock = some b → wr.heap.size ≤ b ∧ b < w8.heap.size := fun b hb => ⟨hc7.2.2 b hb, Nat.lt_of_lt_of_le (hpRowLt hc7.1 b hb) hu8.size⟩
      have HNB7 := Lib.hid hnb7
      have HU8 : Hid (Upd (fun _ => False) w w8) := Lib.hid ((HUW.out.trans hc7.2.1 (fun _ h _ => h)).trans hu8 (fun b hb hl => by omega))
      obtain ⟨F2, hF2⟩ : ∃ F2 : Nat → Prop, F2 = fun b => F1 b ∨ (Value.slice ma' I.methods.length mc').ownBlock = some b := ⟨_, rfl⟩
      have HFE := Lib.hid hF2
      have hBF : F1 w.heap.size := by rw [HFD.out]; exact .inl rfl
      have HP8 : Hid (IntsP F2 w8 (.slice fa' I.fields.length fc') I.fields) := Lib.hid (((HPF.out.more (F' := F2) (fun b hb => by
        rw [hF2] at hb
        exact hb.imp id (fun h => (hnb7 b h).1))).upd hc7.2.1 (fun _ h => h.elim)).upd hu8 (fun b hb _ => by rw [hF2, hb]; exact .inl hBF))
      have HPP8 : Hid (∀ j, j < I.imports.length → IntsP F2 w8 (p j) (I.imports.getD j default).params) := Lib.hid (fun j hj => (((HPQ.out j hj).more (F' := F2) (fun b hb => by
        rw [hF2] at hb
        exact hb.imp id (fun h => (hnb7 b h).1))).upd hc7.2.1 (fun _ h => h.elim)).upd hu8 (fun b hb _ => by rw [hF2, hb]; exact .inl hBF))
      have h5r := HUR.out.size
      have HRO8 : Hid (w8.ownsRow 0 96 4 (.slice ia' I.imports.length ic') I.imports.length (cellsQ 4 I.imports.length (impF I.imports p))) := Lib.hid (ownsRow_upd (ownsRow_upd HRO.out hc7.2.1 (fun _ _ h => h)) hu8 (fun b hb hb' => by have := (HNB4.out b hb).1; have := HZ3.out; omega))
      have HRM8 : Hid (w8.ownsRow 0 55 4 (.slice ma' I.methods.length mc') I.methods.length (cellsQ 4 I.methods.length (metF I.methods mp mq mr))) := Lib.hid (ownsRow_upd hc7.1 hu8 (fun b hb hb' => by have := (hnb7 b hb).1; have := HUW.out.size; have := HZ3.out; have := H35.out; omega))
      have HMP8 : Hid (∀ j, j < I.methods.length → IntsP F2 w8 (mp j) (I.methods.getD j default).params ∧ IntsP F2 w8 (mq j) (I.methods.getD j default).locals ∧ InssP F2 w8 (mr j) (I.methods.getD j default).code) := Lib.hid (fun j hj => by
        have hm : ∀ b, F2 b → w.heap.size ≤ b ∨ w8.heap.size ≤ b := fun b hb => by
          rw [hF2] at hb
          have hz := HU3.out.size
          have hz' := HUW.out.size
          rcases hb with h | h
          · rw [HFD.out] at h
            rcases h with h | h | h
            · omega
            · omega
            · have := (HNB4.out b h).1; omega
          · have := (hnb7 b h).1; omega
        obtain ⟨h1, h2, h3⟩ := HMP.out j hj
        exact ⟨(h1.upd HU8.out (fun _ h => h.elim)).more hm, (h2.upd HU8.out (fun _ h => h.elim)).more hm, (h3.upd HU8.out (fun _ h => h.elim)).more hm⟩)
      have h8r : wr.heap.size ≤ w8.heap.size := Nat.le_trans hc7.2.1.size hu8.size
      have HQ8 := Lib.hid hq8
      have HR8 := Lib.hid (hpBlk hu8 hr7 (by omega))
      have HW8 := Lib.hid hw8
      have hi4 : I.methods.length ≤ 9223372036854775807 := by omega
      clear hc7 hq7 hr7 hu8 hq8 hw8 bf HC6 hF2 hnb7 HPF HPQ HQR HRR HRO HMP c0 c1 c2 c3 c4
      go_wp2_with fail
      rw [← HW8.out]
      clear b0 b1 b2 b3 b4 f3
      obtain ⟨c0, c1, c2, c3, c4, -⟩ := five HQ8.out
      go_wp2_with fail
      have HUB := Lib.hid (Upd.refl (fun b => (Value.slice ma' I.methods.length mc').ownBlock = some b) w8)
      go_loopw [41, 5, 6] (fun t _ _ wr => ∃ k mp mq mr, k ≤ I.methods.length ∧ t = .int .i64 (k : Nat) ∧ Hid (wr.ownsRow 0 55 4 (.slice ma' I.methods.length mc') I.methods.length (cellsQ 4 I.methods.length (metF I.methods mp mq mr))) ∧ Hid (∀ j, j < I.methods.length → IntsP F2 wr (mp j) (I.methods.getD j default).params ∧ IntsP F2 wr (mq j) (I.methods.getD j default).locals ∧ InssP F2 wr (mr j) (I.methods.getD j default).code) ∧ Hid (∀ j, j < I.imports.length → IntsP F2 wr (p j) (I.imports.getD j default).params) ∧ Hid (IntsP F2 wr (.slice fa' I.fields.length fc') I.fields) ∧ Hid (Upd (fun b => (Value.slice ma' I.methods.length mc').ownBlock = some b) w8 wr) ∧ Hid (∀ j, j < k → Newer w.heap.size (mp j) ∧ Newer w.heap.size (mq j) ∧ Newer w.heap.size (mr j))) (fun t _ _ _ => I.methods.length - (intOf t).toNat)
      case atStart => exact ⟨0, mp, mq, mr, Nat.zero_le _, rfl, HRM8, HMP8, HPP8, HP8, HUB, Lib.hid (fun j hj => absurd hj (Nat.not_lt_zero _))⟩
      case round =>
        obtain ⟨k, mp, mq, mr, hk, rfl, HRM, HMQ, HPQ, HPF, HUS, HNM⟩ := hrel
        have HBW : Hid (w.heap.size ≤ wr.heap.size) := Lib.hid (Nat.le_trans HU8.out.size HUS.out.size)
        have hne8 : ¬ (Value.slice ma' I.methods.length mc').ownBlock = some w.heap.size := fun h => by have := (HNB7.out _ h).1; have := HUW.out.size; have := HZ3.out; have := H35.out; omega
        have hne9 : ¬ (Value.slice ma' I.methods.length mc').ownBlock = some (w.heap.size + 1) := fun h => by have := (HNB7.out _ h).1; have := HUW.out.size; have := HZ3.out; have := H35.out; omega
        have hqr := hpBlk HUS.out HQ8.out hne8
        obtain ⟨c0, c1, c2, c3, c4, -⟩ := five hqr
        have HQR := Lib.hid hqr
        by_cases hlt : k < I.methods.length
        · have hk0 : (0 : Int) ≤ (k : Int) := Int.natCast_nonneg _
          have hk1 : (k : Int) < (I.methods.length : Int) := by omega
          obtain ⟨g, gc, he, hrow⟩ := rowAtA HRM.out hlt (show 0 < 4 by omega)
          simp at he
          obtain ⟨rfl, rfl⟩ := he
          obtain ⟨hp1, hp2, hp3⟩ := HMQ.out k hlt
          have hmem : I.methods.getD k default ∈ I.methods := by simp [List.getD, hlt]
          obtain ⟨hl1, hl2, hl3⟩ := s6 _ hmem
          obtain ⟨PL, hPL⟩ : ∃ PL, PL = (I.methods.getD k default).params := ⟨_, rfl⟩
          obtain ⟨LL, hLL⟩ : ∃ LL, LL = (I.methods.getD k default).locals := ⟨_, rfl⟩
          obtain ⟨CL, hCL⟩ : ∃ CL, CL = (I.methods.getD k default).code := ⟨_, rfl⟩
          rw [← hPL] at hp1 hl1
          rw [← hLL] at hp2 hl2
          rw [← hCL] at hp3 hl3
          have HPL := Lib.hid hPL
          have HLL := Lib.hid hLL
          have HCL := Lib.hid hCL
          clear hPL hLL hCL
          obtain ⟨ka, kc, hke1, -, -⟩ := hp1.1.slice
          obtain ⟨la, lc, hke2, -, -⟩ := hp2.1.slice
          obtain ⟨ca, cc, hke3, -, -⟩ := hp3.1.slice
          have HCE : Hid (∀ w', Upd (fun _ => False) wr w' → w'.cell? ⟨g, k * 4, none⟩ = some (.slice ka PL.length kc) ∧ w'.cell? ⟨g, k * 4 + 2, none⟩ = some (.slice la LL.length lc) ∧ w'.cell? ⟨g, k * 4 + 3, none⟩ = some (.slice ca CL.length cc) ∧ w'.frozen? ⟨g, k * 4, none⟩ = false ∧ w'.frozen? ⟨g, k * 4 + 2, none⟩ = false ∧ w'.frozen? ⟨g, k * 4 + 3, none⟩ = false) := Lib.hid (fun w' hu => by
            have hgl : g < wr.heap.size := hpRowLt HRM.out g rfl
            have hr0 := hrow 0 (by omega)
            have hr2 := hrow 2 (by omega)
            have hr3 := hrow 3 (by omega)
            refine ⟨(hu.cell (p := ⟨g, k * 4, none⟩) hgl (fun h => h)).trans (hr0.1.trans (by simp [metF, hke1])), (hu.cell (p := ⟨g, k * 4 + 2, none⟩) hgl (fun h => h)).trans (hr2.1.trans (by simp [metF, hke2])), (hu.cell (p := ⟨g, k * 4 + 3, none⟩) hgl (fun h => h)).trans (hr3.1.trans (by simp [metF, hke3])), (hu.frozen (p := ⟨g, k * 4, none⟩) hgl (fun h => h)).trans hr0.2, (hu.frozen (p := ⟨g, k * 4 + 2, none⟩) hgl (fun h => h)).trans hr2.2, (hu.frozen (p := ⟨g, k * 4 + 3, none⟩) hgl (fun h => h)).trans hr3.2⟩)
          have HK1 := Lib.hid (fun w' (hu : Upd (fun _ => False) wr w') => hke1 ▸ clInts w' (mp k) PL.length (intF PL) (hp1.1.1.updQ hu (.inr (fun _ _ h => h))) (fun _ _ _ _ => rfl) hl1)
          have HK2 := Lib.hid (fun w' (hu : Upd (fun _ => False) wr w') => hke2 ▸ clInts w' (mq k) LL.length (intF LL) (hp2.1.1.updQ hu (.inr (fun _ _ h => h))) (fun _ _ _ _ => rfl) hl2)
          have HK3 := Lib.hid (fun w' (hu : Upd (fun _ => False) wr w') => hke3 ▸ clInss w' (mr k) CL.length (insF CL) (hp3.1.1.updQ hu (.inr (fun _ _ h => h))) (fun _ _ _ _ => rfl) hl3)
          have HWF1 := Lib.hid hp1.1.2
          have HWF2 := Lib.hid hp2.1.2
          have HWF3 := Lib.hid hp3.1.2
          have HHL := Lib.hid hlt
          obtain ⟨y0, y2, y3, -⟩ := HCE.out wr (Upd.refl _ _)
          clear hrow hp1 hp2 hp3 hke1 hke2 hke3 hqr hmem
          have HFG : Hid (F2 g) := Lib.hid (by rw [HFE.out]; exact .inr rfl)
          have HFB : Hid (∀ b, F2 b → b < wr.heap.size) := Lib.hid (fun b hb => by
            rw [HFE.out] at hb
            have z1 := HUS.out.size
            rcases hb with h | h
            · rw [HFD.out] at h
              have z2 := HZ3.out
              have z3 := H35.out
              rcases h with h | h | h
              · omega
              · omega
              · have := (HNB4.out b h).2; omega
            · have := (HNB7.out b h).2; omega)
          go_wp2_with fail
          go_region_law ((first
            | (go_simp; (refine (HK1.out _ (Upd.drew _ wr)).mono ?_); rintro e wa ⟨qa, rfl, hqa⟩; obtain ⟨na, nc, rfl⟩ := ownsRow_slice hqa.1; have HQA := Lib.hid hqa; have HUA := Lib.hid ((Upd.drew (fun _ => False) wr).trans hqa.2.1 (fun _ h _ => h)); obtain ⟨ya0, ya2, ya3, -⟩ := HCE.out wa HUA.out; clear hqa)
            | (go_simp; (refine (HK2.out wa HUA.out).mono ?_); rintro e wb ⟨qb, rfl, hqb⟩; obtain ⟨ma, mc, rfl⟩ := ownsRow_slice hqb.1; have HQB := Lib.hid hqb; have HUB := Lib.hid (HUA.out.trans hqb.2.1 (fun _ h _ => h)); obtain ⟨yb0, yb2, yb3, -⟩ := HCE.out wb HUB.out; clear hqb)
            | (go_simp; (refine (HK3.out wb HUB.out).mono ?_); rintro e wc ⟨qc, rfl, hqc⟩; obtain ⟨oa, oc, rfl⟩ := ownsRow_slice hqc.1; have HQC := Lib.hid hqc; have HUC := Lib.hid (HUB.out.trans hqc.2.1 (fun _ h _ => h)); obtain ⟨yc0, yc2, yc3, zc0, zc2, zc3⟩ := HCE.out wc HUC.out; clear hqc)))
          all_goals
            simp only [Exit.inBlock, Exit.then]
            go_at_K
            go_wp2_with fail
            go_roundw
            case rel =>
              obtain ⟨m1, m2, m3, hT⟩ := turnM HRM.out HHL.out HMQ.out HPQ.out HPF.out HUS.out HFB.out HFG.out HPL.out HLL.out HCL.out HWF1.out HWF2.out HWF3.out HQA.out HQB.out HQC.out HBW.out HNM.out rfl
              exact ⟨k + 1, m1, m2, m3, by omega, by go_num, hT⟩
            case measure => simp [intOf]; omega
        · have hke : k = I.methods.length := by omega
          subst hke
          have hUX : Upd (fun _ => False) w wr := HU8.out.trans HUS.out (fun b hb hl => by have := (HNB7.out b hb).1; have := HUW.out.size; omega)
          have HUX := Lib.hid hUX
          have HC9 := Lib.hid (clInts wr (.slice xa I.exports.length xc) I.exports.length (intF I.exports) (HX.out.1.updQ hUX (.inr (fun _ _ h => h))) (fun _ _ _ _ => rfl) s4)
          have HRR := Lib.hid (hpBlk HUS.out HR8.out hne9)
          have hi5 : ¬ (I.methods.length : Int) < (I.methods.length : Int) := by omega
          clear hUX
          go_wp2_with fail
          refine HC9.out.mono ?_
          rintro e w10 ⟨x', rfl, hc10⟩
          obtain ⟨xa', xc', rfl⟩ := ownsRow_slice hc10.1
          have hq10 := hpBlk hc10.2.1 HQR.out (fun h => h)
          have hr10 := hpBlk hc10.2.1 HRR.out (fun h => h)
          obtain ⟨b0, b1, b2, b3, b4, bf⟩ := five hq10
          obtain ⟨d0, d1, d2, d3, d4, df⟩ := five hr10
          have f4 := bf 4
          have e0 := df 0
          have e1 := df 1
          have e2 := df 2
          have e3 := df 3
          have e4 := df 4
          have HC10 := Lib.hid hc10
          have HR10 := Lib.hid hr10
          clear hc10 hq10 hr10 bf df HC9 c0 c1 c2 c3 c4
          go_wp2_with fail
          refine bodyPost_ret (v := img5 I.name (.slice fa' I.fields.length fc') (.slice ia' I.imports.length ic') (.slice ma' I.methods.length mc') (.slice xa' I.exports.length xc')) (by simp [results, Tryz.f30, go_sem, d0, d1, d2, d3, d4]) rfl ?_
          clear b0 b1 b2 b3 b4 d0 d1 d2 d3 d4 e0 e1 e2 e3 e4 f4
          refine endQ (F := F2) (B := w.heap.size) HPF.out (ownsRow_upd HRO8.out HUS.out (fun b hb h => by have := (HNB4.out b hb).2; have := (HNB7.out b h).1; omega)) HPQ.out HPB.out HRM.out HMQ.out HMB.out HC10.out HX.out.2 (hpS (hpS (hpS (hpS (hpS (hpS (Upd.refl _ _) (.inl rfl)) (.inr rfl)) (.inr rfl)) (.inr rfl)) (.inr rfl)) (.inr rfl)) ?_ ?_ ?_ rfl ?_ ?_ HUX.out hs HNF.out HNI.out HNM.out
          · rw [HFE.out]; exact .inl hBF
          · rw [HFE.out, HFD.out]; exact .inl (.inr (.inl rfl))
          · have := HUS.out.size; have := HZ3.out; have := HUW.out.size; have := H35.out; omega
          · intro b hb; have := (HNB4.out b hb).1; have := HZ3.out; omega
          · intro b hb; have := (HNB7.out b hb).1; have := HZ3.out; have := H35.out; omega
end Go.Proofs.YtdmadfahgkikkaaGreat

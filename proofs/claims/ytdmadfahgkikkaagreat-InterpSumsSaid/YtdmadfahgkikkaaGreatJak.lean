/- Package interp: frames in memory; a method's lists, which stay. -/
import Derived.Test.YtdmadfahgkikkaaGreatQAk
import Derived.Test.YtdmadfahgkikkaaGreatRl
import Derived.Test.YtdmadfahgkikkaaGreatHek
import Derived.Deep.QuietTactic
namespace Go.Proofs.YtdmadfahgkikkaaGreat
open Go.RowKit Go.Lib Go.ChangeShapes Go.WideShapes Go.Deep
set_option linter.unusedVariables false
set_option linter.unusedSimpArgs false

theorem infoJ32 : (Tryz.prog.info? 21).map (fun i => (i.zero, i.size, i.bytes)) = some (some (.int .i32 0), 1, 4) := by kernel_rfl
/-- a method's lists read so, as long as no block of colour 8 turns -/
def MetK (c : Nat → Nat) (w : World) (p l k : Value) (m : MetM) : Prop := ∀ (T : Nat → Prop) (c' : Nat → Nat) (w' : World), Ext T c w c' w' → ¬ T 8 → Ints w' p m.params ∧ Ints w' l m.locals ∧ Inss w' k m.code
theorem MetK.now {c : Nat → Nat} {w : World} {p l k : Value} {m : MetM} (h : MetK c w p l k m) : Ints w p m.params ∧ Ints w l m.locals ∧ Inss w k m.code := h None0 c w (Ext.quiet c (Upd.refl _ _)) (fun h => h)
theorem MetK.ext {T : Nat → Prop} {c c' : Nat → Nat} {w w' : World} {p l k : Value} {m : MetM} (h : MetK c w p l k m) (hx : Ext T c w c' w') (hT : ¬ T 8) : MetK c' w' p l k m :=
  fun T' c'' w'' hx' hT' => h (fun i => T i ∨ T' i) c'' w'' ((hx.mono (fun _ h => .inl h)).trans (T' := T') hx' (fun _ h => .inr h)) (fun h => h.elim hT hT')
theorem MetK.nil (c : Nat → Nat) (w : World) (r : Int) : MetK c w (.slice none 0 0) (.slice none 0 0) (.slice none 0 0) ⟨[], r, [], []⟩ :=
  fun T c' w' _ _ => ⟨⟨Sl.nil _ _ _, by simp⟩, ⟨Sl.nil _ _ _, by simp⟩, ⟨Sl.nil _ _ _, by simp⟩⟩
/-- an image's method -/
theorem ImgK.met {c : Nat → Nat} {w : World} {v : Value} {I : ImgM} (h : ImgK c w v I) : ∃ fa fc ia ic ma mc xa xc, v = img5 I.name (.slice fa I.fields.length fc) (.slice ia I.imports.length ic) (.slice ma I.methods.length mc) (.slice xa I.exports.length xc) ∧ ∀ j, j < I.methods.length → ∃ g off p l k, ma = some ⟨g, off, none⟩ ∧
    w.cell? ⟨g, off + j * 4 + 0, none⟩ = some p ∧ w.cell? ⟨g, off + j * 4 + 1, none⟩ = some (.int .i64 (I.methods.getD j default).res) ∧ w.cell? ⟨g, off + j * 4 + 2, none⟩ = some l ∧ w.cell? ⟨g, off + j * 4 + 3, none⟩ = some k ∧ MetK c w p l k (I.methods.getD j default) := by
  obtain ⟨f, i, mv, x, p, mp, mq, mr, rfl, -, hw⟩ := h
  obtain ⟨hf, ⟨hi, -⟩, ⟨hs, -⟩, hx⟩ := hw w ⟨None0, c, Ext.quiet c (Upd.refl _ _), fun h => h⟩
  obtain ⟨ma, mc, rfl, -, -⟩ := hs.slice
  obtain ⟨fa, fc, rfl, -, -⟩ := hf.slice
  obtain ⟨ia, ic, rfl, -, -⟩ := hi.slice
  obtain ⟨xa, xc, rfl, -, -⟩ := hx.slice
  refine ⟨fa, fc, ia, ic, ma, mc, xa, xc, rfl, fun j hj => ?_⟩
  obtain ⟨g, off, rfl, hc⟩ := hs.at hj
  refine ⟨g, off, mp j, mq j, mr j, rfl, hc 0 (by omega), hc 1 (by omega), hc 2 (by omega), hc 3 (by omega), fun T c' w' hx hT => ?_⟩
  obtain ⟨-, -, ⟨-, hm⟩, -⟩ := hw w' ⟨T, c', hx, hT⟩
  exact hm j hj
/-- the first elements of an own row -/
theorem row_take {w : World} {e : TypeId} {v : Value} {n : Nat} {xs : List Value} (h : w.ownsRow 0 e 1 v n xs) {a : Option Addr} {c k : Nat} (he : v = .slice a n c) (hk : k ≤ n) (h0 : 0 < n) : w.ownsRow 0 e 1 (.slice a k c) k (xs.take k) := by
  subst he
  obtain ⟨h1, h2⟩ := h
  rcases h2 with ⟨-, h3⟩ | ⟨g, cap, cur, h3, h4, h5, h6, h7, h8, h9⟩
  · omega
  · simp at h3
    obtain ⟨rfl, rfl⟩ := h3
    refine ⟨by simp at h1 ⊢; omega, .inr ⟨g, c, cur, rfl, h4, h5, by omega, h7, h8, ?_⟩⟩
    rw [← h9, List.take_take]
    simp
    omega

structure FrM where
  app : Int
  meth : Int
  pc : Int
  m : MetM
  loc : List Int
  stk : List Int
def FrM.withPc (F : FrM) (n : Int) : FrM := ⟨F.app, F.meth, n, F.m, F.loc, F.stk⟩
def FrM.withStk (F : FrM) (l : List Int) : FrM := ⟨F.app, F.meth, F.pc, F.m, F.loc, l⟩
def FrM.withLoc (F : FrM) (l : List Int) : FrM := ⟨F.app, F.meth, F.pc, F.m, l, F.stk⟩
def i32r (n : Int) : Prop := -2147483648 ≤ n ∧ n ≤ 2147483647
abbrev FrT : TypeId := 67
/-- frame d in memory: its box (colour 20 + 3 d), its locals (21 + 3 d), its stack (22 + 3 d) -/
structure FrAt (d : Nat) (c : Nat → Nat) (w : World) (fb : Nat) (cv p l k lv sv : Value) (F : FrM) : Prop where
  box : w.heap[fb]? = some (.cells #[cv, .int .i64 F.app, .int .i64 F.meth, .int .i64 F.pc, p, .int .i64 F.m.res, l, k, lv, sv] FrT (0, 0))
  met : MetK c w p l k F.m
  loc : w.ownsRow 0 21 1 lv F.loc.length (i32v F.loc)
  stk : w.ownsRow 0 21 1 sv F.stk.length (i32v F.stk)
  cb : c fb = 20 + 3 * d
  cl : ∀ b, lv.ownBlock = some b → c b = 21 + 3 * d
  cs : ∀ b, sv.ownBlock = some b → c b = 22 + 3 * d
  lr : ∀ x ∈ F.loc, i32r x
  sr : ∀ x ∈ F.stk, i32r x
  ll : F.loc.length ≤ 1000
  sl : F.stk.length ≤ 1000000
def FT3 (d : Nat) (i : Nat) : Prop := i = 20 + 3 * d ∨ i = 21 + 3 * d ∨ i = 22 + 3 * d
section
variable {T : Nat → Prop} {d : Nat} {c c' : Nat → Nat} {w w' : World} {fb : Nat} {cv p l k lv sv : Value} {F : FrM}
theorem FrAt.ext (h : FrAt d c w fb cv p l k lv sv F) (hx : Ext T c w c' w') (h8 : ¬ T 8) (hT : ∀ i, FT3 d i → ¬ T i) : FrAt d c' w' fb cv p l k lv sv F :=
  ⟨hx.blk h.box (by rw [h.cb]; exact hT _ (.inl rfl)), h.met.ext hx h8, hx.row h.loc (fun b hb => by rw [h.cl b hb]; exact hT _ (.inr (.inl rfl))), hx.row h.stk (fun b hb => by rw [h.cs b hb]; exact hT _ (.inr (.inr rfl))),
    hx.col (Array.getElem?_eq_some_iff.1 h.box).1 h.cb, fun b hb => hx.col (hpRowLt h.loc b hb) (h.cl b hb), fun b hb => hx.col (hpRowLt h.stk b hb) (h.cs b hb), h.lr, h.sr, h.ll, h.sl⟩
theorem FrAt.quiet (h : FrAt d c w fb cv p l k lv sv F) (hu : Upd (fun _ => False) w w') : FrAt d c w' fb cv p l k lv sv F := h.ext (Ext.quiet c hu) (fun h => h) (fun _ _ h => h)
theorem ten {w : World} {b : Nat} {a0 a1 a2 a3 a4 a5 a6 a7 a8 a9 : Value} {t : TypeId} (h : w.heap[b]? = some (.cells #[a0, a1, a2, a3, a4, a5, a6, a7, a8, a9] t (0, 0))) :
    w.cell? ⟨b, 0, none⟩ = some a0 ∧ w.cell? ⟨b, 1, none⟩ = some a1 ∧ w.cell? ⟨b, 2, none⟩ = some a2 ∧ w.cell? ⟨b, 3, none⟩ = some a3 ∧ w.cell? ⟨b, 4, none⟩ = some a4 ∧ w.cell? ⟨b, 5, none⟩ = some a5 ∧ w.cell? ⟨b, 6, none⟩ = some a6 ∧ w.cell? ⟨b, 7, none⟩ = some a7 ∧ w.cell? ⟨b, 8, none⟩ = some a8 ∧ w.cell? ⟨b, 9, none⟩ = some a9 ∧ ∀ q, w.frozen? ⟨b, q, none⟩ = false := by
  refine ⟨?_, ?_, ?_, ?_, ?_, ?_, ?_, ?_, ?_, ?_, fun q => ?_⟩ <;> simp [World.cell?, World.frozen?, h]
def FB1 (d : Nat) (i : Nat) : Prop := i = 20 + 3 * d
def FBS (d : Nat) (i : Nat) : Prop := i = 20 + 3 * d ∨ i = 22 + 3 * d
def FL1 (d : Nat) (i : Nat) : Prop := i = 21 + 3 * d
/-- the pc is set -/
theorem FrAt.setPc (h : FrAt d c w fb cv p l k lv sv F) (n : Int) : Ext (FB1 d) c w c (w.setCell ⟨fb, 3, none⟩ (.int .i64 n)) ∧ FrAt d c (w.setCell ⟨fb, 3, none⟩ (.int .i64 n)) fb cv p l k lv sv (F.withPc n) := by
  have hu : Upd (fun q => q = fb) w (w.setCell ⟨fb, 3, none⟩ (.int .i64 n)) := hpS (Upd.refl _ _) rfl
  have E : Ext (FB1 d) c w c (w.setCell ⟨fb, 3, none⟩ (.int .i64 n)) := ⟨fun _ _ => rfl, hu.mono (fun q hq _ => by rw [hq]; exact h.cb)⟩
  refine ⟨E, ⟨by simp [World.setCell, Array.getElem?_modify, h.box, FrM.withPc], h.met.ext E (by simp only [FB1]; omega), E.row h.loc (fun b hb => by rw [h.cl b hb]; simp only [FB1]; omega), E.row h.stk (fun b hb => by rw [h.cs b hb]; simp only [FB1]; omega), h.cb, h.cl, h.cs, h.lr, h.sr, h.ll, h.sl⟩⟩
/-- a local is set -/
theorem FrAt.setLoc (h : FrAt d c w fb cv p l k lv sv F) {g lc : Nat} (he : lv = .slice (some ⟨g, 0, none⟩) F.loc.length lc) (j : Nat) (n : Int) (hn : i32r n) : Ext (FL1 d) c w c (w.setCell ⟨g, j, none⟩ (.int .i32 n)) ∧ FrAt d c (w.setCell ⟨g, j, none⟩ (.int .i32 n)) fb cv p l k lv sv (F.withLoc (F.loc.set j n)) := by
  have hcg := h.cl g (by rw [he]; rfl)
  have hu : Upd (fun q => q = g) w (w.setCell ⟨g, j, none⟩ (.int .i32 n)) := hpS (Upd.refl _ _) rfl
  have E : Ext (FL1 d) c w c (w.setCell ⟨g, j, none⟩ (.int .i32 n)) := ⟨fun _ _ => rfl, hu.mono (fun q hq _ => by rw [hq]; exact hcg)⟩
  refine ⟨E, ⟨E.blk h.box (by rw [h.cb]; simp only [FL1]; omega), h.met.ext E (by simp only [FL1]; omega), ?_, E.row h.stk (fun b hb => by rw [h.cs b hb]; simp only [FL1]; omega), h.cb, h.cl, h.cs, ?_, h.sr, by simpa [FrM.withLoc] using h.ll, h.sl⟩⟩
  · have hr := h.loc
    rw [he] at hr ⊢
    have := hpSet hr j (.int .i32 n)
    simpa [i32v, List.map_set, FrM.withLoc] using this
  · intro x hx
    rcases List.mem_or_eq_of_mem_set hx with h1 | h1
    · exact h.lr x h1
    · rw [h1]; exact hn
/-- the stack is another one: its row lies in new blocks, or where it lay -/
theorem FrAt.setStk {w1 : World} {sv' : Value} {L : List Int} (h : FrAt d c w fb cv p l k lv sv F) (hu : Upd (fun q => sv.ownBlock = some q) w w1) (ho : w1.ownsRow 0 21 1 sv' L.length (i32v L)) (hf : ∀ q, sv'.ownBlock = some q → sv.ownBlock = some q ∨ w.heap.size ≤ q) (hr : ∀ x ∈ L, i32r x) (hl : L.length ≤ 1000000) :
    Ext (FBS d) c w (paint c w (22 + 3 * d)) (w1.setCell ⟨fb, 9, none⟩ sv') ∧ FrAt d (paint c w (22 + 3 * d)) (w1.setCell ⟨fb, 9, none⟩ sv') fb cv p l k lv sv' (F.withStk L) := by
  have hfb : fb < w.heap.size := (Array.getElem?_eq_some_iff.1 h.box).1
  have hcol : ∀ q, sv'.ownBlock = some q → paint c w (22 + 3 * d) q = 22 + 3 * d := fun q hq => by
    rcases hf q hq with h1 | h1
    · rw [paint_old c w _ (hpRowLt h.stk q h1)]; exact h.cs q h1
    · exact paint_new c w _ h1
  have hne : ∀ q, sv'.ownBlock = some q → ¬ q = fb := fun q hq e => by
    have h1 := hcol q hq
    rw [e, paint_old c w _ hfb, h.cb] at h1
    omega
  have hb1 := hpBlk hu h.box (fun e => by
    have h1 := h.cs fb e
    rw [h.cb] at h1
    omega)
  have hu2 : Upd (fun q => q = fb) w1 (w1.setCell ⟨fb, 9, none⟩ sv') := Upd.setCell (S := fun q => q = fb) w1 (.inl rfl) _
  have E : Ext (FBS d) c w (paint c w (22 + 3 * d)) (w1.setCell ⟨fb, 9, none⟩ sv') := ⟨fun q hq => paint_old c w _ hq, (hu.mono (T := fun q => FBS d (c q)) (fun q hq _ => by rw [h.cs q hq]; exact .inr rfl)).trans (hu2.mono (T := fun q => FBS d (c q)) (fun q hq _ => by rw [hq, h.cb]; exact .inl rfl)) (fun q hq _ => hq)⟩
  refine ⟨E, ⟨by simp [World.setCell, Array.getElem?_modify, hb1, FrM.withStk], h.met.ext E (by simp only [FBS]; omega), E.row h.loc (fun b hb => by rw [h.cl b hb]; simp only [FBS]; omega), ownsRow_upd ho hu2 hne, E.col hfb h.cb, fun b hb => E.col (hpRowLt h.loc b hb) (h.cl b hb), hcol, h.lr, hr, h.ll, hl⟩⟩
theorem FrAt.bx (h : FrAt d c w fb cv p l k lv sv F) : w.cell? ⟨fb, 0, none⟩ = some cv ∧ w.cell? ⟨fb, 1, none⟩ = some (.int .i64 F.app) ∧ w.cell? ⟨fb, 2, none⟩ = some (.int .i64 F.meth) ∧ w.cell? ⟨fb, 3, none⟩ = some (.int .i64 F.pc) ∧ w.cell? ⟨fb, 4, none⟩ = some p ∧ w.cell? ⟨fb, 5, none⟩ = some (.int .i64 F.m.res) ∧ w.cell? ⟨fb, 6, none⟩ = some l ∧ w.cell? ⟨fb, 7, none⟩ = some k ∧ w.cell? ⟨fb, 8, none⟩ = some lv ∧ w.cell? ⟨fb, 9, none⟩ = some sv ∧ ∀ q, w.frozen? ⟨fb, q, none⟩ = false := ten h.box
end
end Go.Proofs.YtdmadfahgkikkaaGreat

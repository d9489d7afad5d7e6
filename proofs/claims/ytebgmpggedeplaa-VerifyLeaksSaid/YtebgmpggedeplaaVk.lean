/- Package verify: a method's body. -/
import Derived.Test.YtebgmpggedeplaaVj
namespace Go.Proofs.Ytebgmpggedeplaa
open Go.RowKit Go.Lib Go.ChangeShapes Go.WideShapes
set_option linter.unusedVariables false
set_option linter.unusedSimpArgs false

theorem right_op {i : InsM} (h : insB i = true) : 1 ≤ i.op ∧ i.op ≤ 39 ∧ (i.op ≠ 1 → 0 ≤ i.a) := by
  obtain ⟨h1, h2, h3, h4, -⟩ := (right_iff i.op i.a i.b).1 h
  refine ⟨h1, h2, fun h => ?_⟩
  have := table i.op
  omega
theorem right_met {I : ImgM} (h : imgB insB I = true) {m : Nat} (hm : m < I.methods.length) : ((I.methods.getD m default).params.length ≤ 4 ∧ (I.methods.getD m default).locals.length ≤ 10) ∧ 0 < (I.methods.getD m default).code.length ∧ (I.methods.getD m default).code.length ≤ 120 ∧ ∀ x ∈ (I.methods.getD m default).code, insB x = true := by
  unfold imgB at h
  simp only [Bool.and_eq_true, List.all_eq_true, decide_eq_true_eq] at h
  have h2 := h.2.2.2.2.1.2 _ (mem_getD hm)
  unfold metB callB kindsB at h2
  simp only [Bool.and_eq_true, decide_eq_true_eq, List.all_eq_true] at h2
  obtain ⟨⟨⟨h5, -⟩, -⟩, ⟨h6, -⟩, h7, h8, h9⟩ := h2
  exact ⟨⟨by omega, by omega⟩, h7, h8, h9⟩
/-- a box of five cells, then one of eight -/
theorem box58 {w w' : World} {x0 x1 x2 x3 x4 y0 y1 y2 y3 y4 y5 y6 y7 : Value} {t s : TypeId} (hu : Upd (fun _ => False) ((w.alloc (.cells #[x0, x1, x2, x3, x4] t)).alloc (.cells #[y0, y1, y2, y3, y4, y5, y6, y7] s)) w') :
    (w'.cell? ⟨w.heap.size, 0, none⟩ = some x0 ∧ w'.cell? ⟨w.heap.size, 1, none⟩ = some x1 ∧ w'.cell? ⟨w.heap.size, 2, none⟩ = some x2 ∧ w'.cell? ⟨w.heap.size, 3, none⟩ = some x3 ∧ w'.cell? ⟨w.heap.size, 4, none⟩ = some x4) ∧ (w'.cell? ⟨w.heap.size + 1, 0, none⟩ = some y0 ∧ w'.cell? ⟨w.heap.size + 1, 1, none⟩ = some y1 ∧ w'.cell? ⟨w.heap.size + 1, 2, none⟩ = some y2 ∧ w'.cell? ⟨w.heap.size + 1, 3, none⟩ = some y3 ∧ w'.cell? ⟨w.heap.size + 1, 4, none⟩ = some y4 ∧ w'.cell? ⟨w.heap.size + 1, 5, none⟩ = some y5 ∧ w'.cell? ⟨w.heap.size + 1, 6, none⟩ = some y6 ∧ w'.cell? ⟨w.heap.size + 1, 7, none⟩ = some y7) ∧
    ∀ q, w'.frozen? ⟨w.heap.size + 1, q, none⟩ = false := by
  have h0 : ∀ q, w'.cell? ⟨w.heap.size, q, none⟩ = (#[x0, x1, x2, x3, x4] : Array Value)[q]? := fun q => by
    rw [hu.cell (p := ⟨w.heap.size, q, none⟩) (by simp; omega) (fun h => h), World.cell?_alloc_old _ _ _ (by simp), World.cell?_alloc_new]
  have h1 : ∀ q, w'.cell? ⟨w.heap.size + 1, q, none⟩ = (#[y0, y1, y2, y3, y4, y5, y6, y7] : Array Value)[q]? := fun q => by
    rw [hu.cell (p := ⟨w.heap.size + 1, q, none⟩) (by simp) (fun h => h), show w.heap.size + 1 = (w.alloc (.cells #[x0, x1, x2, x3, x4] t)).heap.size by simp, World.cell?_alloc_new]
  refine ⟨⟨h0 0, h0 1, h0 2, h0 3, h0 4⟩, ⟨h1 0, h1 1, h1 2, h1 3, h1 4, h1 5, h1 6, h1 7⟩, fun q => ?_⟩
  rw [hu.frozen (p := ⟨w.heap.size + 1, q, none⟩) (by simp) (fun h => h)]
  have e : ((w.alloc (.cells #[x0, x1, x2, x3, x4] t)).alloc (.cells #[y0, y1, y2, y3, y4, y5, y6, y7] s)).heap[w.heap.size + 1]? = some (.cells #[y0, y1, y2, y3, y4, y5, y6, y7] s) := by
    have := heap_alloc_new (w.alloc (.cells #[x0, x1, x2, x3, x4] t)) (.cells #[y0, y1, y2, y3, y4, y5, y6, y7] s)
    simpa using this
  unfold World.frozen?
  rw [show (⟨w.heap.size + 1, q, none⟩ : Addr).block = w.heap.size + 1 from rfl, e]
  simp
/-- a box of four cells -/
theorem box4c {w w' : World} {x0 x1 x2 x3 : Value} {t : TypeId} {g : Nat} (hg : g = w.heap.size) (hu : Upd (fun _ => False) (w.alloc (.cells #[x0, x1, x2, x3] t)) w') :
    w'.cell? ⟨g, 0, none⟩ = some x0 ∧ w'.cell? ⟨g, 1, none⟩ = some x1 ∧ w'.cell? ⟨g, 2, none⟩ = some x2 ∧ w'.cell? ⟨g, 3, none⟩ = some x3 := by
  subst hg
  have h0 : ∀ q, w'.cell? ⟨w.heap.size, q, none⟩ = (#[x0, x1, x2, x3] : Array Value)[q]? := fun q => by
    rw [hu.cell (p := ⟨w.heap.size, q, none⟩) (by simp) (fun h => h), World.cell?_alloc_new]
  exact ⟨h0 0, h0 1, h0 2, h0 3⟩

theorem set8 (w : World) (b : Nat) (x0 x1 x2 x3 x4 x5 x6 x7 : Value) : Upd (fun k => k = b) w ((((((((w.setCell ⟨b, 0, none⟩ x0).setCell ⟨b, 1, none⟩ x1).setCell ⟨b, 2, none⟩ x2).setCell ⟨b, 3, none⟩ x3).setCell ⟨b, 4, none⟩ x4).setCell ⟨b, 5, none⟩ x5).setCell ⟨b, 6, none⟩ x6).setCell ⟨b, 7, none⟩ x7) := by
  have h : ∀ (w : World) (q : Nat) (x : Value), Upd (fun k => k = b) w (w.setCell ⟨b, q, none⟩ x) := fun w q x => Upd.setCell (S := fun k => k = b) w (.inl rfl) x
  have t : ∀ {w1 w2 w3 : World}, Upd (fun k => k = b) w1 w2 → Upd (fun k => k = b) w2 w3 → Upd (fun k => k = b) w1 w3 := fun h1 h2 => h1.trans h2 (fun _ h _ => h)
  exact t (t (t (t (t (t (t (h _ _ _) (h _ _ _)) (h _ _ _)) (h _ _ _)) (h _ _ _)) (h _ _ _)) (h _ _ _)) (h _ _ _)
theorem keep_cell {w w' : World} {b g q : Nat} {x : Value} (h : w.cell? ⟨g, q, none⟩ = some x) (hu : Upd (fun k => k = b) w w') (hg : g ≠ b) : w'.cell? ⟨g, q, none⟩ = some x :=
  (hu.cell (p := ⟨g, q, none⟩) (World.block_lt_of_cell? _ _ h) (fun h => hg h)).trans h

set_option maxRecDepth 100000 in
set_option maxHeartbeats 8000000 in
theorem vBodyOf (w : World) (v : Value) (I : ImgM) (hI : Img w v I) (m : Nat) (hm : m < I.methods.length) (hl : (I.methods.getD m default).params.length + (I.methods.getD m default).locals.length ≤ 1000) :
    Calls Try.prog 26 #[v, .int .i64 m] w fun e w' => ∃ bv, e = .returned bv ∧ Body w' bv (bodyP I m) ∧ Upd (fun _ => False) w w' := by
  have HIM := Lib.hid hI
  obtain ⟨f, i, me, x, rfl, hf, hi, hme, hx, hsz⟩ := hI
  obtain ⟨fa, fc, rfl, -, -⟩ := hf.slice
  obtain ⟨ia, ic, rfl, -, -⟩ := hi.slice
  obtain ⟨ma, mc, rfl, hm1, hm2⟩ := hme.slice
  obtain ⟨xa, xc, rfl, -, -⟩ := hx.slice
  obtain ⟨gb, off, pv, qv, rv, rfl, c0, c1, c2, c3, hp, hq, hr, hres⟩ := hme.at hm
  obtain ⟨pa, pc, rfl, -, -⟩ := hp.slice
  obtain ⟨qa, qc, rfl, -, -⟩ := hq.slice
  obtain ⟨ra, rc, rfl, -, -⟩ := hr.slice
  have HP := Lib.hid hp
  have HQ := Lib.hid hq
  have HR := Lib.hid hr
  have HRES := Lib.hid hres
  have HL := Lib.hid hl
  have HBP := Lib.hid (show bodyP I m = ⟨I, (I.methods.getD m default).params ++ (I.methods.getD m default).locals, (I.methods.getD m default).res, (I.methods.getD m default).code⟩ from rfl)
  generalize I.methods.getD m default = M at *
  have HA := Lib.hid ((Upd.alloc (fun _ => False) w (.cells #[.string I.name, .slice fa I.fields.length fc, .slice ia I.imports.length ic, .slice (some ⟨gb, off, none⟩) I.methods.length mc, .slice xa I.exports.length xc] 31)).trans (Upd.alloc (fun _ => False) _ (.cells #[.string { data := #[] }, .slice none 0 0, .slice none 0 0, .slice none 0 0, .slice none 0 0, .slice none 0 0, .int .i64 0, .slice none 0 0] 67)) (fun _ h _ => h))
  have HX := Lib.hid (fun (w' : World) (h : Upd (fun _ => False) ((w.alloc (.cells #[.string I.name, .slice fa I.fields.length fc, .slice ia I.imports.length ic, .slice (some ⟨gb, off, none⟩) I.methods.length mc, .slice xa I.exports.length xc] 31)).alloc (.cells #[.string { data := #[] }, .slice none 0 0, .slice none 0 0, .slice none 0 0, .slice none 0 0, .slice none 0 0, .int .i64 0, .slice none 0 0] 67)) w') => box58 h)
  have HK := Lib.hid (fun (w' : World) (h : Upd (fun _ => False) w w') => And.intro ((h.cell (p := ⟨gb, off + m * 4, none⟩) (World.block_lt_of_cell? _ _ c0) (fun h => h)).trans c0) (And.intro ((h.cell (p := ⟨gb, off + m * 4 + 1, none⟩) (World.block_lt_of_cell? _ _ c1) (fun h => h)).trans c1) (And.intro ((h.cell (p := ⟨gb, off + m * 4 + 2, none⟩) (World.block_lt_of_cell? _ _ c2) (fun h => h)).trans c2) ((h.cell (p := ⟨gb, off + m * 4 + 3, none⟩) (World.block_lt_of_cell? _ _ c3) (fun h => h)).trans c3))))
  have hi1 : (0 : Int) ≤ (m : Int) := Int.natCast_nonneg _
  have hi2 : (m : Int) < (I.methods.length : Int) := by omega
  obtain ⟨e0, e1, e2, e3⟩ := HK.out _ HA.out
  obtain ⟨⟨b0, b1, b2, b3, b4⟩, -, -⟩ := HX.out _ (Upd.refl _ _)
  clear hf hi hme hx hsz hp hq hr hres hl c0 c1 c2 c3 hm1 hm2
  go_enter Try.func26, Try.ntmps26
  go_wp2_with fail
  obtain ⟨W2, hW2⟩ : ∃ W2, W2 = ((w.alloc (.cells #[.string I.name, .slice fa I.fields.length fc, .slice ia I.imports.length ic, .slice (some ⟨gb, off, none⟩) I.methods.length mc, .slice xa I.exports.length xc] 31)).alloc (.cells #[.string { data := #[] }, .slice none 0 0, .slice none 0 0, .slice none 0 0, .slice none 0 0, .slice none 0 0, .int .i64 0, .slice none 0 0] 67)) := ⟨_, rfl⟩
  have hs2 : w.heap.size + 1 + 1 = W2.heap.size := by rw [hW2]; simp
  rw [← hW2] at HX HA e0 e1 e2 e3 b0 b1 b2 b3 b4 ⊢
  obtain ⟨W3, hW3⟩ : ∃ W3, W3 = W2.alloc (.cells #[.slice pa M.params.length pc, .int .i64 M.res, .slice qa M.locals.length qc, .slice ra M.code.length rc] 43) := ⟨_, rfl⟩
  have H3 := Lib.hid (Upd.alloc (fun _ => False) W2 (.cells #[.slice pa M.params.length pc, .int .i64 M.res, .slice qa M.locals.length qc, .slice ra M.code.length rc] 43))
  have HM := Lib.hid (fun (w' : World) (h : Upd (fun _ => False) (W2.alloc (.cells #[.slice pa M.params.length pc, .int .i64 M.res, .slice qa M.locals.length qc, .slice ra M.code.length rc] 43)) w') => box4c hs2 h)
  rw [← hW3] at H3 HM ⊢
  have H3D := Lib.hid (Upd.drew (fun _ => False) W3)
  have HU3 := Lib.hid (HA.out.trans H3.out (fun _ h _ => h))
  have HUD := Lib.hid (HU3.out.trans H3D.out (fun _ h _ => h))
  have HXD := Lib.hid (H3.out.trans H3D.out (fun _ h _ => h))
  have HSZ : Hid (w.heap.size + 1 < W3.heap.size) := Lib.hid (by rw [hW3]; simp; omega)
  have HC0 : Hid (((W3.alloc (.cells #[.slice pa M.params.length pc, .slice qa M.locals.length qc] 27)).drew).cell? ⟨W3.heap.size, 0, none⟩ = some (.slice pa M.params.length pc)) := Lib.hid (World.cell?_alloc_new _ _ _ _)
  have HC1 : Hid (((W3.alloc (.cells #[.slice pa M.params.length pc, .slice qa M.locals.length qc] 27)).drew).cell? ⟨W3.heap.size, 0 + 1, none⟩ = some (.slice qa M.locals.length qc)) := Lib.hid (World.cell?_alloc_new _ _ _ _)
  have H5D : Hid (Upd (fun _ => False) W3 (W3.alloc (.cells #[.slice pa M.params.length pc, .slice qa M.locals.length qc] 27)).drew) := Lib.hid ((Upd.alloc (fun _ => False) W3 _).trans (Upd.drew (fun _ => False) _) (fun _ h _ => h))
  have HU5 := Lib.hid (HU3.out.trans H5D.out (fun _ h _ => h))
  have HX5 := Lib.hid (H3.out.trans H5D.out (fun _ h _ => h))
  have HKS : Hid (∀ w4 w' : World, (w4.cell? ⟨w.heap.size, 0, none⟩ = some (.string I.name) ∧ w4.cell? ⟨w.heap.size, 1, none⟩ = some (.slice fa I.fields.length fc) ∧ w4.cell? ⟨w.heap.size, 2, none⟩ = some (.slice ia I.imports.length ic) ∧ w4.cell? ⟨w.heap.size, 3, none⟩ = some (.slice (some ⟨gb, off, none⟩) I.methods.length mc) ∧ w4.cell? ⟨w.heap.size, 4, none⟩ = some (.slice xa I.exports.length xc) ∧ w4.cell? ⟨w.heap.size + 1 + 1, 0, none⟩ = some (.slice pa M.params.length pc) ∧ w4.cell? ⟨w.heap.size + 1 + 1, 1, none⟩ = some (.int .i64 M.res) ∧ w4.cell? ⟨w.heap.size + 1 + 1, 2, none⟩ = some (.slice qa M.locals.length qc) ∧ w4.cell? ⟨w.heap.size + 1 + 1, 3, none⟩ = some (.slice ra M.code.length rc)) → Upd (fun k => k = w.heap.size + 1) w4 w' → (w'.cell? ⟨w.heap.size, 0, none⟩ = some (.string I.name) ∧ w'.cell? ⟨w.heap.size, 1, none⟩ = some (.slice fa I.fields.length fc) ∧ w'.cell? ⟨w.heap.size, 2, none⟩ = some (.slice ia I.imports.length ic) ∧ w'.cell? ⟨w.heap.size, 3, none⟩ = some (.slice (some ⟨gb, off, none⟩) I.methods.length mc) ∧ w'.cell? ⟨w.heap.size, 4, none⟩ = some (.slice xa I.exports.length xc) ∧ w'.cell? ⟨w.heap.size + 1 + 1, 0, none⟩ = some (.slice pa M.params.length pc) ∧ w'.cell? ⟨w.heap.size + 1 + 1, 1, none⟩ = some (.int .i64 M.res) ∧ w'.cell? ⟨w.heap.size + 1 + 1, 2, none⟩ = some (.slice qa M.locals.length qc) ∧ w'.cell? ⟨w.heap.size + 1 + 1, 3, none⟩ = some (.slice ra M.code.length rc))) := Lib.hid (fun w4 w' h hu => by
    obtain ⟨b0, b1, b2, b3, b4, m0, m1, m2, m3⟩ := h
    exact ⟨keep_cell b0 hu (by omega), keep_cell b1 hu (by omega), keep_cell b2 hu (by omega), keep_cell b3 hu (by omega), keep_cell b4 hu (by omega), keep_cell m0 hu (by omega), keep_cell m1 hu (by omega), keep_cell m2 hu (by omega), keep_cell m3 hu (by omega)⟩)
  clear b0 b1 b2 b3 b4 e0 e1 e2 e3 hW2 hW3 hs2
  go_region_held3 (fun w' => w'.cell? ⟨w.heap.size, 0, none⟩ = some (.string I.name) ∧ w'.cell? ⟨w.heap.size, 1, none⟩ = some (.slice fa I.fields.length fc) ∧ w'.cell? ⟨w.heap.size, 2, none⟩ = some (.slice ia I.imports.length ic) ∧ w'.cell? ⟨w.heap.size, 3, none⟩ = some (.slice (some ⟨gb, off, none⟩) I.methods.length mc) ∧ w'.cell? ⟨w.heap.size, 4, none⟩ = some (.slice xa I.exports.length xc) ∧ w'.cell? ⟨w.heap.size + 1 + 1, 0, none⟩ = some (.slice pa M.params.length pc) ∧ w'.cell? ⟨w.heap.size + 1 + 1, 1, none⟩ = some (.int .i64 M.res) ∧ w'.cell? ⟨w.heap.size + 1 + 1, 2, none⟩ = some (.slice qa M.locals.length qc) ∧ w'.cell? ⟨w.heap.size + 1 + 1, 3, none⟩ = some (.slice ra M.code.length rc)) (first
    | (obtain ⟨⟨b0, b1, b2, b3, b4⟩, -, -⟩ := HX.out _ H3.out; obtain ⟨m0, m1, m2, m3⟩ := HM.out _ (Upd.refl _ _); with_reducible exact ⟨b0, b1, b2, b3, b4, m0, m1, m2, m3⟩)
    | (obtain ⟨⟨b0, b1, b2, b3, b4⟩, -, -⟩ := HX.out _ HXD.out; obtain ⟨m0, m1, m2, m3⟩ := HM.out _ H3D.out; with_reducible exact ⟨b0, b1, b2, b3, b4, m0, m1, m2, m3⟩)
    | (obtain ⟨⟨b0, b1, b2, b3, b4⟩, -, -⟩ := HX.out _ (HXD.out.trans (Upd.alloc (fun _ => False) _ _) (fun _ h _ => h)); obtain ⟨m0, m1, m2, m3⟩ := HM.out _ (H3D.out.trans (Upd.alloc (fun _ => False) _ _) (fun _ h _ => h)); with_reducible exact ⟨b0, b1, b2, b3, b4, m0, m1, m2, m3⟩)
    | (obtain ⟨⟨b0, b1, b2, b3, b4⟩, -, -⟩ := HX.out _ HX5.out; obtain ⟨m0, m1, m2, m3⟩ := HM.out _ H5D.out; with_reducible exact ⟨b0, b1, b2, b3, b4, m0, m1, m2, m3⟩)
    | (obtain ⟨⟨b0, b1, b2, b3, b4⟩, -, -⟩ := HX.out _ HX4.out; obtain ⟨m0, m1, m2, m3⟩ := HM.out _ HM4.out; with_reducible exact ⟨b0, b1, b2, b3, b4, m0, m1, m2, m3⟩)
    | (with_reducible refine HKS.out w4 _ ?_ (set8 _ _ _ _ _ _ _ _ _ _); obtain ⟨⟨b0, b1, b2, b3, b4⟩, -, -⟩ := HX.out _ HX4.out; obtain ⟨m0, m1, m2, m3⟩ := HM.out _ HM4.out; with_reducible exact ⟨b0, b1, b2, b3, b4, m0, m1, m2, m3⟩)) ((first
    | (go_at_call 37; (refine (vConcat _ W3.heap.size 0 _ _ M.params M.locals HC0.out HC1.out (HP.out.later (lbBelow HU5.out)) (HQ.out.later (lbBelow HU5.out)) HL.out).mono ?_); rintro e w4 ⟨r3, rfl, hr3, hu3, hn3⟩; obtain ⟨na, nc, rfl, -, -⟩ := hr3.slice; have HR3 := Lib.hid hr3; have HM4 := Lib.hid (H5D.out.trans hu3 (fun _ h _ => h)); have HX4 := Lib.hid (H3.out.trans HM4.out (fun _ h _ => h)); have HU4 := Lib.hid (HU3.out.trans HM4.out (fun _ h _ => h)); have HN4 := Lib.hid (hn3.away (g := w.heap.size + 1) (by have := HSZ.out; simp; omega)); have HR4 := Lib.hid (show Ints w4 (.slice na (M.params.length + M.locals.length) nc) (M.params ++ M.locals) by rw [← List.length_append]; exact HR3.out); clear hr3 hu3 hn3; obtain ⟨-, ⟨z0, z1, z2, z3, z4, z5, z6, z7⟩, zf⟩ := HX.out _ HX4.out; have zf0 := zf 0; have zf1 := zf 1; have zf2 := zf 2; have zf3 := zf 3; have zf4 := zf 4; have zf5 := zf 5; have zf6 := zf 6; have zf7 := zf 7; clear zf)))
  all_goals
    go_wp2_with fail
    refine bodyPost_ret (v := body8 I.name (.slice fa I.fields.length fc) (.slice ia I.imports.length ic) (.slice (some ⟨gb, off, none⟩) I.methods.length mc) (.slice xa I.exports.length xc) (.slice na (M.params.length + M.locals.length) nc) M.res (.slice ra M.code.length rc)) (by simp [results, Try.f26, go_sem, z0, z1, z2, z3, z4, z5, z6, z7]) rfl ?_
    have hset := set8 w4 (w.heap.size + 1) (.string I.name) (.slice fa I.fields.length fc) (.slice ia I.imports.length ic) (.slice (some ⟨gb, off, none⟩) I.methods.length mc) (.slice xa I.exports.length xc) (.slice na (M.params.length + M.locals.length) nc) (.int .i64 M.res) (.slice ra M.code.length rc)
    have hfin := HU4.out.trans hset (fun i h hlt => by omega)
    refine ⟨_, rfl, ?_, hfin⟩
    rw [HBP.out]
    refine ⟨_, _, _, _, _, _, rfl, HIM.out.later (lbBelow hfin), ?_, HR.out.later (lbBelow hfin), HRES.out⟩
    have h4 := HR4.out.keep hset (by
      intro b o s n c e
      have h := HN4.out
      rw [List.length_append] at h
      exact h b o s n c e)
    exact h4
end Go.Proofs.Ytebgmpggedeplaa

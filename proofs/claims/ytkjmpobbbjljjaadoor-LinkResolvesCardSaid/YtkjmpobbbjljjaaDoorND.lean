/- Package link: Resolve. -/
import Derived.Test.YtkjmpobbbjljjaaDoorNC
namespace Go.Proofs.YtkjmpobbbjljjaaDoor
open Go.RowKit Go.Lib
set_option linter.unusedVariables false
set_option linter.unusedSimpArgs false

/-- a box of four, of five cells -/
def B4 (w : World) (b : Nat) (x y z u : Value) : Prop := w.cell? ⟨b, 0, none⟩ = some x ∧ w.cell? ⟨b, 1, none⟩ = some y ∧ w.cell? ⟨b, 2, none⟩ = some z ∧ w.cell? ⟨b, 3, none⟩ = some u
def B5 (w : World) (b : Nat) (x y z u v : Value) : Prop := w.cell? ⟨b, 0, none⟩ = some x ∧ w.cell? ⟨b, 1, none⟩ = some y ∧ w.cell? ⟨b, 2, none⟩ = some z ∧ w.cell? ⟨b, 3, none⟩ = some u ∧ w.cell? ⟨b, 4, none⟩ = some v
theorem B4.lt {w : World} {b : Nat} {x y z u : Value} (h : B4 w b x y z u) : b < w.heap.size := World.block_lt_of_cell? _ _ h.1
theorem B5.lt {w : World} {b : Nat} {x y z u v : Value} (h : B5 w b x y z u v) : b < w.heap.size := World.block_lt_of_cell? _ _ h.1
theorem B4.upd {w w1 : World} {b : Nat} {x y z u : Value} (h : B4 w b x y z u) (hu : Upd (fun _ => False) w w1) : B4 w1 b x y z u :=
  ⟨(hu.cell (p := ⟨b, 0, none⟩) h.lt id).trans h.1, (hu.cell (p := ⟨b, 1, none⟩) h.lt id).trans h.2.1, (hu.cell (p := ⟨b, 2, none⟩) h.lt id).trans h.2.2.1, (hu.cell (p := ⟨b, 3, none⟩) h.lt id).trans h.2.2.2⟩
theorem B5.upd {w w1 : World} {b : Nat} {x y z u v : Value} (h : B5 w b x y z u v) (hu : Upd (fun _ => False) w w1) : B5 w1 b x y z u v :=
  ⟨(hu.cell (p := ⟨b, 0, none⟩) h.lt id).trans h.1, (hu.cell (p := ⟨b, 1, none⟩) h.lt id).trans h.2.1, (hu.cell (p := ⟨b, 2, none⟩) h.lt id).trans h.2.2.1, (hu.cell (p := ⟨b, 3, none⟩) h.lt id).trans h.2.2.2.1, (hu.cell (p := ⟨b, 4, none⟩) h.lt id).trans h.2.2.2.2⟩
theorem b4_new (w : World) (e : TypeId) (x y z u : Value) : B4 (w.alloc (.cells #[x, y, z, u] e)) w.heap.size x y z u := by
  refine ⟨?_, ?_, ?_, ?_⟩ <;> (rw [World.cell?_alloc_new]; rfl)
theorem b5_new (w : World) (e : TypeId) (x y z u v : Value) : B5 (w.alloc (.cells #[x, y, z, u, v] e)) w.heap.size x y z u v := by
  refine ⟨?_, ?_, ?_, ?_, ?_⟩ <;> (rw [World.cell?_alloc_new]; rfl)
theorem IsP.open {w : World} {p : PIm} (h : IsP w p) : ∃ fa fc ia ic ma mc xa xc, p = (p.1, .slice fa p.1.fields.length fc, .slice ia p.1.imports.length ic, .slice ma p.1.methods.length mc, .slice xa p.1.exports.length xc) := by
  obtain ⟨I, f, i, m, x⟩ := p
  unfold IsP at h
  dsimp only at h
  obtain ⟨h1, h2, h3, h4, -⟩ := h
  obtain ⟨fa, fc, rfl, -⟩ := h1.slice
  obtain ⟨ia, ic, rfl, -⟩ := h2.slice
  obtain ⟨ma, mc, rfl, -⟩ := h3.slice
  obtain ⟨xa, xc, rfl, -⟩ := h4.slice
  exact ⟨_, _, _, _, _, _, _, _, rfl⟩
/-- the answer's value -/
def resV (r : Int × Int × Bool) : Value := .tuple #[.int .i64 r.1, .int .i64 r.2.1, .bool r.2.2]

set_option maxRecDepth 100000 in
set_option maxHeartbeats 8000000 in
theorem nResolve (w : World) (v : Value) (L : List PIm) (h : Imgs w v L) (a k : Int) : Calls Tryd.prog 6 #[v, .int .i64 a, .int .i64 k] w fun e w' => e = .returned (resV (resP L a k)) ∧ Upd (fun _ => False) w w' := by
  have HL := Lib.hid h
  obtain ⟨la, lc, rfl, -, -⟩ := h.slice
  have HT : Hid (rTo L a k = findP (rAsk L a k).1.name L) := Lib.hid rfl
  have HA : Hid (rAsk L a k = atQ default (atQ pim0 L a).1.1.imports k) := Lib.hid rfl
  have HM : Hid (rMth L a k = atQ 0 (atQ pim0 L (rTo L a k)).1.1.exports (rAsk L a k).1.exp) := Lib.hid rfl
  have HH : Hid (rHas L a k = atQ default (atQ pim0 L (rTo L a k)).1.1.methods (rMth L a k).1) := Lib.hid rfl
  have HO : Hid (rOk L a k = ((rAsk L a k).2 && ((rMth L a k).2 && ((rHas L a k).2 && (allB eqB (rAsk L a k).1.params (rHas L a k).1.params && (rAsk L a k).1.res == (rHas L a k).1.res))))) := Lib.hid rfl
  have HY := Lib.hid (fun h => resP_yes (L := L) (a := a) (k := k) h)
  have HN := Lib.hid (fun h => resP_no (L := L) (a := a) (k := k) h)
  generalize resP L a k = R at *
  generalize rOk L a k = ok at *
  generalize rHas L a k = has at *
  generalize rMth L a k = mth at *
  generalize rTo L a k = to at *
  generalize rAsk L a k = ask at *
  clear h
  go_enter Tryd.func6, Tryd.ntmps6
  go_wp2_with fail
  refine (nAtImg _ _ L HL.out a).mono ?_
  rintro e w1 ⟨rfl, h5, hu⟩
  generalize atQ pim0 L a = pq at *
  obtain ⟨p, q⟩ := pq
  obtain ⟨fa, fc, ia, ic, ma, mc, xa, xc, hp⟩ := h5.open
  generalize p.1 = I at hp HA
  rw [hp] at h5
  subst hp
  unfold IsP at h5
  dsimp only at h5
  have HI := Lib.hid h5.2.1
  have HU1 := Lib.hid hu
  have HU1b := Lib.hid (hu.trans (Upd.alloc (fun _ => False) w1 (.cells #[.string I.name, .slice fa I.fields.length fc, .slice ia I.imports.length ic, .slice ma I.methods.length mc, .slice xa I.exports.length xc] 26)) (fun _ h _ => h))
  have HI1 := Lib.hid (HI.out.later (upd_below (Upd.alloc (fun _ => False) w1 (.cells #[.string I.name, .slice fa I.fields.length fc, .slice ia I.imports.length ic, .slice ma I.methods.length mc, .slice xa I.exports.length xc] 26))))
  clear h5 hu
  unfold pv
  dsimp only
  go_wp2_with fail
  refine (nAtImp _ _ I.imports HI1.out k).mono ?_
  rintro e w2 ⟨u, rfl, hm, hu⟩
  rw [← HA.out] at hm ⊢
  obtain ⟨m, q2⟩ := ask
  obtain ⟨pp, rfl, hm1, hm2, hm3, hm4⟩ := hm
  dsimp only at hm1 hm2 hm3 hm4
  obtain ⟨pa, pc, rfl, -⟩ := hm1.slice
  have HU2 := Lib.hid ((HU1b.out.trans hu (fun _ h _ => h)).trans (Upd.alloc (fun _ => False) w2 (.cells #[.string m.name, .int .i64 m.exp, .slice pa m.params.length pc, .int .i64 m.res] 41)) (fun _ h _ => h))
  have HP2 := Lib.hid (hm1.later (upd_below (Upd.alloc (fun _ => False) w2 (.cells #[.string m.name, .int .i64 m.exp, .slice pa m.params.length pc, .int .i64 m.res] 41))))
  have HB2 := Lib.hid (b4_new w2 41 (.string m.name) (.int .i64 m.exp) (.slice pa m.params.length pc) (.int .i64 m.res))
  have HW := Lib.hid (And.intro hm2 (And.intro hm3 hm4))
  have HL2 := Lib.hid (HL.out.later (upd_below HU2.out))
  clear hm1 hm2 hm3 hm4 hu
  dsimp only
  go_wp2_with fail
  refine (nFind _ _ L HL2.out m.name).mono ?_
  rintro e w3 ⟨rfl, hu⟩
  have HT' : Hid (findP m.name L = to) := Lib.hid HT.out.symm
  rw [HT'.out]
  have HB3 := Lib.hid (HB2.out.upd hu)
  have HP3 := Lib.hid (HP2.out.later (upd_below hu))
  have HU3 := Lib.hid (HU2.out.trans hu (fun _ h _ => h))
  generalize w2.heap.size = b2 at *
  clear hu HB2 HP2 HU2 HL2
  have HL3 := Lib.hid (HL.out.later (upd_below HU3.out))
  go_wp2_with fail
  refine (nAtImg _ _ L HL3.out to).mono ?_
  rintro e w4 ⟨rfl, h5, hu⟩
  generalize atQ pim0 L to = pq4 at *
  obtain ⟨p4, q4⟩ := pq4
  obtain ⟨ya, yc, ja, jc, na, nc, za, zc, hp⟩ := h5.open
  generalize p4.1 = J at hp HM HH
  rw [hp] at h5
  subst hp
  unfold IsP at h5
  dsimp only at h5
  have ha := Upd.alloc (fun _ => False) w4 (.cells #[.string J.name, .slice ya J.fields.length yc, .slice ja J.imports.length jc, .slice na J.methods.length nc, .slice za J.exports.length zc] 26)
  have HJM := Lib.hid (h5.2.2.1.later (upd_below ha))
  have HJX := Lib.hid (h5.2.2.2.1.later (upd_below ha))
  have HB4 := Lib.hid ((HB3.out.upd hu).upd ha)
  have HP4 := Lib.hid ((HP3.out.later (upd_below hu)).later (upd_below ha))
  have HU4 := Lib.hid ((HU3.out.trans hu (fun _ h _ => h)).trans ha (fun _ h _ => h))
  have HC4 := Lib.hid (b5_new w4 26 (.string J.name) (.slice ya J.fields.length yc) (.slice ja J.imports.length jc) (.slice na J.methods.length nc) (.slice za J.exports.length zc))
  obtain ⟨x0, x1, x2, x3⟩ := HB3.out.upd hu
  have hb2 : b2 < w4.heap.size := (HB3.out.upd hu).lt
  obtain ⟨y0, y1, y2, y3⟩ := HB4.out
  clear h5 hu ha HB3 HP3 HU3 HL3
  unfold pv
  dsimp only
  go_wp2_with fail
  refine (nAtInt _ _ J.exports HJX.out m.exp).mono ?_
  rintro e w5 ⟨rfl, hu⟩
  have HM' : Hid (atQ 0 J.exports m.exp = mth) := Lib.hid HM.out.symm
  rw [HM'.out]
  have HB5 := Lib.hid (HB4.out.upd hu)
  have HC5 := Lib.hid (HC4.out.upd hu)
  have HP5 := Lib.hid (HP4.out.later (upd_below hu))
  have HJM5 := Lib.hid (HJM.out.later (upd_below hu))
  have HU5 := Lib.hid (HU4.out.trans hu (fun _ h _ => h))
  generalize w4.heap.size = b4 at *
  clear x0 x1 x2 x3 y0 y1 y2 y3 hb2 hu HB4 HC4 HP4 HJM HJX HU4
  obtain ⟨z0, z1, z2, z3, z4⟩ := HC5.out
  obtain ⟨mm, q5⟩ := mth
  dsimp only
  go_wp2_with fail
  refine (nAtMet _ _ J.methods HJM5.out mm).mono ?_
  rintro e w6 ⟨u, rfl, hm, hu⟩
  have HH' : Hid (atQ default J.methods mm = has) := Lib.hid HH.out.symm
  rw [HH'.out] at hm ⊢
  obtain ⟨ha, q6⟩ := has
  have HMET := Lib.hid hm
  obtain ⟨p7, l7, c7, rfl, g1, g2, g3, g4⟩ := hm
  dsimp only at g1 g2 g3 g4
  obtain ⟨a1, d1, rfl, -⟩ := g1.slice
  obtain ⟨a2, d2, rfl, -⟩ := g2.slice
  obtain ⟨a3, d3, rfl, -⟩ := g3.slice
  have hal := Upd.alloc (fun _ => False) w6 (.cells #[.slice a1 ha.params.length d1, .int .i64 ha.res, .slice a2 ha.locals.length d2, .slice a3 ha.code.length d3] 33)
  have HB6 := Lib.hid ((HB5.out.upd hu).upd hal)
  have HP6 := Lib.hid ((HP5.out.later (upd_below hu)).later (upd_below hal))
  have HMET6 := Lib.hid (HMET.out.later (upd_below hal))
  have HD6 := Lib.hid (b4_new w6 33 (.slice a1 ha.params.length d1) (.int .i64 ha.res) (.slice a2 ha.locals.length d2) (.slice a3 ha.code.length d3))
  have HU6 := Lib.hid ((HU5.out.trans hu (fun _ h _ => h)).trans hal (fun _ h _ => h))
  obtain ⟨x0, x1, x2, x3⟩ := HB5.out.upd hu
  have hb2 : b2 < w6.heap.size := (HB5.out.upd hu).lt
  obtain ⟨y0, y1, y2, y3⟩ := HB6.out
  clear g1 g2 g3 g4 hal hu z0 z1 z2 z3 z4 HB5 HC5 HP5 HJM5 HU5
  dsimp only at HO
  dsimp only
  cases q2 with
  | false =>
    have HR := Lib.hid (HN.out (by rw [HO.out]; rfl))
    go_wp2_with fail
    refine bodyPost_ret (v := resV (0, 0, false)) (by simp only [results, Tryd.f6]; simp [go_sem, resV]) rfl ?_
    exact ⟨by rw [HR.out], HU6.out⟩
  | true =>
    cases q5 with
    | false =>
      have HR := Lib.hid (HN.out (by rw [HO.out]; rfl))
      go_wp2_with fail
      refine bodyPost_ret (v := resV (0, 0, false)) (by simp only [results, Tryd.f6]; simp [go_sem, resV]) rfl ?_
      exact ⟨by rw [HR.out], HU6.out⟩
    | true =>
      cases q6 with
      | false =>
        have HR := Lib.hid (HN.out (by rw [HO.out]; rfl))
        go_wp2_with fail
        refine bodyPost_ret (v := resV (0, 0, false)) (by simp only [results, Tryd.f6]; simp [go_sem, resV]) rfl ?_
        exact ⟨by rw [HR.out], HU6.out⟩
      | true =>
        have HIMP : Hid (Imp (w6.alloc (.cells #[.slice a1 ha.params.length d1, .int .i64 ha.res, .slice a2 ha.locals.length d2, .slice a3 ha.code.length d3] 33)) (imp4 m.name m.exp (.slice pa m.params.length pc) m.res) m) := Lib.hid ⟨_, rfl, HP6.out, HW.out.1, HW.out.2.1, HW.out.2.2⟩
        go_wp2_with fail
        refine (nFits _ _ _ m ha HIMP.out HMET6.out).mono ?_
        rintro e w7 ⟨rfl, hu⟩
        have HU7 := Lib.hid (HU6.out.trans hu (fun _ h _ => h))
        obtain ⟨r, hr⟩ : ∃ r, (allB eqB m.params ha.params && m.res == ha.res) = r := ⟨_, rfl⟩
        rw [hr]
        have HR := Lib.hid hr
        clear hr hu x0 x1 x2 x3 y0 y1 y2 y3
        cases r with
        | false =>
          have HR := Lib.hid (HN.out (by rw [HO.out, HR.out]; rfl))
          go_wp2_with fail
          refine bodyPost_ret (v := resV (0, 0, false)) (by simp only [results, Tryd.f6]; simp [go_sem, resV]) rfl ?_
          exact ⟨by rw [HR.out], HU7.out⟩
        | true =>
          have HR := Lib.hid (HY.out (by rw [HO.out, HR.out]; rfl))
          go_wp2_with fail
          refine bodyPost_ret (v := resV (to, mm, true)) (by simp only [results, Tryd.f6]; simp [go_sem, resV]) rfl ?_
          exact ⟨by rw [HR.out], HU7.out⟩
end Go.Proofs.YtkjmpobbbjljjaaDoor

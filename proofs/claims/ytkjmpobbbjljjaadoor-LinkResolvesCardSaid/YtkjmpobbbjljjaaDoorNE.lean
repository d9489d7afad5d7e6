/- The reference's Find and Resolve. -/
import Derived.Test.YtkjmpobbbjljjaaDoorND
namespace Go.Proofs.YtkjmpobbbjljjaaDoor
open Go.RowKit Go.Lib
set_option linter.unusedVariables false
set_option linter.unusedSimpArgs false

set_option maxRecDepth 100000 in
set_option maxHeartbeats 4000000 in
theorem rFind8 (w : World) (v : Value) (L : List PIm) (h : Imgs w v L) (s : ByteArray) : Calls Tryd.prog 12 #[v, .string s] w fun e w' => e = .returned (.int .i64 (findP s L)) ∧ Upd (fun _ => False) w w' := by
  have HL := Lib.hid h
  obtain ⟨a, c, rfl, h1, h2⟩ := h.slice
  clear h
  unfold maxLen at h2
  have H0 := Lib.hid (Upd.refl (fun _ => False) w)
  have HT0 : Hid (∀ j, j < 0 → isNm s (L.getD j pim0) = false) := Lib.hid (fun j hj => absurd hj (Nat.not_lt_zero j))
  go_enter Tryd.func12, Tryd.ntmps12
  go_wp2_with fail
  go_loopw [5] (fun i wr => ∃ k : Nat, k ≤ L.length ∧ i = .int .i64 k ∧ Hid (Upd (fun _ => False) w wr) ∧ Hid (∀ j, j < k → isNm s (L.getD j pim0) = false)) (fun i _ => L.length - (intOf i).toNat)
  case atStart => exact ⟨0, Nat.zero_le _, rfl, H0, HT0⟩
  case round =>
    obtain ⟨k, hk, rfl, HU, HT⟩ := hrel
    by_cases hlt : k < L.length
    · obtain ⟨g, off, rfl, c0, -⟩ := (HL.out.later (upd_below HU.out)).at hlt
      obtain ⟨q, hq⟩ : ∃ q, ((L.getD k pim0).1.name.toList == s.toList) = q := ⟨_, rfl⟩
      have HQ : Hid (isNm s (L.getD k pim0) = q) := Lib.hid hq
      generalize (L.getD k pim0).1.name = nm at *
      have hi1 : (0 : Int) ≤ (k : Int) := Int.natCast_nonneg _
      have hi2 : (k : Int) < (L.length : Int) := by omega
      cases q with
      | true =>
        have HE := Lib.hid (findI_some (b := isNm s) (d := pim0) (L := L) hlt HQ.out HT.out)
        go_wp2_with fail
        go_ret
        exact ⟨by unfold findP; rw [HE.out]; rfl, HU.out⟩
      | false =>
        have HT2 : Hid (∀ j, j < k + 1 → isNm s (L.getD j pim0) = false) := Lib.hid (fun j hj => by
          rcases Nat.lt_or_ge j k with h1 | h1
          · exact HT.out j h1
          · have : j = k := by omega
            rw [this]; exact HQ.out)
        go_wp2_with fail
        go_roundw
        case rel => exact ⟨k + 1, by omega, by go_num, HU, HT2⟩
        case measure => simp [intOf]; omega
    · have HF := Lib.hid (findI_none (b := isNm s) (d := pim0) (L := L) (fun j hj => HT.out j (by omega)))
      go_wp2_with fail
      go_ret
      exact ⟨by unfold findP; rw [HF.out]; rfl, HU.out⟩
theorem inL_no {n : Int} {l : Nat} (h : ¬ (0 ≤ n ∧ n < (l : Int))) : inL n l = false := by unfold inL; rw [Bool.eq_false_iff]; simp; omega

set_option maxRecDepth 100000 in
set_option maxHeartbeats 8000000 in
theorem rResolve8 (w : World) (v : Value) (L : List PIm) (h : Imgs w v L) (a k : Int) : Calls Tryd.prog 11 #[v, .int .i64 a, .int .i64 k] w fun e w' => e = .returned (resV (resP L a k)) ∧ Upd (fun _ => False) w w' := by
  have HL := Lib.hid h
  obtain ⟨la, lc, rfl, -, -⟩ := h.slice
  have HT : Hid (rTo L a k = findP (rAsk L a k).1.name L) := Lib.hid rfl
  have HA : Hid (rAsk L a k = atQ default (atQ pim0 L a).1.1.imports k) := Lib.hid rfl
  have HM : Hid (rMth L a k = atQ 0 (atQ pim0 L (rTo L a k)).1.1.exports (rAsk L a k).1.exp) := Lib.hid rfl
  have HH : Hid (rHas L a k = atQ default (atQ pim0 L (rTo L a k)).1.1.methods (rMth L a k).1) := Lib.hid rfl
  have HO : Hid (rOk L a k = ((rAsk L a k).2 && ((rMth L a k).2 && ((rHas L a k).2 && (allB eqB (rAsk L a k).1.params (rHas L a k).1.params && (rAsk L a k).1.res == (rHas L a k).1.res))))) := Lib.hid rfl
  have HRG := Lib.hid (findP_range (rAsk L a k).1.name L)
  have HY := Lib.hid (fun h => resP_yes (L := L) (a := a) (k := k) h)
  have HN := Lib.hid (fun h => resP_no (L := L) (a := a) (k := k) h)
  generalize resP L a k = R at *
  generalize rOk L a k = ok at *
  generalize rHas L a k = has at *
  generalize rMth L a k = mth at *
  generalize rTo L a k = to at *
  generalize rAsk L a k = ask at *
  clear h
  by_cases hina : 0 ≤ a ∧ a < (L.length : Int)
  rotate_left
  · have HR := Lib.hid (HN.out (by rw [HO.out, HA.out, atQ_no hina]; rw [show (atQ (default : ImpM) pim0.1.imports k) = (default, false) by apply atQ_no; show ¬ (0 ≤ k ∧ k < ((0 : Nat) : Int)); omega]; rfl))
    by_cases h0 : a < 0
    · go_enter Tryd.func11, Tryd.ntmps11
      go_wp2_with fail
      refine bodyPost_ret (v := resV (0, 0, false)) (by simp only [results, Tryd.f11]; simp [go_sem, resV]) rfl ?_
      exact ⟨by rw [HR.out], Upd.refl _ _⟩
    · have h1 : (L.length : Int) ≤ a := by omega
      go_enter Tryd.func11, Tryd.ntmps11
      go_wp2_with fail
      refine bodyPost_ret (v := resV (0, 0, false)) (by simp only [results, Tryd.f11]; simp [go_sem, resV]) rfl ?_
      exact ⟨by rw [HR.out], Upd.refl _ _⟩
  obtain ⟨j, rfl⟩ : ∃ j : Nat, a = (j : Int) := ⟨a.toNat, by omega⟩
  have hj : j < L.length := by omega
  obtain ⟨hj0, hj1⟩ := hina
  obtain ⟨g, off, rfl, c0, c1, c2, c3, c4, h5⟩ := HL.out.at hj
  have hg := World.block_lt_of_cell? _ _ c0
  dsimp only at hg
  rw [atQ_yes hj] at HA
  obtain ⟨fa, fc, ia, ic, ma, mc, xa, xc, hp⟩ := h5.open
  generalize L.getD j pim0 = p at *
  have HI := Lib.hid h5.2.1
  rw [hp] at HI c2
  generalize p.1 = I at *
  dsimp only at HI c2 HA
  clear c0 c1 c3 c4 h5 hp
  by_cases hink : 0 ≤ k ∧ k < (I.imports.length : Int)
  rotate_left
  · have HR := Lib.hid (HN.out (by rw [HO.out, HA.out, atQ_no hink]; rfl))
    by_cases h0 : k < 0
    · go_enter Tryd.func11, Tryd.ntmps11
      go_wp2_with fail
      refine bodyPost_ret (v := resV (0, 0, false)) (by simp only [results, Tryd.f11]; simp [go_sem, resV]) rfl ?_
      exact ⟨by rw [HR.out], Upd.refl _ _⟩
    · have h1 : (I.imports.length : Int) ≤ k := by omega
      go_enter Tryd.func11, Tryd.ntmps11
      go_wp2_with fail
      refine bodyPost_ret (v := resV (0, 0, false)) (by simp only [results, Tryd.f11]; simp [go_sem, resV]) rfl ?_
      exact ⟨by rw [HR.out], Upd.refl _ _⟩
  obtain ⟨t, rfl⟩ : ∃ t : Nat, k = (t : Int) := ⟨k.toNat, by omega⟩
  have ht : t < I.imports.length := by omega
  obtain ⟨ht0, ht1⟩ := hink
  obtain ⟨g2, off2, pp, rfl, d0, d1, d2, d3, hm1, hm2, hm3, hm4⟩ := HI.out.at ht
  have hg2 := World.block_lt_of_cell? _ _ d0
  dsimp only at hg2
  rw [atQ_yes ht] at HA
  generalize I.imports.getD t default = m at *
  obtain ⟨pa, pc, rfl, -⟩ := hm1.slice
  have ha := Upd.alloc (fun _ => False) w (.cells #[.string m.name, .int .i64 m.exp, .slice pa m.params.length pc, .int .i64 m.res] 41)
  have HU1 := Lib.hid ha
  have HP1 := Lib.hid (hm1.later (upd_below ha))
  have HB1 := Lib.hid (b4_new w 41 (.string m.name) (.int .i64 m.exp) (.slice pa m.params.length pc) (.int .i64 m.res))
  have HL1 := Lib.hid (HL.out.later (upd_below ha))
  clear ha hm1 hm2 hm3 hm4 HI
  obtain ⟨am, aq⟩ := ask
  obtain ⟨rfl, rfl⟩ : am = m ∧ aq = true := by have := HA.out; simp only [Prod.mk.injEq] at this; exact this
  clear HA
  dsimp only at HT HM HO HRG
  go_enter Tryd.func11, Tryd.ntmps11
  go_wp2_with fail
  refine (rFind8 _ _ L HL1.out am.name).mono ?_
  rintro e w2 ⟨rfl, hu⟩
  have HB2 := Lib.hid (HB1.out.upd hu)
  have HP2 := Lib.hid (HP1.out.later (upd_below hu))
  have HU2 := Lib.hid (HU1.out.trans hu (fun _ h _ => h))
  have HL2 := Lib.hid (HL1.out.later (upd_below hu))
  have HRG' : Hid (to = -1 ∨ ∃ k : Nat, to = (k : Int) ∧ k < L.length) := Lib.hid (by rw [HT.out]; exact HRG.out)
  have HT' : Hid (findP am.name L = to) := Lib.hid HT.out.symm
  rw [HT'.out]
  generalize w.heap.size = b at *
  clear hu HB1 HP1 HL1 HRG HT HT' d0 d1 d2 d3 c2
  obtain ⟨x0, x1, x2, x3⟩ := HB2.out
  rcases HRG'.out with hto | ⟨t2, hto, ht2⟩
  · subst hto
    have HR := Lib.hid (HN.out (by rw [HO.out, HM.out, atQ_no (show ¬ (0 ≤ (-1 : Int) ∧ (-1 : Int) < (L.length : Int)) by omega)]; rw [show (atQ 0 pim0.1.exports am.exp) = ((0 : Int), false) by apply atQ_no; show ¬ (0 ≤ am.exp ∧ am.exp < ((0 : Nat) : Int)); omega]; rfl))
    go_wp2_with fail
    go_quiet (fail)
    go_wp2_with fail
    refine bodyPost_ret (v := resV (0, 0, false)) (by simp only [results, Tryd.f11]; simp [go_sem, resV]) rfl ?_
    exact ⟨by rw [HR.out], HU2.out.trans (lbDrewN (fun _ => False) _ _) (fun _ h _ => h)⟩
  subst hto
  obtain ⟨g, off, hla, c0, c1, c2, c3, c4, h5⟩ := HL2.out.at ht2
  simp only [Option.some.injEq, Addr.mk.injEq, and_true] at hla
  obtain ⟨rfl, rfl⟩ := hla
  have hg := World.block_lt_of_cell? _ _ c0
  dsimp only at hg
  rw [atQ_yes ht2] at HM HH
  obtain ⟨ya, yc, ja, jc, na, nc, za, zc, hp⟩ := h5.open
  generalize L.getD t2 pim0 = p2 at *
  have HJM := Lib.hid h5.2.2.1
  have HJX := Lib.hid h5.2.2.2.1
  rw [hp] at HJM HJX c3 c4 HM HH
  generalize p2.1 = J at *
  dsimp only at HJM HJX c3 c4 HM HH
  clear c0 c1 c2 h5 hp
  have ht20 : (0 : Int) ≤ (t2 : Int) := Int.natCast_nonneg _
  have ht21 : (t2 : Int) < (L.length : Int) := by omega
  have hb1 : decide ((t2 : Int) < 0) = false := by simp
  by_cases hinx : 0 ≤ am.exp ∧ am.exp < (J.exports.length : Int)
  rotate_left
  · have HR := Lib.hid (HN.out (by rw [HO.out, HM.out, atQ_no hinx]; rfl))
    by_cases h0 : am.exp < 0
    · have hb2 : decide (am.exp < 0) = true := by simpa using h0
      go_wp2_with fail
      go_quiet (fail)
      go_wp2_with fail
      refine bodyPost_ret (v := resV (0, 0, false)) (by simp only [results, Tryd.f11]; simp [go_sem, resV]) rfl ?_
      exact ⟨by rw [HR.out], HU2.out.trans (lbDrewN (fun _ => False) _ _) (fun _ h _ => h)⟩
    · have h1 : (J.exports.length : Int) ≤ am.exp := by omega
      have hb2 : decide (am.exp < 0) = false := by simpa using h0
      have hb3 : decide ((J.exports.length : Int) ≤ am.exp) = true := by simpa using h1
      go_wp2_with fail
      go_quiet (fail)
      go_wp2_with fail
      refine bodyPost_ret (v := resV (0, 0, false)) (by simp only [results, Tryd.f11]; simp [go_sem, resV]) rfl ?_
      exact ⟨by rw [HR.out], HU2.out.trans (lbDrewN (fun _ => False) _ _) (fun _ h _ => h)⟩
  obtain ⟨x, hx⟩ : ∃ x : Nat, am.exp = (x : Int) := ⟨am.exp.toNat, by omega⟩
  have hxl : x < J.exports.length := by omega
  rw [hx] at x1 HM
  rw [atQ_yes hxl] at HM
  obtain ⟨hx0, hx1⟩ := hinx
  rw [hx] at hx0 hx1
  obtain ⟨gx, ox, rfl, e0, -⟩ := HJX.out.at hxl
  generalize J.exports.getD x 0 = n at *
  obtain ⟨mm, mq⟩ := mth
  obtain ⟨rfl, rfl⟩ : mm = n ∧ mq = true := by have := HM.out; simp only [Prod.mk.injEq] at this; exact this
  dsimp only at HH HO HY
  clear HM hx
  have hb2 : decide ((x : Int) < 0) = false := by simp
  have hb3 : decide ((J.exports.length : Int) ≤ (x : Int)) = false := by simp; omega
  go_wp2_with fail
  go_quiet (fail)
  revert nq
  intro n1
  go_wp2_with fail
  go_quiet (fail)
  try simp only [World.drewN_drewN]
  have hdr := lbDrewN (fun _ => False) w2 (n1 + nq)
  have HB3 := Lib.hid (HB2.out.upd hdr)
  have HP3 := Lib.hid (HP2.out.later (upd_below hdr))
  have HJ3 := Lib.hid (HJM.out.later (upd_below hdr))
  have HU3 := Lib.hid (HU2.out.trans hdr (fun _ h _ => h))
  have c3' := (hdr.cell (p := ⟨g, off + t2 * 5 + 3, none⟩) hg id).trans c3
  have hg' : g < (w2.drewN (n1 + nq)).heap.size := hg
  generalize w2.drewN (n1 + nq) = W at *
  clear hdr HB2 HP2 HJM HJX HU2 c3 c4 hg x0 x1 x2 x3 e0
  obtain ⟨x0, x1, x2, x3⟩ := HB3.out
  have hb4 := HB3.out.lt
  by_cases hinm : 0 ≤ mm ∧ mm < (J.methods.length : Int)
  rotate_left
  · have HR := Lib.hid (HN.out (by rw [HO.out, HH.out, atQ_no hinm]; rfl))
    by_cases h0 : mm < 0
    · go_wp2_with fail
      refine bodyPost_ret (v := resV (0, 0, false)) (by simp only [results, Tryd.f11]; simp [go_sem, resV]) rfl ?_
      exact ⟨by rw [HR.out], HU3.out⟩
    · have h1 : (J.methods.length : Int) ≤ mm := by omega
      go_wp2_with fail
      refine bodyPost_ret (v := resV (0, 0, false)) (by simp only [results, Tryd.f11]; simp [go_sem, resV]) rfl ?_
      exact ⟨by rw [HR.out], HU3.out⟩
  obtain ⟨y, rfl⟩ : ∃ y : Nat, mm = (y : Int) := ⟨mm.toNat, by omega⟩
  have hyl : y < J.methods.length := by omega
  rw [atQ_yes hyl] at HH
  obtain ⟨hy0, hy1⟩ := hinm
  obtain ⟨gm, om, q1, q2, q3, rfl, f0, f1, f2, f3, g1, g2, g3, g4⟩ := HJ3.out.at hyl
  have hgm := World.block_lt_of_cell? _ _ f0
  dsimp only at hgm
  generalize J.methods.getD y default = ha at *
  obtain ⟨hm9, hq9⟩ := has
  obtain ⟨rfl, rfl⟩ : hm9 = ha ∧ hq9 = true := by have := HH.out; simp only [Prod.mk.injEq] at this; exact this
  dsimp only at HO HY
  clear HH
  have G1 := Lib.hid g1
  obtain ⟨a1, d1, rfl, -⟩ := g1.slice
  obtain ⟨a2, d2, rfl, -⟩ := g2.slice
  obtain ⟨a3, d3, rfl, -⟩ := g3.slice
  have hal := Upd.alloc (fun _ => False) W (.cells #[.slice a1 hm9.params.length d1, .int .i64 hm9.res, .slice a2 hm9.locals.length d2, .slice a3 hm9.code.length d3] 33)
  have HU4 := Lib.hid (HU3.out.trans hal (fun _ h _ => h))
  have HP4 := Lib.hid (HP3.out.later (upd_below hal))
  have HG4 := Lib.hid (G1.out.later (upd_below hal))
  obtain ⟨r1, hr1⟩ : ∃ r, (hm9.res == am.res) = r := ⟨_, rfl⟩
  have HR1 := Lib.hid (show (am.res == hm9.res) = r1 by rw [← hr1, Bool.eq_iff_iff]; simp; omega)
  have HEQ : Hid (allB eqB am.params hm9.params = allB eqB hm9.params am.params) := Lib.hid (by rw [Bool.eq_iff_iff, allB_eq, allB_eq]; exact eq_comm)
  clear hal g1 g2 g3 g4
  cases r1 with
  | false =>
    have hr2 : (hm9.res != am.res) = true := bneF hr1
    have HR := Lib.hid (HN.out (by rw [HO.out, HR1.out]; simp))
    go_wp2_with fail
    refine bodyPost_ret (v := resV (0, 0, false)) (by simp only [results, Tryd.f11]; simp [go_sem, resV]) rfl ?_
    exact ⟨by rw [HR.out], HU4.out⟩
  | true =>
    have hr2 : (hm9.res != am.res) = false := bneT hr1
    go_wp2_with fail
    refine (rSame8 _ _ _ _ _ HG4.out HP4.out).mono ?_
    rintro e w9 ⟨rfl, hu⟩
    have HU9 := Lib.hid (HU4.out.trans hu (fun _ h _ => h))
    obtain ⟨r, hr⟩ : ∃ r, allB eqB hm9.params am.params = r := ⟨_, rfl⟩
    have HRR := Lib.hid hr
    rw [hr]
    clear hr hu
    cases r with
    | false =>
      have HR := Lib.hid (HN.out (by rw [HO.out, HR1.out, HEQ.out, HRR.out]; rfl))
      go_wp2_with fail
      refine bodyPost_ret (v := resV (0, 0, false)) (by simp only [results, Tryd.f11]; simp [go_sem, resV]) rfl ?_
      exact ⟨by rw [HR.out], HU9.out⟩
    | true =>
      have HR := Lib.hid (HY.out (by rw [HO.out, HR1.out, HEQ.out, HRR.out]; rfl))
      go_wp2_with fail
      refine bodyPost_ret (v := resV ((t2 : Int), (y : Int), true)) (by simp only [results, Tryd.f11]; simp [go_sem, resV]) rfl ?_
      exact ⟨by rw [HR.out], HU9.out⟩
end Go.Proofs.YtkjmpobbbjljjaaDoor

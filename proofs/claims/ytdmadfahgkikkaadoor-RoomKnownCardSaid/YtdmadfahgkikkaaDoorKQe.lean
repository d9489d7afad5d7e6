/- Several texts in one. -/
import Derived.Test.YtdmadfahgkikkaaDoorKGa
import Derived.Test.YtdmadfahgkikkaaDoorSame
import Derived.Deep.QuietTactic
/- Package room: a byte is laid; whether two spans are alike. -/
namespace Go.Proofs.YtdmadfahgkikkaaDoor
open Go.RowKit Go.Lib Go.ChangeShapes Go.WideShapes Go.Deep
set_option linter.unusedVariables false
set_option linter.unusedSimpArgs false

theorem usedL_set (L : List ArrM) (j : Nat) (x : ArrM) (hx : j < L.length → x.data.length = (L.getD j default).data.length) : usedL (L.set j x) = usedL L := by
  unfold usedL
  rw [List.map_set]
  by_cases hj : j < L.length
  · rw [setSame _ _ _ (by rw [List.getElem?_map, List.getElem?_eq_getElem hj]; simp; have := hx hj; simp [List.getD, hj] at this; omega)]
  · rw [List.set_eq_of_length_le (by simp; omega)]
theorem used_set (L : List ArrM) (i : Nat) (x : ArrM) (hx : i < 2 ∨ (i < L.length → x.data.length = (L.getD i default).data.length)) : usedP (L.set i x) = usedP L := by
  unfold usedP
  rw [List.drop_set]
  split
  · rfl
  · rename_i h
    rcases hx with h2 | h2
    · omega
    · refine usedL_set _ _ _ (fun hj => ?_)
      simp only [List.length_drop] at hj
      rw [h2 (by omega)]
      simp only [List.getD_eq_getElem?_getD, List.getElem?_drop]
      rw [show 2 + (i - 2) = i by omega]
theorem HpOk.lay {m : HpM} (h : HpOk m) (i : Nat) (ys : List Int) (hy : i < 2 ∨ (i < m.arrs.length → ys.length = (m.arrs.getD i default).data.length)) : HpOk (m.lay i ys) := by
  obtain ⟨h1, h2, h3, h4⟩ := h
  refine ⟨h1, h2, by simpa [HpM.lay] using h3, ?_⟩
  have : usedP (m.lay i ys).arrs = usedP m.arrs := used_set _ _ _ (by simpa [ArrM.put] using hy)
  rw [this]
  exact h4
theorem HpOk.put {m : HpM} (h : HpOk m) (i j : Nat) (y : Int) : HpOk (m.put i j y) := h.lay i _ (.inr fun _ => by simp)
theorem used_add' {m : HpM} (h : 2 ≤ m.arrs.length) (a : ArrM) : usedP (m.add a).arrs = usedP m.arrs + (8 + a.data.length) := by
  unfold usedP HpM.add
  rw [List.drop_append_of_le_length h, usedL_app]
  simp [usedL]
theorem HpOk.add {m : HpM} (h : HpOk m) {own lab life n : Int} {sh : Bool} (hf : fitsB m lab life n = true) : HpOk (m.add (newA own lab life sh n)) := by
  obtain ⟨h1, h2, h3, h4⟩ := h
  refine ⟨h1, h2, by simp [HpM.add]; omega, ?_⟩
  rw [used_add' h3]
  simp [fitsB] at hf
  have e : (newA own lab life sh n).data.length = n.toNat := by simp [newA, zeros]
  rw [e]
  show ((usedP m.arrs + (8 + n.toNat) : Nat) : Int) ≤ m.size
  omega
def putM (M : RmM) (ap ref at_ y : Int) : RmM := if rngP M.hp.arrs ref at_ 1 ap = 36864 then M.withHp (M.hp.put (ref - 1).toNat at_.toNat y) else M
def cutP (L : List ArrM) (ref at_ n : Int) : List Int := ((L.getD (ref - 1).toNat default).data.drop at_.toNat).take n.toNat
def sameP (L : List ArrM) (ap : Int) (s u : SpM) : Int := if reachP L ap [s, u] = 36864 then (if cutP L s.ref s.at_ s.n = cutP L u.ref u.at_ u.n then 1 else 0) else 0
theorem RmAt.heapS {c : Nat → Nat} {w w' : World} {rb hb : Nat} {iv fv pv sv : Value} {ivs fvs : List Value} {M : RmM} (h : RmAt c w rb hb iv fv pv sv ivs fvs M) {m : HpM} (hh : Hep HT (Col c w 1) w' hb m) (hu : Upd (Col c w 1) w w') (hm : HpOk m) :
    Ext (fun i => i = 1) c w (paint c w 1) w' ∧ RmAt (paint c w 1) w' rb hb iv fv pv sv ivs fvs (M.withHp m) :=
  ⟨Ext.of 1 rfl hu, h.heap (Ext.of 1 rfl hu) (hep_same hh hu.size) hm⟩
theorem RmAt.heapM {c : Nat → Nat} {w w' : World} {rb hb : Nat} {iv fv pv sv : Value} {ivs fvs : List Value} {M : RmM} (h : RmAt c w rb hb iv fv pv sv ivs fvs M) {m : HpM} (hh : Hep HT (More (Col c w 1) w w') w' hb m) (hu : Upd (Col c w 1) w w') (hm : HpOk m) :
    Ext (fun i => i = 1) c w (paint c w 1) w' ∧ RmAt (paint c w 1) w' rb hb iv fv pv sv ivs fvs (M.withHp m) :=
  ⟨Ext.of 1 rfl hu, h.heap (Ext.of 1 rfl hu) (hep_more hh hu.size) hm⟩
abbrev T1 (i : Nat) : Prop := i = 1
/-- what is new belongs to nobody -/
theorem RmAt.aside {c : Nat → Nat} {w w' : World} {rb hb : Nat} {iv fv pv sv : Value} {ivs fvs : List Value} {M : RmM} (h : RmAt c w rb hb iv fv pv sv ivs fvs M) (hu : Upd (fun _ => False) w w') : RmAt (paint c w 9) w' rb hb iv fv pv sv ivs fvs M := h.ext (Ext.made None0 9 hu) (fun _ _ h => h)
section
variable {c : Nat → Nat} {w : World} {rb : Nat} {M : RmM}
set_option maxRecDepth 100000 in
set_option maxHeartbeats 1000000 in
theorem rPut1 (h : Rm c w rb M) (ap ref at_ y : Int) (ha : at_ ≤ 9223372036854775807) (hy : 0 ≤ y ∧ y ≤ 255) :
    Calls Tryd.prog 46 #[.pointer (some ⟨rb, 0, none⟩), .int .i64 ap, .agg #[.int .i64 ref, .int .i64 at_, .int .i64 1], .int .u8 y] w fun e w' => e = .returned (.int .i64 (rngP M.hp.arrs ref at_ 1 ap)) ∧ ∃ c', Ext T1 c w c' w' ∧ Rm c' w' rb (putM M ap ref at_ y) := by
  obtain ⟨w1, hw1⟩ : ∃ w1, w1 = (w.alloc (.cells #[.int .i64 ref, .int .i64 at_, .int .i64 1] 110)).alloc (.cells #[.int .i64 ref, .int .i64 at_, .int .i64 1] 110) := ⟨_, rfl⟩
  obtain ⟨hu1, hx1, hs1⟩ := box1 (s := ⟨ref, at_, 1⟩) hw1
  have HR := Lib.hid (rReach (h.quiet hu1) ap _ _ hs1 (by simp) (by simpa using ha))
  rw [reach1] at HR
  simp only at HR hx1
  have HX := Lib.hid hx1
  have HU1 := Lib.hid hu1
  have HW1 := Lib.hid hw1
  have H := Lib.hid h
  have HG := Lib.hid (show putM M ap ref at_ y = if rngP M.hp.arrs ref at_ 1 ap = 36864 then M.withHp (M.hp.put (ref - 1).toNat at_.toNat y) else M from rfl)
  have HF := Lib.hid (fun e => rng_fine (L := M.hp.arrs) (ref := ref) (at_ := at_) (n := 1) (ap := ap) e)
  clear hu1 hx1 hs1 hw1 h
  generalize putM M ap ref at_ y = g at *
  rcases fine_or (rngP M.hp.arrs ref at_ 1 ap) with e | ⟨e1, e2⟩
  · obtain ⟨i, a, k, hi, rfl, rfl, hk, hak, -⟩ := HF.out e
    obtain rfl : k = 1 := by omega
    clear hk
    have HG2 : Hid (g = M.withHp (M.hp.put i a y)) := Lib.hid (by rw [HG.out, if_pos e, show ((i : Int) + 1 - 1).toNat = i by omega]; rfl)
    obtain ⟨hb, iv, fv, pv, sv, ivs, fvs, h⟩ := H.out
    have hfew := h.ok.few
    have HS := Lib.hid (fun u (hu : Upd (fun _ => False) w u) => pPut (h.aside hu).hp hi (by omega) (j := a) (by omega) y hy)
    have HB : Hid (∀ u, Upd (fun k => paint c w 9 k = 1) w1 u → u.cell? ⟨rb, 2, none⟩ = some (.pointer (some ⟨hb, 0, none⟩)) ∧ u.cell? ⟨w.heap.size, 0, none⟩ = some (.int .i64 ((i : Int) + 1)) ∧ u.cell? ⟨w.heap.size, 1, none⟩ = some (.int .i64 a)) :=
      Lib.hid (fun u hu => by
        obtain ⟨e0, e1, -, -⟩ := three (hpBlk hu HX.out (by rw [paint_new c w 9 (Nat.le_refl _)]; omega))
        have hr := (h.aside HU1.out).box
        have hc := (h.aside HU1.out).cb
        exact ⟨(five (hpBlk hu hr (by rw [hc]; omega))).2.2.1, e0, e1⟩)
    have HH := Lib.hid h
    rw [e] at HR ⊢
    clear h HG HF hak e H hfew ha
    go_enter Tryd.func46, Tryd.ntmps46
    go_wp2_with fail
    rw [← HW1.out]
    refine HR.out.mono ?_
    rintro e w2 ⟨rfl, hu⟩
    have HD : Hid (Upd (fun k => paint c w 9 k = 1) w1 w2.drew) := Lib.hid ((hu.trans (Upd.drew (fun _ => False) w2) (fun _ h _ => h)).mono (fun _ h _ => h.elim))
    have HD0 := Lib.hid (HU1.out.trans (hu.trans (Upd.drew (fun _ => False) w2) (fun _ h _ => h)) (fun _ h _ => h))
    clear hu
    go_wp2_with fail
    go_region_held3 (fun w' => w'.cell? ⟨rb, 2, none⟩ = some (.pointer (some ⟨hb, 0, none⟩)) ∧ w'.cell? ⟨w.heap.size, 0, none⟩ = some (.int .i64 ((i : Int) + 1)) ∧ w'.cell? ⟨w.heap.size, 1, none⟩ = some (.int .i64 a)) (first
      | with_reducible exact HB.out _ HD.out
      | with_reducible exact HB.out _ HX3.out) (first
      | (go_at_call 80; (refine (HS.out _ HD0.out).mono ?_); rintro e w3 ⟨rfl, hh, hu⟩; have HX3 : Hid (Upd (fun k => paint c w 9 k = 1) w1 w3) := Lib.hid (HD.out.trans hu (fun _ h _ => h.1)); have HS2 := Lib.hid (RmAt.heapS (HH.out.aside HD0.out) hh hu ((HH.out.ok).put i a y)); clear hh hu))
    all_goals
      go_wp2_with fail
      go_ret
      rw [HG2.out]
      exact ⟨rfl, _, (Ext.made _ 9 HD0.out).trans HS2.out.1 (fun _ h => h), _, _, _, _, _, _, _, HS2.out.2⟩
  · have hg : g = M := by rw [HG.out, if_neg e2]
    subst hg
    generalize rngP g.hp.arrs ref at_ 1 ap = st at *
    clear HG HF e2 HX
    go_enter Tryd.func46, Tryd.ntmps46
    go_wp2_with fail
    rw [← HW1.out]
    refine HR.out.mono ?_
    rintro e w2 ⟨rfl, hu⟩
    have HX2 := Lib.hid (HU1.out.trans hu (fun _ h _ => h))
    clear hu
    go_wp2_with fail
    go_ret
    exact ⟨rfl, c, Ext.quietT _ c HX2.out, H.out.quiet HX2.out⟩
theorem reach2 {L : List ArrM} {ap : Int} {s u : SpM} (h : reachP L ap [s, u] = 36864) : rngP L s.ref s.at_ s.n ap = 36864 ∧ rngP L u.ref u.at_ u.n ap = 36864 := by
  simp only [reachP] at h
  split at h
  · rename_i h1
    split at h
    · rename_i h2; exact ⟨h1, h2⟩
    · exact ⟨h1, h⟩
  · rename_i h1; exact absurd h h1
theorem box2 {w w1 : World} {s u : SpM} (hw1 : w1 = ((w.alloc (.cells #[.int .i64 s.ref, .int .i64 s.at_, .int .i64 s.n] 110)).alloc (.cells #[.int .i64 u.ref, .int .i64 u.at_, .int .i64 u.n] 110)).alloc (.cells #[.int .i64 s.ref, .int .i64 s.at_, .int .i64 s.n, .int .i64 u.ref, .int .i64 u.at_, .int .i64 u.n] 110)) :
    Upd (fun _ => False) w w1 ∧ w1.heap[w.heap.size]? = some (.cells #[.int .i64 s.ref, .int .i64 s.at_, .int .i64 s.n] 110 (0, 0)) ∧ w1.heap[w.heap.size + 1]? = some (.cells #[.int .i64 u.ref, .int .i64 u.at_, .int .i64 u.n] 110 (0, 0)) ∧ Sps w1 (.slice (some ⟨w.heap.size + 2, 0, none⟩) 2 2) [s, u] := by
  subst hw1
  refine ⟨((Upd.alloc _ _ _).trans (Upd.alloc _ _ _) (fun _ h _ => h)).trans (Upd.alloc _ _ _) (fun _ h _ => h), ?_, ?_, sps2 (t := 110) (hpTop _ _ _ (by simp))⟩
  · exact hpBlk (S := fun _ => False) ((Upd.alloc _ _ _).trans (Upd.alloc _ _ _) (fun _ h _ => h)) (hpTop w _ _ rfl) (fun h => h)
  · exact hpBlk (S := fun _ => False) (Upd.alloc _ _ _) (hpTop _ _ _ (by simp)) (fun h => h)
end
end Go.Proofs.YtdmadfahgkikkaaDoor
/- Package room: an applet's fields. -/
namespace Go.Proofs.YtdmadfahgkikkaaDoor
open Go.RowKit Go.Lib Go.ChangeShapes Go.WideShapes Go.Deep
set_option linter.unusedVariables false
set_option linter.unusedSimpArgs false

def FT (i : Nat) (j : Nat) : Prop := j = 100 + i
theorem ft_ne {i j : Nat} (h : j ≠ 100 + i) : ¬ FT i j := h
def RmM.setF (M : RmM) (i k : Nat) (n : Int) : RmM := ⟨M.hp, M.fields.set i ((M.fields.getD i []).set k n), M.pub, M.sec, M.im⟩
section
variable {c : Nat → Nat} {w : World} {rb hb : Nat} {iv fv pv sv : Value} {ivs fvs : List Value} {M : RmM}
theorem RmAt.row (h : RmAt c w rb hb iv fv pv sv ivs fvs M) {i k : Nat} (hi : i < M.fields.length) (hk : k < (M.fields.getD i []).length) : ∃ gf cf g cg, fv = .slice (some ⟨gf, 0, none⟩) M.fields.length cf ∧ M.fields.length ≤ cf ∧ cf ≤ maxLen ∧ fvs.getD i default = .slice (some ⟨g, 0, none⟩) (M.fields.getD i []).length cg ∧ (M.fields.getD i []).length ≤ cg ∧ cg ≤ maxLen ∧
    w.cell? ⟨gf, i, none⟩ = some (.slice (some ⟨g, 0, none⟩) (M.fields.getD i []).length cg) ∧ w.cell? ⟨g, k, none⟩ = some (.int .i32 ((M.fields.getD i []).getD k 0)) ∧ w.frozen? ⟨g, k, none⟩ = false ∧ c g = 100 + i := by
  have hf := h.flds
  have hr := h.fld i hi
  rcases h.flds.2 with ⟨_, h0⟩ | ⟨gf, cf, cur, rfl, -, -, hcf, hmf, -⟩
  · omega
  · rcases hr.2 with ⟨_, h0⟩ | ⟨g, cg, cur2, he, -, -, hcg, hmg, -⟩
    · omega
    · have hlen : fvs.length = M.fields.length := by simpa using h.flds.1
      have c1 := rowCell hf (j := i) (u := fvs.getD i default) (by simp [List.getD, show i < fvs.length by omega])
      rw [he] at c1
      rw [he] at hr
      have c2 := rowCell hr (j := k) (u := .int .i32 ((M.fields.getD i []).getD k 0)) (by simp only [i32v, List.getElem?_map, List.getD_eq_getElem?_getD] at hk ⊢; rw [List.getElem?_eq_getElem hk]; rfl)
      exact ⟨gf, cf, g, cg, rfl, hcf, hmf, he, hcg, hmg, c1, c2, hpFrozen hr k, h.cx i g hi (by rw [he]; rfl)⟩
/-- a field is set -/
theorem RmAt.setF (h : RmAt c w rb hb iv fv pv sv ivs fvs M) {i k : Nat} (hi : i < M.fields.length) {g cg : Nat} (he : fvs.getD i default = .slice (some ⟨g, 0, none⟩) (M.fields.getD i []).length cg) (n : Int) :
    Ext (FT i) c w c (w.setCell ⟨g, k, none⟩ (.int .i32 n)) ∧ RmAt c (w.setCell ⟨g, k, none⟩ (.int .i32 n)) rb hb iv fv pv sv ivs fvs (M.setF i k n) := by
  have hcg := h.cx i g hi (by rw [he]; rfl)
  have hu : Upd (fun q => q = g) w (w.setCell ⟨g, k, none⟩ (.int .i32 n)) := hpS (Upd.refl _ _) rfl
  have E : Ext (FT i) c w c (w.setCell ⟨g, k, none⟩ (.int .i32 n)) := ⟨fun _ _ => rfl, hu.mono (fun q hq _ => by rw [hq, hcg]; rfl)⟩
  have hlen : (M.setF i k n).fields.length = M.fields.length := by simp [RmM.setF]
  have hget : ∀ j, j < M.fields.length → (M.setF i k n).fields.getD j [] = if j = i then (M.fields.getD i []).set k n else M.fields.getD j [] := fun j hj => by
    simp only [RmM.setF, List.getD_eq_getElem?_getD, List.getElem?_set]
    by_cases e : i = j
    · subst e
      simp [hj]
    · rw [if_neg e, if_neg (Ne.symm e)]
  refine ⟨E, ?_⟩
  refine ⟨E.blk h.box (by rw [h.cb]; exact ft_ne (by omega)), E.hep h.hp (ft_ne (by omega)), h.ok, by rw [hlen]; exact E.row h.imgs (fun q hq => by rw [h.ci q hq]; exact ft_ne (by omega)), by rw [hlen]; exact E.row h.flds (fun q hq => by rw [h.cf q hq]; exact ft_ne (by omega)),
    fun j hj => ?_, E.row h.pub (fun q hq => by rw [h.cp q hq]; exact ft_ne (by omega)), E.row h.sec (fun q hq => by rw [h.cs q hq]; exact ft_ne (by omega)), h.pb, h.sb, h.i1, h.f1, h.cb, h.ci, h.cf, h.cp, h.cs, fun j q hj hq => h.cx j q (by rw [← hlen]; exact hj) hq, by rw [hlen]; exact h.fl, h.es⟩
  rw [hlen] at hj
  rw [hget j hj]
  by_cases e : j = i
  · subst e
    rw [if_pos rfl, List.length_set]
    have hr := h.fld j hj
    rw [he] at hr ⊢
    have := hpSet hr k (.int .i32 n)
    simpa [i32v, List.map_set] using this
  · rw [if_neg e]
    exact E.row (h.fld j hj) (fun q hq => by rw [h.cx j q hj hq]; exact ft_ne (by omega))
theorem rFieldAt (h : RmAt c w rb hb iv fv pv sv ivs fvs M) {i k : Nat} (hi : i < M.fields.length) (hk : k < (M.fields.getD i []).length) : ∃ g cg, fvs.getD i default = .slice (some ⟨g, 0, none⟩) (M.fields.getD i []).length cg ∧ w.cell? ⟨g, k, none⟩ = some (.int .i32 ((M.fields.getD i []).getD k 0)) ∧ w.frozen? ⟨g, k, none⟩ = false ∧
    Calls Tryd.prog 35 #[.pointer (some ⟨rb, 0, none⟩), .int .i64 (i : Int), .int .i64 (k : Int)] w fun e w' => e = .returned (.pointer (some ⟨g, k, none⟩)) ∧ w = w' := by
  obtain ⟨-, b1, -, -, -, -⟩ := h.bx
  obtain ⟨gf, cf, g, cg, rfl, hcf, hmf, he, hcg, hmg, k1, k2, k3, -⟩ := h.row hi hk
  refine ⟨g, cg, he, k2, k3, ?_⟩
  clear k2 k3 he h
  unfold maxLen at hmf hmg
  have t1 : decide ((i : Int) < 0) = false := by simp only [decide_eq_false_iff_not]; omega
  have t2 : decide ((M.fields.length : Int) ≤ (i : Int)) = false := by simp only [decide_eq_false_iff_not]; omega
  have t3 : decide ((k : Int) < 0) = false := by simp only [decide_eq_false_iff_not]; omega
  have t4 : decide (((M.fields.getD i []).length : Int) ≤ (k : Int)) = false := by simp only [decide_eq_false_iff_not]; omega
  have i0 : (0 : Int) ≤ (i : Int) := Int.natCast_nonneg _
  have i1 : (i : Int) < (M.fields.length : Int) := by omega
  have i2 : (0 : Int) ≤ (k : Int) := Int.natCast_nonneg _
  have i3 : (k : Int) < ((M.fields.getD i []).length : Int) := by omega
  generalize (M.fields.getD i []).length = m at *
  generalize M.fields.length = n at *
  go_enter Tryd.func35, Tryd.ntmps35
  go_wp2_with fail
  go_ret
  exact ⟨rfl, rfl⟩
theorem rSetField (h : Rm c w rb M) {i k : Nat} (hi : i < M.fields.length) (hk : k < (M.fields.getD i []).length) (n : Int) :
    Calls Tryd.prog 11 #[.pointer (some ⟨rb, 0, none⟩), .int .i64 (i : Int), .int .i64 (k : Int), .int .i32 n] w fun e w' => e = .returned (.bool true) ∧ Ext (FT i) c w c w' ∧ Rm c w' rb (M.setF i k n) := by
  obtain ⟨hb, iv, fv, pv, sv, ivs, fvs, h⟩ := h
  obtain ⟨g, cg, he, k2, k3, hc⟩ := rFieldAt h hi hk
  have HC := Lib.hid hc
  have HS := Lib.hid (h.setF (k := k) hi he n)
  clear h he hc
  go_enter Tryd.func11, Tryd.ntmps11
  go_wp2_with fail
  refine HC.out.mono ?_
  rintro e w' ⟨rfl, rfl⟩
  go_wp2_with fail
  go_ret
  exact ⟨rfl, HS.out.1, _, _, _, _, _, _, _, HS.out.2⟩
theorem rField (h : Rm c w rb M) {i k : Nat} (hi : i < M.fields.length) (hk : k < (M.fields.getD i []).length) :
    Calls Tryd.prog 12 #[.pointer (some ⟨rb, 0, none⟩), .int .i64 (i : Int), .int .i64 (k : Int)] w fun e w' => e = .returned (.tuple #[.int .i32 ((M.fields.getD i []).getD k 0), .bool true]) ∧ w = w' := by
  obtain ⟨hb, iv, fv, pv, sv, ivs, fvs, h⟩ := h
  obtain ⟨g, cg, he, k2, k3, hc⟩ := rFieldAt h hi hk
  have HC := Lib.hid hc
  clear h he hc k3
  generalize (M.fields.getD i []).getD k 0 = x at *
  go_enter Tryd.func12, Tryd.ntmps12
  go_wp2_with fail
  refine HC.out.mono ?_
  rintro e w' ⟨rfl, rfl⟩
  go_wp2_with fail
  refine bodyPost_ret (v := .tuple #[.int .i32 x, .bool true]) (by simp only [results, Tryd.f12]; simp [go_sem]) rfl ?_
  exact ⟨rfl, rfl⟩
end
end Go.Proofs.YtdmadfahgkikkaaDoor
/- Package room: a new array; how many args; args as numbers; a division. -/
namespace Go.Proofs.YtdmadfahgkikkaaDoor
open Go.RowKit Go.Lib Go.ChangeShapes Go.WideShapes Go.Deep
set_option linter.unusedVariables false
set_option linter.unusedSimpArgs false

def newS (M : RmM) (a b n : Int) : Int := if n < 0 ∨ 64 < n then 28425 else if fitsB M.hp a (b % 4) n = true then 36864 else 28421
def newN (M : RmM) (a b n : Int) : Int := if newS M a b n = 36864 then (M.hp.arrs.length : Int) + 1 else 0
def newM (M : RmM) (ap a b n : Int) : RmM := if newS M a b n = 36864 then M.withHp (M.hp.add (newA ap a (b % 4) (decide (4 ≤ b)) n)) else M
theorem and3 {b : Int} (h : 0 ≤ b ∧ b ≤ 7) : bits .and .i64 b 3 = b % 4 := by
  rcases (by omega : b = 0 ∨ b = 1 ∨ b = 2 ∨ b = 3 ∨ b = 4 ∨ b = 5 ∨ b = 6 ∨ b = 7) with rfl | rfl | rfl | rfl | rfl | rfl | rfl | rfl <;> decide +kernel
section
variable {c : Nat → Nat} {w : World} {rb : Nat} {M : RmM}
set_option maxRecDepth 100000 in
set_option maxHeartbeats 1000000 in
theorem rAlloc (h : Rm c w rb M) (ap a b n : Int) (hb0 : 0 ≤ b ∧ b ≤ 7) :
    Calls Tryd.prog 42 #[.pointer (some ⟨rb, 0, none⟩), .int .i64 ap, .int .i64 a, .int .i64 b, .int .i64 n] w fun e w' => e = .returned (.tuple #[.int .i32 (newN M a b n), .int .i64 (newS M a b n)]) ∧ ∃ c', Ext T1 c w c' w' ∧ Rm c' w' rb (newM M ap a b n) := by
  obtain ⟨hb, iv, fv, pv, sv, ivs, fvs, h⟩ := h
  have hfew := h.ok.few
  have HH := Lib.hid h
  have HAND := Lib.hid (and3 hb0)
  have b2 := h.bx.2.2.1
  have HS := Lib.hid (show newS M a b n = if n < 0 ∨ 64 < n then 28425 else if fitsB M.hp a (b % 4) n = true then 36864 else 28421 from rfl)
  have HN := Lib.hid (show newN M a b n = if newS M a b n = 36864 then (M.hp.arrs.length : Int) + 1 else 0 from rfl)
  have HM := Lib.hid (show newM M ap a b n = if newS M a b n = 36864 then M.withHp (M.hp.add (newA ap a (b % 4) (decide (4 ≤ b)) n)) else M from rfl)
  clear h
  generalize newN M a b n = N at *
  generalize newM M ap a b n = g at *
  generalize newS M a b n = S0 at *
  by_cases h1 : n < 0 ∨ 64 < n
  · have e1 : S0 = 28425 := by rw [HS.out, if_pos h1]
    subst e1
    have e2 : N = 0 := by rw [HN.out, if_neg (by decide)]
    subst e2
    have e3 : g = M := by rw [HM.out, if_neg (by decide)]
    subst e3
    clear HS HN HM HAND b2
    rcases (by omega : n < 0 ∨ (0 ≤ n ∧ 64 < n)) with h2 | ⟨h2, h3⟩
    · have t1 : decide (n < 0) = true := by simpa using h2
      clear h1 h2
      go_enter Tryd.func42, Tryd.ntmps42
      go_wp2_with fail
      refine bodyPost_ret (v := .tuple #[.int .i32 0, .int .i64 28425]) (by simp only [results, Tryd.f42]; simp [go_sem]) rfl ?_
      exact ⟨rfl, c, Ext.refl _ _ _, _, _, _, _, _, _, _, HH.out⟩
    · have t1 : decide (n < 0) = false := by simp; omega
      have t2 : decide (64 < n) = true := by simpa using h3
      clear h1 h2 h3
      go_enter Tryd.func42, Tryd.ntmps42
      go_wp2_with fail
      refine bodyPost_ret (v := .tuple #[.int .i32 0, .int .i64 28425]) (by simp only [results, Tryd.f42]; simp [go_sem]) rfl ?_
      exact ⟨rfl, c, Ext.refl _ _ _, _, _, _, _, _, _, _, HH.out⟩
  · have t1 : decide (n < 0) = false := by simp; omega
    have t2 : decide (64 < n) = false := by simp; omega
    have hz : 0 ≤ M.hp.size ∧ M.hp.size ≤ 4096 := by have := HH.out.ok; exact ⟨by have := this.1; omega, this.2.1⟩
    rw [if_neg h1] at HS
    clear h1
    cases hf : fitsB M.hp a (b % 4) n with
    | true =>
      have e1 : S0 = 36864 := by rw [HS.out, if_pos hf]
      subst e1
      have e2 : N = (M.hp.arrs.length : Int) + 1 := by rw [HN.out, if_pos rfl]
      subst e2
      have e3 : g = M.withHp (M.hp.add (newA ap a (b % 4) (decide (4 ≤ b)) n)) := by rw [HM.out, if_pos rfl]
      have HGG := Lib.hid e3
      have HA := Lib.hid (pAlloc HH.out.hp (by omega) hz ap a (b % 4) n (decide (4 ≤ b)) hf)
      have HOK := Lib.hid (HpOk.add HH.out.ok (own := ap) (sh := decide (4 ≤ b)) hf)
      clear HS HN HM e3 hf
      have hw1 : IntKind.i32.wrap ((M.hp.arrs.length + 1 : Nat) : Int) = (M.hp.arrs.length : Int) + 1 := by rw [IntKind.wrap_i32]; omega
      have hw2 : IntKind.i32.wrap ((M.hp.arrs.length : Int) + 1) = (M.hp.arrs.length : Int) + 1 := by rw [IntKind.wrap_i32]; omega
      go_enter Tryd.func42, Tryd.ntmps42
      go_wp2_with fail
      rw [HAND.out]
      refine HA.out.mono ?_
      rintro e w1 ⟨rfl, hh, hu⟩
      have HR := Lib.hid (HH.out.heapM hh hu HOK.out)
      clear hh hu HA HAND
      go_wp2_with fail
      refine bodyPost_ret (v := .tuple #[.int .i32 ((M.hp.arrs.length : Int) + 1), .int .i64 36864]) (by simp only [results, Tryd.f42]; simp [go_sem]) rfl ?_
      rw [HGG.out]
      exact ⟨rfl, _, HR.out.1, _, _, _, _, _, _, _, HR.out.2⟩
    | false =>
      have e1 : S0 = 28421 := by rw [HS.out, if_neg (by rw [hf]; simp)]
      subst e1
      have e2 : N = 0 := by rw [HN.out, if_neg (by decide)]
      subst e2
      have e3 : g = M := by rw [HM.out, if_neg (by decide)]
      subst e3
      have HA := Lib.hid (pAlloc_no HH.out.hp (by omega) hz ap a (b % 4) n (decide (4 ≤ b)) hf)
      clear HS HN HM hf
      go_enter Tryd.func42, Tryd.ntmps42
      go_wp2_with fail
      rw [HAND.out]
      refine HA.out.mono ?_
      rintro e w1 ⟨rfl, hu⟩
      have HR := Lib.hid hu
      clear hu HA HAND
      go_wp2_with fail
      refine bodyPost_ret (v := .tuple #[.int .i32 0, .int .i64 28421]) (by simp only [results, Tryd.f42]; simp [go_sem]) rfl ?_
      exact ⟨rfl, c, Ext.quietT _ c HR.out, _, _, _, _, _, _, _, HH.out.quiet HR.out⟩
end
def servesP (op : Int) : Int := if op = 27 ∨ op = 28 then 1 else if op = 17 ∨ op = 18 ∨ op = 29 then 2 else if op = 30 ∨ op = 36 then 3 else if op = 31 ∨ op = 32 then 5 else -1
theorem rServes (op : Int) (w : World) : Calls Tryd.prog 19 #[.int .i64 op] w fun e w' => e = .returned (.int .i64 (servesP op)) ∧ w = w' := by
  have HP := Lib.hid (show servesP op = if op = 27 ∨ op = 28 then 1 else if op = 17 ∨ op = 18 ∨ op = 29 then 2 else if op = 30 ∨ op = 36 then 3 else if op = 31 ∨ op = 32 then 5 else -1 from rfl)
  generalize servesP op = r at *
  go_enter Tryd.func19, Tryd.ntmps19
  go_wp2_with fail
  all_goals go_ret
  all_goals
    refine ⟨ret_i64 ?_, rfl⟩
    rw [HP.out]
    simp_all
theorem rDivided_no (n : Int) (w : World) : Calls Tryd.prog 38 #[.int .i32 n, .bool false] w fun e w' => e = .returned (.tuple #[.int .i32 0, .int .i64 28419]) ∧ w = w' := by
  go_enter Tryd.func38, Tryd.ntmps38
  go_wp2_with fail
  refine bodyPost_ret (v := .tuple #[.int .i32 0, .int .i64 28419]) (by simp only [results, Tryd.f38]; simp [go_sem]) rfl ?_
  exact ⟨rfl, rfl⟩
theorem rDivided (n : Int) (w : World) : Calls Tryd.prog 38 #[.int .i32 n, .bool true] w fun e w' => e = .returned (.tuple #[.int .i32 n, .int .i64 36864]) ∧ w = w' := by
  go_enter Tryd.func38, Tryd.ntmps38
  go_wp2_with fail
  refine bodyPost_ret (v := .tuple #[.int .i32 n, .int .i64 36864]) (by simp only [results, Tryd.f38]; simp [go_sem]) rfl ?_
  exact ⟨rfl, rfl⟩
/-- numbers of 32 bits in a slice -/
def I32 (w : World) (v : Value) (xs : List Int) : Prop := (∀ x ∈ xs, -2147483648 ≤ x ∧ x ≤ 2147483647) ∧ ∃ a c, v = .slice a xs.length c ∧ xs.length ≤ c ∧ c ≤ maxLen ∧ (xs = [] ∨ ∃ g off, a = some ⟨g, off, none⟩ ∧ ∀ j, j < xs.length → w.cell? ⟨g, off + j, none⟩ = some (.int .i32 (xs.getD j 0)))
theorem I32.upd {w w' : World} {v : Value} {xs : List Int} {S : Nat → Prop} (h : I32 w v xs) (hu : Upd S w w') (hS : ∀ k, v.ownBlock = some k → ¬ S k) : I32 w' v xs := by
  obtain ⟨h1, a, c, rfl, h2, h3, h4⟩ := h
  refine ⟨h1, a, c, rfl, h2, h3, ?_⟩
  rcases h4 with h4 | ⟨g, off, rfl, h4⟩
  · exact .inl h4
  · refine .inr ⟨g, off, rfl, fun j hj => ?_⟩
    have hc := h4 j hj
    exact (hu.cell (p := ⟨g, off + j, none⟩) (World.block_lt_of_cell? w _ hc) (hS g rfl)).trans hc
theorem I32.at {w : World} {a : Option Addr} {n c k : Nat} {xs : List Int} (h : I32 w (.slice a n c) xs) (hk : k < xs.length) : ∃ g off, a = some ⟨g, off, none⟩ ∧ n = xs.length ∧ w.cell? ⟨g, off + k, none⟩ = some (.int .i32 (xs.getD k 0)) := by
  obtain ⟨h1, a', c', he, h2, h3, h4⟩ := h
  simp at he
  obtain ⟨rfl, rfl, rfl⟩ := he
  rcases h4 with h4 | ⟨g, off, rfl, h4⟩
  · subst h4; simp at hk
  · exact ⟨g, off, rfl, rfl, h4 k hk⟩
end Go.Proofs.YtdmadfahgkikkaaDoor
/- Package room: a new one; what begins; what was told. -/
namespace Go.Proofs.YtdmadfahgkikkaaDoor
open Go.RowKit Go.Lib Go.ChangeShapes Go.WideShapes Go.Deep
set_option linter.unusedVariables false
set_option linter.unusedSimpArgs false

def noRoom (s : Int) : RmM := ⟨two s, [], [], [], []⟩
section
variable {c : Nat → Nat} {w : World} {rb : Nat} {M : RmM}
theorem rNewRoom (c : Nat → Nat) (s : Int) (w : World) (h1 : 64 ≤ s) (h2 : s ≤ 4096) : Calls Tryd.prog 6 #[.int .i64 s] w fun e w' => ∃ rb c', e = .returned (.tuple #[.pointer (some ⟨rb, 0, none⟩), .int .i64 0]) ∧ Ext None0 c w c' w' ∧ Rm c' w' rb (noRoom s) := by
  have HN := Lib.hid (pNew (w := w) s h1 h2)
  have HO := Lib.hid (HpOk.two h1 h2)
  go_enter Tryd.func6, Tryd.ntmps6
  go_wp2_with fail
  refine HN.out.mono ?_
  rintro e w1 ⟨hb, rfl, hh, hu⟩
  have HH := Lib.hid hh
  have HU := Lib.hid hu
  clear hh hu HN
  go_wp2_with fail
  refine bodyPost_ret (v := .tuple #[.pointer (some ⟨w1.heap.size, 0, none⟩), .int .i64 0]) (by simp only [results, Tryd.f6]; simp [go_sem]) rfl ?_
  refine ⟨w1.heap.size, paint (paint c w 1) w1 2, rfl, ?_, ?_⟩
  · exact (Ext.made None0 1 HU.out).trans (Ext.made None0 2 (Upd.alloc _ _ _)) (fun _ h => h)
  · have hx : Ext None0 (paint c w 1) w1 (paint (paint c w 1) w1 2) (w1.alloc (.cells #[.slice none 0 0, .slice none 0 0, .pointer (some ⟨hb, 0, none⟩), .slice none 0 0, .slice none 0 0] 87)) := Ext.made None0 2 (Upd.alloc _ _ _)
    refine ⟨hb, .slice none 0 0, .slice none 0 0, .slice none 0 0, .slice none 0 0, [], [], ⟨hpTop _ _ _ rfl, hx.hep (hep_since c HH.out) (fun h => h), HO.out, World.ownsRow_nil _ _ _ _, World.ownsRow_nil _ _ _ _, fun i hi => absurd hi (by simp [noRoom]), World.ownsRow_nil _ _ _ _, World.ownsRow_nil _ _ _ _, ⟨by simp [noRoom], by simp [noRoom]⟩, ⟨by simp [noRoom], by simp [noRoom]⟩, by simp, by simp, paint_new _ _ _ (Nat.le_refl _), by simp [Value.ownBlock], by simp [Value.ownBlock], by simp [Value.ownBlock], by simp [Value.ownBlock], fun i k hi => absurd hi (by simp [noRoom]), by simp [noRoom], rfl⟩⟩
theorem rNewRoom_no (s : Int) (w : World) (h : s < 64 ∨ 4096 < s) : Calls Tryd.prog 6 #[.int .i64 s] w fun e w' => e = .returned (.tuple #[.pointer none, .int .i64 1]) ∧ w = w' := by
  have HN := Lib.hid (hNew_no s w h)
  clear h
  go_enter Tryd.func6, Tryd.ntmps6
  go_wp2_with fail
  refine HN.out.mono ?_
  rintro e w1 ⟨rfl, rfl⟩
  go_wp2_with fail
  refine bodyPost_ret (v := .tuple #[.pointer none, .int .i64 1]) (by simp only [results, Tryd.f6]; simp [go_sem]) rfl ?_
  exact ⟨rfl, rfl⟩
/-- the room's heap -/
theorem rHeap (h : Rm c w rb M) : ∃ hb, Calls Tryd.prog 16 #[.pointer (some ⟨rb, 0, none⟩)] w (fun e w' => e = .returned (.pointer (some ⟨hb, 0, none⟩)) ∧ w = w') ∧ Hep HT (Col c w 1) w hb M.hp ∧ HpOk M.hp := by
  obtain ⟨hb, iv, fv, pv, sv, ivs, fvs, h⟩ := h
  obtain ⟨-, -, b2, -, -, -⟩ := h.bx
  refine ⟨hb, ?_, h.hp, h.ok⟩
  clear h
  go_enter Tryd.func16, Tryd.ntmps16
  go_wp2_with fail
  go_ret
  exact ⟨rfl, rfl⟩
theorem rCount (h : Rm c w rb M) : Calls Tryd.prog 20 #[.pointer (some ⟨rb, 0, none⟩)] w fun e w' => e = .returned (.int .i64 (M.fields.length : Int)) ∧ w = w' := by
  obtain ⟨hb, iv, fv, pv, sv, ivs, fvs, h⟩ := h
  obtain ⟨b0, -, -, -, -, -⟩ := h.bx
  obtain ⟨a, k, rfl⟩ := ownsRow_slice h.imgs
  clear h
  go_enter Tryd.func20, Tryd.ntmps20
  go_wp2_with fail
  go_ret
  exact ⟨rfl, rfl⟩
def BT (i : Nat) : Prop := i = 1 ∨ i = 2
def beginM (M : RmM) (x y : List Int) : RmM := ⟨(M.hp.lay 0 x).lay 1 y, M.fields, [], [], M.im⟩
theorem rBegin_no (u v : Value) (x y : List Int) (hx : Vw w u x) (hy : Vw w v y) (hl : 64 < x.length ∨ 64 < y.length) : Calls Tryd.prog 13 #[.pointer (some ⟨rb, 0, none⟩), u, v] w fun e w' => e = .returned (.bool false) ∧ w = w' := by
  obtain ⟨ua, uc, rfl, -, -⟩ := hx.slice
  obtain ⟨va, vc, rfl, -, -⟩ := hy.slice
  clear hx hy
  rcases (by omega : 64 < x.length ∨ (x.length ≤ 64 ∧ 64 < y.length)) with h | ⟨h, h2⟩
  · have t1 : decide ((x.length : Int) > 64) = true := by simp; omega
    have t2 : decide ((64 : Int) < (x.length : Int)) = true := by simp; omega
    clear hl h
    go_enter Tryd.func13, Tryd.ntmps13
    go_wp2_with fail
    go_ret
    exact ⟨rfl, rfl⟩
  · have t2 : decide ((64 : Int) < (x.length : Int)) = false := by simp; omega
    have t3 : decide ((64 : Int) < (y.length : Int)) = true := by simp; omega
    clear hl h h2
    go_enter Tryd.func13, Tryd.ntmps13
    go_wp2_with fail
    go_ret
    exact ⟨rfl, rfl⟩
theorem hlay_len (m : HpM) (i : Nat) (x : List Int) : (m.lay i x).arrs.length = m.arrs.length := by simp [HpM.lay]
theorem RmAt.begun {c : Nat → Nat} {w : World} {rb hb : Nat} {iv fv pv sv : Value} {ivs fvs : List Value} {M : RmM} (h : RmAt c w rb hb iv fv pv sv ivs fvs M) :
    Ext BT c w c ((w.setCell ⟨rb, 3, none⟩ (.slice none 0 0)).setCell ⟨rb, 4, none⟩ (.slice none 0 0)) ∧ Rm c ((w.setCell ⟨rb, 3, none⟩ (.slice none 0 0)).setCell ⟨rb, 4, none⟩ (.slice none 0 0)) rb ⟨M.hp, M.fields, [], [], M.im⟩ := by
  have hu : Upd (fun k => k = rb) w ((w.setCell ⟨rb, 3, none⟩ (.slice none 0 0)).setCell ⟨rb, 4, none⟩ (.slice none 0 0)) := hpS (hpS (Upd.refl _ _) rfl) rfl
  have E : Ext (fun i => i = 2) c w c ((w.setCell ⟨rb, 3, none⟩ (.slice none 0 0)).setCell ⟨rb, 4, none⟩ (.slice none 0 0)) := ⟨fun _ _ => rfl, hu.mono (fun k hk _ => by rw [hk]; exact h.cb)⟩
  refine ⟨E.mono (fun _ h => .inr h), hb, iv, fv, .slice none 0 0, .slice none 0 0, ivs, fvs, ?_⟩
  exact ⟨by simp [World.setCell, Array.getElem?_modify, h.box], E.hep h.hp (by omega), h.ok, E.row h.imgs (fun k hk => by rw [h.ci k hk]; omega), E.row h.flds (fun k hk => by rw [h.cf k hk]; omega),
    fun i hi => E.row (h.fld i hi) (fun k hk => by rw [h.cx i k hi hk]; omega), World.ownsRow_nil _ _ _ _, World.ownsRow_nil _ _ _ _, ⟨by simp, by simp⟩, ⟨by simp, by simp⟩, h.i1, h.f1, h.cb, h.ci, h.cf, by simp [Value.ownBlock], by simp [Value.ownBlock], h.cx, h.fl, h.es⟩
set_option maxRecDepth 100000 in
set_option maxHeartbeats 1000000 in
theorem rBegin (h : Rm c w rb M) (u v : Value) (x y : List Int) (hx : Vw w u x) (hy : Vw w v y) (hxl : x.length ≤ 64) (hyl : y.length ≤ 64) (hc : ∀ k, v.ownBlock = some k → c k ≠ 1) :
    Calls Tryd.prog 13 #[.pointer (some ⟨rb, 0, none⟩), u, v] w fun e w' => e = .returned (.bool true) ∧ ∃ c', Ext BT c w c' w' ∧ Rm c' w' rb (beginM M x y) := by
  obtain ⟨hb, iv, fv, pv, sv, ivs, fvs, h⟩ := h
  have h2 := h.ok.2.2.1
  have HS1 := Lib.hid (show Calls Tryd.prog 36 #[.pointer (some ⟨hb, 0, none⟩), .int .i64 1, u] w fun e w' => e = .returned (.bool true) ∧ Hep HT (More (Col c w 1) w w') w' hb (M.hp.lay 0 x) ∧ Upd (Col c w 1) w w' from pSet h.hp (i := 0) (by omega) (by omega) u x hx hxl)
  have HOK1 := Lib.hid (h.ok.lay 0 x (.inl (by omega)))
  have H := Lib.hid h
  have HY := Lib.hid hy
  have HC := Lib.hid hc
  obtain ⟨-, -, b2, -, -, -⟩ := h.bx
  obtain ⟨ua, uc, rfl, -, -⟩ := hx.slice
  obtain ⟨va, vc, rfl, -, -⟩ := hy.slice
  have t2 : decide ((64 : Int) < (x.length : Int)) = false := by simp; omega
  have t3 : decide ((64 : Int) < (y.length : Int)) = false := by simp; omega
  clear h hx hy hc hxl
  go_enter Tryd.func13, Tryd.ntmps13
  go_wp2_with fail
  refine HS1.out.mono ?_
  rintro e w1 ⟨rfl, hh, hu⟩
  have HM1 := Lib.hid (H.out.heapM hh hu HOK1.out)
  have hv1 := HM1.out.1.vw HY.out (fun k hk => HC.out k hk)
  have HS2 := Lib.hid (show Calls Tryd.prog 36 #[.pointer (some ⟨hb, 0, none⟩), .int .i64 2, .slice va y.length vc] w1 fun e w' => e = .returned (.bool true) ∧ Hep HT (More (Col (paint c w 1) w1 1) w1 w') w' hb ((M.hp.lay 0 x).lay 1 y) ∧ Upd (Col (paint c w 1) w1 1) w1 w' from pSet HM1.out.2.hp (i := 1) (by show 1 < (M.hp.lay 0 x).arrs.length; rw [hlay_len]; omega) (by omega) _ y hv1 hyl)
  have HOK2 := Lib.hid (HOK1.out.lay 1 y (.inl (by omega)))
  obtain ⟨-, -, b2', -, -, -⟩ := HM1.out.2.bx
  clear hh hu hv1 HS1
  go_wp2_with fail
  refine HS2.out.mono ?_
  rintro e w2 ⟨rfl, hh, hu⟩
  have HM2 := Lib.hid (HM1.out.2.heapM hh hu HOK2.out)
  obtain ⟨k0, k1, k2, k3, k4, kf⟩ := HM2.out.2.bx
  have f3 := kf 3; have f4 := kf 4
  clear hh hu HS2 kf
  go_wp2_with fail
  go_ret
  exact ⟨rfl, _, ((HM1.out.1.mono (fun _ h => .inl h)).trans (HM2.out.1.mono (T' := BT) (fun _ h => .inl h)) (fun _ h => h)).trans HM2.out.2.begun.1 (fun _ h => h), HM2.out.2.begun.2⟩
end
end Go.Proofs.YtdmadfahgkikkaaDoor
/- Package room: what is answered where there is no such field, no such applet. -/
namespace Go.Proofs.YtdmadfahgkikkaaDoor
open Go.RowKit Go.Lib Go.ChangeShapes Go.WideShapes Go.Deep
set_option linter.unusedVariables false
set_option linter.unusedSimpArgs false

section
variable {c : Nat → Nat} {w : World} {rb hb : Nat} {iv fv pv sv : Value} {ivs fvs : List Value} {M : RmM}
theorem rFieldA (h : Rm c w rb M) (a k : Int) (h0 : 0 ≤ a) (ha : (M.fields.length : Int) ≤ a) :
    Calls Tryd.prog 35 #[.pointer (some ⟨rb, 0, none⟩), .int .i64 a, .int .i64 k] w fun e w' => e = .returned (.pointer none) ∧ w = w' := by
  obtain ⟨hb, iv, fv, pv, sv, ivs, fvs, h⟩ := h
  obtain ⟨-, b1, -, -, -, -⟩ := h.bx
  obtain ⟨ga, gc, rfl⟩ := ownsRow_slice h.flds
  clear h
  have t1 : decide (a < 0) = false := by simp only [decide_eq_false_iff_not]; omega
  have t2 : decide ((M.fields.length : Int) ≤ a) = true := by simp only [decide_eq_true_eq]; omega
  generalize M.fields.length = n at *
  go_enter Tryd.func35, Tryd.ntmps35
  go_wp2_with fail
  go_ret
  exact ⟨rfl, rfl⟩
theorem rFieldK (h : Rm c w rb M) {i : Nat} (hi : i < M.fields.length) (k : Int) (hk : k < 0 ∨ ((M.fields.getD i []).length : Int) ≤ k) :
    Calls Tryd.prog 35 #[.pointer (some ⟨rb, 0, none⟩), .int .i64 (i : Int), .int .i64 k] w fun e w' => e = .returned (.pointer none) ∧ w = w' := by
  obtain ⟨hb, iv, fv, pv, sv, ivs, fvs, h⟩ := h
  obtain ⟨-, b1, -, -, -, -⟩ := h.bx
  have hlen : fvs.length = M.fields.length := by simpa using h.flds.1
  obtain ⟨ra, rc, he⟩ := ownsRow_slice (h.fld i hi)
  rcases h.flds.2 with ⟨_, h0⟩ | ⟨gf, cf, cur, rfl, -, -, hcf, hmf, -⟩
  · omega
  · have c1 := rowCell h.flds (j := i) (u := fvs.getD i default) (by simp [List.getD, show i < fvs.length by omega])
    rw [he] at c1
    clear h he
    unfold maxLen at hmf
    have t1 : decide ((i : Int) < 0) = false := by simp only [decide_eq_false_iff_not]; omega
    have t2 : decide ((M.fields.length : Int) ≤ (i : Int)) = false := by simp only [decide_eq_false_iff_not]; omega
    have i0 : (0 : Int) ≤ (i : Int) := Int.natCast_nonneg _
    have i1 : (i : Int) < (M.fields.length : Int) := by omega
    generalize (M.fields.getD i []).length = m at *
    generalize M.fields.length = n at *
    by_cases h0 : k < 0
    · have t3 : decide (k < 0) = true := by simp only [decide_eq_true_eq]; omega
      go_enter Tryd.func35, Tryd.ntmps35
      go_wp2_with fail
      go_ret
      exact ⟨rfl, rfl⟩
    · have t3 : decide (k < 0) = false := by simp only [decide_eq_false_iff_not]; omega
      have t4 : decide ((m : Int) ≤ k) = true := by simp only [decide_eq_true_eq]; omega
      go_enter Tryd.func35, Tryd.ntmps35
      go_wp2_with fail
      go_ret
      exact ⟨rfl, rfl⟩
theorem rField_of (a k : Int) (hc : Calls Tryd.prog 35 #[.pointer (some ⟨rb, 0, none⟩), .int .i64 a, .int .i64 k] w fun e w' => e = .returned (.pointer none) ∧ w = w') :
    Calls Tryd.prog 12 #[.pointer (some ⟨rb, 0, none⟩), .int .i64 a, .int .i64 k] w fun e w' => e = .returned (.tuple #[.int .i32 0, .bool false]) ∧ w = w' := by
  have HC := Lib.hid hc
  clear hc
  go_enter Tryd.func12, Tryd.ntmps12
  go_wp2_with fail
  refine HC.out.mono ?_
  rintro e w' ⟨rfl, rfl⟩
  go_wp2_with fail
  refine bodyPost_ret (v := .tuple #[.int .i32 0, .bool false]) (by simp only [results, Tryd.f12]; simp [go_sem]) rfl ?_
  exact ⟨rfl, rfl⟩
theorem rSetField_of (a k n : Int) (hc : Calls Tryd.prog 35 #[.pointer (some ⟨rb, 0, none⟩), .int .i64 a, .int .i64 k] w fun e w' => e = .returned (.pointer none) ∧ w = w') :
    Calls Tryd.prog 11 #[.pointer (some ⟨rb, 0, none⟩), .int .i64 a, .int .i64 k, .int .i32 n] w fun e w' => e = .returned (.bool false) ∧ w = w' := by
  have HC := Lib.hid hc
  clear hc
  go_enter Tryd.func11, Tryd.ntmps11
  go_wp2_with fail
  refine HC.out.mono ?_
  rintro e w' ⟨rfl, rfl⟩
  go_wp2_with fail
  go_ret
  exact ⟨rfl, rfl⟩
def noImg : Value := .agg #[.string { data := #[] }, .slice none 0 0, .slice none 0 0, .slice none 0 0, .slice none 0 0]
theorem rImage_no (h : Rm c w rb M) (k : Int) (h0 : 0 ≤ k) (hk : (M.fields.length : Int) ≤ k) :
    Calls Tryd.prog 30 #[.pointer (some ⟨rb, 0, none⟩), .int .i64 k] w fun e w' => e = .returned (.tuple #[noImg, .bool false]) ∧ Upd (fun _ => False) w w' := by
  obtain ⟨hb, iv, fv, pv, sv, ivs, fvs, h⟩ := h
  obtain ⟨b0, -, -, -, -, -⟩ := h.bx
  have hrb : rb < w.heap.size := (Array.getElem?_eq_some_iff.1 h.box).1
  obtain ⟨ga, gc, rfl⟩ := ownsRow_slice h.imgs
  clear h
  have t1 : decide (k < 0) = false := by simp only [decide_eq_false_iff_not]; omega
  have t2 : decide ((M.fields.length : Int) ≤ k) = true := by simp only [decide_eq_true_eq]; omega
  generalize M.fields.length = n at *
  go_enter Tryd.func30, Tryd.ntmps30
  go_wp2_with fail
  have htop : (w.alloc (.cells #[.string { data := #[] }, .slice none 0 0, .slice none 0 0, .slice none 0 0, .slice none 0 0] 35)).heap[w.heap.size]? = some (.cells #[.string { data := #[] }, .slice none 0 0, .slice none 0 0, .slice none 0 0, .slice none 0 0] 35 (0, 0)) := hpTop w _ _ rfl
  obtain ⟨d0, d1, d2, d3, d4, -⟩ := five htop
  refine bodyPost_ret (v := .tuple #[noImg, .bool false]) (by simp [noImg, results, Tryd.f30, go_sem, d0, d1, d2, d3, d4]) rfl ?_
  exact ⟨rfl, Upd.alloc _ _ _⟩
end
end Go.Proofs.YtdmadfahgkikkaaDoor
/- Package room: whether two spans are alike. -/
namespace Go.Proofs.YtdmadfahgkikkaaDoor
open Go.RowKit Go.Lib Go.ChangeShapes Go.WideShapes Go.Deep
set_option linter.unusedVariables false
set_option linter.unusedSimpArgs false

section
variable {c : Nat → Nat} {w : World} {rb : Nat} {M : RmM}
set_option maxRecDepth 100000 in
set_option maxHeartbeats 1000000 in
theorem rSameS (h : Rm c w rb M) (ap : Int) (s u : SpM) (ha : s.at_ ≤ 9223372036854775807) (hb' : u.at_ ≤ 9223372036854775807) :
    Calls Tryd.prog 48 #[.pointer (some ⟨rb, 0, none⟩), .int .i64 ap, .agg #[.int .i64 s.ref, .int .i64 s.at_, .int .i64 s.n], .agg #[.int .i64 u.ref, .int .i64 u.at_, .int .i64 u.n]] w fun e w' => e = .returned (.tuple #[.int .i32 (sameP M.hp.arrs ap s u), .int .i64 (reachP M.hp.arrs ap [s, u])]) ∧ Upd (fun _ => False) w w' := by
  obtain ⟨w1, hw1⟩ : ∃ w1, w1 = ((w.alloc (.cells #[.int .i64 s.ref, .int .i64 s.at_, .int .i64 s.n] 110)).alloc (.cells #[.int .i64 u.ref, .int .i64 u.at_, .int .i64 u.n] 110)).alloc (.cells #[.int .i64 s.ref, .int .i64 s.at_, .int .i64 s.n, .int .i64 u.ref, .int .i64 u.at_, .int .i64 u.n] 110) := ⟨_, rfl⟩
  obtain ⟨hu1, hx1, hx2, hs1⟩ := box2 hw1
  have HR := Lib.hid (rReach (h.quiet hu1) ap _ _ hs1 (by simp) (by simp; omega))
  have HX := Lib.hid hx1
  have HY := Lib.hid hx2
  have HU1 := Lib.hid hu1
  have HW1 := Lib.hid hw1
  have H := Lib.hid h
  have HG := Lib.hid (show sameP M.hp.arrs ap s u = if reachP M.hp.arrs ap [s, u] = 36864 then (if cutP M.hp.arrs s.ref s.at_ s.n = cutP M.hp.arrs u.ref u.at_ u.n then 1 else 0) else 0 from rfl)
  have HF := Lib.hid (fun e => reach2 (L := M.hp.arrs) (s := s) (u := u) (ap := ap) e)
  clear hu1 hx1 hx2 hs1 hw1 h
  generalize sameP M.hp.arrs ap s u = g at *
  rcases fine_or (reachP M.hp.arrs ap [s, u]) with e | ⟨e1, e2⟩
  · obtain ⟨f1, f2⟩ := HF.out e
    rw [e] at HR ⊢
    obtain ⟨ref1, at1, n1⟩ := s
    obtain ⟨ref2, at2, n2⟩ := u
    simp only at f1 f2 HX HY HG HW1 HR ha hb' ⊢
    obtain ⟨i, a, k, hi, rfl, rfl, rfl, hak, -⟩ := rng_fine f1
    obtain ⟨j, b, l, hj, rfl, rfl, rfl, hbl, -⟩ := rng_fine f2
    have hdi : (M.hp.arrs.getD i default).data.length ≤ 64 := by
      obtain ⟨hb, iv, fv, pv, sv, ivs, fvs, h⟩ := H.out
      exact hep_dl h.hp hi
    have hdj : (M.hp.arrs.getD j default).data.length ≤ 64 := by
      obtain ⟨hb, iv, fv, pv, sv, ivs, fvs, h⟩ := H.out
      exact hep_dl h.hp hj
    have hg : g = if ((M.hp.arrs.getD i default).data.drop a).take k = ((M.hp.arrs.getD j default).data.drop b).take l then 1 else 0 := by
      rw [HG.out, if_pos e]; unfold cutP; rw [show ((i : Int) + 1 - 1).toNat = i by omega, show ((j : Int) + 1 - 1).toNat = j by omega]; rfl
    have HR1 := Lib.hid (fun v (hu : Upd (fun _ => False) w v) => rRead (H.out.quiet hu) hi hak)
    have HR2 := Lib.hid (fun v (hu : Upd (fun _ => False) w v) => rRead (H.out.quiet hu) hj hbl)
    have hl1 : (((M.hp.arrs.getD i default).data.drop a).take k).length ≤ 64 := by simp; omega
    have hl2 : (((M.hp.arrs.getD j default).data.drop b).take l).length ≤ 64 := by simp; omega
    have HB : Hid (∀ v, Upd (fun _ => False) w1 v → (v.cell? ⟨w.heap.size, 0, none⟩ = some (.int .i64 ((i : Int) + 1)) ∧ v.cell? ⟨w.heap.size, 1, none⟩ = some (.int .i64 a) ∧ v.cell? ⟨w.heap.size, 2, none⟩ = some (.int .i64 k)) ∧ (v.cell? ⟨w.heap.size + 1, 0, none⟩ = some (.int .i64 ((j : Int) + 1)) ∧ v.cell? ⟨w.heap.size + 1, 1, none⟩ = some (.int .i64 b) ∧ v.cell? ⟨w.heap.size + 1, 2, none⟩ = some (.int .i64 l))) :=
      Lib.hid (fun v hu => by
        obtain ⟨e0, e1, e2, -⟩ := three (hpBlk hu HX.out (fun h => h))
        obtain ⟨d0, d1, d2, -⟩ := three (hpBlk hu HY.out (fun h => h))
        exact ⟨⟨e0, e1, e2⟩, d0, d1, d2⟩)
    clear HG HF e H f1 f2 ha hb' hak hbl hdi hdj
    generalize ((M.hp.arrs.getD i default).data.drop a).take k = xs at *
    generalize ((M.hp.arrs.getD j default).data.drop b).take l = ys at *
    have HGG := Lib.hid hg
    have HL1 := Lib.hid hl1
    have HL2 := Lib.hid hl2
    clear hg hl1 hl2
    have HSB : Hid (∀ (v : World) x y, Vw v x xs → Vw v y ys → Calls Tryd.prog 82 #[x, y] v fun e w' => e = .returned (.int .i32 g) ∧ v = w') := Lib.hid (fun v x y hx hy => by
      have hgg := HGG.out
      have l1 := HL1.out
      have l2 := HL2.out
      by_cases hxy : xs = ys
      · rw [if_pos hxy] at hgg
        rw [hgg]
        exact same_yes v x y xs ys hx hy (by omega) (by omega) hxy
      · rw [if_neg hxy] at hgg
        rw [hgg]
        exact same_no v x y xs ys hx hy (by omega) (by omega) hxy)
    clear HGG
    go_enter Tryd.func48, Tryd.ntmps48
    go_wp2_with fail
    rw [← HW1.out]
    refine HR.out.mono ?_
    rintro e w2 ⟨rfl, hu⟩
    have HD := Lib.hid (hu.trans (Upd.drew (fun _ => False) w2) (fun _ h _ => h))
    clear hu
    go_wp2_with fail
    go_region_held3 (fun w' => (w'.cell? ⟨w.heap.size, 0, none⟩ = some (.int .i64 ((i : Int) + 1)) ∧ w'.cell? ⟨w.heap.size, 1, none⟩ = some (.int .i64 a) ∧ w'.cell? ⟨w.heap.size, 2, none⟩ = some (.int .i64 k)) ∧ (w'.cell? ⟨w.heap.size + 1, 0, none⟩ = some (.int .i64 ((j : Int) + 1)) ∧ w'.cell? ⟨w.heap.size + 1, 1, none⟩ = some (.int .i64 b) ∧ w'.cell? ⟨w.heap.size + 1, 2, none⟩ = some (.int .i64 l))) (first
      | with_reducible exact HB.out _ HX4.out
      | with_reducible exact HB.out _ HX3.out
      | with_reducible exact HB.out _ HD.out) (first
      | (go_at_call 82; (with_reducible refine (HSB.out _ _ _ HV3.out HV4.out).mono ?_); rintro e w5 ⟨rfl, rfl⟩)
      | (go_at_call 81; (with_reducible refine (HR1.out _ (HU1.out.trans HD.out (fun _ h _ => h))).mono ?_); rintro e w3 ⟨x3, rfl, hv, hu, -⟩; obtain ⟨xa, xc, rfl, -, -⟩ := hv.slice; have HX3 := Lib.hid (HD.out.trans hu (fun _ h _ => h)); have HV3 := Lib.hid hv; clear hv hu)
      | (go_at_call 81; (with_reducible refine (HR2.out _ (HU1.out.trans HX3.out (fun _ h _ => h))).mono ?_); rintro e w4 ⟨x4, rfl, hv, hu, -⟩; obtain ⟨ya, yc, rfl, -, -⟩ := hv.slice; have HX4 := Lib.hid (HX3.out.trans hu (fun _ h _ => h)); have hv3 := HV3.out.upd hu (fun _ _ h => h); clear HV3; have HV3 := Lib.hid hv3; have HV4 := Lib.hid hv; clear hv hu hv3))
    all_goals
      go_wp2_with fail
      refine bodyPost_ret (v := .tuple #[.int .i32 g, .int .i64 36864]) (by simp only [results, Tryd.f48]; simp [go_sem]) rfl ?_
      exact ⟨rfl, HU1.out.trans HX4.out (fun _ h _ => h)⟩
  · have hg : g = 0 := by rw [HG.out, if_neg e2]
    subst hg
    generalize reachP M.hp.arrs ap [s, u] = st at *
    clear HG HF e2 HX HY
    go_enter Tryd.func48, Tryd.ntmps48
    go_wp2_with fail
    rw [← HW1.out]
    refine HR.out.mono ?_
    rintro e w2 ⟨rfl, hu⟩
    have HX2 := Lib.hid (HU1.out.trans hu (fun _ h _ => h))
    clear hu
    go_wp2_with fail
    refine bodyPost_ret (v := .tuple #[.int .i32 0, .int .i64 st]) (by simp only [results, Tryd.f48]; simp [go_sem]) rfl ?_
    exact ⟨rfl, HX2.out⟩
end
end Go.Proofs.YtdmadfahgkikkaaDoor
/- Package room: a span is copied. -/
namespace Go.Proofs.YtdmadfahgkikkaaDoor
open Go.RowKit Go.Lib Go.ChangeShapes Go.WideShapes Go.Deep
set_option linter.unusedVariables false
set_option linter.unusedSimpArgs false

theorem setFrom_take {xs vs : List Int} {o k : Nat} (hk : k < vs.length) : setFrom xs o (vs.take (k + 1)) = (setFrom xs o (vs.take k)).set (o + k) (vs.getD k 0) := by
  have e : vs.take (k + 1) = vs.take k ++ [vs.getD k 0] := by
    rw [List.take_add_one, List.getElem?_eq_getElem hk]
    simp [List.getD, hk]
  rw [e, setFrom_snoc]
  simp [Nat.min_eq_left (Nat.le_of_lt hk)]
theorem lay_at {m : HpM} {i : Nat} (hi : i < m.arrs.length) (ys : List Int) : ((m.lay i ys).arrs.getD i default).data = ys := by simp [HpM.lay, List.getD, hi, ArrM.put]
theorem lay_put {m : HpM} {i : Nat} (hi : i < m.arrs.length) (ys : List Int) (j : Nat) (y : Int) : (m.lay i ys).put i j y = m.lay i (ys.set j y) := by
  unfold HpM.put
  rw [lay_at hi]
  simp [HpM.lay, List.getD, hi, ArrM.put, List.set_set]
theorem lay_same {m : HpM} {i : Nat} (hi : i < m.arrs.length) : m.lay i (m.arrs.getD i default).data = m := by
  obtain ⟨sz, L⟩ := m
  simp only [HpM.lay, List.getD] at hi ⊢
  rw [List.getElem?_eq_getElem hi]
  simp only [Option.getD_some, ArrM.put]
  rw [setSame]
  rw [List.getElem?_eq_getElem hi]
def copyM (M : RmM) (ap : Int) (s u : SpM) : RmM := if reachP M.hp.arrs ap [s, u] = 36864 then M.withHp (M.hp.lay (s.ref - 1).toNat (setFrom (M.hp.arrs.getD (s.ref - 1).toNat default).data s.at_.toNat (cutP M.hp.arrs u.ref u.at_ u.n))) else M
section
variable {c : Nat → Nat} {w : World} {rb : Nat} {M : RmM}
set_option maxRecDepth 100000 in
set_option maxHeartbeats 1000000 in
theorem rCopy (h : Rm c w rb M) (ap : Int) (s u : SpM) (ha : s.at_ ≤ 9223372036854775807) (hb' : u.at_ ≤ 9223372036854775807) (hsn : s.n = u.n) :
    Calls Tryd.prog 47 #[.pointer (some ⟨rb, 0, none⟩), .int .i64 ap, .agg #[.int .i64 s.ref, .int .i64 s.at_, .int .i64 s.n], .agg #[.int .i64 u.ref, .int .i64 u.at_, .int .i64 u.n]] w fun e w' => e = .returned (.int .i64 (reachP M.hp.arrs ap [s, u])) ∧ ∃ c', Ext T1 c w c' w' ∧ Rm c' w' rb (copyM M ap s u) := by
  obtain ⟨w1, hw1⟩ : ∃ w1, w1 = ((w.alloc (.cells #[.int .i64 s.ref, .int .i64 s.at_, .int .i64 s.n] 110)).alloc (.cells #[.int .i64 u.ref, .int .i64 u.at_, .int .i64 u.n] 110)).alloc (.cells #[.int .i64 s.ref, .int .i64 s.at_, .int .i64 s.n, .int .i64 u.ref, .int .i64 u.at_, .int .i64 u.n] 110) := ⟨_, rfl⟩
  obtain ⟨hu1, hx1, hx2, hs1⟩ := box2 hw1
  have HR := Lib.hid (rReach (h.quiet hu1) ap _ _ hs1 (by simp) (by simp; omega))
  have HX := Lib.hid hx1
  have HY := Lib.hid hx2
  have HU1 := Lib.hid hu1
  have HW1 := Lib.hid hw1
  have H := Lib.hid h
  have HG := Lib.hid (show copyM M ap s u = if reachP M.hp.arrs ap [s, u] = 36864 then M.withHp (M.hp.lay (s.ref - 1).toNat (setFrom (M.hp.arrs.getD (s.ref - 1).toNat default).data s.at_.toNat (cutP M.hp.arrs u.ref u.at_ u.n))) else M from rfl)
  have HF := Lib.hid (fun e => reach2 (L := M.hp.arrs) (s := s) (u := u) (ap := ap) e)
  have hsz1 : w.heap.size + 2 ≤ w1.heap.size := by rw [hw1]; simp
  have HZ1 := Lib.hid hsz1
  clear hu1 hx1 hx2 hs1 hw1 h hsz1
  generalize copyM M ap s u = g at *
  rcases fine_or (reachP M.hp.arrs ap [s, u]) with e | ⟨e1, e2⟩
  · obtain ⟨f1, f2⟩ := HF.out e
    rw [e] at HR ⊢
    obtain ⟨ref1, at1, n1⟩ := s
    obtain ⟨ref2, at2, n2⟩ := u
    simp only at f1 f2 HX HY HG HW1 HR ha hb' hsn ⊢
    obtain ⟨i, a, k, hi, rfl, rfl, rfl, hak, -⟩ := rng_fine f1
    obtain ⟨j, b, l, hj, rfl, rfl, rfl, hbl, -⟩ := rng_fine f2
    have hkl : k = l := by omega
    obtain ⟨hb, iv, fv, pv, sv, ivs, fvs, h⟩ := H.out
    have hdi : (M.hp.arrs.getD i default).data.length ≤ 64 := hep_dl h.hp hi
    have hdj : (M.hp.arrs.getD j default).data.length ≤ 64 := hep_dl h.hp hj
    have hfew := h.ok.few
    have hg : g = M.withHp (M.hp.lay i (setFrom (M.hp.arrs.getD i default).data a (((M.hp.arrs.getD j default).data.drop b).take l))) := by
      rw [HG.out, if_pos e]; unfold cutP; rw [show ((i : Int) + 1 - 1).toNat = i by omega, show ((j : Int) + 1 - 1).toNat = j by omega]; rfl
    have HR2 := Lib.hid (fun v (hu : Upd (fun _ => False) w v) => rRead (H.out.quiet hu) hj hbl)
    obtain ⟨vs, hvs⟩ : ∃ vs, vs = ((M.hp.arrs.getD j default).data.drop b).take l := ⟨_, rfl⟩
    have hl2 : vs.length = l := by rw [hvs, List.length_take, List.length_drop]; omega
    obtain ⟨ds, hds⟩ : ∃ ds, ds = (M.hp.arrs.getD i default).data := ⟨_, rfl⟩
    rw [← hvs] at HR2 hg
    rw [← hds] at hg hak hdi
    have HLY : Hid (M.hp.lay i ds = M.hp) := Lib.hid (by rw [hds]; exact lay_same hi)
    have HOK : Hid (∀ zs : List Int, HpOk (M.hp.lay i (setFrom ds a zs))) := Lib.hid (fun zs => h.ok.lay i _ (.inr fun _ => by rw [setFrom_len, hds]))
    have HH := Lib.hid h
    have HGG := Lib.hid hg
    have HVB : Hid (∀ y ∈ vs, 0 ≤ y ∧ y ≤ 255) := Lib.hid (by
      obtain ⟨av, R, hh, hR⟩ := h.hp
      obtain ⟨hr, e⟩ := fst_at hR hj
      intro y hy
      rw [hvs] at hy
      have := List.mem_of_mem_drop (List.mem_of_mem_take hy)
      rw [← e] at this
      exact (hh.dat _ (List.getElem_mem hr)).byt y this)
    have HC2 : Hid (∀ v, Upd (fun k => paint c w 9 k = 1) w1 v → v.cell? ⟨rb, 2, none⟩ = some (.pointer (some ⟨hb, 0, none⟩)) ∧ v.cell? ⟨w.heap.size, 0, none⟩ = some (.int .i64 ((i : Int) + 1)) ∧ v.cell? ⟨w.heap.size, 1, none⟩ = some (.int .i64 a)) :=
      Lib.hid (fun v hu => by
        obtain ⟨e0, e1, -, -⟩ := three (hpBlk hu HX.out (by rw [paint_new c w 9 (Nat.le_refl _)]; omega))
        have hr := (h.aside HU1.out).box
        have hc := (h.aside HU1.out).cb
        exact ⟨(five (hpBlk hu hr (by rw [hc]; omega))).2.2.1, e0, e1⟩)
    have HY3 : Hid (∀ v, Upd (fun _ => False) w1 v → v.cell? ⟨w.heap.size + 1, 0, none⟩ = some (.int .i64 ((j : Int) + 1)) ∧ v.cell? ⟨w.heap.size + 1, 1, none⟩ = some (.int .i64 b) ∧ v.cell? ⟨w.heap.size + 1, 2, none⟩ = some (.int .i64 l)) :=
      Lib.hid (fun v hu => by
        obtain ⟨d0, d1, d2, -⟩ := three (hpBlk hu HY.out (fun h => h))
        exact ⟨d0, d1, d2⟩)
    subst hl2
    obtain rfl := hkl
    clear hg hvs hds HG HF e f1 f2 ha hb' hbl hdj h hsn H
    go_enter Tryd.func47, Tryd.ntmps47
    go_wp2_with fail
    rw [← HW1.out]
    refine HR.out.mono ?_
    rintro e w2 ⟨rfl, hu⟩
    obtain ⟨d0, d1, d2⟩ := HY3.out _ hu
    have HX2 := Lib.hid hu
    clear hu
    go_wp2_with fail
    refine (HR2.out _ (HU1.out.trans HX2.out (fun _ h _ => h))).mono ?_
    rintro e w3 ⟨x3, rfl, hv, hu, hnb⟩
    have HX3 := Lib.hid (HX2.out.trans hu (fun _ h _ => h))
    have HU3 := Lib.hid (HU1.out.trans HX3.out (fun _ h _ => h))
    have HV3 := Lib.hid hv
    have hnb2 : ∀ b, x3.ownBlock = some b → paint c w 9 b = 9 := fun b hb => paint_new c w 9 (Nat.le_trans (HU1.out.trans HX2.out (fun _ h _ => h)).size (hnb b hb))
    have HNB := Lib.hid hnb2
    obtain ⟨xa, xc, rfl, hxc, hxm⟩ := hv.slice
    have H30 : Hid (RmAt (paint c w 9) w3 rb hb iv fv pv sv ivs fvs (M.withHp (M.hp.lay i (setFrom ds a (vs.take 0))))) := Lib.hid (by
      rw [show setFrom ds a (vs.take 0) = ds from rfl, HLY.out]
      exact HH.out.aside HU3.out)
    have HE0 := Lib.hid (Ext.refl T1 (paint c w 9) w3)
    clear hv hu d0 d1 d2 hnb hnb2
    unfold maxLen at hxm
    go_wp2_with fail
    go_loopw [25, 10, 11] (fun t _ _ wr => ∃ k d, k ≤ vs.length ∧ t = .int .i64 (k : Nat) ∧ Hid (Ext T1 (paint c w 9) w3 d wr) ∧ Hid (RmAt d wr rb hb iv fv pv sv ivs fvs (M.withHp (M.hp.lay i (setFrom ds a (vs.take k)))))) (fun t _ _ _ => vs.length - (intOf t).toNat)
    case atStart => exact ⟨0, paint c w 9, Nat.zero_le _, rfl, HE0, H30⟩
    case round =>
      obtain ⟨k, d, hk, rfl, HE, HM⟩ := hrel
      have hw31 : Upd (fun k => paint c w 9 k = 1) w1 wr := (HX3.out.mono (fun _ h _ => h.elim)).trans HE.out.upd (fun k hk _ => hk)
      by_cases hlt : k < vs.length
      · have hv := HE.out.vw HV3.out (fun b hb => by rw [HNB.out b hb]; omega)
        have HBr : Hid (∀ v, Upd (fun k => d k = 1) wr v → v.cell? ⟨rb, 2, none⟩ = some (.pointer (some ⟨hb, 0, none⟩)) ∧ v.cell? ⟨w.heap.size, 0, none⟩ = some (.int .i64 ((i : Int) + 1)) ∧ v.cell? ⟨w.heap.size, 1, none⟩ = some (.int .i64 a)) :=
          Lib.hid (fun v hu => HC2.out v (hw31.trans hu (fun k hk hl => by rw [HE.out.same k (Nat.lt_of_lt_of_le hl HX3.out.size)] at hk; exact hk)))
        rcases hv.2 with ⟨_, h0⟩ | ⟨gg, off, cc, he, -, -, hcell⟩
        · subst h0; simp at hlt
        simp at he
        obtain ⟨rfl, rfl⟩ := he
        have hc := hcell k hlt
        have hyb : 0 ≤ vs.getD k 0 ∧ vs.getD k 0 ≤ 255 := HVB.out _ (by simp [List.getD, hlt])
        have HST := Lib.hid (setFrom_take (xs := ds) (o := a) hlt)
        have HS : Hid (Calls Tryd.prog 80 #[.pointer (some ⟨hb, 0, none⟩), .int .i64 ((i : Int) + 1), .int .i64 ((a : Int) + (k : Int)), .int .u8 (vs.getD k 0)] wr.drew fun e w' => e = .returned (.bool true) ∧ Hep HT (Col d wr.drew 1) w' hb (M.hp.lay i (setFrom ds a (vs.take (k + 1)))) ∧ Upd (Col d wr.drew 1) wr.drew w') := Lib.hid (by
          have hmm := (HM.out.quiet (Upd.drew (fun _ => False) wr))
          have hll : (M.hp.lay i (setFrom ds a (vs.take k))).arrs.length = M.hp.arrs.length := by simp [HpM.lay]
          have := pPut hmm.hp (i := i) (by show i < (M.hp.lay i _).arrs.length; rw [hll]; exact hi) (by show (M.hp.lay i _).arrs.length ≤ 1000; rw [hll]; omega) (j := a + k) (by show _ < (((M.hp.lay i _).arrs.getD i default).data).length; rw [lay_at hi, setFrom_len]; omega) (vs.getD k 0) hyb
          rw [show (M.withHp (M.hp.lay i (setFrom ds a (vs.take k)))).hp = M.hp.lay i (setFrom ds a (vs.take k)) from rfl, lay_put hi, ← HST.out] at this
          rwa [Int.natCast_add] at this)
        generalize vs.getD k 0 = y at *
        have hwk : IntKind.i64.wrap ((a : Int) + (k : Int)) = (a : Int) + (k : Int) := IntWalk.i64_in _ (by omega)
        have HDr : Hid (Upd (fun k => d k = 1) wr wr.drew) := Lib.hid (Upd.drew _ _)
        clear hv hw31 hcell HST
        go_wp2_with fail
        go_region_held3 (fun w' => w'.cell? ⟨rb, 2, none⟩ = some (.pointer (some ⟨hb, 0, none⟩)) ∧ w'.cell? ⟨w.heap.size, 0, none⟩ = some (.int .i64 ((i : Int) + 1)) ∧ w'.cell? ⟨w.heap.size, 1, none⟩ = some (.int .i64 a)) (first
          | with_reducible exact HBr.out _ HDr.out
          | with_reducible exact HBr.out _ HX5.out) (first
          | (go_at_call 80; (with_reducible refine (HS.out).mono ?_); rintro e w5 ⟨rfl, hh, hu⟩; have HX5 : Hid (Upd (fun k => d k = 1) wr w5) := Lib.hid (HDr.out.trans hu (fun _ h _ => h.1)); have HM5 := Lib.hid (RmAt.heapS (HM.out.quiet (Upd.drew (fun _ => False) wr)) hh hu (HOK.out _)); clear hh hu))
        all_goals
          go_wp2_with fail
          go_roundw
          case rel => exact ⟨k + 1, _, by omega, by go_num, Lib.hid ((HE.out.trans (Ext.quietT T1 d (Upd.drew (fun _ => False) wr)) (fun _ h => h)).trans HM5.out.1 (fun _ h => h)), Lib.hid HM5.out.2⟩
          case measure => simp [intOf]; omega
      · have HM2 := Lib.hid HM.out
        rw [List.take_of_length_le (by omega)] at HM2
        go_wp2_with fail
        go_ret
        rw [HGG.out]
        exact ⟨rfl, d, (Ext.made T1 9 HU3.out).trans HE.out (fun _ h => h), _, _, _, _, _, _, _, HM2.out⟩
  · have hg : g = M := by rw [HG.out, if_neg e2]
    subst hg
    generalize reachP g.hp.arrs ap [s, u] = st at *
    clear HG HF e2 HX HY hsn
    go_enter Tryd.func47, Tryd.ntmps47
    go_wp2_with fail
    rw [← HW1.out]
    refine HR.out.mono ?_
    rintro e w2 ⟨rfl, hu⟩
    have HX2 := Lib.hid (HU1.out.trans hu (fun _ h _ => h))
    clear hu
    go_wp2_with fail
    go_ret
    exact ⟨rfl, c, Ext.quietT _ c HX2.out, H.out.quiet HX2.out⟩
end
end Go.Proofs.YtdmadfahgkikkaaDoor
/- Package room: args as numbers. -/
namespace Go.Proofs.YtdmadfahgkikkaaDoor
open Go.RowKit Go.Lib Go.ChangeShapes Go.WideShapes Go.Deep
set_option linter.unusedVariables false
set_option linter.unusedSimpArgs false

def arg (xs : List Int) (k : Nat) : Int := xs.getD k 0
def pad (xs : List Int) (k j : Nat) : Int := if j < k then arg xs j else 0
theorem pad_lt (xs : List Int) {k j : Nat} (h : j < k) : pad xs k j = arg xs j := if_pos h
theorem pad_ge (xs : List Int) {k j : Nat} (h : ¬ j < k) : pad xs k j = 0 := if_neg h
theorem pad_ne (xs : List Int) {k j : Nat} (h : j ≠ k) : pad xs (k + 1) j = pad xs k j := by
  unfold pad
  by_cases h1 : j < k
  · rw [if_pos h1, if_pos (by omega)]
  · rw [if_neg h1, if_neg (by omega)]
theorem pad_all (xs : List Int) {k j : Nat} (h : xs.length ≤ k) : pad xs k j = arg xs j := by
  unfold pad
  split
  · rfl
  · rename_i h1
    unfold arg
    rw [List.getD_eq_getElem?_getD, List.getElem?_eq_none (by omega)]; rfl
def five5 (xs : List Int) : Value := .agg #[.int .i64 (arg xs 0), .int .i64 (arg xs 1), .int .i64 (arg xs 2), .int .i64 (arg xs 3), .int .i64 (arg xs 4)]
set_option maxRecDepth 100000 in
set_option maxHeartbeats 4000000 in
theorem rNumbers (w : World) (v : Value) (xs : List Int) (h : I32 w v xs) (hl : xs.length ≤ 5) :
    Calls Tryd.prog 37 #[v] w fun e w' => e = .returned (five5 xs) ∧ Upd (fun _ => False) w w' := by
  have hr := h.1
  obtain ⟨-, a, cc, rfl, hc1, hc2, -⟩ := id h
  obtain ⟨w1, hw1⟩ : ∃ w1, w1 = (w.alloc (.cells #[.int .i64 0, .int .i64 0, .int .i64 0, .int .i64 0, .int .i64 0] 102)).alloc (.cells #[.int .i64 0, .int .i64 0, .int .i64 0, .int .i64 0, .int .i64 0] 102) := ⟨_, rfl⟩
  have hu1 : Upd (fun _ => False) w w1 := by rw [hw1]; exact (Upd.alloc _ _ _).trans (Upd.alloc _ _ _) (fun _ h _ => h)
  have hx1 : w1.heap[w.heap.size]? = some (.cells #[.int .i64 0, .int .i64 0, .int .i64 0, .int .i64 0, .int .i64 0] 102 (0, 0)) := by
    rw [hw1]; exact hpBlk (S := fun _ => False) (Upd.alloc _ _ _) (hpTop w _ _ rfl) (fun h => h)
  have hy1 : w1.heap[w.heap.size + 1]? = some (.cells #[.int .i64 0, .int .i64 0, .int .i64 0, .int .i64 0, .int .i64 0] 102 (0, 0)) := by
    rw [hw1]; exact hpTop _ _ _ (by simp)
  have hsz : w1.heap.size = w.heap.size + 2 := by rw [hw1]; simp
  have H1 := Lib.hid (h.upd hu1 (fun _ _ h => h))
  have HSZ := Lib.hid hsz
  have HGL : Hid (∀ g, (Value.slice a xs.length cc).ownBlock = some g → 0 < xs.length → g < w.heap.size) := Lib.hid (fun g hg h0 => by
    obtain ⟨g', off, rfl, -, hc⟩ := h.at h0
    simp [Value.ownBlock] at hg
    subst hg
    exact World.block_lt_of_cell? w _ hc)
  have HX := Lib.hid hx1
  have HY := Lib.hid hy1
  have HU := Lib.hid hu1
  have HW := Lib.hid hw1
  have HRG := Lib.hid hr
  have HU0 := Lib.hid (Upd.refl (fun k => k = w.heap.size + 1) w1)
  unfold maxLen at hc2
  clear h hu1 hx1 hy1 hw1 hr hsz
  go_enter Tryd.func37, Tryd.ntmps37
  go_wp2_with fail
  rw [← HW.out]
  go_loopw [9, 4, 5] (fun t _ _ wr => ∃ k : Nat, k ≤ xs.length ∧ t = .int .i64 k ∧ Hid (wr.heap[w.heap.size + 1]? = some (.cells #[.int .i64 (pad xs k 0), .int .i64 (pad xs k 1), .int .i64 (pad xs k 2), .int .i64 (pad xs k 3), .int .i64 (pad xs k 4)] 102 (0, 0))) ∧ Hid (Upd (fun k => k = w.heap.size + 1) w1 wr)) (fun t _ _ _ => xs.length - (intOf t).toNat)
  case atStart => exact ⟨0, Nat.zero_le _, rfl, HY, HU0⟩
  case round =>
    obtain ⟨k, hk, rfl, HB, HU2⟩ := hrel
    obtain ⟨e0, e1, e2, e3, e4, ef⟩ := five HB.out
    have f0 := ef 0; have f1 := ef 1; have f2 := ef 2; have f3 := ef 3; have f4 := ef 4
    by_cases hlt : k < xs.length
    · obtain ⟨g, off, rfl, -, hc⟩ := H1.out.at hlt
      have hgl : g < w.heap.size := HGL.out g rfl (by omega)
      have hcw : wr.cell? ⟨g, off + k, none⟩ = some (.int .i32 (arg xs k)) := (HU2.out.cell (p := ⟨g, off + k, none⟩) (by rw [HSZ.out]; show g < _; omega) (by show ¬ g = _; omega)).trans hc
      have hx : -2147483648 ≤ arg xs k ∧ arg xs k ≤ 2147483647 := HRG.out _ (by simp [arg, List.getD, hlt])
      have hwx : IntKind.i64.wrap (arg xs k) = arg xs k := IntWalk.i64_in _ (by omega)
      have hk5 : k = 0 ∨ k = 1 ∨ k = 2 ∨ k = 3 ∨ k = 4 := by omega
      have ek : wr.cell? ⟨w.heap.size + 1, k, none⟩ = some (.int .i64 (pad xs k k)) := by
        rcases hk5 with h | h | h | h | h <;> subst h <;> assumption
      have fk := ef k
      have HN : Hid ((wr.setCell ⟨w.heap.size + 1, k, none⟩ (.int .i64 (arg xs k))).heap[w.heap.size + 1]? = some (.cells #[.int .i64 (pad xs (k + 1) 0), .int .i64 (pad xs (k + 1) 1), .int .i64 (pad xs (k + 1) 2), .int .i64 (pad xs (k + 1) 3), .int .i64 (pad xs (k + 1) 4)] 102 (0, 0))) := Lib.hid (by
        have hb := HB.out
        rcases hk5 with h | h | h | h | h <;> subst h <;> simp [World.setCell, Array.getElem?_modify, hb, pad])
      have HU3 : Hid (Upd (fun k => k = w.heap.size + 1) w1 (wr.setCell ⟨w.heap.size + 1, k, none⟩ (.int .i64 (arg xs k)))) := Lib.hid (hpS HU2.out rfl)
      have hk0 : (0 : Int) ≤ (k : Int) := Int.natCast_nonneg _
      have hk6 : (k : Int) < 5 := by omega
      clear hc ef hk5 e0 e1 e2 e3 e4 f0 f1 f2 f3 f4 hx
      go_wp2_with fail
      go_roundw
      case rel => exact ⟨k + 1, by omega, by go_num, HN, HU3⟩
      case measure => simp [intOf]; omega
    · have HE : Hid (pad xs k 0 = arg xs 0 ∧ pad xs k 1 = arg xs 1 ∧ pad xs k 2 = arg xs 2 ∧ pad xs k 3 = arg xs 3 ∧ pad xs k 4 = arg xs 4) := Lib.hid ⟨pad_all xs (by omega), pad_all xs (by omega), pad_all xs (by omega), pad_all xs (by omega), pad_all xs (by omega)⟩
      obtain ⟨p0, p1, p2, p3, p4⟩ := HE.out
      rw [p0] at e0; rw [p1] at e1; rw [p2] at e2; rw [p3] at e3; rw [p4] at e4
      obtain ⟨d0, d1, d2, d3, d4, df⟩ := five (hpBlk HU2.out HX.out (by omega))
      have g0 := df 0; have g1 := df 1; have g2 := df 2; have g3 := df 3; have g4 := df 4
      clear p0 p1 p2 p3 p4 ef df HE
      go_wp2_with fail
      refine bodyPost_ret (v := five5 xs) (by simp only [results, Tryd.f37]; simp [go_sem, five5, d0, d1, d2, d3, d4, g0, g1, g2, g3, g4]) rfl ?_
      clear d0 d1 d2 d3 d4 g0 g1 g2 g3 g4 e0 e1 e2 e3 e4
      have hs : Upd (fun k => k = w.heap.size) wr (((((wr.setCell ⟨w.heap.size, 0, none⟩ (.int .i64 (arg xs 0))).setCell ⟨w.heap.size, 1, none⟩ (.int .i64 (arg xs 1))).setCell ⟨w.heap.size, 2, none⟩ (.int .i64 (arg xs 2))).setCell ⟨w.heap.size, 3, none⟩ (.int .i64 (arg xs 3))).setCell ⟨w.heap.size, 4, none⟩ (.int .i64 (arg xs 4))) := by
        iterate 5 refine hpS ?_ rfl
        exact Upd.refl _ _
      exact ⟨rfl, (HU.out.trans HU2.out (fun k hk hl => by omega)).trans hs (fun k hk hl => by omega)⟩
end Go.Proofs.YtdmadfahgkikkaaDoor

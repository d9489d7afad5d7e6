/- Package room: a byte is laid; whether two spans are alike. -/
import Derived.Test.YtdmadfahgkikkaaGreatQdk
import Derived.Test.YtdmadfahgkikkaaGreatSame
namespace Go.Proofs.YtdmadfahgkikkaaGreat
open Go.RowKit Go.Lib Go.ChangeShapes Go.WideShapes Go.Deep
set_option linter.unusedVariables false
set_option linter.unusedSimpArgs false

theorem usedL_set (L : List ArrM) (j : Nat) (x : ArrM) (hx : j < L.length → x.data.length = (L.getD j default).data.length) : usedL (L.set j x) = usedL L := by
  unfold usedL
  rw [List.map_set]
  by_cases hj : j < L.length
  · rw [setSame _ _ _ (by rw [List.getElem?_map, List.getElem?_eq_getElem hj]; simp; have := hx hj; simp [List.getD, hj] at this; omega)]
  · rw [List.set_eq_of_length_le (by simp; omega)]
theorem used_set (L : List ArrM) (i : Nat) (x : ArrM) (hx : i < 2 ∨ (i < L.length → x.data.length = (L.getD i default).data.length)) : usedP (L.set i x) = usedP L := by
  unfold usedP
  rw [List.drop_set]
  split
  · rfl
  · rename_i h
    rcases hx with h2 | h2
    · omega
    · refine usedL_set _ _ _ (fun hj => ?_)
      simp only [List.length_drop] at hj
      rw [h2 (by omega)]
      simp only [List.getD_eq_getElem?_getD, List.getElem?_drop]
      rw [show 2 + (i - 2) = i by omega]
theorem HpOk.lay {m : HpM} (h : HpOk m) (i : Nat) (ys : List Int) (hy : i < 2 ∨ (i < m.arrs.length → ys.length = (m.arrs.getD i default).data.length)) : HpOk (m.lay i ys) := by
  obtain ⟨h1, h2, h3, h4⟩ := h
  refine ⟨h1, h2, by simpa [HpM.lay] using h3, ?_⟩
  have : usedP (m.lay i ys).arrs = usedP m.arrs := used_set _ _ _ (by simpa [ArrM.put] using hy)
  rw [this]
  exact h4
theorem HpOk.put {m : HpM} (h : HpOk m) (i j : Nat) (y : Int) : HpOk (m.put i j y) := h.lay i _ (.inr fun _ => by simp)
theorem used_add' {m : HpM} (h : 2 ≤ m.arrs.length) (a : ArrM) : usedP (m.add a).arrs = usedP m.arrs + (8 + a.data.length) := by
  unfold usedP HpM.add
  rw [List.drop_append_of_le_length h, usedL_app]
  simp [usedL]
theorem HpOk.add {m : HpM} (h : HpOk m) {own lab life n : Int} {sh : Bool} (hf : fitsB m lab life n = true) : HpOk (m.add (newA own lab life sh n)) := by
  obtain ⟨h1, h2, h3, h4⟩ := h
  refine ⟨h1, h2, by simp [HpM.add]; omega, ?_⟩
  rw [used_add' h3]
  simp [fitsB] at hf
  have e : (newA own lab life sh n).data.length = n.toNat := by simp [newA, zeros]
  rw [e]
  show ((usedP m.arrs + (8 + n.toNat) : Nat) : Int) ≤ m.size
  omega
def putM (M : RmM) (ap ref at_ y : Int) : RmM := if rngP M.hp.arrs ref at_ 1 ap = 36864 then M.withHp (M.hp.put (ref - 1).toNat at_.toNat y) else M
def cutP (L : List ArrM) (ref at_ n : Int) : List Int := ((L.getD (ref - 1).toNat default).data.drop at_.toNat).take n.toNat
def sameP (L : List ArrM) (ap : Int) (s u : SpM) : Int := if reachP L ap [s, u] = 36864 then (if cutP L s.ref s.at_ s.n = cutP L u.ref u.at_ u.n then 1 else 0) else 0
theorem RmAt.heapS {c : Nat → Nat} {w w' : World} {rb hb : Nat} {iv fv pv sv : Value} {ivs fvs : List Value} {M : RmM} (h : RmAt c w rb hb iv fv pv sv ivs fvs M) {m : HpM} (hh : Hep HT (Col c w 1) w' hb m) (hu : Upd (Col c w 1) w w') (hm : HpOk m) :
    Ext (fun i => i = 1) c w (paint c w 1) w' ∧ RmAt (paint c w 1) w' rb hb iv fv pv sv ivs fvs (M.withHp m) :=
  ⟨Ext.of 1 rfl hu, h.heap (Ext.of 1 rfl hu) (hep_same hh hu.size) hm⟩
theorem RmAt.heapM {c : Nat → Nat} {w w' : World} {rb hb : Nat} {iv fv pv sv : Value} {ivs fvs : List Value} {M : RmM} (h : RmAt c w rb hb iv fv pv sv ivs fvs M) {m : HpM} (hh : Hep HT (More (Col c w 1) w w') w' hb m) (hu : Upd (Col c w 1) w w') (hm : HpOk m) :
    Ext (fun i => i = 1) c w (paint c w 1) w' ∧ RmAt (paint c w 1) w' rb hb iv fv pv sv ivs fvs (M.withHp m) :=
  ⟨Ext.of 1 rfl hu, h.heap (Ext.of 1 rfl hu) (hep_more hh hu.size) hm⟩
abbrev T1 (i : Nat) : Prop := i = 1
/-- what is new belongs to nobody -/
theorem RmAt.aside {c : Nat → Nat} {w w' : World} {rb hb : Nat} {iv fv pv sv : Value} {ivs fvs : List Value} {M : RmM} (h : RmAt c w rb hb iv fv pv sv ivs fvs M) (hu : Upd (fun _ => False) w w') : RmAt (paint c w 9) w' rb hb iv fv pv sv ivs fvs M := h.ext (Ext.made None0 9 hu) (fun _ _ h => h)
section
variable {c : Nat → Nat} {w : World} {rb : Nat} {M : RmM}
set_option maxRecDepth 100000 in
set_option maxHeartbeats 1000000 in
theorem rPut1 (h : Rm c w rb M) (ap ref at_ y : Int) (ha : at_ ≤ 9223372036854775807) (hy : 0 ≤ y ∧ y ≤ 255) :
    Calls Tryz.prog 82 #[.pointer (some ⟨rb, 0, none⟩), .int .i64 ap, .agg #[.int .i64 ref, .int .i64 at_, .int .i64 1], .int .u8 y] w fun e w' => e = .returned (.int .i64 (rngP M.hp.arrs ref at_ 1 ap)) ∧ ∃ c', Ext T1 c w c' w' ∧ Rm c' w' rb (putM M ap ref at_ y) := by
  obtain ⟨w1, hw1⟩ : ∃ w1, w1 = (w.alloc (.cells #[.int .i64 ref, .int .i64 at_, .int .i64 1] 132)).alloc (.cells #[.int .i64 ref, .int .i64 at_, .int .i64 1] 132) := ⟨_, rfl⟩
  obtain ⟨hu1, hx1, hs1⟩ := box1 (s := ⟨ref, at_, 1⟩) hw1
  have HR := Lib.hid (rReach (h.quiet hu1) ap _ _ hs1 (by simp) (by simpa using ha))
  rw [reach1] at HR
  simp only at HR hx1
  have HX := Lib.hid hx1
  have HU1 := Lib.hid hu1
  have HW1 := Lib.hid hw1
  have H := Lib.hid h
  have HG := Lib.hid (show putM M ap ref at_ y = if rngP M.hp.arrs ref at_ 1 ap = 36864 then M.withHp (M.hp.put (ref - 1).toNat at_.toNat y) else M from rfl)
  have HF := Lib.hid (fun e => rng_fine (L := M.hp.arrs) (ref := ref) (at_ := at_) (n := 1) (ap := ap) e)
  clear hu1 hx1 hs1 hw1 h
  generalize putM M ap ref at_ y = g at *
  rcases fine_or (rngP M.hp.arrs ref at_ 1 ap) with e | ⟨e1, e2⟩
  · obtain ⟨i, a, k, hi, rfl, rfl, hk, hak, -⟩ := HF.out e
    obtain rfl : k = 1 := by omega
    clear hk
    have HG2 : Hid (g = M.withHp (M.hp.put i a y)) := Lib.hid (by rw [HG.out, if_pos e, show ((i : Int) + 1 - 1).toNat = i by omega]; rfl)
    obtain ⟨hb, iv, fv, pv, sv, ivs, fvs, h⟩ := H.out
    have hfew := h.ok.few
    have HS := Lib.hid (fun u (hu : Upd (fun _ => False) w u) => pPut (h.aside hu).hp hi (by omega) (j := a) (by omega) y hy)
    have HB : Hid (∀ u, Upd (fun k => paint c w 9 k = 1) w1 u → u.cell? ⟨rb, 2, none⟩ = some (.pointer (some ⟨hb, 0, none⟩)) ∧ u.cell? ⟨w.heap.size, 0, none⟩ = some (.int .i64 ((i : Int) + 1)) ∧ u.cell? ⟨w.heap.size, 1, none⟩ = some (.int .i64 a)) :=
      Lib.hid (fun u hu => by
        obtain ⟨e0, e1, -, -⟩ := three (hpBlk hu HX.out (by rw [paint_new c w 9 (Nat.le_refl _)]; omega))
        have hr := (h.aside HU1.out).box
        have hc := (h.aside HU1.out).cb
        exact ⟨(five (hpBlk hu hr (by rw [hc]; omega))).2.2.1, e0, e1⟩)
    have HH := Lib.hid h
    rw [e] at HR ⊢
    clear h HG HF hak e H hfew ha
    go_enter Tryz.func82, Tryz.ntmps82
    go_wp2_with fail
    rw [← HW1.out]
    refine HR.out.mono ?_
    rintro e w2 ⟨rfl, hu⟩
    have HD : Hid (Upd (fun k => paint c w 9 k = 1) w1 w2.drew) := Lib.hid ((hu.trans (Upd.drew (fun _ => False) w2) (fun _ h _ => h)).mono (fun _ h _ => h.elim))
    have HD0 := Lib.hid (HU1.out.trans (hu.trans (Upd.drew (fun _ => False) w2) (fun _ h _ => h)) (fun _ h _ => h))
    clear hu
    go_wp2_with fail
    go_region_held3 (fun w' => w'.cell? ⟨rb, 2, none⟩ = some (.pointer (some ⟨hb, 0, none⟩)) ∧ w'.cell? ⟨w.heap.size, 0, none⟩ = some (.int .i64 ((i : Int) + 1)) ∧ w'.cell? ⟨w.heap.size, 1, none⟩ = some (.int .i64 a)) (first
      | with_reducible exact HB.out _ HD.out
      | with_reducible exact HB.out _ HX3.out) (first
      | (go_at_call 98; (refine (HS.out _ HD0.out).mono ?_); rintro e w3 ⟨rfl, hh, hu⟩; have HX3 : Hid (Upd (fun k => paint c w 9 k = 1) w1 w3) := Lib.hid (HD.out.trans hu (fun _ h _ => h.1)); have HS2 := Lib.hid (RmAt.heapS (HH.out.aside HD0.out) hh hu ((HH.out.ok).put i a y)); clear hh hu))
    all_goals
      go_wp2_with fail
      go_ret
      rw [HG2.out]
      exact ⟨rfl, _, (Ext.made _ 9 HD0.out).trans HS2.out.1 (fun _ h => h), _, _, _, _, _, _, _, HS2.out.2⟩
  · have hg : g = M := by rw [HG.out, if_neg e2]
    subst hg
    generalize rngP g.hp.arrs ref at_ 1 ap = st at *
    clear HG HF e2 HX
    go_enter Tryz.func82, Tryz.ntmps82
    go_wp2_with fail
    rw [← HW1.out]
    refine HR.out.mono ?_
    rintro e w2 ⟨rfl, hu⟩
    have HX2 := Lib.hid (HU1.out.trans hu (fun _ h _ => h))
    clear hu
    go_wp2_with fail
    go_ret
    exact ⟨rfl, c, Ext.quietT _ c HX2.out, H.out.quiet HX2.out⟩
theorem reach2 {L : List ArrM} {ap : Int} {s u : SpM} (h : reachP L ap [s, u] = 36864) : rngP L s.ref s.at_ s.n ap = 36864 ∧ rngP L u.ref u.at_ u.n ap = 36864 := by
  simp only [reachP] at h
  split at h
  · rename_i h1
    split at h
    · rename_i h2; exact ⟨h1, h2⟩
    · exact ⟨h1, h⟩
  · rename_i h1; exact absurd h h1
theorem box2 {w w1 : World} {s u : SpM} (hw1 : w1 = ((w.alloc (.cells #[.int .i64 s.ref, .int .i64 s.at_, .int .i64 s.n] 132)).alloc (.cells #[.int .i64 u.ref, .int .i64 u.at_, .int .i64 u.n] 132)).alloc (.cells #[.int .i64 s.ref, .int .i64 s.at_, .int .i64 s.n, .int .i64 u.ref, .int .i64 u.at_, .int .i64 u.n] 132)) :
    Upd (fun _ => False) w w1 ∧ w1.heap[w.heap.size]? = some (.cells #[.int .i64 s.ref, .int .i64 s.at_, .int .i64 s.n] 132 (0, 0)) ∧ w1.heap[w.heap.size + 1]? = some (.cells #[.int .i64 u.ref, .int .i64 u.at_, .int .i64 u.n] 132 (0, 0)) ∧ Sps w1 (.slice (some ⟨w.heap.size + 2, 0, none⟩) 2 2) [s, u] := by
  subst hw1
  refine ⟨((Upd.alloc _ _ _).trans (Upd.alloc _ _ _) (fun _ h _ => h)).trans (Upd.alloc _ _ _) (fun _ h _ => h), ?_, ?_, sps2 (t := 132) (hpTop _ _ _ (by simp))⟩
  · exact hpBlk (S := fun _ => False) ((Upd.alloc _ _ _).trans (Upd.alloc _ _ _) (fun _ h _ => h)) (hpTop w _ _ rfl) (fun h => h)
  · exact hpBlk (S := fun _ => False) (Upd.alloc _ _ _) (hpTop _ _ _ (by simp)) (fun h => h)
end
end Go.Proofs.YtdmadfahgkikkaaGreat

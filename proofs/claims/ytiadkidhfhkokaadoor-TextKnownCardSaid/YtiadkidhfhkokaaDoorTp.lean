/- Package text: put, the lines of locals and of instructions. -/
import Derived.Test.YtiadkidhfhkokaaDoorTo
namespace Go.Proofs.YtiadkidhfhkokaaDoor
open Go.RowKit Go.Lib Go.Deep
set_option linter.unusedVariables false
set_option linter.unusedSimpArgs false

/-- the last method is another one -/
def lastM (L : List MetM) (g : MetM → MetM) : List MetM := L.set (L.length - 1) (g (L.getD (L.length - 1) default))
def locW (x : Ws) : List Int × Ws := kindsW 10 (x.1, x.2 || !(!emptyP x.1))
section
variable {B b wb : Nat} {w w' : World} {D : DrM} {V : DrV} {S : Nat → Prop} {l : By} {bad : Bool} {f : By}
theorem DrAt.mcell (h : DrAt B w b D V) {i : Nat} (hi : i < V.M.length) {g c : Nat} (hmv : V.mv = .slice (some ⟨g, 0, none⟩) V.M.length c) (j : Nat) (hj : j < 4) (u : Value) (hu : (metC V.M[i])[j]? = some u) : w.cell? ⟨g, i * 4 + j, none⟩ = some u ∧ w.frozen? ⟨g, i * 4 + j, none⟩ = false := by
  have hr := h.mrow
  rw [hmv] at hr
  have := hr.cells (g := g) rfl (i * 4 + j) u (by rw [metC_at V.M i j hi hj]; exact hu)
  rw [addr_add, Nat.zero_add] at this
  exact ⟨this, hpFrozen hr _⟩
theorem mapSet (M : List PM) (i : Nat) (hi : i < M.length) (m : PM) (g : MetM → MetM) (hm : m.1 = g M[i].1) (he : i = M.length - 1) : (M.set i m).map Prod.fst = lastM (M.map Prod.fst) g := by
  unfold lastM
  rw [List.map_set, List.length_map, ← he, hm]
  congr 2
  simp [List.getD, hi]
set_option maxHeartbeats 2000000 in
theorem putLocals (hD : DrAt B w b D V) (hw : Wb w wb l bad) (hB : B ≤ wb) (hl : l.length ≤ maxLen) (hc : clsP f = 4) (h0 : 0 < V.M.length) :
    Calls Tryd.prog 45 #[.pointer (some ⟨b, 0, none⟩), .string (bs f), .pointer (some ⟨wb, 0, none⟩)] w (PutTo B b wb w (D.setM (lastM D.img.methods (fun m => ⟨m.params, m.res, (locW (l, bad)).1, m.code⟩))) (locW (l, bad)).2) := by
  obtain ⟨q0, q1, q2, q3, q4, -⟩ := cls_facts f
  rw [hc] at q0 q1 q2 q3 q4
  replace q0 : ((bs f).toList == [97, 112, 112, 108, 101, 116]) = false := q0
  replace q1 : ((bs f).toList == [102, 105, 101, 108, 100]) = false := q1
  replace q2 : ((bs f).toList == [105, 109, 112, 111, 114, 116]) = false := q2
  replace q3 : ((bs f).toList == [109, 101, 116, 104, 111, 100]) = false := q3
  replace q4 : ((bs f).toList == [108, 111, 99, 97, 108, 115]) = true := q4
  clear hc
  have hbB := hD.bB
  obtain ⟨K, hK⟩ : ∃ K, K = locW (l, bad) := ⟨_, rfl⟩
  have HKK := Lib.hid hK
  have HD := Lib.hid hD
  have HW := Lib.hid hw
  have HL := Lib.hid hl
  have HM0 := Lib.hid h0
  have HEM := Lib.hid (tIsEmpty l bad wb w hw hl)
  obtain ⟨em, hem⟩ : ∃ em, em = emptyP l := ⟨_, rfl⟩
  have HE := Lib.hid hem
  rw [← hem] at HEM
  rw [← hK]
  clear hD hw hl h0 hem hK
  go_enter Tryd.func45, Tryd.ntmps45
  go_wp2_with fail
  refine HEM.out.mono ?_
  rintro e w3 ⟨rfl, hu⟩
  have HW3 := Lib.hid (HW.out.upd hu (fun h => h))
  have HD3 := Lib.hid (HD.out.keep hu (Alien.no B b w))
  have HU3 := Lib.hid (hu.mono (T := fun k => k = b ∨ B ≤ k) (fun _ h _ => h.elim))
  have HO3 := Lib.hid (ko_no hu)
  clear hu
  go_wp2_with fail
  refine (tNeed l bad (!em) wb w3 HW3.out).mono ?_
  rintro e w4 ⟨rfl, hwb, hu⟩
  have HW4 := Lib.hid hwb
  have HD4 := Lib.hid (HD3.out.keep hu (alien_wb HW3.out (by omega)))
  have HU4 := Lib.hid (HU3.out.trans (updW hu hB) (fun _ h _ => h))
  have HO4 := Lib.hid (HO3.out.trans (ko_wb HW3.out hu))
  clear hwb hu
  go_wp2_with fail
  refine (tLast HD4.out HM0.out).mono ?_
  rintro e w5 ⟨g, c, hmv, rfl, hu⟩
  have HMV := Lib.hid hmv
  have HW5 := Lib.hid (HW4.out.upd hu (fun h => h))
  have HD5 := Lib.hid (HD4.out.keep hu (Alien.no B b w4))
  have HU5 := Lib.hid (HU4.out.trans (hu.mono (T := fun k => k = b ∨ B ≤ k) (fun _ h _ => h.elim)) (fun _ h _ => h))
  have HO5 := Lib.hid (HO4.out.trans (ko_no hu))
  clear hu hmv
  obtain ⟨i, hi⟩ : ∃ i, i = V.M.length - 1 := ⟨_, rfl⟩
  rw [← hi]
  have HI := Lib.hid hi
  clear hi
  go_wp2_with fail
  refine (tKinds HW5.out HL.out 10 (by omega)).mono ?_
  rw [show kindsW 10 (l, bad || !(!em)) = K by rw [HKK.out, HE.out]; rfl]
  rintro e w6 ⟨r, rfl, hk⟩
  obtain ⟨ra, rc, rfl⟩ := ownsRow_slice hk.row
  have hlt : i < V.M.length := by have := HI.out; have := HM0.out; omega
  have hD6 := HD5.out.keep hk.up (alien_wb HW5.out (by omega))
  have HU6 := Lib.hid (HU5.out.trans (updW hk.up hB) (fun _ h _ => h))
  have HO6 := Lib.hid (HO5.out.trans (ko_wb HW5.out hk.up))
  obtain ⟨c2, f2⟩ := hD6.mcell hlt HMV.out 2 (by omega) _ rfl
  obtain ⟨V', hV'⟩ := hD6.locals hlt HMV.out hk.row (new_ap HD5.out hk.new)
  rw [mapSet V.M i hlt _ (fun m => ⟨m.params, m.res, K.1, m.code⟩) rfl HI.out, hD6.mI] at hV'
  have HV := Lib.hid hV'
  have HD6 := Lib.hid hD6
  have HW6 := Lib.hid hk.wb
  have hgW : ¬ wb = g := fun e => by
    have := hD6.mrow
    exact hk.wb.rowNe this (by decide) (by rw [HMV.out, e]; rfl)
  have HGW := Lib.hid hgW
  have HGB : Hid (B ≤ g) := Lib.hid (hD6.nm g (by rw [HMV.out]; rfl))
  generalize V.M[i].2.2.1 = lv0 at c2
  clear hk hD6 hV' hgW hlt
  go_wp2_with fail
  first | (refine bodyPost_end (results_none rfl _ _ _) rfl ?_) | (simp only [Exit.inBlock, Exit.then]; refine bodyPost_end (results_none rfl _ _ _) rfl ?_)
  refine ⟨rfl, ⟨V', HV.out⟩, HW6.out.off HGW.out, HU6.out.trans ((updBox w6 g _ _).mono (T := fun k => k = b ∨ B ≤ k) (fun k hk _ => .inr (by have := HGB.out; omega))) (fun _ h _ => h), HO6.out.trans (KeepsOthers.setCell _ _ _)⟩
theorem insW_op (op : Int) (x : Ws) : (insW op x).1.op = op := by
  unfold insW
  split
  · rfl
  · split <;> rfl
set_option maxHeartbeats 2000000 in
theorem putInstr (hD : DrAt B w b D V) (hw : Wb w wb l bad) (hB : B ≤ wb) (hl : l.length ≤ maxLen) (hc : clsP f = 6) (h0 : 0 < V.M.length) :
    Calls Tryd.prog 45 #[.pointer (some ⟨b, 0, none⟩), .string (bs f), .pointer (some ⟨wb, 0, none⟩)] w (PutTo B b wb w (D.setM (lastM D.img.methods (fun m => ⟨m.params, m.res, m.locals, addL 120 m.code (insW (opB (bs f)) (l, bad)).1⟩))) (insW (opB (bs f)) (l, bad)).2) := by
  obtain ⟨q0, q1, q2, q3, q4, q5⟩ := cls_facts f
  rw [hc] at q0 q1 q2 q3 q4 q5
  replace q0 : ((bs f).toList == [97, 112, 112, 108, 101, 116]) = false := q0
  replace q1 : ((bs f).toList == [102, 105, 101, 108, 100]) = false := q1
  replace q2 : ((bs f).toList == [105, 109, 112, 111, 114, 116]) = false := q2
  replace q3 : ((bs f).toList == [109, 101, 116, 104, 111, 100]) = false := q3
  replace q4 : ((bs f).toList == [108, 111, 99, 97, 108, 115]) = false := q4
  replace q5 : ((bs f).toList == [101, 120, 112, 111, 114, 116]) = false := q5
  clear hc
  have hbB := hD.bB
  have HOP := Lib.hid (fun w => cOp (bs f) w)
  obtain ⟨op, hop⟩ : ∃ op, op = opB (bs f) := ⟨_, rfl⟩
  rw [← hop] at HOP ⊢
  have HD := Lib.hid hD
  have HW := Lib.hid hw
  have HL := Lib.hid hl
  have HM0 := Lib.hid h0
  clear hD hw hl h0 hop
  go_enter Tryd.func45, Tryd.ntmps45
  go_wp2_with fail
  refine (tLast HD.out HM0.out).mono ?_
  rintro e w4 ⟨g, c, hmv, rfl, hu⟩
  have HMV := Lib.hid hmv
  have hdr := Upd.drew (fun _ => False) w4
  have hu5 := hu.trans hdr (fun _ h _ => h)
  have HW5 := Lib.hid (HW.out.upd hu5 (fun h => h))
  have HD5 := Lib.hid (HD.out.keep hu5 (Alien.no B b w))
  have HU5 := Lib.hid (hu5.mono (T := fun k => k = b ∨ B ≤ k) (fun _ h _ => h.elim))
  have HO5 := Lib.hid (ko_no hu5)
  obtain ⟨i, hi⟩ : ∃ i, i = V.M.length - 1 := ⟨_, rfl⟩
  rw [← hi]
  have HI := Lib.hid hi
  have hlt : i < V.M.length := by have := HM0.out; omega
  have HLT := Lib.hid hlt
  obtain ⟨m, hm⟩ : ∃ m, m = V.M[i]'HLT.out := ⟨_, rfl⟩
  have hrow := (HD5.out.qrow _ (List.getElem_mem hlt)).2.2
  obtain ⟨ca, cc, hcv⟩ := ownsRow_slice hrow
  have hCL : m.1.code.length ≤ 121 := by rw [hm]; exact HD5.out.lc _ (List.getElem_mem hlt)
  obtain ⟨c3, f3⟩ := HD5.out.mcell hlt hmv 3 (by omega) _ rfl
  rw [hcv] at c3
  rw [← hm] at hcv hrow c3
  have HCV := Lib.hid hcv
  have HMM := Lib.hid hm
  have HCL := Lib.hid hCL
  replace c3 : w4.cell? ⟨g, i * 4 + 3, none⟩ = some (.slice ca m.1.code.length cc) := c3
  replace f3 : w4.frozen? ⟨g, i * 4 + 3, none⟩ = false := f3
  have HCELL : Hid (∀ w', DrAt B w' b D V → w'.cell? ⟨g, i * 4 + 3, none⟩ = some (.slice ca m.1.code.length cc) ∧ w'.frozen? ⟨g, i * 4 + 3, none⟩ = false) := Lib.hid (fun w' h => by
    have := h.mcell HLT.out HMV.out 3 (by omega) (.slice ca m.1.code.length cc) (by rw [← HMM.out, ← HCV.out]; rfl)
    exact this)
  clear hu hmv hdr hu5 hi hlt hcv hrow hm hCL
  go_wp2_with fail
  go_region_law ((first
    | (go_simp; (refine (HOP.out w4.drew).mono ?_); rintro e w6 ⟨rfl, hu⟩; have HW6 := Lib.hid (HW5.out.upd hu (fun h => h)); have HD6 := Lib.hid (HD5.out.keep hu (Alien.no B b _)); have HU6 := Lib.hid hu; have c6 := (HCELL.out w6 HD6.out).1; have f6 := (HCELL.out w6 HD6.out).2; clear hu)
    | (go_simp; (refine (tInstr HW6.out HL.out op).mono ?_); rintro e w7 ⟨rfl, hwb, hu⟩; have HW7 := Lib.hid hwb; have HD7 := Lib.hid (HD6.out.keep hu (alien_wb HW6.out (by omega))); have HU7 := Lib.hid hu; have c7 := (HCELL.out w7 HD7.out).1; have f7 := (HCELL.out w7 HD7.out).2; clear hwb hu)
    | (go_simp; (refine (tAddIns w7 _ m.1.code 120 (insW op (l, bad)).1 (by have h := (HD7.out.qrow _ (List.getElem_mem HLT.out)).2.2; rw [← HMM.out, HCV.out] at h; exact h) (by have := HCL.out; omega)).mono ?_); rintro e w8 ⟨v', rfl, hr, hu8, hf⟩; have HR8 := Lib.hid hr; have HU8 := Lib.hid hu8; have HF8 := Lib.hid hf; obtain ⟨va, vc, rfl⟩ := ownsRow_slice hr; have hne : ¬ (Value.slice ca m.1.code.length cc).ownBlock = some g := (fun hk => by have h := (HD7.out.qrow _ (List.getElem_mem HLT.out)).2.2; rw [← HMM.out, HCV.out] at h; exact h.ne HD7.out.mrow (by decide) g hk (by rw [HMV.out]; rfl)); have hgl : g < w7.heap.size := HD7.out.mrow.lt g (by rw [HMV.out]; rfl); have c8 := (hu8.cell (p := ⟨g, i * 4 + 3, none⟩) hgl hne).trans c7; have f8 := (hu8.frozen (p := ⟨g, i * 4 + 3, none⟩) hgl hne).trans f7; clear hr hu8 hf hne hgl)))
  all_goals
    first | (refine bodyPost_end (results_none rfl _ _ _) rfl ?_) | (simp only [Exit.inBlock, Exit.then]; refine bodyPost_end (results_none rfl _ _ _) rfl ?_)
    have hmv2 : V.M[i]'HLT.out = m := HMM.out.symm
    obtain ⟨V', hV'⟩ := HD7.out.code (i := i) HLT.out HMV.out (C := addL 120 m.1.code (insW op (l, bad)).1) HR8.out (by rw [hmv2, HCV.out]; exact HU8.out) (by rw [hmv2, HCV.out]; exact HF8.out) (addL_len (by omega) (by omega) HCL.out)
    rw [mapSet V.M i HLT.out _ (fun m => ⟨m.params, m.res, m.locals, addL 120 m.code (insW op (l, bad)).1⟩) (by rw [hmv2]) HI.out, HD7.out.mI] at hV'
    have hne : ¬ (Value.slice ca m.1.code.length cc).ownBlock = some wb := by
      have h := (HD7.out.qrow _ (List.getElem_mem HLT.out)).2.2
      rw [← HMM.out, HCV.out] at h
      exact HW7.out.rowNe h (by decide)
    have hgw : ¬ wb = g := fun e => HW7.out.rowNe HD7.out.mrow (by decide) (by rw [HMV.out, e]; rfl)
    have hgB : B ≤ g := HD7.out.nm g (by rw [HMV.out]; rfl)
    refine ⟨rfl, ⟨V', hV'⟩, (HW7.out.upd HU8.out (fun h => hne h)).off hgw, ?_, (((HO5.out.trans (ko_no HU6.out)).trans (ko_wb HW6.out HU7.out)).trans (ko_row (v := .slice ca m.1.code.length cc) (L := m.1.code) (by have h := (HD7.out.qrow _ (List.getElem_mem HLT.out)).2.2; rw [← HMM.out, HCV.out] at h; exact h) HU8.out)).trans (KeepsOthers.setCell _ _ _)⟩
    refine (((HU5.out.trans (HU6.out.mono (T := fun k => k = b ∨ B ≤ k) (fun _ h _ => h.elim)) (fun _ h _ => h)).trans (updW HU7.out hB) (fun _ h _ => h)).trans (HU8.out.mono (T := fun k => k = b ∨ B ≤ k) (fun k hk _ => .inr ?_)) (fun _ h _ => h)).trans ((updBox w8 g _ _).mono (T := fun k => k = b ∨ B ≤ k) (fun k hk _ => .inr (by omega))) (fun _ h _ => h)
    exact HD7.out.nc _ (List.getElem_mem HLT.out) k (by rw [hmv2, HCV.out]; exact hk)
end
end Go.Proofs.YtiadkidhfhkokaaDoor

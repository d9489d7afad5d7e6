/- Several texts in one. -/
import Derived.Test.YtmikibcgphkcfaaGreatDoorTo
/- Package text: put, the lines of locals and of instructions. Package text: take: a line. -/
namespace Go.Proofs.YtmikibcgphkcfaaGreatDoor
section
open Go.RowKit Go.Lib Go.Deep
set_option linter.unusedVariables false
set_option linter.unusedSimpArgs false

/-- the last method is another one -/
def lastM (L : List MetM) (g : MetM → MetM) : List MetM := L.set (L.length - 1) (g (L.getD (L.length - 1) default))
def locW (x : Ws) : List Int × Ws := kindsW 10 (x.1, x.2 || !(!emptyP x.1))
section
variable {B b wb : Nat} {w w' : World} {D : DrM} {V : DrV} {S : Nat → Prop} {l : By} {bad : Bool} {f : By}
theorem DrAt.mcell (h : DrAt B w b D V) {i : Nat} (hi : i < V.M.length) {g c : Nat} (hmv : V.mv = .slice (some ⟨g, 0, none⟩) V.M.length c) (j : Nat) (hj : j < 4) (u : Value) (hu : (metC V.M[i])[j]? = some u) : w.cell? ⟨g, i * 4 + j, none⟩ = some u ∧ w.frozen? ⟨g, i * 4 + j, none⟩ = false := by
  have hr := h.mrow
  rw [hmv] at hr
  have := hr.cells (g := g) rfl (i * 4 + j) u (by rw [metC_at V.M i j hi hj]; exact hu)
  rw [addr_add, Nat.zero_add] at this
  exact ⟨this, hpFrozen hr _⟩
theorem mapSet (M : List PM) (i : Nat) (hi : i < M.length) (m : PM) (g : MetM → MetM) (hm : m.1 = g M[i].1) (he : i = M.length - 1) : (M.set i m).map Prod.fst = lastM (M.map Prod.fst) g := by
  unfold lastM
  rw [List.map_set, List.length_map, ← he, hm]
  congr 2
  simp [List.getD, hi]
set_option maxHeartbeats 2000000 in
theorem putLocals (hD : DrAt B w b D V) (hw : Wb w wb l bad) (hB : B ≤ wb) (hl : l.length ≤ maxLen) (hc : clsP f = 4) (h0 : 0 < V.M.length) :
    Calls Tryz.prog 71 #[.pointer (some ⟨b, 0, none⟩), .string (bs f), .pointer (some ⟨wb, 0, none⟩)] w (PutTo B b wb w (D.setM (lastM D.img.methods (fun m => ⟨m.params, m.res, (locW (l, bad)).1, m.code⟩))) (locW (l, bad)).2) := by
  obtain ⟨q0, q1, q2, q3, q4, -⟩ := cls_facts f
  rw [hc] at q0 q1 q2 q3 q4
  replace q0 : ((bs f).toList == [97, 112, 112, 108, 101, 116]) = false := q0
  replace q1 : ((bs f).toList == [102, 105, 101, 108, 100]) = false := q1
  replace q2 : ((bs f).toList == [105, 109, 112, 111, 114, 116]) = false := q2
  replace q3 : ((bs f).toList == [109, 101, 116, 104, 111, 100]) = false := q3
  replace q4 : ((bs f).toList == [108, 111, 99, 97, 108, 115]) = true := q4
  clear hc
  have hbB := hD.bB
  obtain ⟨K, hK⟩ : ∃ K, K = locW (l, bad) := ⟨_, rfl⟩
  have HKK := Lib.hid hK
  have HD := Lib.hid hD
  have HW := Lib.hid hw
  have HL := Lib.hid hl
  have HM0 := Lib.hid h0
  have HEM := Lib.hid (tIsEmpty l bad wb w hw hl)
  obtain ⟨em, hem⟩ : ∃ em, em = emptyP l := ⟨_, rfl⟩
  have HE := Lib.hid hem
  rw [← hem] at HEM
  rw [← hK]
  clear hD hw hl h0 hem hK
  go_enter Tryz.func71, Tryz.ntmps71
  go_wp2_with fail
  refine HEM.out.mono ?_
  rintro e w3 ⟨rfl, hu⟩
  have HW3 := Lib.hid (HW.out.upd hu (fun h => h))
  have HD3 := Lib.hid (HD.out.keep hu (Alien.no B b w))
  have HU3 := Lib.hid (hu.mono (T := fun k => k = b ∨ B ≤ k) (fun _ h _ => h.elim))
  have HO3 := Lib.hid (ko_no hu)
  clear hu
  go_wp2_with fail
  refine (tNeed l bad (!em) wb w3 HW3.out).mono ?_
  rintro e w4 ⟨rfl, hwb, hu⟩
  have HW4 := Lib.hid hwb
  have HD4 := Lib.hid (HD3.out.keep hu (alien_wb HW3.out (by omega)))
  have HU4 := Lib.hid (HU3.out.trans (updW hu hB) (fun _ h _ => h))
  have HO4 := Lib.hid (HO3.out.trans (ko_wb HW3.out hu))
  clear hwb hu
  go_wp2_with fail
  refine (tLast HD4.out HM0.out).mono ?_
  rintro e w5 ⟨g, c, hmv, rfl, hu⟩
  have HMV := Lib.hid hmv
  have HW5 := Lib.hid (HW4.out.upd hu (fun h => h))
  have HD5 := Lib.hid (HD4.out.keep hu (Alien.no B b w4))
  have HU5 := Lib.hid (HU4.out.trans (hu.mono (T := fun k => k = b ∨ B ≤ k) (fun _ h _ => h.elim)) (fun _ h _ => h))
  have HO5 := Lib.hid (HO4.out.trans (ko_no hu))
  clear hu hmv
  obtain ⟨i, hi⟩ : ∃ i, i = V.M.length - 1 := ⟨_, rfl⟩
  rw [← hi]
  have HI := Lib.hid hi
  clear hi
  go_wp2_with fail
  refine (tKinds HW5.out HL.out 10 (by omega)).mono ?_
  rw [show kindsW 10 (l, bad || !(!em)) = K by rw [HKK.out, HE.out]; rfl]
  rintro e w6 ⟨r, rfl, hk⟩
  obtain ⟨ra, rc, rfl⟩ := ownsRow_slice hk.row
  have hlt : i < V.M.length := by have := HI.out; have := HM0.out; omega
  have hD6 := HD5.out.keep hk.up (alien_wb HW5.out (by omega))
  have HU6 := Lib.hid (HU5.out.trans (updW hk.up hB) (fun _ h _ => h))
  have HO6 := Lib.hid (HO5.out.trans (ko_wb HW5.out hk.up))
  obtain ⟨c2, f2⟩ := hD6.mcell hlt HMV.out 2 (by omega) _ rfl
  obtain ⟨V', hV'⟩ := hD6.locals hlt HMV.out hk.row (new_ap HD5.out hk.new)
  rw [mapSet V.M i hlt _ (fun m => ⟨m.params, m.res, K.1, m.code⟩) rfl HI.out, hD6.mI] at hV'
  have HV := Lib.hid hV'
  have HD6 := Lib.hid hD6
  have HW6 := Lib.hid hk.wb
  have hgW : ¬ wb = g := fun e => by
    have := hD6.mrow
    exact hk.wb.rowNe this (by decide) (by rw [HMV.out, e]; rfl)
  have HGW := Lib.hid hgW
  have HGB : Hid (B ≤ g) := Lib.hid (hD6.nm g (by rw [HMV.out]; rfl))
  generalize V.M[i].2.2.1 = lv0 at c2
  clear hk hD6 hV' hgW hlt
  go_wp2_with fail
  first | (refine bodyPost_end (results_none rfl _ _ _) rfl ?_) | (simp only [Exit.inBlock, Exit.then]; refine bodyPost_end (results_none rfl _ _ _) rfl ?_)
  refine ⟨rfl, ⟨V', HV.out⟩, HW6.out.off HGW.out, HU6.out.trans ((updBox w6 g _ _).mono (T := fun k => k = b ∨ B ≤ k) (fun k hk _ => .inr (by have := HGB.out; omega))) (fun _ h _ => h), HO6.out.trans (KeepsOthers.setCell _ _ _)⟩
theorem insW_op (op : Int) (x : Ws) : (insW op x).1.op = op := by
  unfold insW
  split
  · rfl
  · split <;> rfl
set_option maxHeartbeats 2000000 in
theorem putInstr (hD : DrAt B w b D V) (hw : Wb w wb l bad) (hB : B ≤ wb) (hl : l.length ≤ maxLen) (hc : clsP f = 6) (h0 : 0 < V.M.length) :
    Calls Tryz.prog 71 #[.pointer (some ⟨b, 0, none⟩), .string (bs f), .pointer (some ⟨wb, 0, none⟩)] w (PutTo B b wb w (D.setM (lastM D.img.methods (fun m => ⟨m.params, m.res, m.locals, addL 120 m.code (insW (opB (bs f)) (l, bad)).1⟩))) (insW (opB (bs f)) (l, bad)).2) := by
  obtain ⟨q0, q1, q2, q3, q4, q5⟩ := cls_facts f
  rw [hc] at q0 q1 q2 q3 q4 q5
  replace q0 : ((bs f).toList == [97, 112, 112, 108, 101, 116]) = false := q0
  replace q1 : ((bs f).toList == [102, 105, 101, 108, 100]) = false := q1
  replace q2 : ((bs f).toList == [105, 109, 112, 111, 114, 116]) = false := q2
  replace q3 : ((bs f).toList == [109, 101, 116, 104, 111, 100]) = false := q3
  replace q4 : ((bs f).toList == [108, 111, 99, 97, 108, 115]) = false := q4
  replace q5 : ((bs f).toList == [101, 120, 112, 111, 114, 116]) = false := q5
  clear hc
  have hbB := hD.bB
  have HOP := Lib.hid (fun w => cOp (bs f) w)
  obtain ⟨op, hop⟩ : ∃ op, op = opB (bs f) := ⟨_, rfl⟩
  rw [← hop] at HOP ⊢
  have HD := Lib.hid hD
  have HW := Lib.hid hw
  have HL := Lib.hid hl
  have HM0 := Lib.hid h0
  clear hD hw hl h0 hop
  go_enter Tryz.func71, Tryz.ntmps71
  go_wp2_with fail
  refine (tLast HD.out HM0.out).mono ?_
  rintro e w4 ⟨g, c, hmv, rfl, hu⟩
  have HMV := Lib.hid hmv
  have hdr := Upd.drew (fun _ => False) w4
  have hu5 := hu.trans hdr (fun _ h _ => h)
  have HW5 := Lib.hid (HW.out.upd hu5 (fun h => h))
  have HD5 := Lib.hid (HD.out.keep hu5 (Alien.no B b w))
  have HU5 := Lib.hid (hu5.mono (T := fun k => k = b ∨ B ≤ k) (fun _ h _ => h.elim))
  have HO5 := Lib.hid (ko_no hu5)
  obtain ⟨i, hi⟩ : ∃ i, i = V.M.length - 1 := ⟨_, rfl⟩
  rw [← hi]
  have HI := Lib.hid hi
  have hlt : i < V.M.length := by have := HM0.out; omega
  have HLT := Lib.hid hlt
  obtain ⟨m, hm⟩ : ∃ m, m = V.M[i]'HLT.out := ⟨_, rfl⟩
  have hrow := (HD5.out.qrow _ (List.getElem_mem hlt)).2.2
  obtain ⟨ca, cc, hcv⟩ := ownsRow_slice hrow
  have hCL : m.1.code.length ≤ 121 := by rw [hm]; exact HD5.out.lc _ (List.getElem_mem hlt)
  obtain ⟨c3, f3⟩ := HD5.out.mcell hlt hmv 3 (by omega) _ rfl
  rw [hcv] at c3
  rw [← hm] at hcv hrow c3
  have HCV := Lib.hid hcv
  have HMM := Lib.hid hm
  have HCL := Lib.hid hCL
  replace c3 : w4.cell? ⟨g, i * 4 + 3, none⟩ = some (.slice ca m.1.code.length cc) := c3
  replace f3 : w4.frozen? ⟨g, i * 4 + 3, none⟩ = false := f3
  have HCELL : Hid (∀ w', DrAt B w' b D V → w'.cell? ⟨g, i * 4 + 3, none⟩ = some (.slice ca m.1.code.length cc) ∧ w'.frozen? ⟨g, i * 4 + 3, none⟩ = false) := Lib.hid (fun w' h => by
    have := h.mcell HLT.out HMV.out 3 (by omega) (.slice ca m.1.code.length cc) (by rw [← HMM.out, ← HCV.out]; rfl)
    exact this)
  clear hu hmv hdr hu5 hi hlt hcv hrow hm hCL
  go_wp2_with fail
  go_region_law ((first
    | (go_simp; (refine (HOP.out w4.drew).mono ?_); rintro e w6 ⟨rfl, hu⟩; have HW6 := Lib.hid (HW5.out.upd hu (fun h => h)); have HD6 := Lib.hid (HD5.out.keep hu (Alien.no B b _)); have HU6 := Lib.hid hu; have c6 := (HCELL.out w6 HD6.out).1; have f6 := (HCELL.out w6 HD6.out).2; clear hu)
    | (go_simp; (refine (tInstr HW6.out HL.out op).mono ?_); rintro e w7 ⟨rfl, hwb, hu⟩; have HW7 := Lib.hid hwb; have HD7 := Lib.hid (HD6.out.keep hu (alien_wb HW6.out (by omega))); have HU7 := Lib.hid hu; have c7 := (HCELL.out w7 HD7.out).1; have f7 := (HCELL.out w7 HD7.out).2; clear hwb hu)
    | (go_simp; (refine (tAddIns w7 _ m.1.code 120 (insW op (l, bad)).1 (by have h := (HD7.out.qrow _ (List.getElem_mem HLT.out)).2.2; rw [← HMM.out, HCV.out] at h; exact h) (by have := HCL.out; omega)).mono ?_); rintro e w8 ⟨v', rfl, hr, hu8, hf⟩; have HR8 := Lib.hid hr; have HU8 := Lib.hid hu8; have HF8 := Lib.hid hf; obtain ⟨va, vc, rfl⟩ := ownsRow_slice hr; have hne : ¬ (Value.slice ca m.1.code.length cc).ownBlock = some g := (fun hk => by have h := (HD7.out.qrow _ (List.getElem_mem HLT.out)).2.2; rw [← HMM.out, HCV.out] at h; exact h.ne HD7.out.mrow (by decide) g hk (by rw [HMV.out]; rfl)); have hgl : g < w7.heap.size := HD7.out.mrow.lt g (by rw [HMV.out]; rfl); have c8 := (hu8.cell (p := ⟨g, i * 4 + 3, none⟩) hgl hne).trans c7; have f8 := (hu8.frozen (p := ⟨g, i * 4 + 3, none⟩) hgl hne).trans f7; clear hr hu8 hf hne hgl)))
  all_goals
    first | (refine bodyPost_end (results_none rfl _ _ _) rfl ?_) | (simp only [Exit.inBlock, Exit.then]; refine bodyPost_end (results_none rfl _ _ _) rfl ?_)
    have hmv2 : V.M[i]'HLT.out = m := HMM.out.symm
    obtain ⟨V', hV'⟩ := HD7.out.code (i := i) HLT.out HMV.out (C := addL 120 m.1.code (insW op (l, bad)).1) HR8.out (by rw [hmv2, HCV.out]; exact HU8.out) (by rw [hmv2, HCV.out]; exact HF8.out) (addL_len (by omega) (by omega) HCL.out)
    rw [mapSet V.M i HLT.out _ (fun m => ⟨m.params, m.res, m.locals, addL 120 m.code (insW op (l, bad)).1⟩) (by rw [hmv2]) HI.out, HD7.out.mI] at hV'
    have hne : ¬ (Value.slice ca m.1.code.length cc).ownBlock = some wb := by
      have h := (HD7.out.qrow _ (List.getElem_mem HLT.out)).2.2
      rw [← HMM.out, HCV.out] at h
      exact HW7.out.rowNe h (by decide)
    have hgw : ¬ wb = g := fun e => HW7.out.rowNe HD7.out.mrow (by decide) (by rw [HMV.out, e]; rfl)
    have hgB : B ≤ g := HD7.out.nm g (by rw [HMV.out]; rfl)
    refine ⟨rfl, ⟨V', hV'⟩, (HW7.out.upd HU8.out (fun h => hne h)).off hgw, ?_, (((HO5.out.trans (ko_no HU6.out)).trans (ko_wb HW6.out HU7.out)).trans (ko_row (v := .slice ca m.1.code.length cc) (L := m.1.code) (by have h := (HD7.out.qrow _ (List.getElem_mem HLT.out)).2.2; rw [← HMM.out, HCV.out] at h; exact h) HU8.out)).trans (KeepsOthers.setCell _ _ _)⟩
    refine (((HU5.out.trans (HU6.out.mono (T := fun k => k = b ∨ B ≤ k) (fun _ h _ => h.elim)) (fun _ h _ => h)).trans (updW HU7.out hB) (fun _ h _ => h)).trans (HU8.out.mono (T := fun k => k = b ∨ B ≤ k) (fun k hk _ => .inr ?_)) (fun _ h _ => h)).trans ((updBox w8 g _ _).mono (T := fun k => k = b ∨ B ≤ k) (fun k hk _ => .inr (by omega))) (fun _ h _ => h)
    exact HD7.out.nc _ (List.getElem_mem HLT.out) k (by rw [hmv2, HCV.out]; exact hk)
end
end

section
open Go.RowKit Go.Lib Go.Deep
set_option linter.unusedVariables false
set_option linter.unusedSimpArgs false

def putP (f : By) (D : DrM) (x : Ws) : DrM × Ws := match clsP f with
  | 0 => (D.setName (bs (nameW x).1), (nameW x).2)
  | 1 => (D.setF (addL 8 D.img.fields (kindW x).1), (kindW x).2)
  | 2 => (D.setI (addL 4 D.img.imports (impW x).1), (impW x).2)
  | 3 => (D.setM (addL 8 D.img.methods (metW x).1), (metW x).2)
  | 4 => (D.setM (lastM D.img.methods (fun m => ⟨m.params, m.res, (locW x).1, m.code⟩)), (locW x).2)
  | 5 => (D.setX (addL 4 D.img.exports (numW x).1), (numW x).2)
  | _ => (D.setM (lastM D.img.methods (fun m => ⟨m.params, m.res, m.locals, addL 120 m.code (insW (opB (bs f)) x).1⟩)), (insW (opB (bs f)) x).2)
/-- what goOn and put make of a line's words -/
def lineP (D : DrM) (f r : By) : Option DrM := match mayT (clsP f) D.pos with
  | true => match !(putP f (D.setPos (rangeT (clsP f)).2.2) (r, false)).2.2 && emptyP (putP f (D.setPos (rangeT (clsP f)).2.2) (r, false)).2.1 with
    | true => some (putP f (D.setPos (rangeT (clsP f)).2.2) (r, false)).1
    | false => none
  | false => none
def takeD (D : DrM) (line : By) : Option DrM := match emptyP (plainP line) with
  | true => some D
  | false => lineP D (nextP (plainP line)).1 (nextP (plainP line)).2
/-- behind a method's line there is a method -/
def GoodD (D : DrM) : Prop := 3 ≤ D.pos → D.img.methods ≠ []
theorem addL_ne {α : Type} {most : Int} {L : List α} {x : α} (h : 0 ≤ most) : addL most L x ≠ [] := by
  unfold addL
  split
  · rename_i hd
    intro e
    subst e
    simp at hd
    omega
  · simp
theorem lastM_ne {L : List MetM} {g : MetM → MetM} (h : L ≠ []) : lastM L g ≠ [] := by
  intro e
  have := congrArg List.length e
  simp [lastM] at this
  exact h this
theorem putP_M {f : By} (D : DrM) (x : Ws) (h : clsP f = 4 ∨ clsP f = 6) : ∃ g, (putP f D x).1.img.methods = lastM D.img.methods g := by
  unfold putP
  rcases h with h | h <;> rw [h]
  · exact ⟨fun m => ⟨m.params, m.res, (locW x).1, m.code⟩, rfl⟩
  · exact ⟨fun m => ⟨m.params, m.res, m.locals, addL 120 m.code (insW (opB (bs f)) x).1⟩, rfl⟩
theorem putP_3 {f : By} (D : DrM) (x : Ws) (h : clsP f = 3) : (putP f D x).1.img.methods ≠ [] := by
  unfold putP
  rw [h]
  exact addL_ne (by omega)
theorem putP_0 {f : By} (D : DrM) (x : Ws) (h : clsP f = 0 ∨ clsP f = 1 ∨ clsP f = 2 ∨ clsP f = 5) : (putP f D x).1.img.methods = D.img.methods := by
  unfold putP
  rcases h with h | h | h | h <;> rw [h] <;> rfl
theorem putP_pos (f : By) (D : DrM) (x : Ws) : (putP f D x).1.pos = D.pos := by
  unfold putP
  split <;> rfl
theorem putP_good (f : By) (D : DrM) (x : Ws) (hg : GoodD D) (hm : mayT (clsP f) D.pos = true) : GoodD (putP f (D.setPos (rangeT (clsP f)).2.2) x).1 := by
  have h6 := cls_le f
  intro hpos
  rw [putP_pos] at hpos
  have hM : clsP f = 4 ∨ clsP f = 5 ∨ clsP f = 6 → D.img.methods ≠ [] := fun h => hg (by
    rcases h with h | h | h <;> rw [h] at hm <;> simp [mayT, rangeT] at hm <;> omega)
  rcases (by omega : clsP f = 0 ∨ clsP f = 1 ∨ clsP f = 2 ∨ clsP f = 3 ∨ clsP f = 4 ∨ clsP f = 5 ∨ clsP f = 6) with h | h | h | h | h | h | h
  · rw [h] at hpos; simp [DrM.setPos, rangeT] at hpos
  · rw [h] at hpos; simp [DrM.setPos, rangeT] at hpos
  · rw [h] at hpos; simp [DrM.setPos, rangeT] at hpos
  · exact putP_3 _ x h
  · obtain ⟨g, hg2⟩ := putP_M (D.setPos (rangeT (clsP f)).2.2) x (.inl h)
    rw [hg2]; exact lastM_ne (hM (.inl h))
  · rw [putP_0 _ x (.inr (.inr (.inr h)))]; exact hM (.inr (.inl h))
  · obtain ⟨g, hg2⟩ := putP_M (D.setPos (rangeT (clsP f)).2.2) x (.inr h)
    rw [hg2]; exact lastM_ne (hM (.inr (.inr h)))
theorem kindsGo_len : ∀ (f : Nat) (most : Int) (L : List Int) (x : Ws), (kindsGo f most L x).2.1.length ≤ x.1.length
  | 0, _, _, _ => Nat.le_refl _
  | f + 1, most, L, x => by
    cases h : (!x.2 && !emptyP x.1) with
    | true =>
      rw [kinds_on h]
      exact Nat.le_trans (kindsGo_len f most _ _) (next_rest _)
    | false => rw [kinds_stop h]; exact Nat.le_refl _
theorem kindsW_len (most : Int) (x : Ws) : (kindsW most x).2.1.length ≤ x.1.length := kindsGo_len _ _ _ _
theorem impW_len (x : Ws) : (impW x).2.1.length ≤ x.1.length :=
  Nat.le_trans (kindsW_len _ _) (Nat.le_trans (resW_len _) (Nat.le_trans (numW_len _) (nameW_len _)))
theorem metW_len (x : Ws) : (metW x).2.1.length ≤ x.1.length := Nat.le_trans (kindsW_len _ _) (resW_len _)
theorem insW_len (op : Int) (x : Ws) : (insW op x).2.1.length ≤ x.1.length := by
  unfold insW
  split
  · exact Nat.le_refl _
  · split
    · exact numW_len (insBad op x)
    · exact Nat.le_trans (numW_len _) (numW_len (insBad op x))
theorem putP_len (f : By) (D : DrM) (x : Ws) : (putP f D x).2.1.length ≤ x.1.length := by
  unfold putP
  split
  · exact nameW_len x
  · exact next_rest _
  · exact impW_len x
  · exact metW_len x
  · exact kindsW_len 10 (x.1, x.2 || !(!emptyP x.1))
  · exact numW_len x
  · exact insW_len _ x
theorem takeD_good {D D' : DrM} {line : By} (hg : GoodD D) (h : takeD D line = some D') : GoodD D' := by
  unfold takeD at h
  split at h
  · simp at h; subst h; exact hg
  · unfold lineP at h
    split at h
    · rename_i hm
      split at h
      · simp at h; subst h; exact putP_good _ D _ hg hm
      · cases h
    · cases h
section
variable {B b wb : Nat} {w w' : World} {D : DrM} {V : DrV} {S : Nat → Prop} {l : By} {bad : Bool} {f : By}
/-- put -/
theorem tPut2 (hD : DrAt B w b D V) (hw : Wb w wb l bad) (hB : B ≤ wb) (hl : l.length ≤ maxLen) (h0 : 4 ≤ clsP f → clsP f ≠ 5 → D.img.methods ≠ []) :
    Calls Tryz.prog 71 #[.pointer (some ⟨b, 0, none⟩), .string (bs f), .pointer (some ⟨wb, 0, none⟩)] w (PutTo B b wb w (putP f D (l, bad)).1 (putP f D (l, bad)).2) := by
  have h6 := cls_le f
  have hM : D.img.methods ≠ [] → 0 < V.M.length := fun h => by
    rw [← hD.mI] at h
    cases hv : V.M with
    | nil => rw [hv] at h; simp at h
    | cons x t => simp
  unfold putP
  obtain ⟨c, hc⟩ : ∃ c, clsP f = c := ⟨_, rfl⟩
  rw [hc] at h0 h6 ⊢
  rcases (by omega : c = 0 ∨ c = 1 ∨ c = 2 ∨ c = 3 ∨ c = 4 ∨ c = 5 ∨ c = 6) with rfl | rfl | rfl | rfl | rfl | rfl | rfl
  · exact putApplet hD hw hB hl hc
  · exact putField hD hw hB hl hc
  · exact putImport hD hw hB hl hc
  · exact putMethod hD hw hB hl hc
  · exact putLocals hD hw hB hl hc (hM (h0 (by omega) (by omega)))
  · exact putExport hD hw hB hl hc
  · exact putInstr hD hw hB hl hc (hM (h0 (by omega) (by omega)))
theorem plain_le (l : By) : (plainP l).length ≤ l.length := (List.takeWhile_sublist _).length_le
set_option maxHeartbeats 2000000 in
theorem tTake (hD : DrAt B w b D V) (hg : GoodD D) (line : By) (hl : line.length ≤ maxLen) : Calls Tryz.prog 51 #[.pointer (some ⟨b, 0, none⟩), .string (bs line)] w fun e w' => e = .returned (.bool (takeD D line).isSome) ∧ (∀ D', takeD D line = some D' → ∃ V', DrAt B w' b D' V') ∧ Upd (fun k => k = b ∨ B ≤ k) w w' ∧ KeepsOthers w w' := by
  have HD := Lib.hid hD
  have HG := Lib.hid hg
  have HL := Lib.hid hl
  have HTD : Hid (takeD D line = match emptyP (plainP line) with | true => some D | false => lineP D (nextP (plainP line)).1 (nextP (plainP line)).2) := Lib.hid rfl
  have hpl : (plainP line).length ≤ maxLen := Nat.le_trans (plain_le line) hl
  obtain ⟨p, hp⟩ : ∃ p, p = plainP line := ⟨_, rfl⟩
  rw [← hp] at HTD hpl
  have HP := Lib.hid hp
  have HPL := Lib.hid hpl
  obtain ⟨td, htd⟩ : ∃ td, td = takeD D line := ⟨_, rfl⟩
  rw [← htd] at HTD ⊢
  have hbB := hD.bB
  clear hD hg hl hp hpl htd
  go_enter Tryz.func51, Tryz.ntmps51
  go_wp2_with fail
  refine (tPlain line w HL.out).mono ?_
  rw [← HP.out]
  rintro e w1 ⟨rfl, hu⟩
  obtain ⟨wb, hwbe⟩ : ∃ wb, wb = w1.heap.size := ⟨_, rfl⟩
  obtain ⟨w2, hw2⟩ : ∃ w2, w2 = w1.alloc (.cells #[.string (bs p), .bool false] WT) := ⟨_, rfl⟩
  have hu2 : Upd (fun _ => False) w w2 := hu.trans (by rw [hw2]; exact Upd.alloc (fun _ => False) _ _) (fun _ h _ => h)
  have HD2 := Lib.hid (HD.out.keep hu2 (Alien.no B b w))
  have HW2 : Hid (Wb w2 wb p false) := Lib.hid (by rw [hw2]; exact tTop _ _ _ hwbe)
  have HB : Hid (B ≤ wb) := Lib.hid (by have := HD.out.sB; have := hu.size; omega)
  have HU2 := Lib.hid (hu2.mono (T := fun k => k = b ∨ B ≤ k) (fun _ h _ => h.elim))
  have HO2 := Lib.hid (ko_no hu2)
  have HW := Lib.hid hw2
  have HWE := Lib.hid hwbe
  clear hu hu2 hw2 hwbe
  go_wp2_with fail
  rw [← HWE.out]
  rw [← HW.out]
  refine (tIsEmpty p false wb w2 HW2.out HPL.out).mono ?_
  rintro e w3 ⟨rfl, hu⟩
  have HD3 := Lib.hid (HD2.out.keep hu (Alien.no B b w2))
  have HW3 := Lib.hid (HW2.out.upd hu (fun h => h))
  have HU3 := Lib.hid (HU2.out.trans (hu.mono (T := fun k => k = b ∨ B ≤ k) (fun _ h _ => h.elim)) (fun _ h _ => h))
  have HO3 := Lib.hid (HO2.out.trans (ko_no hu))
  clear hu
  cases he : emptyP p with
  | true =>
    have HT : Hid (td = some D) := Lib.hid (by rw [HTD.out, he])
    have HE := Lib.hid he
    clear he
    go_wp2_with fail
    go_ret
    exact ⟨by rw [HT.out]; rfl, fun D' h => (by rw [HT.out] at h; cases h; exact ⟨V, HD3.out⟩), HU3.out, HO3.out⟩
  | false =>
    have HT : Hid (td = lineP D (nextP p).1 (nextP p).2) := Lib.hid (by rw [HTD.out, he])
    clear he
    go_wp2_with fail
    refine (tNext p false wb w3 HW3.out HPL.out).mono ?_
    rintro e w4 ⟨rfl, hwb, hu⟩
    have HD4 := Lib.hid (HD3.out.keep hu (alien_wb HW3.out (by have := HB.out; omega)))
    have HW4 := Lib.hid hwb
    have HU4 := Lib.hid (HU3.out.trans (updW hu HB.out) (fun _ h _ => h))
    have HO4 := Lib.hid (HO3.out.trans (ko_wb HW3.out hu))
    have HRL : Hid ((nextP p).2.length ≤ maxLen) := Lib.hid (Nat.le_trans (next_rest p) HPL.out)
    clear hwb hu
    generalize (nextP p).1 = f at *
    generalize (nextP p).2 = r at *
    go_wp2_with fail
    refine (tGoOn (f := f) HD4.out).mono ?_
    cases hm : mayT (clsP f) D.pos with
    | false =>
      have HN : Hid (td = none) := Lib.hid (by rw [HT.out]; unfold lineP; rw [hm])
      clear hm
      rintro e w5 ⟨-, h⟩
      obtain ⟨rfl, rfl⟩ := h rfl
      clear h
      go_wp2_with fail
      go_ret
      exact ⟨by rw [HN.out]; rfl, fun D' h => (by rw [HN.out] at h; cases h), HU4.out, HO4.out⟩
    | true =>
      rintro e w5 ⟨h, -⟩
      obtain ⟨rfl, hw5⟩ := h rfl
      obtain ⟨nx, hnx⟩ : ∃ nx, nx = (rangeT (clsP f)).2.2 := ⟨_, rfl⟩
      rw [← hnx] at hw5
      have HD5 : Hid (DrAt B w5 b (D.setPos nx) V) := Lib.hid (by rw [hw5]; exact HD4.out.goes nx)
      have HW5 : Hid (Wb w5 wb r false) := Lib.hid (by rw [hw5]; exact HW4.out.off (by have := HB.out; omega))
      have HU5 : Hid (Upd (fun k => k = b ∨ B ≤ k) w w5) := Lib.hid (by rw [hw5]; exact HU4.out.trans ((updBox w4 b 5 _).mono (T := fun k => k = b ∨ B ≤ k) (fun k hk _ => .inl hk)) (fun _ h _ => h))
      have HO5 : Hid (KeepsOthers w w5) := Lib.hid (by rw [hw5]; exact HO4.out.trans (KeepsOthers.setCell _ _ _))
      have HNE : Hid (4 ≤ clsP f → clsP f ≠ 5 → (D.setPos nx).img.methods ≠ []) := Lib.hid (fun h4 h5 => HG.out (by
        have h6 := cls_le f
        rcases (by omega : clsP f = 4 ∨ clsP f = 6) with h | h <;> rw [h] at hm <;> simp [mayT, rangeT] at hm <;> omega))
      obtain ⟨PP, hPP⟩ : ∃ PP, PP = putP f (D.setPos nx) (r, false) := ⟨_, rfl⟩
      have HT2 : Hid (td = match !PP.2.2 && emptyP PP.2.1 with | true => some PP.1 | false => none) := Lib.hid (by
        rw [HT.out]
        unfold lineP
        rw [hm, hPP, hnx])
      have HPP := Lib.hid hPP
      have HXL : Hid (PP.2.1.length ≤ maxLen) := Lib.hid (by have h1 := putP_len f (D.setPos nx) (r, false); rw [← hPP] at h1; exact Nat.le_trans h1 HRL.out)
      clear hm h hw5 hnx hPP
      go_wp2_with fail
      refine (tPut2 (f := f) HD5.out HW5.out HB.out HRL.out HNE.out).mono ?_
      rw [← HPP.out]
      rintro e w6 ⟨rfl, hd, hwb, hu, hko⟩
      have HD6 := Lib.hid hd
      have HW6 := Lib.hid hwb
      have HU6 := Lib.hid (HU5.out.trans hu (fun _ h _ => h))
      have HO6 := Lib.hid (HO5.out.trans hko)
      obtain ⟨-, c1, -, f1⟩ := hwb.cell
      clear hd hwb hu hko
      cases hb : PP.2.2 with
      | true =>
        have HN : Hid (td = none) := Lib.hid (by rw [HT2.out, hb]; rfl)
        rw [hb] at c1
        clear hb
        go_wp2_with fail
        go_ret
        exact ⟨by rw [HN.out]; rfl, fun D' h => (by rw [HN.out] at h; cases h), HU6.out, HO6.out⟩
      | false =>
        have HT3 : Hid (td = match emptyP PP.2.1 with | true => some PP.1 | false => none) := Lib.hid (by rw [HT2.out, hb]; rfl)
        rw [hb] at c1
        have HW7 : Hid (Wb w6 wb PP.2.1 false) := Lib.hid (by have := HW6.out; rwa [hb] at this)
        clear hb
        go_wp2_with fail
        refine (tIsEmpty PP.2.1 false wb w6 HW7.out HXL.out).mono ?_
        rintro e w7 ⟨rfl, hu⟩
        have HO7 := Lib.hid (HO6.out.trans (ko_no hu))
        have HU7 := Lib.hid (HU6.out.trans (hu.mono (T := fun k => k = b ∨ B ≤ k) (fun _ h _ => h.elim)) (fun _ h _ => h))
        have HD7 : Hid (∃ V', DrAt B w7 b PP.1 V') := Lib.hid (by obtain ⟨V', hV'⟩ := HD6.out; exact ⟨V', hV'.keep hu (Alien.no B b w6)⟩)
        clear hu
        go_wp2_with fail
        go_ret
        cases he : emptyP PP.2.1 with
        | true =>
          have HN : Hid (td = some PP.1) := Lib.hid (by rw [HT3.out, he])
          exact ⟨by rw [HN.out]; rfl, fun D' h => (by rw [HN.out] at h; cases h; exact HD7.out), HU7.out, HO7.out⟩
        | false =>
          have HN : Hid (td = none) := Lib.hid (by rw [HT3.out, he])
          exact ⟨by rw [HN.out]; rfl, fun D' h => (by rw [HN.out] at h; cases h), HU7.out, HO7.out⟩
end
end
end Go.Proofs.YtmikibcgphkcfaaGreatDoor
/- Package text: lines: what it yields. Package text: the numbers of a draft are in range; a draft's image reads as an image. -/
namespace Go.Proofs.YtmikibcgphkcfaaGreatDoor
section
open Go.RowKit Go.Shelf
set_option linter.unusedVariables false
set_option linter.unusedSimpArgs false
attribute [local go_sem] Oper.semAt_some

abbrev LF : FuncId := 66
/-- a line that is no longer than any string may be -/
def cap (x : By) : By := if x.length ≤ maxLen then x else []
theorem cap_eq {x : By} (h : x.length ≤ maxLen) : cap x = x := if_pos h
theorem cap_le (x : By) : (cap x).length ≤ maxLen := by
  unfold cap
  split
  · assumption
  · exact Nat.zero_le _
theorem map_cap : ∀ (L : List By), (∀ x ∈ L, x.length ≤ maxLen) → L.map cap = L
  | [], _ => rfl
  | x :: L, h => by rw [List.map_cons, cap_eq (h x (by simp)), map_cap L (fun y hy => h y (by simp [hy]))]
abbrev encL (x : By) : Array Value := #[.string (bs (cap x))]
/-- what a round keeps: the walks, and the box of the string -/
def KpL (bx : Nat) (W W' : World) : Prop := KeepsWalks W W' ∧ W'.heap[bx]? = W.heap[bx]?
theorem kpL_t {bx : Nat} {A B C : World} (h : KpL bx A B) (k : KpL bx B C) : KpL bx A C := ⟨walksK_t h.1 k.1, k.2.trans h.2⟩
theorem kpL_b {bx : Nat} {w : World} (hb : bx < w.heap.size) (W : World) (l : Nat) (o o' : Obj) (h1 : w.heap.size ≤ l) (h2 : W.heap[l]? = some o) (h3 : o.isCells = false) (h4 : o.isWalk = false) : KpL bx W (W.putObj l o') :=
  ⟨walksK_b (w := w) W l o o' h1 h2 h3 h4, by simp only [World.putObj, Array.getElem?_setIfInBounds]; rw [if_neg (by omega)]⟩
set_option maxRecDepth 100000 in
set_option maxHeartbeats 2000000 in
theorem lines_stops (F : Fence) (n : Nat) (hF : F.fn LF) (hro : F.round = none) (hn : 1 ≤ n) (l : By) (hl : l.length ≤ maxLen) (bx : Nat) (w : World) (hbx : w.heap[bx]? = some (.cells #[.string (bs l)] 9 (0, 0))) :
    SeqStopsK F n Tryz.prog LF #[.pointer (some ⟨bx, 0, none⟩)] encL (KpL bx) (fun xs => xs = linesP l) (fun pre => pre <+: linesP l) (linesP l).length w := fun lp J Jx W hW hJ hJx hY h0 => by
  have HJ := Lib.hid hJ
  have HY := Lib.hid hY
  have HX := Lib.hid hJx
  have hbl : bx < w.heap.size := (Array.getElem?_eq_some_iff.1 hbx).1
  have hbW : W.heap[bx]? = some (.cells #[.string (bs l)] 9 (0, 0)) := (hW.block bx hbl).trans hbx
  have hblW : bx < W.heap.size := Nat.lt_of_lt_of_le hbl hW.size
  have HB0 : Hid ((W.iter (bs l) 0).heap[bx]? = some (.cells #[.string (bs l)] 9 (0, 0))) := Lib.hid ((upd_iter W (bs l) 0).block bx hblW (fun h => h) |>.trans hbW)
  have H0 : Hid (J [] (W.iter (bs l) 0)) := hJ [] W _ none h0 (World.grownBy_alloc _ _ none) (fun r e => by cases e)
  have HSZ := Lib.hid (bs_size l)
  have HP0 : Hid ([] ++ linesP (l.drop 0) = linesP l) := Lib.hid rfl
  have HF0 : Hid (Free 10 l 0 0) := Lib.hid (fun j h1 h2 => by omega)
  have HLL := Lib.hid hl
  have c0 := (tCell hbW 0).1
  simp at c0
  clear hJ hY hJx h0 hW hl hbW hbx
  refine callsIn_of_wp Tryz.func66 rfl hF ?_ hro
  simp only [Tryz.ntmps66, List.size_toArray, List.length_cons, List.length_nil, Nat.reduceAdd, Nat.reduceSub, Array.replicate_succ, Array.replicate_zero, List.push_toArray, List.append_toArray, List.nil_append, List.cons_append]
  gi_wp2
  gi_loopw [3, 4, 5] (fun fr _ _ wr => ∃ (k pos : Nat) (pre : List By), fr = .int .i64 (k : Nat) ∧ k ≤ pos ∧ pos ≤ l.length ∧ Hid (Free 10 l k pos) ∧ Hid (pre ++ linesP (l.drop k) = linesP l) ∧ Hid (wr.heap[W.heap.size]? = some (.stringIter (bs l) pos)) ∧ Hid (wr.heap[bx]? = some (.cells #[.string (bs l)] 9 (0, 0))) ∧ Hid (J pre wr)) (fun _ _ _ wr => l.length - wr.iterPos W.heap.size)
  case atStart => exact ⟨0, 0, [], rfl, Nat.le_refl _, Nat.zero_le _, HF0, HP0, Lib.hid (World.iter_heap _ _ _), HB0, H0⟩
  case round =>
    obtain ⟨k, pos, pre, rfl, hkp, hpl, HF, HPR, HI, HB, HJ1⟩ := hrel
    clear c0
    have HIlt : W.heap.size < wr.heap.size := (Array.getElem?_eq_some_iff.1 HI.out).1
    by_cases hp : pos < l.length
    · have hnx := fun ty => Lib.run_next_any_at (P := Tryz.prog) wr W.heap.size (bs l) pos ty HI.out (by rw [bs_size]; exact hp)
      obtain ⟨hd1, hd2, hcs⟩ := scan_step l pos 10 hp (by omega)
      have hr := dec_rune (bs l) pos
      generalize (Utf8.decode (bs l) pos).1 = r at *
      generalize (Utf8.decode (bs l) pos).2 = d at *
      have hg : wr.grownBy (wr.iterAt W.heap.size (bs l) (pos + d)) (some W.heap.size) := ⟨rfl, rfl, rfl, by rw [Lib.iterAt_size]; exact Nat.le_refl _, fun j hj hne => Lib.iterAt_other _ _ _ _ _ (fun e => hne (by rw [e]))⟩
      have HJ2 : Hid (J pre (wr.iterAt W.heap.size (bs l) (pos + d))) := HJ.out _ wr _ (some W.heap.size) HJ1.out hg (fun r e => by cases e; exact ⟨Nat.le_refl _, _, HI.out, rfl⟩)
      have HI2 : Hid ((wr.iterAt W.heap.size (bs l) (pos + d)).heap[W.heap.size]? = some (.stringIter (bs l) (pos + d))) := Lib.iterAt_heap _ _ _ _ _ HI.out
      have HB2 : Hid ((wr.iterAt W.heap.size (bs l) (pos + d)).heap[bx]? = some (.cells #[.string (bs l)] 9 (0, 0))) := Lib.hid ((Lib.iterAt_other _ _ _ _ _ (by omega)).trans HB.out)
      have HP1 := Lib.hid (iterPos_of HI.out)
      have HP2 := Lib.hid (iterPos_of HI2.out)
      clear hg HI HJ1 HB
      generalize wr.iterAt W.heap.size (bs l) (pos + d) = w2 at *
      rcases hcs with ⟨hb, rfl, rfl⟩ | ⟨hne, hfr⟩
      · have HLN := Lib.hid (lines_at l k pos hkp hp HF.out hb)
        have HE : Hid ((bs l).extract k pos = bs ((l.drop k).take (pos - k))) := Lib.hid (bs_ext _ _ _)
        obtain ⟨x, hx⟩ : ∃ x, x = (l.drop k).take (pos - k) := ⟨_, rfl⟩
        rw [← hx] at HLN HE
        have HPR2 : Hid ((pre ++ [x]) ++ linesP (l.drop (pos + 1)) = linesP l) := Lib.hid (by
          have := HPR.out
          rw [HLN.out] at this
          rw [← this]
          simp)
        obtain ⟨fn, tmps, assign, body, hy, hR⟩ := HY.out pre x w2 HJ2.out (by
          have := congrArg List.length HPR2.out
          simp only [List.length_append, List.length_cons, List.length_nil] at this
          omega)
        have HR := Lib.hid hR
        have hxl : x.length ≤ maxLen := by have h1 := HLL.out; rw [hx]; simp; omega
        clear hR hb hx
        dsimp only [encL] at hy
        rw [cap_eq hxl] at hy
        clear hxl
        rw [← HE.out] at hy
        have hpi : (pos : Int) ≤ ((bs l).size : Int) := by rw [bs_size]; omega
        have hki : (k : Int) ≤ (pos : Int) := by omega
        have hp9 : (pos : Int) + 1 ≤ 9223372036854775807 := by have := HLL.out; unfold maxLen at this; omega
        have c0 := (tCell HB2.out 0).1
        simp at c0
        gi_wp2
        refine HR.out.mono ?_
        rintro e W3 (⟨rfl, hJ3, hk3⟩ | ⟨rfl, hX3⟩)
        · have HJ3 := Lib.hid hJ3
          have HI3 := Lib.hid (hk3.1.same _ _ HI2.out rfl)
          have HB3 := Lib.hid (hk3.2.trans HB2.out)
          have HP3 := Lib.hid (iterPos_of HI3.out)
          have HF3 : Hid (Free 10 l (pos + 1) (pos + 1)) := Lib.hid (fun j h1 h2 => by omega)
          clear hJ3 hk3 hy hnx c0
          gi_wp2
          go_roundw
          case rel => exact ⟨pos + 1, pos + 1, pre ++ [x], by go_num, Nat.le_refl _, hp, HF3, HPR2, HI3, HB3, HJ3⟩
          case measure => rw [HP1.out, HP3.out]; omega
        · have HX3 := Lib.hid hX3
          clear hX3 hy hnx c0
          gi_wp2
          refine bodyPost_ret (results_none rfl _ _ _) rfl ?_
          exact ⟨⟨_, rfl⟩, .inr ⟨_, ⟨_, HPR2.out⟩, HX3.out⟩⟩
      · have HF2 := Lib.hid (HF.out.more hfr)
        have hb : ((r : Int) != 10) = true := by simp; omega
        clear hfr hne
        gi_wp2
        go_roundw
        case rel => exact ⟨k, pos + d, pre, rfl, by omega, by omega, HF2, HPR, HI2, HB2, HJ2⟩
        case measure => rw [HP1.out, HP2.out]; omega
    · obtain rfl : pos = l.length := by omega
      have hnx := fun ty => Lib.run_next_end_at (P := Tryz.prog) wr W.heap.size (bs l) l.length ty HI.out (by rw [bs_size]; omega)
      have c0 := (tCell HB.out 0).1
      simp at c0
      by_cases hk : k < l.length
      · have HLN := Lib.hid (lines_end l k hk HF.out)
        have HE : Hid ((bs l).extract k (bs l).size = bs (l.drop k)) := Lib.hid (by rw [bs_ext, bs_size, List.take_of_length_le (by simp)])
        obtain ⟨x, hx⟩ : ∃ x, x = l.drop k := ⟨_, rfl⟩
        rw [← hx] at HLN HE
        have HPR2 : Hid (pre ++ [x] = linesP l) := Lib.hid (by
          have := HPR.out
          rw [← hx, HLN.out] at this
          exact this)
        obtain ⟨fn, tmps, assign, body, hy, hR⟩ := HY.out pre x wr HJ1.out (by
          have := congrArg List.length HPR2.out
          simp only [List.length_append, List.length_cons, List.length_nil] at this
          omega)
        have HR := Lib.hid hR
        have hxl : x.length ≤ maxLen := by have h1 := HLL.out; rw [hx]; simp; omega
        clear hR hx
        dsimp only [encL] at hy
        rw [cap_eq hxl] at hy
        clear hxl
        rw [← HE.out] at hy
        have hki : (k : Int) < ((bs l).size : Int) := by rw [bs_size]; omega
        have hki2 : (k : Int) ≤ ((bs l).size : Int) := by omega
        gi_wp2
        refine HR.out.mono ?_
        rintro e W3 (⟨rfl, hJ3, hk3⟩ | ⟨rfl, hX3⟩)
        · have HJ3 := Lib.hid hJ3
          clear hJ3 hk3 hy hnx c0
          gi_wp2
          go_end0
          exact ⟨⟨_, rfl⟩, .inl ⟨_, HPR2.out, HJ3.out⟩⟩
        · have HX3 := Lib.hid hX3
          clear hX3 hy hnx c0
          gi_wp2
          go_end0
          exact ⟨⟨_, rfl⟩, .inr ⟨_, ⟨[], by rw [List.append_nil]; exact HPR2.out⟩, HX3.out⟩⟩
      · obtain rfl : k = l.length := by omega
        have HPR2 : Hid (pre = linesP l) := Lib.hid (by
          have := HPR.out
          rw [List.drop_of_length_le (Nat.le_refl _)] at this
          simpa [linesP] using this)
        have hki : ¬ ((l.length : Nat) : Int) < ((bs l).size : Int) := by rw [bs_size]; omega
        gi_wp2
        go_end0
        first
          | exact ⟨⟨_, rfl⟩, .inl ⟨_, HPR2.out, HJ1.out⟩⟩
          | exact ⟨⟨_, rfl⟩, .inl (by rw [← HPR2.out]; exact HJ1.out)⟩
end

section
open Go.RowKit Go.Lib
set_option linter.unusedVariables false
set_option linter.unusedSimpArgs false

def okN (L : List Int) : Prop := ∀ n ∈ L, wi64 n
def okIm (m : ImpM) : Prop := m.name.size ≤ maxLen ∧ wi64 m.exp ∧ wi64 m.res ∧ okN m.params
def okIn (x : InsM) : Prop := wi64 x.op ∧ wi64 x.a ∧ wi64 x.b
def okMe (m : MetM) : Prop := okN m.params ∧ wi64 m.res ∧ okN m.locals ∧ ∀ x ∈ m.code, okIn x
structure OkI (I : ImgM) : Prop where
  name : I.name.size ≤ maxLen
  fields : okN I.fields
  imports : ∀ m ∈ I.imports, okIm m
  methods : ∀ m ∈ I.methods, okMe m
  exports : okN I.exports
theorem wi_small {n : Int} (h : -10000000000 ≤ n ∧ n ≤ 10000000000) : wi64 n := by unfold wi64; omega
theorem numP_range (l : By) : -10000000000 ≤ (numP l).1 ∧ (numP l).1 ≤ 10000000000 := by
  unfold numP
  split
  · rename_i h
    unfold numOk at h
    simp only [Bool.and_eq_true, decide_eq_true_eq] at h
    obtain ⟨_, h2, _, h4⟩ := h
    have hd := numVal_lt (cutP l).1 (cutP l).1.length (Nat.le_refl _) (fun j hj => by
      have := List.all_eq_true.1 h4 (cutP l).1[j] (List.getElem_mem hj)
      simpa [byAt, List.getD, hj] using this)
    rw [List.take_of_length_le (Nat.le_refl _)] at hd
    have h10 : 10 ^ (cutP l).1.length ≤ 10 ^ 10 := Nat.pow_le_pow_right (by omega) h2
    have : (10 : Nat) ^ 10 = 10000000000 := rfl
    unfold signV
    split <;> omega
  · omega
theorem numW_wi (x : Ws) : wi64 (numW x).1 := wi_small (numP_range _)
theorem kind_wi (x : Ws) : wi64 (kindW x).1 := by have := kind_range (nextP x.1).1; exact wi_small ⟨by show -10000000000 ≤ kindP _; omega, by show kindP _ ≤ 10000000000; omega⟩
theorem resW_wi (x : Ws) : wi64 (resW x).1 := by have := kind_range (nextP x.1).1; exact wi_small ⟨by show -10000000000 ≤ kindP _; omega, by show kindP _ ≤ 10000000000; omega⟩
theorem addL_all {α : Type} {p : α → Prop} {most : Int} {L : List α} {x : α} (h : ∀ y ∈ L, p y) (hx : p x) : ∀ y ∈ addL most L x, p y := fun y hy => by
  rcases addL_mem hy with h1 | h1
  · exact h y h1
  · rw [h1]; exact hx
theorem kindsGo_ok : ∀ (f : Nat) (most : Int) (L : List Int) (x : Ws), okN L → okN (kindsGo f most L x).1
  | 0, _, _, _, h => h
  | f + 1, most, L, x, h => by
    cases hq : (!x.2 && !emptyP x.1) with
    | true =>
      rw [kinds_on hq]
      exact kindsGo_ok f most _ _ (addL_all h (kind_wi x))
    | false => rw [kinds_stop hq]; exact h
theorem kindsW_ok (most : Int) (x : Ws) : okN (kindsW most x).1 := kindsGo_ok _ _ _ _ (by simp [okN])
theorem nameW_size (x : Ws) : (bs (nameW x).1).size ≤ maxLen := by
  unfold nameW
  split
  · rename_i h
    have := nm_size16 h
    unfold maxLen
    simp only
    omega
  · show (bs []).size ≤ maxLen
    unfold maxLen
    rw [bs_size]
    simp
theorem opB_range (s : ByteArray) : 0 ≤ opB s ∧ opB s ≤ 39 := by
  unfold opB
  cases h : wordsP.find? (fun p => p.2.toList == s.toList) with
  | none => simp
  | some p =>
    have := words_mem (List.mem_of_find?_eq_some h)
    simp
    omega
theorem insW_ok (s : ByteArray) (x : Ws) : okIn (insW (opB s) x).1 := by
  have h0 := opB_range s
  have hz : wi64 0 := wi_small (by omega)
  have hop : wi64 (opB s) := wi_small (by omega)
  unfold insW
  split
  · exact ⟨hop, hz, hz⟩
  · split
    · exact ⟨hop, numW_wi _, hz⟩
    · exact ⟨hop, numW_wi _, numW_wi _⟩
theorem lastM_ok {L : List MetM} {g : MetM → MetM} (h : ∀ m ∈ L, okMe m) (hg : ∀ m, okMe m → okMe (g m)) : ∀ m ∈ lastM L g, okMe m := fun m hm => by
  unfold lastM at hm
  by_cases h0 : L = []
  · subst h0; simp at hm
  · rcases List.mem_or_eq_of_mem_set hm with h1 | h1
    · exact h m h1
    · subst h1
      have hl := List.length_pos_iff.2 h0
      refine hg _ (h _ ?_)
      simp [List.getD, (by omega : L.length - 1 < L.length)]
theorem putP_ok (f : By) (D : DrM) (x : Ws) (h : OkI D.img) : OkI (putP f D x).1.img := by
  unfold putP
  split
  · exact ⟨nameW_size x, h.fields, h.imports, h.methods, h.exports⟩
  · exact ⟨h.name, addL_all h.fields (kind_wi x), h.imports, h.methods, h.exports⟩
  · exact ⟨h.name, h.fields, addL_all h.imports ⟨nameW_size x, numW_wi _, resW_wi _, kindsW_ok _ _⟩, h.methods, h.exports⟩
  · exact ⟨h.name, h.fields, h.imports, addL_all h.methods ⟨kindsW_ok _ _, resW_wi _, (show ∀ n ∈ ([] : List Int), wi64 n by simp), (show ∀ n ∈ ([] : List InsM), okIn n by simp)⟩, h.exports⟩
  · exact ⟨h.name, h.fields, h.imports, lastM_ok (g := fun m => ⟨m.params, m.res, (locW x).1, m.code⟩) h.methods (fun m hm => ⟨hm.1, hm.2.1, kindsW_ok 10 (x.1, x.2 || !(!emptyP x.1)), hm.2.2.2⟩), h.exports⟩
  · exact ⟨h.name, h.fields, h.imports, h.methods, addL_all h.exports (numW_wi x)⟩
  · exact ⟨h.name, h.fields, h.imports, lastM_ok (g := fun m => ⟨m.params, m.res, m.locals, addL 120 m.code (insW (opB (bs f)) x).1⟩) h.methods (fun m hm => ⟨hm.1, hm.2.1, hm.2.2.1, addL_all hm.2.2.2 (insW_ok _ x)⟩), h.exports⟩
theorem takeD_ok {D D' : DrM} {line : By} (h : OkI D.img) (ht : takeD D line = some D') : OkI D'.img := by
  unfold takeD at ht
  split at ht
  · simp at ht; subst ht; exact h
  · unfold lineP at ht
    split at ht
    · split at ht
      · simp at ht; subst ht; exact putP_ok _ (D.setPos _) _ h
      · cases ht
    · cases ht
section
variable {B b : Nat} {w : World} {D : DrM} {V : DrV}
theorem flatInt (L : List Int) : L.flatMap intC = L.map (.int .i64) := by
  induction L with
  | nil => rfl
  | cons x L ih => rw [List.flatMap_cons, ih]; rfl
theorem Row.ints {v : Value} {L : List Int} (h : Row w INT 1 intC v L) (ho : okN L) : Ints w v L := by
  refine ⟨(Sl.own h).congr (fun i hi j hj => ?_), ho⟩
  obtain rfl : j = 0 := by omega
  rw [flatInt]
  simp [hi, List.getD]
theorem flatAt {α : Type} [Inhabited α] (f : α → List Value) (sz : Nat) (d : Value) (hf : ∀ x, (f x).length = sz) : ∀ (L : List α) (i j : Nat), i < L.length → j < sz → (L.flatMap f).getD (i * sz + j) d = (f (L.getD i default)).getD j d
  | [], i, j, hi, _ => by simp at hi
  | x :: r, 0, j, _, hj => by
    simp [List.getD, List.getElem?_append, hf, hj]
  | x :: r, i + 1, j, hi, hj => by
    have := flatAt f sz d hf r i j (by simpa using hi) hj
    rw [List.flatMap_cons, List.getD_eq_getElem?_getD, List.getElem?_append_right (by rw [hf, Nat.add_mul]; omega), hf, show (i + 1) * sz + j - sz = i * sz + j by rw [Nat.add_mul]; omega, ← List.getD_eq_getElem?_getD, this]
    simp [List.getD]
theorem Row.inss {v : Value} {L : List InsM} (h : Row w INS 3 insC v L) (ho : ∀ x ∈ L, okIn x) : Inss w v L := by
  refine ⟨(Sl.own h).congr (fun i hi j hj => ?_), ho⟩
  rw [flatAt insC 3 _ (fun _ => rfl) L i j hi hj]
  unfold insF insC
  match j, hj with
  | 0, _ => rfl
  | 1, _ => rfl
  | 2, _ => rfl
theorem mapGet {α β : Type} [Inhabited α] [Inhabited β] (L : List α) (g : α → β) (i : Nat) (hi : i < L.length) : (L.map g).getD i default = g (L[i]) := by simp [List.getD, hi]
theorem DrAt.imps (h : DrAt B w b D V) (ho : OkI D.img) : Imps w V.iv D.img.imports := by
  have hlen : D.img.imports.length = V.P.length := by rw [← h.pI]; simp
  refine ⟨fun i => (V.P.getD i (default, .slice none 0 0)).2, ?_, fun i hi => ?_, fun m hm => ⟨(ho.imports m hm).2.1, (ho.imports m hm).2.2.1, (ho.imports m hm).1⟩⟩
  · rw [hlen]
    letI : Inhabited PI := ⟨(default, .slice none 0 0)⟩
    refine (Sl.own h.irow).congr (fun i hi j hj => ?_)
    rw [flatAt impC 4 _ (fun _ => rfl) V.P i j hi hj]
    have e1 : V.P.getD i default = V.P[i] := by simp [List.getD, hi]
    have e2 : V.P.getD i (default, .slice none 0 0) = V.P[i] := by simp [List.getD, hi]
    have e3 : D.img.imports.getD i default = V.P[i].1 := by rw [← h.pI, mapGet V.P Prod.fst i hi]
    unfold impF impC
    rw [e1, e3]
    simp only [e2]
    match j, hj with
    | 0, _ => rfl
    | 1, _ => rfl
    | 2, _ => rfl
    | 3, _ => rfl
  · have hi2 : i < V.P.length := by omega
    have e2 : V.P.getD i (default, .slice none 0 0) = V.P[i] := by simp [List.getD, hi2]
    have e3 : D.img.imports.getD i default = V.P[i].1 := by
      letI : Inhabited PI := ⟨(default, .slice none 0 0)⟩
      rw [← h.pI, mapGet V.P Prod.fst i hi2]
    rw [e3]
    simp only [e2]
    exact (h.prow _ (List.getElem_mem hi2)).ints (ho.imports _ (by rw [← h.pI]; exact List.mem_map.2 ⟨_, List.getElem_mem hi2, rfl⟩)).2.2.2
theorem DrAt.mets (h : DrAt B w b D V) (ho : OkI D.img) : Mets w V.mv D.img.methods := by
  have hlen : D.img.methods.length = V.M.length := by rw [← h.mI]; simp
  letI : Inhabited PM := ⟨(default, .slice none 0 0, .slice none 0 0, .slice none 0 0)⟩
  have e3 : ∀ i (hi : i < V.M.length), D.img.methods.getD i default = V.M[i].1 := fun i hi => by rw [← h.mI, mapGet V.M Prod.fst i hi]
  have e2 : ∀ i (hi : i < V.M.length), V.M.getD i default = V.M[i] := fun i hi => by simp [List.getD, hi]
  refine ⟨fun i => (V.M.getD i default).2.1, fun i => (V.M.getD i default).2.2.1, fun i => (V.M.getD i default).2.2.2, ?_, fun i hi => ?_, fun m hm => (ho.methods m hm).2.1⟩
  · rw [hlen]
    refine (Sl.own h.mrow).congr (fun i hi j hj => ?_)
    rw [flatAt metC 4 _ (fun _ => rfl) V.M i j hi hj]
    unfold metF metC
    simp only [e2 i hi, e3 i hi]
    match j, hj with
    | 0, _ => rfl
    | 1, _ => rfl
    | 2, _ => rfl
    | 3, _ => rfl
  · have hi2 : i < V.M.length := by omega
    have hq := h.qrow _ (List.getElem_mem hi2)
    have hm := ho.methods V.M[i].1 (by rw [← h.mI]; exact List.mem_map.2 ⟨_, List.getElem_mem hi2, rfl⟩)
    simp only [e2 i hi2, e3 i hi2]
    exact ⟨hq.1.ints hm.1, hq.2.1.ints hm.2.2.1, hq.2.2.inss hm.2.2.2⟩
/-- a draft's image, by value -/
theorem DrAt.img (h : DrAt B w b D V) (ho : OkI D.img) : Img w (img5 D.img.name V.fv V.iv V.mv V.xv) D.img :=
  ⟨_, _, _, _, rfl, h.frow.ints ho.fields, h.imps ho, h.mets ho, h.xrow.ints ho.exports, ho.name⟩
end
end
end Go.Proofs.YtmikibcgphkcfaaGreatDoor

/- Package text: put, the lines of locals and of instructions. Package text: take: a line. -/
import Derived.Test.YtbjmmdomdijilabDoorTo
namespace Go.Proofs.YtbjmmdomdijilabDoor
section
open Go.RowKit Go.Lib Go.Deep
set_option linter.unusedVariables false
set_option linter.unusedSimpArgs false

/-- the last method is another one -/
def lastM (L : List MetM) (g : MetM → MetM) : List MetM := L.set (L.length - 1) (g (L.getD (L.length - 1) default))
def locW (x : Ws) : List Int × Ws := kindsW 10 (x.1, x.2 || !(!emptyP x.1))
section
variable {B b wb : Nat} {w w' : World} {D : DrM} {V : DrV} {S : Nat → Prop} {l : By} {bad : Bool} {f : By}
theorem DrAt.mcell (h : DrAt B w b D V) {i : Nat} (hi : i < V.M.length) {g c : Nat} (hmv : V.mv = .slice (some ⟨g, 0, none⟩) V.M.length c) (j : Nat) (hj : j < 4) (u : Value) (hu : (metC V.M[i])[j]? = some u) : w.cell? ⟨g, i * 4 + j, none⟩ = some u ∧ w.frozen? ⟨g, i * 4 + j, none⟩ = false := by
  have hr := h.mrow
  rw [hmv] at hr
  have := hr.cells (g := g) rfl (i * 4 + j) u (by rw [metC_at V.M i j hi hj]; exact hu)
  rw [addr_add, Nat.zero_add] at this
  exact ⟨this, hpFrozen hr _⟩
theorem mapSet (M : List PM) (i : Nat) (hi : i < M.length) (m : PM) (g : MetM → MetM) (hm : m.1 = g M[i].1) (he : i = M.length - 1) : (M.set i m).map Prod.fst = lastM (M.map Prod.fst) g := by
  unfold lastM
  rw [List.map_set, List.length_map, ← he, hm]
  congr 2
  simp [List.getD, hi]
set_option maxHeartbeats 2000000 in
theorem putLocals (hD : DrAt B w b D V) (hw : Wb w wb l bad) (hB : B ≤ wb) (hl : l.length ≤ maxLen) (hc : clsP f = 4) (h0 : 0 < V.M.length) :
    Calls Tryd.prog 46 #[.pointer (some ⟨b, 0, none⟩), .string (bs f), .pointer (some ⟨wb, 0, none⟩)] w (PutTo B b wb w (D.setM (lastM D.img.methods (fun m => ⟨m.params, m.res, (locW (l, bad)).1, m.code⟩))) (locW (l, bad)).2) := by
  obtain ⟨q0, q1, q2, q3, q4, -⟩ := cls_facts f
  rw [hc] at q0 q1 q2 q3 q4
  replace q0 : ((bs f).toList == [97, 112, 112, 108, 101, 116]) = false := q0
  replace q1 : ((bs f).toList == [102, 105, 101, 108, 100]) = false := q1
  replace q2 : ((bs f).toList == [105, 109, 112, 111, 114, 116]) = false := q2
  replace q3 : ((bs f).toList == [109, 101, 116, 104, 111, 100]) = false := q3
  replace q4 : ((bs f).toList == [108, 111, 99, 97, 108, 115]) = true := q4
  clear hc
  have hbB := hD.bB
  obtain ⟨K, hK⟩ : ∃ K, K = locW (l, bad) := ⟨_, rfl⟩
  have HKK := Lib.hid hK
  have HD := Lib.hid hD
  have HW := Lib.hid hw
  have HL := Lib.hid hl
  have HM0 := Lib.hid h0
  have HEM := Lib.hid (tIsEmpty l bad wb w hw hl)
  obtain ⟨em, hem⟩ : ∃ em, em = emptyP l := ⟨_, rfl⟩
  have HE := Lib.hid hem
  rw [← hem] at HEM
  rw [← hK]
  clear hD hw hl h0 hem hK
  go_enter Tryd.func46, Tryd.ntmps46
  go_wp2_with fail
  refine HEM.out.mono ?_
  rintro e w3 ⟨rfl, hu⟩
  have HW3 := Lib.hid (HW.out.upd hu (fun h => h))
  have HD3 := Lib.hid (HD.out.keep hu (Alien.no B b w))
  have HU3 := Lib.hid (hu.mono (T := fun k => k = b ∨ B ≤ k) (fun _ h _ => h.elim))
  have HO3 := Lib.hid (ko_no hu)
  clear hu
  go_wp2_with fail
  refine (tNeed l bad (!em) wb w3 HW3.out).mono ?_
  rintro e w4 ⟨rfl, hwb, hu⟩
  have HW4 := Lib.hid hwb
  have HD4 := Lib.hid (HD3.out.keep hu (alien_wb HW3.out (by omega)))
  have HU4 := Lib.hid (HU3.out.trans (updW hu hB) (fun _ h _ => h))
  have HO4 := Lib.hid (HO3.out.trans (ko_wb HW3.out hu))
  clear hwb hu
  go_wp2_with fail
  refine (tLast HD4.out HM0.out).mono ?_
  rintro e w5 ⟨g, c, hmv, rfl, hu⟩
  have HMV := Lib.hid hmv
  have HW5 := Lib.hid (HW4.out.upd hu (fun h => h))
  have HD5 := Lib.hid (HD4.out.keep hu (Alien.no B b w4))
  have HU5 := Lib.hid (HU4.out.trans (hu.mono (T := fun k => k = b ∨ B ≤ k) (fun _ h _ => h.elim)) (fun _ h _ => h))
  have HO5 := Lib.hid (HO4.out.trans (ko_no hu))
  clear hu hmv
  obtain ⟨i, hi⟩ : ∃ i, i = V.M.length - 1 := ⟨_, rfl⟩
  rw [← hi]
  have HI := Lib.hid hi
  clear hi
  go_wp2_with fail
  refine (tKinds HW5.out HL.out 10 (by omega)).mono ?_
  rw [show kindsW 10 (l, bad || !(!em)) = K by rw [HKK.out, HE.out]; rfl]
  rintro e w6 ⟨r, rfl, hk⟩
  obtain ⟨ra, rc, rfl⟩ := ownsRow_slice hk.row
  have hlt : i < V.M.length := by have := HI.out; have := HM0.out; omega
  have hD6 := HD5.out.keep hk.up (alien_wb HW5.out (by omega))
  have HU6 := Lib.hid (HU5.out.trans (updW hk.up hB) (fun _ h _ => h))
  have HO6 := Lib.hid (HO5.out.trans (ko_wb HW5.out hk.up))
  obtain ⟨c2, f2⟩ := hD6.mcell hlt HMV.out 2 (by omega) _ rfl
  obtain ⟨V', hV'⟩ := hD6.locals hlt HMV.out hk.row (new_ap HD5.out hk.new)
  rw [mapSet V.M i hlt _ (fun m => ⟨m.params, m.res, K.1, m.code⟩) rfl HI.out, hD6.mI] at hV'
  have HV := Lib.hid hV'
  have HD6 := Lib.hid hD6
  have HW6 := Lib.hid hk.wb
  have hgW : ¬ wb = g := fun e => by
    have := hD6.mrow
    exact hk.wb.rowNe this (by decide) (by rw [HMV.out, e]; rfl)
  have HGW := Lib.hid hgW
  have HGB : Hid (B ≤ g) := Lib.hid (hD6.nm g (by rw [HMV.out]; rfl))
  generalize V.M[i].2.2.1 = lv0 at c2
  clear hk hD6 hV' hgW hlt
  go_wp2_with fail
  first | (refine bodyPost_end (results_none rfl _ _ _) rfl ?_) | (simp only [Exit.inBlock, Exit.then]; refine bodyPost_end (results_none rfl _ _ _) rfl ?_)
  refine ⟨rfl, ⟨V', HV.out⟩, HW6.out.off HGW.out, HU6.out.trans ((updBox w6 g _ _).mono (T := fun k => k = b ∨ B ≤ k) (fun k hk _ => .inr (by have := HGB.out; omega))) (fun _ h _ => h), HO6.out.trans (KeepsOthers.setCell _ _ _)⟩
theorem insW_op (op : Int) (x : Ws) : (insW op x).1.op = op := by
  unfold insW
  split
  · rfl
  · split <;> rfl
set_option maxHeartbeats 2000000 in
theorem putInstr (hD : DrAt B w b D V) (hw : Wb w wb l bad) (hB : B ≤ wb) (hl : l.length ≤ maxLen) (hc : clsP f = 6) (h0 : 0 < V.M.length) :
    Calls Tryd.prog 46 #[.pointer (some ⟨b, 0, none⟩), .string (bs f), .pointer (some ⟨wb, 0, none⟩)] w (PutTo B b wb w (D.setM (lastM D.img.methods (fun m => ⟨m.params, m.res, m.locals, addL 120 m.code (insW (opB (bs f)) (l, bad)).1⟩))) (insW (opB (bs f)) (l, bad)).2) := by
  obtain ⟨q0, q1, q2, q3, q4, q5⟩ := cls_facts f
  rw [hc] at q0 q1 q2 q3 q4 q5
  replace q0 : ((bs f).toList == [97, 112, 112, 108, 101, 116]) = false := q0
  replace q1 : ((bs f).toList == [102, 105, 101, 108, 100]) = false := q1
  replace q2 : ((bs f).toList == [105, 109, 112, 111, 114, 116]) = false := q2
  replace q3 : ((bs f).toList == [109, 101, 116, 104, 111, 100]) = false := q3
  replace q4 : ((bs f).toList == [108, 111, 99, 97, 108, 115]) = false := q4
  replace q5 : ((bs f).toList == [101, 120, 112, 111, 114, 116]) = false := q5
  clear hc
  have hbB := hD.bB
  have HOP := Lib.hid (fun w => cOp (bs f) w)
  obtain ⟨op, hop⟩ : ∃ op, op = opB (bs f) := ⟨_, rfl⟩
  rw [← hop] at HOP ⊢
  have HD := Lib.hid hD
  have HW := Lib.hid hw
  have HL := Lib.hid hl
  have HM0 := Lib.hid h0
  clear hD hw hl h0 hop
  go_enter Tryd.func46, Tryd.ntmps46
  go_wp2_with fail
  refine (tLast HD.out HM0.out).mono ?_
  rintro e w4 ⟨g, c, hmv, rfl, hu⟩
  have HMV := Lib.hid hmv
  have hdr := Upd.drew (fun _ => False) w4
  have hu5 := hu.trans hdr (fun _ h _ => h)
  have HW5 := Lib.hid (HW.out.upd hu5 (fun h => h))
  have HD5 := Lib.hid (HD.out.keep hu5 (Alien.no B b w))
  have HU5 := Lib.hid (hu5.mono (T := fun k => k = b ∨ B ≤ k) (fun _ h _ => h.elim))
  have HO5 := Lib.hid (ko_no hu5)
  obtain ⟨i, hi⟩ : ∃ i, i = V.M.length - 1 := ⟨_, rfl⟩
  rw [← hi]
  have HI := Lib.hid hi
  have hlt : i < V.M.length := by have := HM0.out; omega
  have HLT := Lib.hid hlt
  obtain ⟨m, hm⟩ : ∃ m, m = V.M[i]'HLT.out := ⟨_, rfl⟩
  have hrow := (HD5.out.qrow _ (List.getElem_mem hlt)).2.2
  obtain ⟨ca, cc, hcv⟩ := ownsRow_slice hrow
  have hCL : m.1.code.length ≤ 121 := by rw [hm]; exact HD5.out.lc _ (List.getElem_mem hlt)
  obtain ⟨c3, f3⟩ := HD5.out.mcell hlt hmv 3 (by omega) _ rfl
  rw [hcv] at c3
  rw [← hm] at hcv hrow c3
  have HCV := Lib.hid hcv
  have HMM := Lib.hid hm
  have HCL := Lib.hid hCL
  replace c3 : w4.cell? ⟨g, i * 4 + 3, none⟩ = some (.slice ca m.1.code.length cc) := c3
  replace f3 : w4.frozen? ⟨g, i * 4 + 3, none⟩ = false := f3
  have HCELL : Hid (∀ w', DrAt B w' b D V → w'.cell? ⟨g, i * 4 + 3, none⟩ = some (.slice ca m.1.code.length cc) ∧ w'.frozen? ⟨g, i * 4 + 3, none⟩ = false) := Lib.hid (fun w' h => by
    have := h.mcell HLT.out HMV.out 3 (by omega) (.slice ca m.1.code.length cc) (by rw [← HMM.out, ← HCV.out]; rfl)
    exact this)
  clear hu hmv hdr hu5 hi hlt hcv hrow hm hCL
  go_wp2_with fail
  go_region_law ((first
    | (go_simp; (refine (HOP.out w4.drew).mono ?_); rintro e w6 ⟨rfl, hu⟩; have HW6 := Lib.hid (HW5.out.upd hu (fun h => h)); have HD6 := Lib.hid (HD5.out.keep hu (Alien.no B b _)); have HU6 := Lib.hid hu; have c6 := (HCELL.out w6 HD6.out).1; have f6 := (HCELL.out w6 HD6.out).2; clear hu)
    | (go_simp; (refine (tInstr HW6.out HL.out op).mono ?_); rintro e w7 ⟨rfl, hwb, hu⟩; have HW7 := Lib.hid hwb; have HD7 := Lib.hid (HD6.out.keep hu (alien_wb HW6.out (by omega))); have HU7 := Lib.hid hu; have c7 := (HCELL.out w7 HD7.out).1; have f7 := (HCELL.out w7 HD7.out).2; clear hwb hu)
    | (go_simp; (refine (tAddIns w7 _ m.1.code 120 (insW op (l, bad)).1 (by have h := (HD7.out.qrow _ (List.getElem_mem HLT.out)).2.2; rw [← HMM.out, HCV.out] at h; exact h) (by have := HCL.out; omega)).mono ?_); rintro e w8 ⟨v', rfl, hr, hu8, hf⟩; have HR8 := Lib.hid hr; have HU8 := Lib.hid hu8; have HF8 := Lib.hid hf; obtain ⟨va, vc, rfl⟩ := ownsRow_slice hr; have hne : ¬ (Value.slice ca m.1.code.length cc).ownBlock = some g := (fun hk => by have h := (HD7.out.qrow _ (List.getElem_mem HLT.out)).2.2; rw [← HMM.out, HCV.out] at h; exact h.ne HD7.out.mrow (by decide) g hk (by rw [HMV.out]; rfl)); have hgl : g < w7.heap.size := HD7.out.mrow.lt g (by rw [HMV.out]; rfl); have c8 := (hu8.cell (p := ⟨g, i * 4 + 3, none⟩) hgl hne).trans c7; have f8 := (hu8.frozen (p := ⟨g, i * 4 + 3, none⟩) hgl hne).trans f7; clear hr hu8 hf hne hgl)))
  all_goals
    first | (refine bodyPost_end (results_none rfl _ _ _) rfl ?_) | (simp only [Exit.inBlock, Exit.then]; refine bodyPost_end (results_none rfl _ _ _) rfl ?_)
    have hmv2 : V.M[i]'HLT.out = m := HMM.out.symm
    obtain ⟨V', hV'⟩ := HD7.out.code (i := i) HLT.out HMV.out (C := addL 120 m.1.code (insW op (l, bad)).1) HR8.out (by rw [hmv2, HCV.out]; exact HU8.out) (by rw [hmv2, HCV.out]; exact HF8.out) (addL_len (by omega) (by omega) HCL.out)
    rw [mapSet V.M i HLT.out _ (fun m => ⟨m.params, m.res, m.locals, addL 120 m.code (insW op (l, bad)).1⟩) (by rw [hmv2]) HI.out, HD7.out.mI] at hV'
    have hne : ¬ (Value.slice ca m.1.code.length cc).ownBlock = some wb := by
      have h := (HD7.out.qrow _ (List.getElem_mem HLT.out)).2.2
      rw [← HMM.out, HCV.out] at h
      exact HW7.out.rowNe h (by decide)
    have hgw : ¬ wb = g := fun e => HW7.out.rowNe HD7.out.mrow (by decide) (by rw [HMV.out, e]; rfl)
    have hgB : B ≤ g := HD7.out.nm g (by rw [HMV.out]; rfl)
    refine ⟨rfl, ⟨V', hV'⟩, (HW7.out.upd HU8.out (fun h => hne h)).off hgw, ?_, (((HO5.out.trans (ko_no HU6.out)).trans (ko_wb HW6.out HU7.out)).trans (ko_row (v := .slice ca m.1.code.length cc) (L := m.1.code) (by have h := (HD7.out.qrow _ (List.getElem_mem HLT.out)).2.2; rw [← HMM.out, HCV.out] at h; exact h) HU8.out)).trans (KeepsOthers.setCell _ _ _)⟩
    refine (((HU5.out.trans (HU6.out.mono (T := fun k => k = b ∨ B ≤ k) (fun _ h _ => h.elim)) (fun _ h _ => h)).trans (updW HU7.out hB) (fun _ h _ => h)).trans (HU8.out.mono (T := fun k => k = b ∨ B ≤ k) (fun k hk _ => .inr ?_)) (fun _ h _ => h)).trans ((updBox w8 g _ _).mono (T := fun k => k = b ∨ B ≤ k) (fun k hk _ => .inr (by omega))) (fun _ h _ => h)
    exact HD7.out.nc _ (List.getElem_mem HLT.out) k (by rw [hmv2, HCV.out]; exact hk)
end
end

section
open Go.RowKit Go.Lib Go.Deep
set_option linter.unusedVariables false
set_option linter.unusedSimpArgs false

def putP (f : By) (D : DrM) (x : Ws) : DrM × Ws := match clsP f with
  | 0 => (D.setName (bs (nameW x).1), (nameW x).2)
  | 1 => (D.setF (addL 8 D.img.fields (kindW x).1), (kindW x).2)
  | 2 => (D.setI (addL 4 D.img.imports (impW x).1), (impW x).2)
  | 3 => (D.setM (addL 8 D.img.methods (metW x).1), (metW x).2)
  | 4 => (D.setM (lastM D.img.methods (fun m => ⟨m.params, m.res, (locW x).1, m.code⟩)), (locW x).2)
  | 5 => (D.setX (addL 4 D.img.exports (numW x).1), (numW x).2)
  | _ => (D.setM (lastM D.img.methods (fun m => ⟨m.params, m.res, m.locals, addL 120 m.code (insW (opB (bs f)) x).1⟩)), (insW (opB (bs f)) x).2)
/-- what goOn and put make of a line's words -/
def lineP (D : DrM) (f r : By) : Option DrM := match mayT (clsP f) D.pos with
  | true => match !(putP f (D.setPos (rangeT (clsP f)).2.2) (r, false)).2.2 && emptyP (putP f (D.setPos (rangeT (clsP f)).2.2) (r, false)).2.1 with
    | true => some (putP f (D.setPos (rangeT (clsP f)).2.2) (r, false)).1
    | false => none
  | false => none
def takeD (D : DrM) (line : By) : Option DrM := match emptyP (plainP line) with
  | true => some D
  | false => lineP D (nextP (plainP line)).1 (nextP (plainP line)).2
/-- behind a method's line there is a method -/
def GoodD (D : DrM) : Prop := 3 ≤ D.pos → D.img.methods ≠ []
theorem addL_ne {α : Type} {most : Int} {L : List α} {x : α} (h : 0 ≤ most) : addL most L x ≠ [] := by
  unfold addL
  split
  · rename_i hd
    intro e
    subst e
    simp at hd
    omega
  · simp
theorem lastM_ne {L : List MetM} {g : MetM → MetM} (h : L ≠ []) : lastM L g ≠ [] := by
  intro e
  have := congrArg List.length e
  simp [lastM] at this
  exact h this
theorem putP_M {f : By} (D : DrM) (x : Ws) (h : clsP f = 4 ∨ clsP f = 6) : ∃ g, (putP f D x).1.img.methods = lastM D.img.methods g := by
  unfold putP
  rcases h with h | h <;> rw [h]
  · exact ⟨fun m => ⟨m.params, m.res, (locW x).1, m.code⟩, rfl⟩
  · exact ⟨fun m => ⟨m.params, m.res, m.locals, addL 120 m.code (insW (opB (bs f)) x).1⟩, rfl⟩
theorem putP_3 {f : By} (D : DrM) (x : Ws) (h : clsP f = 3) : (putP f D x).1.img.methods ≠ [] := by
  unfold putP
  rw [h]
  exact addL_ne (by omega)
theorem putP_0 {f : By} (D : DrM) (x : Ws) (h : clsP f = 0 ∨ clsP f = 1 ∨ clsP f = 2 ∨ clsP f = 5) : (putP f D x).1.img.methods = D.img.methods := by
  unfold putP
  rcases h with h | h | h | h <;> rw [h] <;> rfl
theorem putP_pos (f : By) (D : DrM) (x : Ws) : (putP f D x).1.pos = D.pos := by
  unfold putP
  split <;> rfl
theorem putP_good (f : By) (D : DrM) (x : Ws) (hg : GoodD D) (hm : mayT (clsP f) D.pos = true) : GoodD (putP f (D.setPos (rangeT (clsP f)).2.2) x).1 := by
  have h6 := cls_le f
  intro hpos
  rw [putP_pos] at hpos
  have hM : clsP f = 4 ∨ clsP f = 5 ∨ clsP f = 6 → D.img.methods ≠ [] := fun h => hg (by
    rcases h with h | h | h <;> rw [h] at hm <;> simp [mayT, rangeT] at hm <;> omega)
  rcases (by omega : clsP f = 0 ∨ clsP f = 1 ∨ clsP f = 2 ∨ clsP f = 3 ∨ clsP f = 4 ∨ clsP f = 5 ∨ clsP f = 6) with h | h | h | h | h | h | h
  · rw [h] at hpos; simp [DrM.setPos, rangeT] at hpos
  · rw [h] at hpos; simp [DrM.setPos, rangeT] at hpos
  · rw [h] at hpos; simp [DrM.setPos, rangeT] at hpos
  · exact putP_3 _ x h
  · obtain ⟨g, hg2⟩ := putP_M (D.setPos (rangeT (clsP f)).2.2) x (.inl h)
    rw [hg2]; exact lastM_ne (hM (.inl h))
  · rw [putP_0 _ x (.inr (.inr (.inr h)))]; exact hM (.inr (.inl h))
  · obtain ⟨g, hg2⟩ := putP_M (D.setPos (rangeT (clsP f)).2.2) x (.inr h)
    rw [hg2]; exact lastM_ne (hM (.inr (.inr h)))
theorem kindsGo_len : ∀ (f : Nat) (most : Int) (L : List Int) (x : Ws), (kindsGo f most L x).2.1.length ≤ x.1.length
  | 0, _, _, _ => Nat.le_refl _
  | f + 1, most, L, x => by
    cases h : (!x.2 && !emptyP x.1) with
    | true =>
      rw [kinds_on h]
      exact Nat.le_trans (kindsGo_len f most _ _) (next_rest _)
    | false => rw [kinds_stop h]; exact Nat.le_refl _
theorem kindsW_len (most : Int) (x : Ws) : (kindsW most x).2.1.length ≤ x.1.length := kindsGo_len _ _ _ _
theorem impW_len (x : Ws) : (impW x).2.1.length ≤ x.1.length :=
  Nat.le_trans (kindsW_len _ _) (Nat.le_trans (resW_len _) (Nat.le_trans (numW_len _) (nameW_len _)))
theorem metW_len (x : Ws) : (metW x).2.1.length ≤ x.1.length := Nat.le_trans (kindsW_len _ _) (resW_len _)
theorem insW_len (op : Int) (x : Ws) : (insW op x).2.1.length ≤ x.1.length := by
  unfold insW
  split
  · exact Nat.le_refl _
  · split
    · exact numW_len (insBad op x)
    · exact Nat.le_trans (numW_len _) (numW_len (insBad op x))
theorem putP_len (f : By) (D : DrM) (x : Ws) : (putP f D x).2.1.length ≤ x.1.length := by
  unfold putP
  split
  · exact nameW_len x
  · exact next_rest _
  · exact impW_len x
  · exact metW_len x
  · exact kindsW_len 10 (x.1, x.2 || !(!emptyP x.1))
  · exact numW_len x
  · exact insW_len _ x
theorem takeD_good {D D' : DrM} {line : By} (hg : GoodD D) (h : takeD D line = some D') : GoodD D' := by
  unfold takeD at h
  split at h
  · simp at h; subst h; exact hg
  · unfold lineP at h
    split at h
    · rename_i hm
      split at h
      · simp at h; subst h; exact putP_good _ D _ hg hm
      · cases h
    · cases h
section
variable {B b wb : Nat} {w w' : World} {D : DrM} {V : DrV} {S : Nat → Prop} {l : By} {bad : Bool} {f : By}
/-- put -/
theorem tPut2 (hD : DrAt B w b D V) (hw : Wb w wb l bad) (hB : B ≤ wb) (hl : l.length ≤ maxLen) (h0 : 4 ≤ clsP f → clsP f ≠ 5 → D.img.methods ≠ []) :
    Calls Tryd.prog 46 #[.pointer (some ⟨b, 0, none⟩), .string (bs f), .pointer (some ⟨wb, 0, none⟩)] w (PutTo B b wb w (putP f D (l, bad)).1 (putP f D (l, bad)).2) := by
  have h6 := cls_le f
  have hM : D.img.methods ≠ [] → 0 < V.M.length := fun h => by
    rw [← hD.mI] at h
    cases hv : V.M with
    | nil => rw [hv] at h; simp at h
    | cons x t => simp
  unfold putP
  obtain ⟨c, hc⟩ : ∃ c, clsP f = c := ⟨_, rfl⟩
  rw [hc] at h0 h6 ⊢
  rcases (by omega : c = 0 ∨ c = 1 ∨ c = 2 ∨ c = 3 ∨ c = 4 ∨ c = 5 ∨ c = 6) with rfl | rfl | rfl | rfl | rfl | rfl | rfl
  · exact putApplet hD hw hB hl hc
  · exact putField hD hw hB hl hc
  · exact putImport hD hw hB hl hc
  · exact putMethod hD hw hB hl hc
  · exact putLocals hD hw hB hl hc (hM (h0 (by omega) (by omega)))
  · exact putExport hD hw hB hl hc
  · exact putInstr hD hw hB hl hc (hM (h0 (by omega) (by omega)))
theorem plain_le (l : By) : (plainP l).length ≤ l.length := (List.takeWhile_sublist _).length_le
set_option maxHeartbeats 2000000 in
theorem tTake (hD : DrAt B w b D V) (hg : GoodD D) (line : By) (hl : line.length ≤ maxLen) : Calls Tryd.prog 20 #[.pointer (some ⟨b, 0, none⟩), .string (bs line)] w fun e w' => e = .returned (.bool (takeD D line).isSome) ∧ (∀ D', takeD D line = some D' → ∃ V', DrAt B w' b D' V') ∧ Upd (fun k => k = b ∨ B ≤ k) w w' ∧ KeepsOthers w w' := by
  have HD := Lib.hid hD
  have HG := Lib.hid hg
  have HL := Lib.hid hl
  have HTD : Hid (takeD D line = match emptyP (plainP line) with | true => some D | false => lineP D (nextP (plainP line)).1 (nextP (plainP line)).2) := Lib.hid rfl
  have hpl : (plainP line).length ≤ maxLen := Nat.le_trans (plain_le line) hl
  obtain ⟨p, hp⟩ : ∃ p, p = plainP line := ⟨_, rfl⟩
  rw [← hp] at HTD hpl
  have HP := Lib.hid hp
  have HPL := Lib.hid hpl
  obtain ⟨td, htd⟩ : ∃ td, td = takeD D line := ⟨_, rfl⟩
  rw [← htd] at HTD ⊢
  have hbB := hD.bB
  clear hD hg hl hp hpl htd
  go_enter Tryd.func20, Tryd.ntmps20
  go_wp2_with fail
  refine (tPlain line w HL.out).mono ?_
  rw [← HP.out]
  rintro e w1 ⟨rfl, hu⟩
  obtain ⟨wb, hwbe⟩ : ∃ wb, wb = w1.heap.size := ⟨_, rfl⟩
  obtain ⟨w2, hw2⟩ : ∃ w2, w2 = w1.alloc (.cells #[.string (bs p), .bool false] WT) := ⟨_, rfl⟩
  have hu2 : Upd (fun _ => False) w w2 := hu.trans (by rw [hw2]; exact Upd.alloc (fun _ => False) _ _) (fun _ h _ => h)
  have HD2 := Lib.hid (HD.out.keep hu2 (Alien.no B b w))
  have HW2 : Hid (Wb w2 wb p false) := Lib.hid (by rw [hw2]; exact tTop _ _ _ hwbe)
  have HB : Hid (B ≤ wb) := Lib.hid (by have := HD.out.sB; have := hu.size; omega)
  have HU2 := Lib.hid (hu2.mono (T := fun k => k = b ∨ B ≤ k) (fun _ h _ => h.elim))
  have HO2 := Lib.hid (ko_no hu2)
  have HW := Lib.hid hw2
  have HWE := Lib.hid hwbe
  clear hu hu2 hw2 hwbe
  go_wp2_with fail
  rw [← HWE.out]
  rw [← HW.out]
  refine (tIsEmpty p false wb w2 HW2.out HPL.out).mono ?_
  rintro e w3 ⟨rfl, hu⟩
  have HD3 := Lib.hid (HD2.out.keep hu (Alien.no B b w2))
  have HW3 := Lib.hid (HW2.out.upd hu (fun h => h))
  have HU3 := Lib.hid (HU2.out.trans (hu.mono (T := fun k => k = b ∨ B ≤ k) (fun _ h _ => h.elim)) (fun _ h _ => h))
  have HO3 := Lib.hid (HO2.out.trans (ko_no hu))
  clear hu
  cases he : emptyP p with
  | true =>
    have HT : Hid (td = some D) := Lib.hid (by rw [HTD.out, he])
    have HE := Lib.hid he
    clear he
    go_wp2_with fail
    go_ret
    exact ⟨by rw [HT.out]; rfl, fun D' h => (by rw [HT.out] at h; cases h; exact ⟨V, HD3.out⟩), HU3.out, HO3.out⟩
  | false =>
    have HT : Hid (td = lineP D (nextP p).1 (nextP p).2) := Lib.hid (by rw [HTD.out, he])
    clear he
    go_wp2_with fail
    refine (tNext p false wb w3 HW3.out HPL.out).mono ?_
    rintro e w4 ⟨rfl, hwb, hu⟩
    have HD4 := Lib.hid (HD3.out.keep hu (alien_wb HW3.out (by have := HB.out; omega)))
    have HW4 := Lib.hid hwb
    have HU4 := Lib.hid (HU3.out.trans (updW hu HB.out) (fun _ h _ => h))
    have HO4 := Lib.hid (HO3.out.trans (ko_wb HW3.out hu))
    have HRL : Hid ((nextP p).2.length ≤ maxLen) := Lib.hid (Nat.le_trans (next_rest p) HPL.out)
    clear hwb hu
    generalize (nextP p).1 = f at *
    generalize (nextP p).2 = r at *
    go_wp2_with fail
    refine (tGoOn (f := f) HD4.out).mono ?_
    cases hm : mayT (clsP f) D.pos with
    | false =>
      have HN : Hid (td = none) := Lib.hid (by rw [HT.out]; unfold lineP; rw [hm])
      clear hm
      rintro e w5 ⟨-, h⟩
      obtain ⟨rfl, rfl⟩ := h rfl
      clear h
      go_wp2_with fail
      go_ret
      exact ⟨by rw [HN.out]; rfl, fun D' h => (by rw [HN.out] at h; cases h), HU4.out, HO4.out⟩
    | true =>
      rintro e w5 ⟨h, -⟩
      obtain ⟨rfl, hw5⟩ := h rfl
      obtain ⟨nx, hnx⟩ : ∃ nx, nx = (rangeT (clsP f)).2.2 := ⟨_, rfl⟩
      rw [← hnx] at hw5
      have HD5 : Hid (DrAt B w5 b (D.setPos nx) V) := Lib.hid (by rw [hw5]; exact HD4.out.goes nx)
      have HW5 : Hid (Wb w5 wb r false) := Lib.hid (by rw [hw5]; exact HW4.out.off (by have := HB.out; omega))
      have HU5 : Hid (Upd (fun k => k = b ∨ B ≤ k) w w5) := Lib.hid (by rw [hw5]; exact HU4.out.trans ((updBox w4 b 5 _).mono (T := fun k => k = b ∨ B ≤ k) (fun k hk _ => .inl hk)) (fun _ h _ => h))
      have HO5 : Hid (KeepsOthers w w5) := Lib.hid (by rw [hw5]; exact HO4.out.trans (KeepsOthers.setCell _ _ _))
      have HNE : Hid (4 ≤ clsP f → clsP f ≠ 5 → (D.setPos nx).img.methods ≠ []) := Lib.hid (fun h4 h5 => HG.out (by
        have h6 := cls_le f
        rcases (by omega : clsP f = 4 ∨ clsP f = 6) with h | h <;> rw [h] at hm <;> simp [mayT, rangeT] at hm <;> omega))
      obtain ⟨PP, hPP⟩ : ∃ PP, PP = putP f (D.setPos nx) (r, false) := ⟨_, rfl⟩
      have HT2 : Hid (td = match !PP.2.2 && emptyP PP.2.1 with | true => some PP.1 | false => none) := Lib.hid (by
        rw [HT.out]
        unfold lineP
        rw [hm, hPP, hnx])
      have HPP := Lib.hid hPP
      have HXL : Hid (PP.2.1.length ≤ maxLen) := Lib.hid (by have h1 := putP_len f (D.setPos nx) (r, false); rw [← hPP] at h1; exact Nat.le_trans h1 HRL.out)
      clear hm h hw5 hnx hPP
      go_wp2_with fail
      refine (tPut2 (f := f) HD5.out HW5.out HB.out HRL.out HNE.out).mono ?_
      rw [← HPP.out]
      rintro e w6 ⟨rfl, hd, hwb, hu, hko⟩
      have HD6 := Lib.hid hd
      have HW6 := Lib.hid hwb
      have HU6 := Lib.hid (HU5.out.trans hu (fun _ h _ => h))
      have HO6 := Lib.hid (HO5.out.trans hko)
      obtain ⟨-, c1, -, f1⟩ := hwb.cell
      clear hd hwb hu hko
      cases hb : PP.2.2 with
      | true =>
        have HN : Hid (td = none) := Lib.hid (by rw [HT2.out, hb]; rfl)
        rw [hb] at c1
        clear hb
        go_wp2_with fail
        go_ret
        exact ⟨by rw [HN.out]; rfl, fun D' h => (by rw [HN.out] at h; cases h), HU6.out, HO6.out⟩
      | false =>
        have HT3 : Hid (td = match emptyP PP.2.1 with | true => some PP.1 | false => none) := Lib.hid (by rw [HT2.out, hb]; rfl)
        rw [hb] at c1
        have HW7 : Hid (Wb w6 wb PP.2.1 false) := Lib.hid (by have := HW6.out; rwa [hb] at this)
        clear hb
        go_wp2_with fail
        refine (tIsEmpty PP.2.1 false wb w6 HW7.out HXL.out).mono ?_
        rintro e w7 ⟨rfl, hu⟩
        have HO7 := Lib.hid (HO6.out.trans (ko_no hu))
        have HU7 := Lib.hid (HU6.out.trans (hu.mono (T := fun k => k = b ∨ B ≤ k) (fun _ h _ => h.elim)) (fun _ h _ => h))
        have HD7 : Hid (∃ V', DrAt B w7 b PP.1 V') := Lib.hid (by obtain ⟨V', hV'⟩ := HD6.out; exact ⟨V', hV'.keep hu (Alien.no B b w6)⟩)
        clear hu
        go_wp2_with fail
        go_ret
        cases he : emptyP PP.2.1 with
        | true =>
          have HN : Hid (td = some PP.1) := Lib.hid (by rw [HT3.out, he])
          exact ⟨by rw [HN.out]; rfl, fun D' h => (by rw [HN.out] at h; cases h; exact HD7.out), HU7.out, HO7.out⟩
        | false =>
          have HN : Hid (td = none) := Lib.hid (by rw [HT3.out, he])
          exact ⟨by rw [HN.out]; rfl, fun D' h => (by rw [HN.out] at h; cases h), HU7.out, HO7.out⟩
end
end
end Go.Proofs.YtbjmmdomdijilabDoor

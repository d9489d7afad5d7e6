/- Package text: put, its fields' line. -/
import Derived.Test.YtmikibcgphkcfaaGreatDoorTj
import Derived.Deep.RegionLaw
import Derived.Deep.QuietTactic
import Derived.RangeFuncCalls
namespace Go.Proofs.YtmikibcgphkcfaaGreatDoor
open Go.RowKit Go.Lib Go.Deep
set_option linter.unusedVariables false
set_option linter.unusedSimpArgs false

def wordK (k : Nat) : By := match k with
  | 0 => [97, 112, 112, 108, 101, 116]
  | 1 => [102, 105, 101, 108, 100]
  | 2 => [105, 109, 112, 111, 114, 116]
  | 3 => [109, 101, 116, 104, 111, 100]
  | 4 => [108, 111, 99, 97, 108, 115]
  | 5 => [101, 120, 112, 111, 114, 116]
  | _ => []
/-- which line: 6 of others -/
def clsP (f : By) : Nat := match (List.range 6).find? (fun k => decide (wordK k = f)) with
  | some k => k
  | none => 6
theorem cls_eq (f : By) (k : Nat) (hk : k < 6) : decide (f = wordK k) = (clsP f == k) := by
  have inj : ∀ i j : Nat, i < 6 → j < 6 → wordK i = wordK j → i = j := by
    intro i j hi hj
    rcases (by omega : i = 0 ∨ i = 1 ∨ i = 2 ∨ i = 3 ∨ i = 4 ∨ i = 5) with rfl | rfl | rfl | rfl | rfl | rfl <;> rcases (by omega : j = 0 ∨ j = 1 ∨ j = 2 ∨ j = 3 ∨ j = 4 ∨ j = 5) with rfl | rfl | rfl | rfl | rfl | rfl <;> simp [wordK]
  unfold clsP
  cases h : (List.range 6).find? (fun k => decide (wordK k = f)) with
  | none =>
    have := List.find?_eq_none.1 h k (by simpa using hk)
    have hne : ¬ f = wordK k := fun e => this (by simpa using e.symm)
    rw [show decide (f = wordK k) = false by simpa using hne]
    simp; omega
  | some j =>
    have h1 := List.find?_some h
    have h2 := List.mem_of_find?_eq_some h
    simp at h1 h2
    subst h1
    by_cases e : j = k
    · subst e; simp
    · have : ¬ wordK j = wordK k := fun h => e (inj j k h2 hk h)
      rw [show decide (wordK j = wordK k) = false by simpa using this]
      simp [e]
theorem cls_list (f : By) (k : Nat) (hk : k < 6) : ((bs f).toList == wordK k) = (clsP f == k) := by
  rw [bs_list, ← cls_eq f k hk, Bool.eq_iff_iff]
  simp
theorem cls_le (f : By) : clsP f ≤ 6 := by
  unfold clsP
  split
  · rename_i h
    have := List.mem_of_find?_eq_some h
    simp at this; omega
  · omega
section
variable {B b wb : Nat} {w w' : World} {D : DrM} {V : DrV} {S : Nat → Prop} {l : By} {bad : Bool} {f : By}
theorem alien_wb (hw : Wb w wb l bad) (hb : wb ≠ b) : Alien B b w (fun k => k = wb) := fun k hk => by
  subst hk
  refine ⟨hb, fun _ C e fr hc => ?_⟩
  rw [show w.heap[k]? = _ from hw] at hc
  simp at hc
  obtain ⟨_, rfl, _⟩ := hc
  decide
theorem DrAt.cells (h : DrAt B w b D V) : (w.cell? ⟨b, 0, none⟩ = some (.string D.img.name) ∧ w.cell? ⟨b, 1, none⟩ = some V.fv ∧ w.cell? ⟨b, 2, none⟩ = some V.iv ∧ w.cell? ⟨b, 3, none⟩ = some V.mv ∧ w.cell? ⟨b, 4, none⟩ = some V.xv ∧ w.cell? ⟨b, 5, none⟩ = some (.int .i64 D.pos)) ∧ ∀ q, w.frozen? ⟨b, q, none⟩ = false := by
  have hb := h.box
  refine ⟨⟨?_, ?_, ?_, ?_, ?_, ?_⟩, fun q => (tCell hb q).2⟩
  · exact (tCell hb 0).1.trans rfl
  · exact (tCell hb 1).1.trans rfl
  · exact (tCell hb 2).1.trans rfl
  · exact (tCell hb 3).1.trans rfl
  · exact (tCell hb 4).1.trans rfl
  · exact (tCell hb 5).1.trans rfl
theorem Wb.off (hw : Wb w wb l bad) {q : Nat} {u : Value} (hb : wb ≠ b) : Wb (w.setCell ⟨b, q, none⟩ u) wb l bad := hw.upd (updBox w b q u) hb
theorem updW {w1 : World} (h : Upd (fun k => k = wb) w w1) (hB : B ≤ wb) : Upd (fun k => k = b ∨ B ≤ k) w w1 := h.mono (fun k hk _ => .inr (by omega))
theorem Wb.rowNe {α : Type} {e : TypeId} {sz : Nat} {cl : α → List Value} {v : Value} {L : List α} (hw : Wb w wb l bad) (hr : Row w e sz cl v L) (he : e ≠ WT) : ¬ v.ownBlock = some wb := fun hk => by
  obtain ⟨C, fr, hc⟩ := hr.type hk
  rw [show w.heap[wb]? = _ from hw] at hc
  simp at hc
  exact he hc.2.1.symm
theorem addL_map {α β : Type} (g : α → β) (most : Int) (L : List α) (x : α) : (addL most L x).map g = addL most (L.map g) (g x) := by
  unfold addL
  rw [List.length_map]
  split <;> simp
theorem addL_mem {α : Type} {most : Int} {L : List α} {x y : α} (h : y ∈ addL most L x) : y ∈ L ∨ y = x := by
  unfold addL at h
  split at h
  · exact .inl h
  · simpa using h
theorem new_ap (h : DrAt B w b D V) {r : Value} (hn : ∀ k, r.ownBlock = some k → w.heap.size ≤ k) : Ap r V.fv ∧ Ap r V.xv ∧ ∀ k, r.ownBlock = some k → B ≤ k :=
  ⟨fun k h1 h2 => by have := hn k h1; have := h.frow.lt k h2; omega, fun k h1 h2 => by have := hn k h1; have := h.xrow.lt k h2; omega, fun k hk => by have := hn k hk; have := h.sB; omega⟩
theorem add_apc {M : List PM} {x : PM} {most : Int} (h : M.Pairwise (fun m n => Ap m.2.2.2 n.2.2.2)) (hx : x.2.2.2 = .slice none 0 0) : (addL most M x).Pairwise (fun m n => Ap m.2.2.2 n.2.2.2) := by
  unfold addL
  split
  · exact h
  · rw [List.pairwise_append]
    refine ⟨h, by simp, fun m _ n hn k hk hk' => ?_⟩
    simp at hn
    subst hn
    rw [hx] at hk'
    simp [Value.ownBlock] at hk'
theorem ko_of {w w' : World} {S : Nat → Prop} (hu : Upd S w w') (hS : ∀ k, S k → k < w.heap.size → ∃ C e fr, w.heap[k]? = some (.cells C e fr)) : KeepsOthers w w' := ⟨hu.size, fun k o hk ho => by
  have hlt := (Array.getElem?_eq_some_iff.1 hk).1
  by_cases h : S k
  · obtain ⟨C, e, fr, hc⟩ := hS k h hlt
    rw [hk] at hc
    simp at hc
    subst hc
    cases ho
  · rw [hu.block k hlt h]; exact hk⟩
theorem ko_no {w w' : World} (hu : Upd (fun _ => False) w w') : KeepsOthers w w' := ko_of hu (fun _ h => h.elim)
theorem ko_wb {w w' : World} {wb : Nat} {l : By} {bad : Bool} (hw : Wb w wb l bad) (hu : Upd (fun k => k = wb) w w') : KeepsOthers w w' := ko_of hu (fun k h _ => by subst h; exact ⟨_, _, _, hw⟩)
theorem ko_row {α : Type} {w w' : World} {e : TypeId} {sz : Nat} {cl : α → List Value} {v : Value} {L : List α} (hr : Row w e sz cl v L) (hu : Upd (fun k => v.ownBlock = some k) w w') : KeepsOthers w w' := ko_of hu (fun k h _ => by obtain ⟨C, fr, hc⟩ := hr.type h; exact ⟨_, _, _, hc⟩)
/-- what put promises -/
def PutTo (B b wb : Nat) (w : World) (D' : DrM) (x : Ws) (e : Ending) (w' : World) : Prop := e = .returned (.tuple #[]) ∧ (∃ V', DrAt B w' b D' V') ∧ Wb w' wb x.1 x.2 ∧ Upd (fun k => k = b ∨ B ≤ k) w w' ∧ KeepsOthers w w'
set_option maxHeartbeats 2000000 in
theorem putField (hD : DrAt B w b D V) (hw : Wb w wb l bad) (hB : B ≤ wb) (hl : l.length ≤ maxLen) (hc : clsP f = 1) :
    Calls Tryz.prog 71 #[.pointer (some ⟨b, 0, none⟩), .string (bs f), .pointer (some ⟨wb, 0, none⟩)] w (PutTo B b wb w (D.setF (addL 8 D.img.fields (kindW (l, bad)).1)) (kindW (l, bad)).2) := by
  have q0 := cls_list f 0 (by omega)
  have q1 := cls_list f 1 (by omega)
  rw [hc] at q0 q1
  replace q0 : ((bs f).toList == [97, 112, 112, 108, 101, 116]) = false := q0
  replace q1 : ((bs f).toList == [102, 105, 101, 108, 100]) = true := q1
  clear hc
  have hbB := hD.bB
  have hdr := Upd.drew (fun _ => False) w
  have HD := Lib.hid (hD.keep hdr (Alien.no B b w))
  have HW := Lib.hid (hw.upd hdr (fun h => h))
  have HL := Lib.hid hl
  have HUD := Lib.hid hdr
  have c1 := (tCell hD.box 1).1
  have f1 := (tCell hD.box 1).2
  obtain ⟨fa, fc, hfv⟩ := ownsRow_slice hD.frow
  simp [hfv] at c1
  have HFV := Lib.hid hfv
  clear hD hw hl hdr hfv
  go_enter Tryz.func71, Tryz.ntmps71
  go_wp2_with fail
  go_region_law ((first
    | (go_simp; (refine (tKnd HW.out HL.out).mono ?_); rintro e w5 ⟨rfl, hwb, hu⟩; have HW5 := Lib.hid hwb; have HD5 := Lib.hid (HD.out.keep hu (alien_wb HW.out (by omega))); have HU5 := Lib.hid hu; have c5 := (tCell HD5.out.box 1).1; simp [HFV.out] at c5; have f5 := (tCell HD5.out.box 1).2; clear hwb hu)
    | (go_simp; (refine (tAddInt w5 _ D.img.fields 8 _ (by have h := HD5.out.frow; rw [HFV.out] at h; exact h) (by have := HD5.out.lf; omega)).mono ?_); rintro e w6 ⟨v', rfl, hr, hu6, hf⟩; have HR6 := Lib.hid hr; have HU6 := Lib.hid hu6; have HF6 := Lib.hid hf; obtain ⟨va, vc, rfl⟩ := ownsRow_slice hr; have hbx := tBlk hu6 HD5.out.box (fun hk => by have := HD5.out.nf b (by rw [HFV.out]; exact hk); omega); have c6 := (tCell hbx 1).1; have f6 := (tCell hbx 1).2; simp [HFV.out] at c6; clear hr hu6 hf hbx)))
  all_goals
    first | (refine bodyPost_end (results_none rfl _ _ _) rfl ?_) | (simp only [Exit.inBlock, Exit.then]; refine bodyPost_end (results_none rfl _ _ _) rfl ?_)
    have hnw : ¬ (Value.slice fa D.img.fields.length fc).ownBlock = some wb := by rw [← HFV.out]; exact HW5.out.rowNe HD5.out.frow (by decide)
    refine ⟨rfl, ?_, (HW5.out.upd HU6.out (fun h => hnw h)).off (by omega), ?_⟩
    · exact ⟨_, HD5.out.fields HR6.out (by rw [HFV.out]; exact HU6.out) (by rw [HFV.out]; exact HF6.out) (addL_len (by omega) (by omega) HD5.out.lf)⟩
    · exact ⟨(((HUD.out.mono (T := fun k => k = b ∨ B ≤ k) (fun _ h _ => h.elim)).trans (updW HU5.out hB) (fun _ h _ => h)).trans (HU6.out.mono (T := fun k => k = b ∨ B ≤ k) (fun k hk _ => .inr (HD5.out.nf k (by rw [HFV.out]; exact hk)))) (fun _ h _ => h)).trans ((updBox w6 b _ _).mono (T := fun k => k = b ∨ B ≤ k) (fun k hk _ => .inl hk)) (fun _ h _ => h), (((KeepsOthers.drew w).trans (ko_wb HW.out HU5.out)).trans (ko_row HD5.out.frow (by rw [HFV.out]; exact HU6.out))).trans (KeepsOthers.setCell _ _ _)⟩
set_option maxHeartbeats 2000000 in
theorem putExport (hD : DrAt B w b D V) (hw : Wb w wb l bad) (hB : B ≤ wb) (hl : l.length ≤ maxLen) (hc : clsP f = 5) :
    Calls Tryz.prog 71 #[.pointer (some ⟨b, 0, none⟩), .string (bs f), .pointer (some ⟨wb, 0, none⟩)] w (PutTo B b wb w (D.setX (addL 4 D.img.exports (numW (l, bad)).1)) (numW (l, bad)).2) := by
  have q0 := cls_list f 0 (by omega)
  have q1 := cls_list f 1 (by omega)
  have q2 := cls_list f 2 (by omega)
  have q3 := cls_list f 3 (by omega)
  have q4 := cls_list f 4 (by omega)
  have q5 := cls_list f 5 (by omega)
  rw [hc] at q0 q1 q2 q3 q4 q5
  replace q0 : ((bs f).toList == [97, 112, 112, 108, 101, 116]) = false := q0
  replace q1 : ((bs f).toList == [102, 105, 101, 108, 100]) = false := q1
  replace q2 : ((bs f).toList == [105, 109, 112, 111, 114, 116]) = false := q2
  replace q3 : ((bs f).toList == [109, 101, 116, 104, 111, 100]) = false := q3
  replace q4 : ((bs f).toList == [108, 111, 99, 97, 108, 115]) = false := q4
  replace q5 : ((bs f).toList == [101, 120, 112, 111, 114, 116]) = true := q5
  clear hc
  have hbB := hD.bB
  have hdr := Upd.drew (fun _ => False) w
  have HD := Lib.hid (hD.keep hdr (Alien.no B b w))
  have HW := Lib.hid (hw.upd hdr (fun h => h))
  have HL := Lib.hid hl
  have HUD := Lib.hid hdr
  have c1 := (tCell hD.box 4).1
  have f1 := (tCell hD.box 4).2
  obtain ⟨fa, fc, hfv⟩ := ownsRow_slice hD.xrow
  simp [hfv] at c1
  have HFV := Lib.hid hfv
  clear hD hw hl hdr hfv
  go_enter Tryz.func71, Tryz.ntmps71
  go_wp2_with fail
  go_region_law ((first
    | (go_simp; (refine (tNum HW.out HL.out).mono ?_); rintro e w5 ⟨rfl, hwb, hu⟩; have HW5 := Lib.hid hwb; have HD5 := Lib.hid (HD.out.keep hu (alien_wb HW.out (by omega))); have HU5 := Lib.hid hu; have c5 := (tCell HD5.out.box 4).1; simp [HFV.out] at c5; have f5 := (tCell HD5.out.box 4).2; clear hwb hu)
    | (go_simp; (refine (tAddInt w5 _ D.img.exports 4 _ (by have h := HD5.out.xrow; rw [HFV.out] at h; exact h) (by have := HD5.out.lx; omega)).mono ?_); rintro e w6 ⟨v', rfl, hr, hu6, hf⟩; have HR6 := Lib.hid hr; have HU6 := Lib.hid hu6; have HF6 := Lib.hid hf; obtain ⟨va, vc, rfl⟩ := ownsRow_slice hr; have hbx := tBlk hu6 HD5.out.box (fun hk => by have := HD5.out.nx b (by rw [HFV.out]; exact hk); omega); have c6 := (tCell hbx 4).1; have f6 := (tCell hbx 4).2; simp [HFV.out] at c6; clear hr hu6 hf hbx)))
  all_goals
    first | (refine bodyPost_end (results_none rfl _ _ _) rfl ?_) | (simp only [Exit.inBlock, Exit.then]; refine bodyPost_end (results_none rfl _ _ _) rfl ?_)
    have hnw : ¬ (Value.slice fa D.img.exports.length fc).ownBlock = some wb := by rw [← HFV.out]; exact HW5.out.rowNe HD5.out.xrow (by decide)
    refine ⟨rfl, ?_, (HW5.out.upd HU6.out (fun h => hnw h)).off (by omega), ?_⟩
    · exact ⟨_, HD5.out.exports HR6.out (by rw [HFV.out]; exact HU6.out) (by rw [HFV.out]; exact HF6.out) (addL_len (by omega) (by omega) HD5.out.lx)⟩
    · exact ⟨(((HUD.out.mono (T := fun k => k = b ∨ B ≤ k) (fun _ h _ => h.elim)).trans (updW HU5.out hB) (fun _ h _ => h)).trans (HU6.out.mono (T := fun k => k = b ∨ B ≤ k) (fun k hk _ => .inr (HD5.out.nx k (by rw [HFV.out]; exact hk)))) (fun _ h _ => h)).trans ((updBox w6 b _ _).mono (T := fun k => k = b ∨ B ≤ k) (fun k hk _ => .inl hk)) (fun _ h _ => h), (((KeepsOthers.drew w).trans (ko_wb HW.out HU5.out)).trans (ko_row HD5.out.xrow (by rw [HFV.out]; exact HU6.out))).trans (KeepsOthers.setCell _ _ _)⟩
set_option maxHeartbeats 2000000 in
theorem putImport (hD : DrAt B w b D V) (hw : Wb w wb l bad) (hB : B ≤ wb) (hl : l.length ≤ maxLen) (hc : clsP f = 2) :
    Calls Tryz.prog 71 #[.pointer (some ⟨b, 0, none⟩), .string (bs f), .pointer (some ⟨wb, 0, none⟩)] w (PutTo B b wb w (D.setI (addL 4 D.img.imports (impW (l, bad)).1)) (impW (l, bad)).2) := by
  have q0 := cls_list f 0 (by omega)
  have q1 := cls_list f 1 (by omega)
  have q2 := cls_list f 2 (by omega)
  rw [hc] at q0 q1 q2
  replace q0 : ((bs f).toList == [97, 112, 112, 108, 101, 116]) = false := q0
  replace q1 : ((bs f).toList == [102, 105, 101, 108, 100]) = false := q1
  replace q2 : ((bs f).toList == [105, 109, 112, 111, 114, 116]) = true := q2
  clear hc
  have hbB := hD.bB
  have hdr := Upd.drew (fun _ => False) w
  have HD := Lib.hid (hD.keep hdr (Alien.no B b w))
  have HW := Lib.hid (hw.upd hdr (fun h => h))
  have HL := Lib.hid hl
  have HUD := Lib.hid hdr
  have c1 := (tCell hD.box 2).1
  have f1 := (tCell hD.box 2).2
  obtain ⟨fa, fc, hfv⟩ := ownsRow_slice hD.irow
  simp [hfv] at c1
  have HFV := Lib.hid hfv
  clear hD hw hl hdr hfv
  go_enter Tryz.func71, Tryz.ntmps71
  go_wp2_with fail
  go_region_law ((first
    | (go_simp; (refine (tImported HW.out HL.out).mono ?_); rintro e w5 ⟨r, rfl, hk⟩; have hwb := hk.wb; have hu := hk.up; have HK5 := Lib.hid hk; obtain ⟨ra, rc, rfl⟩ := ownsRow_slice hk.row; have HW5 := Lib.hid hwb; have HD5 := Lib.hid (HD.out.keep hu (alien_wb HW.out (by omega))); have HU5 := Lib.hid hu; have c5 := (tCell HD5.out.box 2).1; simp [HFV.out] at c5; have f5 := (tCell HD5.out.box 2).2; clear hwb hu hk)
    | (go_simp; (refine (tAddImp w5 _ V.P 4 ((impW (l, bad)).1, .slice ra (impW (l, bad)).1.params.length rc) rfl (by have h := HD5.out.irow; rw [HFV.out] at h; exact h) (by have := HD5.out.li; omega)).mono ?_); rintro e w6 ⟨v', rfl, hr, hu6, hf⟩; have HR6 := Lib.hid hr; have HU6 := Lib.hid hu6; have HF6 := Lib.hid hf; obtain ⟨va, vc, rfl⟩ := ownsRow_slice hr; have hbx := tBlk hu6 HD5.out.box (fun hk => by have := HD5.out.ni b (by rw [HFV.out]; exact hk); omega); have c6 := (tCell hbx 2).1; have f6 := (tCell hbx 2).2; simp [HFV.out] at c6; clear hr hu6 hf hbx)))
  all_goals
    first | (refine bodyPost_end (results_none rfl _ _ _) rfl ?_) | (simp only [Exit.inBlock, Exit.then]; refine bodyPost_end (results_none rfl _ _ _) rfl ?_)
    have hnw : ¬ (Value.slice fa V.P.length fc).ownBlock = some wb := by rw [← HFV.out]; exact HW5.out.rowNe HD5.out.irow (by decide)
    refine ⟨rfl, ?_, (HW5.out.upd HU6.out (fun h => hnw h)).off (by omega), ?_⟩
    · have hi := HD5.out.imports HR6.out (by rw [HFV.out]; exact HU6.out) (by rw [HFV.out]; exact HF6.out) (addL_len (by omega) (by omega) HD5.out.li) (fun p hp => by
        rcases addL_mem hp with h | h
        · exact .inl h
        · subst h
          have hap := new_ap HD.out HK5.out.new
          exact .inr ⟨HK5.out.row, hap⟩)
      rw [addL_map, HD5.out.pI] at hi
      exact ⟨_, hi⟩
    · exact ⟨(((HUD.out.mono (T := fun k => k = b ∨ B ≤ k) (fun _ h _ => h.elim)).trans (updW HU5.out hB) (fun _ h _ => h)).trans (HU6.out.mono (T := fun k => k = b ∨ B ≤ k) (fun k hk _ => .inr (HD5.out.ni k (by rw [HFV.out]; exact hk)))) (fun _ h _ => h)).trans ((updBox w6 b _ _).mono (T := fun k => k = b ∨ B ≤ k) (fun k hk _ => .inl hk)) (fun _ h _ => h), (((KeepsOthers.drew w).trans (ko_wb HW.out HU5.out)).trans (ko_row HD5.out.irow (by rw [HFV.out]; exact HU6.out))).trans (KeepsOthers.setCell _ _ _)⟩
set_option maxHeartbeats 2000000 in
theorem putMethod (hD : DrAt B w b D V) (hw : Wb w wb l bad) (hB : B ≤ wb) (hl : l.length ≤ maxLen) (hc : clsP f = 3) :
    Calls Tryz.prog 71 #[.pointer (some ⟨b, 0, none⟩), .string (bs f), .pointer (some ⟨wb, 0, none⟩)] w (PutTo B b wb w (D.setM (addL 8 D.img.methods (metW (l, bad)).1)) (metW (l, bad)).2) := by
  have q0 := cls_list f 0 (by omega)
  have q1 := cls_list f 1 (by omega)
  have q2 := cls_list f 2 (by omega)
  have q3 := cls_list f 3 (by omega)
  rw [hc] at q0 q1 q2 q3
  replace q0 : ((bs f).toList == [97, 112, 112, 108, 101, 116]) = false := q0
  replace q1 : ((bs f).toList == [102, 105, 101, 108, 100]) = false := q1
  replace q2 : ((bs f).toList == [105, 109, 112, 111, 114, 116]) = false := q2
  replace q3 : ((bs f).toList == [109, 101, 116, 104, 111, 100]) = true := q3
  clear hc
  have hbB := hD.bB
  have hdr := Upd.drew (fun _ => False) w
  have HD := Lib.hid (hD.keep hdr (Alien.no B b w))
  have HW := Lib.hid (hw.upd hdr (fun h => h))
  have HL := Lib.hid hl
  have HUD := Lib.hid hdr
  have c1 := (tCell hD.box 3).1
  have f1 := (tCell hD.box 3).2
  obtain ⟨fa, fc, hfv⟩ := ownsRow_slice hD.mrow
  simp [hfv] at c1
  have HFV := Lib.hid hfv
  clear hD hw hl hdr hfv
  go_enter Tryz.func71, Tryz.ntmps71
  go_wp2_with fail
  go_region_law ((first
    | (go_simp; (refine (tMethod HW.out HL.out).mono ?_); rintro e w5 ⟨r, rfl, hk⟩; have hwb := hk.wb; have hu := hk.up; have HK5 := Lib.hid hk; obtain ⟨ra, rc, rfl⟩ := ownsRow_slice hk.row; have HW5 := Lib.hid hwb; have HD5 := Lib.hid (HD.out.keep hu (alien_wb HW.out (by omega))); have HU5 := Lib.hid hu; have c5 := (tCell HD5.out.box 3).1; simp [HFV.out] at c5; have f5 := (tCell HD5.out.box 3).2; clear hwb hu hk)
    | (go_simp; (refine (tAddMet w5 _ V.M 8 ((metW (l, bad)).1, .slice ra (metW (l, bad)).1.params.length rc, .slice none 0 0, .slice none 0 0) rfl rfl rfl (by have h := HD5.out.mrow; rw [HFV.out] at h; exact h) (by have := HD5.out.lm; omega)).mono ?_); rintro e w6 ⟨v', rfl, hr, hu6, hf⟩; have HR6 := Lib.hid hr; have HU6 := Lib.hid hu6; have HF6 := Lib.hid hf; obtain ⟨va, vc, rfl⟩ := ownsRow_slice hr; have hbx := tBlk hu6 HD5.out.box (fun hk => by have := HD5.out.nm b (by rw [HFV.out]; exact hk); omega); have c6 := (tCell hbx 3).1; have f6 := (tCell hbx 3).2; simp [HFV.out] at c6; clear hr hu6 hf hbx)))
  all_goals
    first | (refine bodyPost_end (results_none rfl _ _ _) rfl ?_) | (simp only [Exit.inBlock, Exit.then]; refine bodyPost_end (results_none rfl _ _ _) rfl ?_)
    have hnw : ¬ (Value.slice fa V.M.length fc).ownBlock = some wb := by rw [← HFV.out]; exact HW5.out.rowNe HD5.out.mrow (by decide)
    refine ⟨rfl, ?_, (HW5.out.upd HU6.out (fun h => hnw h)).off (by omega), ?_⟩
    · have hi := HD5.out.methods HR6.out (by rw [HFV.out]; exact HU6.out) (by rw [HFV.out]; exact HF6.out) (addL_len (by omega) (by omega) HD5.out.lm) (fun p hp => by
        rcases addL_mem hp with h | h
        · exact .inl h
        · subst h
          have hap := new_ap HD.out HK5.out.new
          exact .inr ⟨HK5.out.row, hap.1, hap.2.1, hap.2.2, rfl, rfl, rfl, rfl⟩) (add_apc HD5.out.apc rfl)
      rw [addL_map, HD5.out.mI] at hi
      exact ⟨_, hi⟩
    · exact ⟨(((HUD.out.mono (T := fun k => k = b ∨ B ≤ k) (fun _ h _ => h.elim)).trans (updW HU5.out hB) (fun _ h _ => h)).trans (HU6.out.mono (T := fun k => k = b ∨ B ≤ k) (fun k hk _ => .inr (HD5.out.nm k (by rw [HFV.out]; exact hk)))) (fun _ h _ => h)).trans ((updBox w6 b _ _).mono (T := fun k => k = b ∨ B ≤ k) (fun k hk _ => .inl hk)) (fun _ h _ => h), (((KeepsOthers.drew w).trans (ko_wb HW.out HU5.out)).trans (ko_row HD5.out.mrow (by rw [HFV.out]; exact HU6.out))).trans (KeepsOthers.setCell _ _ _)⟩
end
end Go.Proofs.YtmikibcgphkcfaaGreatDoor

/- Several texts in one. -/
import Derived.Test.YtdmadfahgkikkaaGreatJmk
import Derived.Test.YtdmadfahgkikkaaGreatQkk
/- Package interp: a step. -/
namespace Go.Proofs.YtdmadfahgkikkaaGreat
open Go.RowKit Go.Lib Go.ChangeShapes Go.WideShapes Go.Deep Go.MapKept Go.ChangeMaps
set_option linter.unusedVariables false
set_option linter.unusedSimpArgs false

section
variable {c : Nat → Nat} {w : World} {mb rb mp tb : Nat} {tv : Value} {X : McM} {M M' : RmM} {Ps : List PI} {I : ImgM} {F : FrM} {Fs Fs' : List FrM}
/-- a machine one step on -/
def McM.step (X : McM) (F : FrM) (op st : Int) (Fs' : List FrM) : McM :=
  if st = 0 then ⟨Fs', X.fuel - 1, X.status, addE X.tr ⟨1, F.app, 1000 * F.meth + F.pc, op⟩⟩
  else ⟨Fs', X.fuel - 1, st, addE (addE X.tr ⟨1, F.app, 1000 * F.meth + F.pc, op⟩) ⟨5, st, 0, 0⟩⟩
def McM.ended (X : McM) (n : Int) : McM := if n = 0 then X else (X.withStatus n).withTr (addE X.tr ⟨5, n, 0, 0⟩)
theorem mEndB (h : Mc c w mb rb mp tb tv X M Ps I) (n : Int) : Calls Tryz.prog 37 #[.pointer (some ⟨mb, 0, none⟩), .int .i64 n] w fun e w' => e = .returned (.tuple #[]) ∧ ∃ c', Ext T107 c w c' w' ∧ Mc c' w' mb rb mp tb tv (X.ended n) M Ps I := by
  by_cases hn : n = 0
  · subst hn
    refine (mEnd0 h).mono ?_
    rintro e w' ⟨rfl, rfl⟩
    exact ⟨rfl, c, Ext.quietT _ c (Upd.refl _ _), h⟩
  · unfold McM.ended
    rw [if_neg hn]
    exact mEnd h n hn
set_option maxRecDepth 100000 in
set_option maxHeartbeats 4000000 in
theorem mStep (h : Mc c w mb rb mp tb tv X M Ps I) (hX : X.Fs = F :: Fs) (hs0 : X.status = 0) (hfu : 0 < X.fuel ∧ X.fuel ≤ 1000000000) {j : Nat} (hpc : F.pc = (j : Int)) (hj : j < F.m.code.length) (hjb : j ≤ 1000000) (hme : 0 ≤ F.meth ∧ F.meth ≤ 1000000) {op a b st : Int} (hin : F.m.code.getD j default = ⟨op, a, b⟩)
    (HDO : ∀ (c : Nat → Nat) (w : World) (X1 : McM), Mc c w mb rb mp tb tv X1 M Ps I → X1.Fs = X.Fs → Calls Tryz.prog 41 #[.pointer (some ⟨mb, 0, none⟩), .agg #[.int .i64 op, .int .i64 a, .int .i64 b]] w fun e w' => e = .returned (.int .i64 st) ∧ ∃ c' tv', Ext TD c w c' w' ∧ Mc c' w' mb rb mp tb tv' (X1.withFs Fs') M' Ps I) :
    Calls Tryz.prog 31 #[.pointer (some ⟨mb, 0, none⟩)] w fun e w' => e = .returned (.int .i64 st) ∧ ∃ c' tv', Ext TD c w c' w' ∧ Mc c' w' mb rb mp tb tv' (X.step F op st Fs') M' Ps I := by
  obtain ⟨fb, cv, p, l, k, lv, sv, rfl, hf, hr⟩ := h.top hX
  obtain ⟨-, -, m2, m3, m4, m5, mf⟩ := h.bx
  have mf3 := mf 3
  have HHAS := Lib.hid (fHas hf (by omega) (by omega))
  have HF := Lib.hid hf
  have HH := Lib.hid h
  have HDO := Lib.hid HDO
  have HNE := Lib.hid (fun (u : World) (hu : Upd (fun _ => False) w u) => fNext (hf.quiet hu) hpc hj)
  have HPC := Lib.hid hpc
  have HIN := Lib.hid hin
  rw [hs0] at m4
  have t1 : (X.fuel == 0) = false := by simp; omega
  have HT1 := Lib.hid hX
  clear hf hr mf
  go_enter Tryz.func31, Tryz.ntmps31
  go_wp2_with fail
  refine HHAS.out.mono ?_
  rintro e w1 ⟨rfl, hu1⟩
  have HM1 := Lib.hid (HH.out.quiet hu1)
  have HF1 := Lib.hid (HF.out.quiet hu1)
  have HNE1 := Lib.hid (fun (u : World) (hu : Upd (fun _ => False) w1 u) => HNE.out u (hu1.trans hu (fun _ h _ => h)))
  obtain ⟨-, -, m2', m3', m4', m5', mf'⟩ := HM1.out.bx
  have HU1 := Lib.hid hu1
  clear hu1 m2 m3 m4 m5
  go_wp2_with fail
  refine (HNE1.out w1 (Upd.refl _ _)).mono ?_
  rw [HIN.out]
  rintro e w2 ⟨rfl, hu2⟩
  have HM2 := Lib.hid (HM1.out.quiet hu2)
  have HF2 := Lib.hid (HF1.out.quiet hu2)
  obtain ⟨-, -, m2, m3, m4, m5, mf2⟩ := HM2.out.bx
  have mf3' := mf2 3
  have HU2 := Lib.hid (HU1.out.trans hu2 (fun _ h _ => h))
  have hml : mb < w2.heap.size := (Array.getElem?_eq_some_iff.1 HM2.out.box).1
  have hne : mb ≠ w2.heap.size := by omega
  have hwr : IntKind.i64.wrap (X.fuel - 1) = X.fuel - 1 := IntWalk.i64_in _ (by omega)
  clear hu2 m2' m3' m4' m5' mf' mf2
  go_upto_region 3 with fail
  obtain ⟨w2s, hw2s⟩ : ∃ w2s, w2s = w2.setCell ⟨mb, 3, none⟩ (.int .i64 (X.fuel - 1)) := ⟨_, rfl⟩
  obtain ⟨w3, hw3⟩ : ∃ w3, w3 = w2s.alloc (.cells #[.int .i64 op, .int .i64 a, .int .i64 b] 30) := ⟨_, rfl⟩
  have E2s := HM2.out.setFuel (X.fuel - 1)
  rw [← hw2s] at E2s
  have hu3 : Upd (fun _ => False) w2s w3 := by rw [hw3]; exact Upd.alloc _ _ _
  have hsz : w2s.heap.size = w2.heap.size := by rw [hw2s]; simp [World.setCell]
  have H9 := Lib.hid (paint_new c w2s 9 (Nat.le_of_eq hsz))
  have HQ3 := Lib.hid (show w3.heap[w2.heap.size]? = some (.cells #[.int .i64 op, .int .i64 a, .int .i64 b] 30 (0, 0)) by rw [hw3]; exact hpTop w2s _ _ hsz.symm)
  have HM3 := Lib.hid (E2s.2.ext (Ext.made None0 9 hu3) (fun _ _ h => h))
  have HE3 := Lib.hid (((Ext.quiet c HU2.out).mono (T' := TD) (fun _ h => h.elim)).trans ((E2s.1.mono (T' := TD) (fun i hi => by simp only [T10] at hi; simp only [TD]; omega)).trans (Ext.made (c := c) TD 9 hu3) (fun _ h => h)) (fun _ h => h))
  have hd := HH.out.dep
  rw [HT1.out, List.length_cons] at hd
  have HF3 := Lib.hid ((HF2.out.ext (E2s.1) (by simp only [T10]; omega) (fun i hi => by simp only [FT3] at hi; simp only [T10]; omega)).ext (Ext.made None0 9 hu3) (fun h => h) (fun _ _ h => h))
  rw [← hw2s, ← hw3]
  clear E2s hu3 hw3 hw2s hsz
  generalize paint c w2s 9 = c3 at *
  have hHeld : (fun w' : World => w'.cell? ⟨mb, 5, none⟩ = some (.pointer (some ⟨tb, 0, none⟩)) ∧ w'.cell? ⟨mb, 2, none⟩ = some (.pointer (some ⟨fb, 0, none⟩)) ∧ w'.cell? ⟨fb, 1, none⟩ = some (.int .i64 F.app) ∧ w'.cell? ⟨fb, 2, none⟩ = some (.int .i64 F.meth) ∧ w'.cell? ⟨fb, 3, none⟩ = some (.int .i64 F.pc) ∧ w'.cell? ⟨w2.heap.size, 0, none⟩ = some (.int .i64 op)) w3.drew := by
    obtain ⟨f1, f2, f3⟩ := HF3.out.bx.2
    obtain ⟨y0, -, -, -⟩ := three HQ3.out
    obtain ⟨-, -, m2, -, -, m5, -⟩ := HM3.out.bx
    exact ⟨m5, m2, f1, f2, f3.1, y0⟩
  clear m2 m3 m4 m5
  have hq1 : IntKind.i64.wrap (1000 * F.meth) = 1000 * F.meth := IntWalk.i64_in _ (by omega)
  have hq2 : IntKind.i64.wrap (1000 * F.meth + F.pc) = 1000 * F.meth + F.pc := IntWalk.i64_in _ (by omega)
  refine wp_region_last (S := (fun w' : World => w'.cell? ⟨mb, 5, none⟩ = some (.pointer (some ⟨tb, 0, none⟩)) ∧ w'.cell? ⟨mb, 2, none⟩ = some (.pointer (some ⟨fb, 0, none⟩)) ∧ w'.cell? ⟨fb, 1, none⟩ = some (.int .i64 F.app) ∧ w'.cell? ⟨fb, 2, none⟩ = some (.int .i64 F.meth) ∧ w'.cell? ⟨fb, 3, none⟩ = some (.int .i64 F.pc) ∧ w'.cell? ⟨w2.heap.size, 0, none⟩ = some (.int .i64 op))) 29 _ (by kernel_rfl) (by kernel_rfl) rfl ?_
  change wpHL _ _ _ _ _ _ _ _ _ _ w3.drew
  refine wpHL_take (i := 0) (v := ?_) rfl (by kernel_rfl) (fun _ _ _ h => h) hHeld (Or.inl ⟨by rfl, ?_⟩) ?_
  rotate_left
  · (intro w hSw; obtain ⟨y0, y1, y2, y3, y4, y5⟩ := hSw; go_simp; try with_reducible rfl)
  try simp only [Act.put, List.getElem_toArray, List.getElem_cons_succ, List.getElem_cons_zero, List.setIfInBounds_toArray, List.set_cons_zero, List.set_cons_succ]
  refine wpHL_take (i := 1) (v := ?_) rfl (by kernel_rfl) (fun _ _ _ h => h) hHeld (Or.inl ⟨by rfl, ?_⟩) ?_
  rotate_left
  · (intro w hSw; obtain ⟨y0, y1, y2, y3, y4, y5⟩ := hSw; go_simp; try with_reducible rfl)
  try simp only [Act.put, List.getElem_toArray, List.getElem_cons_succ, List.getElem_cons_zero, List.setIfInBounds_toArray, List.set_cons_zero, List.set_cons_succ]
  refine wpHL_take (i := 2) (v := ?_) rfl (by kernel_rfl) (fun _ _ _ h => h) hHeld (Or.inl ⟨by rfl, ?_⟩) ?_
  rotate_left
  · (intro w hSw; obtain ⟨y0, y1, y2, y3, y4, y5⟩ := hSw; go_simp; try with_reducible rfl)
  try simp only [Act.put, List.getElem_toArray, List.getElem_cons_succ, List.getElem_cons_zero, List.setIfInBounds_toArray, List.set_cons_zero, List.set_cons_succ]
  refine wpHL_take (i := 3) (v := ?_) rfl (by kernel_rfl) (fun _ _ _ h => h) hHeld (Or.inl ⟨by rfl, ?_⟩) ?_
  rotate_left
  · (intro w hSw; obtain ⟨y0, y1, y2, y3, y4, y5⟩ := hSw; go_simp; try with_reducible rfl)
  try simp only [Act.put, List.getElem_toArray, List.getElem_cons_succ, List.getElem_cons_zero, List.setIfInBounds_toArray, List.set_cons_zero, List.set_cons_succ]
  refine wpHL_take (i := 4) (v := ?_) rfl (by kernel_rfl) (fun _ _ _ h => h) hHeld (Or.inl ⟨by rfl, ?_⟩) ?_
  rotate_left
  · (intro w hSw; obtain ⟨y0, y1, y2, y3, y4, y5⟩ := hSw; go_simp; try with_reducible rfl)
  try simp only [Act.put, List.getElem_toArray, List.getElem_cons_succ, List.getElem_cons_zero, List.setIfInBounds_toArray, List.set_cons_zero, List.set_cons_succ]
  refine wpHL_take (i := 5) (v := ?_) rfl (by kernel_rfl) (fun _ _ _ h => h) hHeld (Or.inl ⟨by rfl, ?_⟩) ?_
  rotate_left
  · (intro w hSw; obtain ⟨y0, y1, y2, y3, y4, y5⟩ := hSw; go_simp; try with_reducible rfl)
  try simp only [Act.put, List.getElem_toArray, List.getElem_cons_succ, List.getElem_cons_zero, List.setIfInBounds_toArray, List.set_cons_zero, List.set_cons_succ]
  refine wpHL_take (i := 6) (v := ?_) rfl (by kernel_rfl) (fun _ _ _ h => h) hHeld (Or.inl ⟨by rfl, ?_⟩) ?_
  rotate_left
  · (intro w hSw; obtain ⟨y0, y1, y2, y3, y4, y5⟩ := hSw; go_simp; try with_reducible rfl)
  try simp only [Act.put, List.getElem_toArray, List.getElem_cons_succ, List.getElem_cons_zero, List.setIfInBounds_toArray, List.set_cons_zero, List.set_cons_succ]
  refine wpHL_take (i := 7) (v := ?_) rfl (by kernel_rfl) (fun _ _ _ h => h) hHeld (Or.inl ⟨by rfl, ?_⟩) ?_
  rotate_left
  · (intro w hSw; obtain ⟨y0, y1, y2, y3, y4, y5⟩ := hSw; go_simp; try with_reducible rfl)
  try simp only [Act.put, List.getElem_toArray, List.getElem_cons_succ, List.getElem_cons_zero, List.setIfInBounds_toArray, List.set_cons_zero, List.set_cons_succ]
  refine wpHL_take (i := 8) (v := ?_) rfl (by kernel_rfl) (fun _ _ _ h => h) hHeld (Or.inl ⟨by rfl, ?_⟩) ?_
  rotate_left
  · (intro w hSw; obtain ⟨y0, y1, y2, y3, y4, y5⟩ := hSw; go_simp; try with_reducible rfl)
  try simp only [Act.put, List.getElem_toArray, List.getElem_cons_succ, List.getElem_cons_zero, List.setIfInBounds_toArray, List.set_cons_zero, List.set_cons_succ]
  refine wpHL_take (i := 9) (v := ?_) rfl (by kernel_rfl) (fun _ _ _ h => h) hHeld (Or.inl ⟨by rfl, ?_⟩) ?_
  rotate_left
  · (intro w hSw; obtain ⟨y0, y1, y2, y3, y4, y5⟩ := hSw; go_simp; try with_reducible rfl)
  try simp only [Act.put, List.getElem_toArray, List.getElem_cons_succ, List.getElem_cons_zero, List.setIfInBounds_toArray, List.set_cons_zero, List.set_cons_succ]
  refine wpHL_take (i := 10) (v := ?_) rfl (by kernel_rfl) (fun _ _ _ h => h) hHeld (Or.inl ⟨by rfl, ?_⟩) ?_
  rotate_left
  · (intro w hSw; obtain ⟨y0, y1, y2, y3, y4, y5⟩ := hSw; go_simp; try with_reducible rfl)
  try simp only [Act.put, List.getElem_toArray, List.getElem_cons_succ, List.getElem_cons_zero, List.setIfInBounds_toArray, List.set_cons_zero, List.set_cons_succ]
  refine wpHL_take (i := 11) (v := ?_) rfl (by kernel_rfl) (fun _ _ _ h => h) hHeld (Or.inl ⟨by rfl, ?_⟩) ?_
  rotate_left
  · (intro w hSw; obtain ⟨y0, y1, y2, y3, y4, y5⟩ := hSw; go_simp; try with_reducible rfl)
  try simp only [Act.put, List.getElem_toArray, List.getElem_cons_succ, List.getElem_cons_zero, List.setIfInBounds_toArray, List.set_cons_zero, List.set_cons_succ]
  refine wpHL_take (i := 12) (v := ?_) rfl (by kernel_rfl) (fun _ _ _ h => h) hHeld (Or.inl ⟨by rfl, ?_⟩) ?_
  rotate_left
  · (intro w hSw; obtain ⟨y0, y1, y2, y3, y4, y5⟩ := hSw; go_simp; try with_reducible rfl)
  try simp only [Act.put, List.getElem_toArray, List.getElem_cons_succ, List.getElem_cons_zero, List.setIfInBounds_toArray, List.set_cons_zero, List.set_cons_succ]
  refine wpHL_take (i := 13) (v := ?_) rfl (by kernel_rfl) (fun _ _ _ h => h) hHeld (Or.inl ⟨by rfl, ?_⟩) ?_
  rotate_left
  · (intro w hSw; obtain ⟨y0, y1, y2, y3, y4, y5⟩ := hSw; go_simp; try with_reducible rfl)
  try simp only [Act.put, List.getElem_toArray, List.getElem_cons_succ, List.getElem_cons_zero, List.setIfInBounds_toArray, List.set_cons_zero, List.set_cons_succ]
  refine wpHL_take (i := 14) (v := ?_) rfl (by kernel_rfl) (fun _ _ _ h => h) hHeld (Or.inl ⟨by rfl, ?_⟩) ?_
  rotate_left
  · (intro w hSw; obtain ⟨y0, y1, y2, y3, y4, y5⟩ := hSw; go_simp; try with_reducible rfl)
  try simp only [Act.put, List.getElem_toArray, List.getElem_cons_succ, List.getElem_cons_zero, List.setIfInBounds_toArray, List.set_cons_zero, List.set_cons_succ]
  refine wpHL_take (i := 15) (v := ?_) rfl (by kernel_rfl) (fun _ _ _ h => h) hHeld (Or.inl ⟨by rfl, ?_⟩) ?_
  rotate_left
  · (intro w hSw; obtain ⟨y0, y1, y2, y3, y4, y5⟩ := hSw; go_simp; try with_reducible rfl)
  try simp only [Act.put, List.getElem_toArray, List.getElem_cons_succ, List.getElem_cons_zero, List.setIfInBounds_toArray, List.set_cons_zero, List.set_cons_succ]
  refine wpHL_take (i := 16) (v := ?_) rfl (by kernel_rfl) (fun _ _ _ h => h) hHeld (Or.inl ⟨by rfl, ?_⟩) ?_
  rotate_left
  · (intro w hSw; obtain ⟨y0, y1, y2, y3, y4, y5⟩ := hSw; go_simp; try with_reducible rfl)
  try simp only [Act.put, List.getElem_toArray, List.getElem_cons_succ, List.getElem_cons_zero, List.setIfInBounds_toArray, List.set_cons_zero, List.set_cons_succ]
  refine wpHL_take (i := 17) (v := ?_) rfl (by kernel_rfl) (fun _ _ _ h => h) hHeld (Or.inl ⟨by rfl, ?_⟩) ?_
  rotate_left
  · (intro w hSw; obtain ⟨y0, y1, y2, y3, y4, y5⟩ := hSw; go_simp; try with_reducible rfl)
  try simp only [Act.put, List.getElem_toArray, List.getElem_cons_succ, List.getElem_cons_zero, List.setIfInBounds_toArray, List.set_cons_zero, List.set_cons_succ]
  refine wpHL_take (i := 18) (v := ?_) rfl (by kernel_rfl) (fun _ _ _ h => h) hHeld (Or.inl ⟨by rfl, ?_⟩) ?_
  rotate_left
  · (intro w hSw; obtain ⟨y0, y1, y2, y3, y4, y5⟩ := hSw; go_simp; try with_reducible rfl)
  try simp only [Act.put, List.getElem_toArray, List.getElem_cons_succ, List.getElem_cons_zero, List.setIfInBounds_toArray, List.set_cons_zero, List.set_cons_succ]
  refine wpHL_take (i := 19) (v := ?_) rfl (by kernel_rfl) (fun _ _ _ h => h) hHeld (Or.inl ⟨by rfl, ?_⟩) ?_
  rotate_left
  · (intro w hSw; obtain ⟨y0, y1, y2, y3, y4, y5⟩ := hSw; go_simp; try with_reducible rfl)
  try simp only [Act.put, List.getElem_toArray, List.getElem_cons_succ, List.getElem_cons_zero, List.setIfInBounds_toArray, List.set_cons_zero, List.set_cons_succ]
  refine wpHL_take (i := 20) (v := ?_) rfl (by kernel_rfl) (fun _ _ _ h => h) hHeld (Or.inl ⟨by rfl, ?_⟩) ?_
  rotate_left
  · (intro w hSw; obtain ⟨y0, y1, y2, y3, y4, y5⟩ := hSw; go_simp; try with_reducible rfl)
  try simp only [Act.put, List.getElem_toArray, List.getElem_cons_succ, List.getElem_cons_zero, List.setIfInBounds_toArray, List.set_cons_zero, List.set_cons_succ]
  refine wpHL_take (i := 21) (v := ?_) rfl (by kernel_rfl) (fun _ _ _ h => h) hHeld (Or.inl ⟨by rfl, ?_⟩) ?_
  rotate_left
  · (intro w hSw; obtain ⟨y0, y1, y2, y3, y4, y5⟩ := hSw; go_simp; try with_reducible rfl)
  try simp only [Act.put, List.getElem_toArray, List.getElem_cons_succ, List.getElem_cons_zero, List.setIfInBounds_toArray, List.set_cons_zero, List.set_cons_succ]
  refine wpHL_take (i := 22) (v := ?_) rfl (by kernel_rfl) (fun _ _ _ h => h) hHeld (Or.inl ⟨by rfl, ?_⟩) ?_
  rotate_left
  · (intro w hSw; obtain ⟨y0, y1, y2, y3, y4, y5⟩ := hSw; go_simp; try with_reducible rfl)
  try simp only [Act.put, List.getElem_toArray, List.getElem_cons_succ, List.getElem_cons_zero, List.setIfInBounds_toArray, List.set_cons_zero, List.set_cons_succ]
  refine wpHL_take (i := 23) (v := ?_) rfl (by kernel_rfl) (fun _ _ _ h => h) hHeld (Or.inl ⟨by rfl, ?_⟩) ?_
  rotate_left
  · (intro w hSw; obtain ⟨y0, y1, y2, y3, y4, y5⟩ := hSw; go_simp; try with_reducible rfl)
  try simp only [Act.put, List.getElem_toArray, List.getElem_cons_succ, List.getElem_cons_zero, List.setIfInBounds_toArray, List.set_cons_zero, List.set_cons_succ]
  refine wpHL_take (i := 24) (v := ?_) rfl (by kernel_rfl) (fun _ _ _ h => h) hHeld (Or.inl ⟨by rfl, ?_⟩) ?_
  rotate_left
  · (intro w hSw; obtain ⟨y0, y1, y2, y3, y4, y5⟩ := hSw; go_simp; try with_reducible rfl)
  try simp only [Act.put, List.getElem_toArray, List.getElem_cons_succ, List.getElem_cons_zero, List.setIfInBounds_toArray, List.set_cons_zero, List.set_cons_succ]
  refine wpHL_take (i := 25) (v := ?_) rfl (by kernel_rfl) (fun _ _ _ h => h) hHeld (Or.inl ⟨by rfl, ?_⟩) ?_
  rotate_left
  · (intro w hSw; obtain ⟨y0, y1, y2, y3, y4, y5⟩ := hSw; go_simp; try with_reducible rfl)
  try simp only [Act.put, List.getElem_toArray, List.getElem_cons_succ, List.getElem_cons_zero, List.setIfInBounds_toArray, List.set_cons_zero, List.set_cons_succ]
  refine wpHL_take (i := 26) (v := ?_) rfl (by kernel_rfl) (fun _ _ _ h => h) hHeld (Or.inl ⟨by rfl, ?_⟩) ?_
  rotate_left
  · (intro w hSw; obtain ⟨y0, y1, y2, y3, y4, y5⟩ := hSw; go_simp; try with_reducible rfl)
  try simp only [Act.put, List.getElem_toArray, List.getElem_cons_succ, List.getElem_cons_zero, List.setIfInBounds_toArray, List.set_cons_zero, List.set_cons_succ]
  refine wpHL_take (i := 27) (v := ?_) rfl (by kernel_rfl) (fun _ _ _ h => h) hHeld (Or.inl ⟨by rfl, ?_⟩) ?_
  rotate_left
  · (intro w hSw; obtain ⟨y0, y1, y2, y3, y4, y5⟩ := hSw; go_simp; try with_reducible rfl)
  try simp only [Act.put, List.getElem_toArray, List.getElem_cons_succ, List.getElem_cons_zero, List.setIfInBounds_toArray, List.set_cons_zero, List.set_cons_succ]
  refine wpHL_take (i := 28) (v := ?_) rfl (by kernel_rfl) (fun _ _ _ h => h) hHeld (Or.inl ⟨by rfl, ?_⟩) ?_
  rotate_left
  · (intro w hSw; obtain ⟨y0, y1, y2, y3, y4, y5⟩ := hSw; go_simp; try with_reducible rfl)
  try simp only [Act.put, List.getElem_toArray, List.getElem_cons_succ, List.getElem_cons_zero, List.setIfInBounds_toArray, List.set_cons_zero, List.set_cons_succ]
  clear hHeld
  refine wpHL_last (by kernel_rfl) ?_
  go_wp2_with fail
  have hA := mAdd (HM3.out.quiet (Upd.drew (fun _ => False) w3)) 1 F.app (1000 * F.meth + (j : Int)) op
  refine hA.mono ?_
  clear hA
  rintro e w4 ⟨⟨r, rfl⟩, c4, hx4, hm4⟩
  have hx4' : Ext T7 c3 w3 c4 w4 := ⟨hx4.same, (Upd.drew (fun q => T7 (c3 q)) w3).trans hx4.upd (fun q hq _ => hq)⟩
  have HQ4 := Lib.hid (hpBlk hx4'.upd HQ3.out (by rw [H9.out]; simp only [T7]; omega))
  have HE4 := Lib.hid (HE3.out.trans (hx4'.mono (T' := TD) (fun i hi => by simp only [T7] at hi; simp only [TD]; omega)) (fun _ h => h))
  have HM4 := Lib.hid hm4
  have HD4 := Lib.hid (HDO.out c4 w4 _ hm4 rfl)
  obtain ⟨y0, y1, y2, -⟩ := three HQ4.out
  clear hx4 hx4' hm4
  go_wp2_with fail
  refine HD4.out.mono ?_
  rintro e w5 ⟨rfl, c5, tv5, hx5, hm5⟩
  have HE5 := Lib.hid (HE4.out.trans hx5 (fun _ h => h))
  have HM5 := Lib.hid hm5
  clear hx5 hm5 y0 y1 y2
  go_wp2_with fail
  refine (mEndB HM5.out st).mono ?_
  rintro e w6 ⟨rfl, c6, hx6, hm6⟩
  have HE6 := Lib.hid (HE5.out.trans (hx6.mono (T' := TD) (fun i hi => by simp only [T107] at hi; simp only [TD]; omega)) (fun _ h => h))
  obtain ⟨-, -, -, -, z4, -, -⟩ := hm6.bx
  have HM6 := Lib.hid hm6
  have hst : (McM.ended ((((X.withFuel (X.fuel - 1)).withTr (addE X.tr ⟨1, F.app, 1000 * F.meth + (j : Int), op⟩))).withFs Fs') st).status = st := by
    unfold McM.ended
    by_cases h0 : st = 0
    · rw [if_pos h0, h0]; exact hs0
    · rw [if_neg h0]; rfl
  have hXX : McM.ended ((((X.withFuel (X.fuel - 1)).withTr (addE X.tr ⟨1, F.app, 1000 * F.meth + (j : Int), op⟩))).withFs Fs') st = X.step F op st Fs' := by
    unfold McM.ended McM.step
    rw [HPC.out]
    split <;> rfl
  have HXX := Lib.hid hXX
  clear hXX
  rw [show (McM.ended ((((X.withFuel (X.fuel - 1)).withTr (addE (X.withFuel (X.fuel - 1)).tr ⟨1, F.app, 1000 * F.meth + (j : Int), op⟩))).withFs Fs') st).status = st from hst] at z4
  clear hst hx6 hm6
  go_wp2_with fail
  go_ret
  refine ⟨rfl, c6, tv5, HE6.out, ?_⟩
  rw [← HXX.out]
  exact HM6.out
end
end Go.Proofs.YtdmadfahgkikkaaGreat
/- Package interp: the plain machine, and what a step does of it. -/
namespace Go.Proofs.YtdmadfahgkikkaaGreat
open Go.RowKit Go.Lib Go.ChangeShapes Go.WideShapes Go.Deep Go.MapKept Go.ChangeMaps
set_option linter.unusedVariables false
set_option linter.unusedSimpArgs false

def binI (op x y : Int) : Int := si (binB op (BitVec.ofInt 32 x) (BitVec.ofInt 32 y))
abbrev PR : Type := Option (Int × List FrM × List (List Int))
def setFl (fl : List (List Int)) (q : Nat) (x : Int) : List (List Int) := fl.set 0 ((fl.getD 0 []).set q x)
/-- what the calls of a method take from the stack -/
def npar (I : ImgM) (j : Nat) : Nat := (I.methods.getD j default).params.length
def pIns (I : ImgM) (F : FrM) (Fs : List FrM) (fl : List (List Int)) (i : InsM) : PR :=
  let G := F.withPc (F.pc + 1)
  if i.op = 1 then some (0, G.withStk (F.stk ++ [wrap32 i.a]) :: Fs, fl)
  else if i.op = 2 then (if 0 ≤ i.a ∧ i.a.toNat < F.loc.length then some (0, G.withStk (F.stk ++ [F.loc.getD i.a.toNat 0]) :: Fs, fl) else none)
  else if i.op = 3 then (match F.stk.reverse with
    | x :: r => if 0 ≤ i.a ∧ i.a.toNat < F.loc.length then some (0, (G.withStk r.reverse).withLoc (F.loc.set i.a.toNat x) :: Fs, fl) else none
    | [] => none)
  else if 6 ≤ i.op ∧ i.op ≤ 14 ∨ 19 ≤ i.op ∧ i.op ≤ 21 then (match F.stk.reverse with
    | y :: x :: r => some (0, G.withStk (r.reverse ++ [binI i.op x y]) :: Fs, fl)
    | _ => none)
  else if i.op = 17 then (match F.stk.reverse with
    | y :: x :: r => if y = 0 then some (28419, G.withStk (r.reverse ++ [0]) :: Fs, fl) else none
    | _ => none)
  else if i.op = 23 then some (0, F.withPc i.a :: Fs, fl)
  else if i.op = 24 then (match F.stk.reverse with
    | x :: r => if x = 0 then some (0, G.withStk r.reverse :: Fs, fl) else some (0, (G.withStk r.reverse).withPc i.a :: Fs, fl)
    | [] => none)
  else if i.op = 34 then (match F.stk.reverse with
    | x :: r => if 0 ≤ i.a ∧ 0 < fl.length ∧ i.a.toNat < (fl.getD 0 []).length then some (0, G.withStk r.reverse :: Fs, setFl fl i.a.toNat x) else none
    | [] => none)
  else if i.op = 37 then (if 0 ≤ i.a then (if Fs.length + 1 = 8 then some (28422, G :: Fs, fl)
    else if Fs.length + 1 < 8 ∧ i.a.toNat < I.methods.length ∧ npar I i.a.toNat + (I.methods.getD i.a.toNat default).locals.length ≤ 1000 ∧ npar I i.a.toNat ≤ F.stk.length then
      some (0, callF I i.a.toNat (F.stk.drop (F.stk.length - npar I i.a.toNat)) :: G.withStk (F.stk.take (F.stk.length - npar I i.a.toNat)) :: Fs, fl)
    else none) else none)
  else if i.op = 39 then (match Fs with
    | [] => some (36864, [], fl)
    | H :: Hs => if F.m.res = 0 then some (0, H :: Hs, fl) else (match F.stk.reverse with
      | x :: r => if H.stk.length < 1000000 then some (0, H.withStk (H.stk ++ [x]) :: Hs, fl) else none
      | [] => none))
  else none
/-- the topmost frame stands at an instruction, and is small -/
def pOk (F : FrM) : Prop := 0 ≤ F.pc ∧ F.pc.toNat < F.m.code.length ∧ F.pc.toNat ≤ 1000000 ∧ 0 ≤ F.meth ∧ F.meth ≤ 1000000 ∧ F.app = 0 ∧ F.stk.length < 1000000
instance (F : FrM) : Decidable (pOk F) := by unfold pOk; infer_instance
theorem rev1 {l r : List Int} {x : Int} (h : l.reverse = x :: r) : l = r.reverse ++ [x] := by
  have := congrArg List.reverse h
  simpa using this
theorem rev2 {l r : List Int} {x y : Int} (h : l.reverse = y :: x :: r) : l = r.reverse ++ [x, y] := by
  have := congrArg List.reverse h
  simpa using this
theorem si_of {x : Int} (h : i32r x) : si (BitVec.ofInt 32 x) = x := by
  obtain ⟨v, rfl⟩ := si_any x h
  simp [si]
section
variable {c : Nat → Nat} {w : World} {mb rb mp tb : Nat} {tv : Value} {X : McM} {M : RmM} {Ps : List PI} {I : ImgM} {F : FrM} {Fs Fs' : List FrM} {fl' : List (List Int)} {st : Int}
def doAt (c : Nat → Nat) (w : World) (mb rb mp tb : Nat) (X : McM) (M : RmM) (Ps : List PI) (I : ImgM) (i : InsM) (st : Int) (Fs' : List FrM) (fl' : List (List Int)) : Prop :=
  Calls Tryz.prog 41 #[.pointer (some ⟨mb, 0, none⟩), .agg #[.int .i64 i.op, .int .i64 i.a, .int .i64 i.b]] w fun e w' => e = .returned (.int .i64 st) ∧ ∃ c' tv', Ext TD c w c' w' ∧ Mc c' w' mb rb mp tb tv' (X.withFs Fs') (M.withF fl') Ps I
set_option maxRecDepth 100000 in
set_option maxHeartbeats 1000000 in
theorem insPlain (h : Mc c w mb rb mp tb tv X M Ps I) (hX : X.Fs = F :: Fs) (ho : pOk F) {i : InsM} (hp : pIns I F Fs M.fields i = some (st, Fs', fl')) : doAt c w mb rb mp tb X M Ps I i st Fs' fl' := by
  obtain ⟨p0, p1, p2, m0, m1, ap, sl⟩ := ho
  have hpc : 0 ≤ F.pc ∧ F.pc ≤ 1000000 := by omega
  have hsr : ∀ x ∈ F.stk, i32r x := by
    obtain ⟨fb, cv, p, l, k, lv, sv, rfl, hf, hr⟩ := h.top hX
    exact hf.sr
  obtain ⟨op, a, b⟩ := i
  unfold doAt
  simp only [pIns] at hp ⊢
  by_cases h1 : op = 1
  · subst h1
    simp only [if_true, Option.some.injEq, Prod.mk.injEq] at hp
    obtain ⟨rfl, rfl, rfl⟩ := hp
    exact dPush h hX hpc a b sl
  rw [if_neg h1] at hp
  by_cases h2 : op = 2
  · subst h2
    rw [if_pos rfl] at hp
    split at hp
    · rename_i hc
      simp only [if_true, Option.some.injEq, Prod.mk.injEq] at hp
      obtain ⟨rfl, rfl, rfl⟩ := hp
      have := dLoad h hX hpc (j := a.toNat) b a (by omega) hc.2 sl
      exact this
    · simp at hp
  rw [if_neg h2] at hp
  by_cases h3 : op = 3
  · subst h3
    rw [if_pos rfl] at hp
    split at hp
    · rename_i x r hr
      split at hp
      · rename_i hc
        simp only [if_true, Option.some.injEq, Prod.mk.injEq] at hp
        obtain ⟨rfl, rfl, rfl⟩ := hp
        exact dStore h hX hpc (j := a.toNat) b a (by omega) hc.2 (rev1 hr)
      · simp at hp
    · simp at hp
  rw [if_neg h3] at hp
  by_cases h4 : 6 ≤ op ∧ op ≤ 14 ∨ 19 ≤ op ∧ op ≤ 21
  · rw [if_pos h4] at hp
    split at hp
    · rename_i y x r hr
      simp only [if_true, Option.some.injEq, Prod.mk.injEq] at hp
      obtain ⟨rfl, rfl, rfl⟩ := hp
      have hs := rev2 hr
      have hx : si (BitVec.ofInt 32 x) = x := si_of (hsr x (by rw [hs]; simp))
      have hy : si (BitVec.ofInt 32 y) = y := si_of (hsr y (by rw [hs]; simp))
      rw [← hx, ← hy] at hs
      have ho : op = 6 ∨ op = 7 ∨ op = 8 ∨ op = 9 ∨ op = 10 ∨ op = 11 ∨ op = 12 ∨ op = 13 ∨ op = 14 ∨ op = 19 ∨ op = 20 ∨ op = 21 := by omega
      unfold binI
      rcases ho with rfl | rfl | rfl | rfl | rfl | rfl | rfl | rfl | rfl | rfl | rfl | rfl
      · exact dBin6 h hX hpc _ _ a b hs sl
      · exact dBin7 h hX hpc _ _ a b hs sl
      · exact dBin8 h hX hpc _ _ a b hs sl
      · exact dBin9 h hX hpc _ _ a b hs sl
      · exact dBin10 h hX hpc _ _ a b hs sl
      · exact dBin11 h hX hpc _ _ a b hs sl
      · exact dBin12 h hX hpc _ _ a b hs sl
      · exact dBin13 h hX hpc _ _ a b hs sl
      · exact dBin14 h hX hpc _ _ a b hs sl
      · exact dBin19 h hX hpc _ _ a b hs sl
      · exact dBin20 h hX hpc _ _ a b hs sl
      · exact dBin21 h hX hpc _ _ a b hs sl
    · simp at hp
  rw [if_neg h4] at hp
  by_cases h5 : op = 17
  · subst h5
    rw [if_pos rfl] at hp
    split at hp
    · rename_i y x r hr
      split at hp
      · rename_i hy
        subst hy
        simp only [if_true, Option.some.injEq, Prod.mk.injEq] at hp
        obtain ⟨rfl, rfl, rfl⟩ := hp
        have hs := rev2 hr
        have hx : si (BitVec.ofInt 32 x) = x := si_of (hsr x (by rw [hs]; simp))
        rw [← hx] at hs
        exact dDiv0 h hX hpc (BitVec.ofInt 32 x) a b hs
      · simp at hp
    · simp at hp
  rw [if_neg h5] at hp
  by_cases h6 : op = 23
  · subst h6
    rw [if_pos rfl] at hp
    simp only [if_true, Option.some.injEq, Prod.mk.injEq] at hp
    obtain ⟨rfl, rfl, rfl⟩ := hp
    exact dJump h hX hpc b a
  rw [if_neg h6] at hp
  by_cases h7 : op = 24
  · subst h7
    rw [if_pos rfl] at hp
    split at hp
    · rename_i x r hr
      split at hp
      · rename_i hx
        subst hx
        simp only [if_true, Option.some.injEq, Prod.mk.injEq] at hp
        obtain ⟨rfl, rfl, rfl⟩ := hp
        exact dJumpIf0 h hX hpc a b (rev1 hr)
      · rename_i hx
        simp only [if_true, Option.some.injEq, Prod.mk.injEq] at hp
        obtain ⟨rfl, rfl, rfl⟩ := hp
        exact dJumpIf1 h hX hpc a b (rev1 hr) hx
    · simp at hp
  rw [if_neg h7] at hp
  by_cases h8 : op = 34
  · subst h8
    rw [if_pos rfl] at hp
    split at hp
    · rename_i x r hr
      split at hp
      · rename_i hc
        simp only [if_true, Option.some.injEq, Prod.mk.injEq] at hp
        obtain ⟨rfl, rfl, rfl⟩ := hp
        have := dPutF h hX hpc (q := a.toNat) b (rev1 hr) ap hc.2.1 hc.2.2
        rw [show ((a.toNat : Nat) : Int) = a by omega] at this
        exact this
      · simp at hp
    · simp at hp
  rw [if_neg h8] at hp
  by_cases h9 : op = 37
  · subst h9
    rw [if_pos rfl] at hp
    by_cases ha : 0 ≤ a
    · rw [if_pos ha] at hp
      have hj : ((a.toNat : Nat) : Int) = a := by omega
      by_cases hd : Fs.length + 1 = 8
      · rw [if_pos hd] at hp
        simp only [if_true, Option.some.injEq, Prod.mk.injEq] at hp
        obtain ⟨rfl, rfl, rfl⟩ := hp
        have := dCallDeep h hX hpc b (j := a.toNat) ap (by rw [hX]; exact hd)
        rw [hj] at this
        exact this
      · rw [if_neg hd] at hp
        split at hp
        · rename_i hc
          simp only [if_true, Option.some.injEq, Prod.mk.injEq] at hp
          obtain ⟨rfl, rfl, rfl⟩ := hp
          have := dCall h hX hpc b (j := a.toNat) ap (by rw [hX]; exact hc.1) hc.2.1 hc.2.2.1 (L := F.stk.take (F.stk.length - npar I a.toNat)) (A := F.stk.drop (F.stk.length - npar I a.toNat)) (List.take_append_drop _ _).symm (by rw [List.length_drop]; have := hc.2.2.2; show F.stk.length - (F.stk.length - npar I a.toNat) = npar I a.toNat; omega)
          rw [hj] at this
          exact this
        · simp at hp
    · rw [if_neg ha] at hp
      simp at hp
  rw [if_neg h9] at hp
  by_cases hA : op = 39
  · subst hA
    rw [if_pos rfl] at hp
    split at hp
    · simp only [if_true, Option.some.injEq, Prod.mk.injEq] at hp
      obtain ⟨rfl, rfl, rfl⟩ := hp
      exact dRetFirst h hX hpc a b rfl
    · rename_i H Hs
      split at hp
      · rename_i h0
        simp only [if_true, Option.some.injEq, Prod.mk.injEq] at hp
        obtain ⟨rfl, rfl, rfl⟩ := hp
        exact dRet0 h hX hpc a b rfl h0
      · rename_i h0
        split at hp
        · rename_i x r hr
          split at hp
          · rename_i hl
            simp only [if_true, Option.some.injEq, Prod.mk.injEq] at hp
            obtain ⟨rfl, rfl, rfl⟩ := hp
            exact dRet1 h hX hpc a b rfl h0 (rev1 hr) hl
          · simp at hp
        · simp at hp
  rw [if_neg hA] at hp
  simp at hp
end
end Go.Proofs.YtdmadfahgkikkaaGreat
/- Package interp: a plain step, a plain run. -/
namespace Go.Proofs.YtdmadfahgkikkaaGreat
open Go.RowKit Go.Lib Go.ChangeShapes Go.WideShapes Go.Deep Go.MapKept Go.ChangeMaps
set_option linter.unusedVariables false
set_option linter.unusedSimpArgs false

def pStep (I : ImgM) (X : McM) (fl : List (List Int)) : Option (McM × List (List Int)) :=
  if X.fuel = 0 then some (X.ended 28423, fl)
  else if 0 < X.fuel ∧ X.fuel ≤ 1000000000 then (match X.Fs with
    | F :: Fs => if pOk F then (match pIns I F Fs fl (F.m.code.getD F.pc.toNat default) with
      | some (st, Fs', fl') => some (X.step F (F.m.code.getD F.pc.toNat default).op st Fs', fl')
      | none => none) else none
    | [] => none)
  else none
def pRun (I : ImgM) : Nat → McM → List (List Int) → Option (McM × List (List Int))
  | 0, _, _ => none
  | n + 1, X, fl => match pStep I X fl with
    | some (X', fl') => if X'.status = 0 then pRun I n X' fl' else some (X', fl')
    | none => none
section
variable {c : Nat → Nat} {w : World} {mb rb mp tb : Nat} {tv : Value} {X X' : McM} {M M' : RmM} {Ps : List PI} {I : ImgM} {F : FrM} {Fs Fs' : List FrM} {fl' : List (List Int)}
set_option maxRecDepth 100000 in
set_option maxHeartbeats 4000000 in
theorem mStep0 (h : Mc c w mb rb mp tb tv X M Ps I) (hs0 : X.status = 0) (hfu : X.fuel = 0) :
    Calls Tryz.prog 31 #[.pointer (some ⟨mb, 0, none⟩)] w fun e w' => e = .returned (.int .i64 28423) ∧ ∃ c', Ext TD c w c' w' ∧ Mc c' w' mb rb mp tb tv (X.ended 28423) M Ps I := by
  obtain ⟨-, -, m2, m3, m4, m5, mf⟩ := h.bx
  rw [hs0] at m4
  rw [hfu] at m3
  have HE := Lib.hid (mEndB h 28423)
  clear h hs0 hfu mf m2 m5
  go_enter Tryz.func31, Tryz.ntmps31
  go_wp2_with fail
  refine HE.out.mono ?_
  rintro e w1 ⟨rfl, c1, hx, hm⟩
  obtain ⟨-, -, -, -, z4, -, -⟩ := hm.bx
  rw [show (X.ended 28423).status = 28423 from rfl] at z4
  have HX := Lib.hid (hx.mono (T' := TD) (fun i hi => by simp only [T107] at hi; simp only [TD]; omega))
  have HM := Lib.hid hm
  clear hx hm m3 m4
  go_wp2_with fail
  go_ret
  exact ⟨rfl, c1, HX.out, HM.out⟩
theorem mStepP (h : Mc c w mb rb mp tb tv X M Ps I) (hs0 : X.status = 0) (hp : pStep I X M.fields = some (X', fl')) :
    (Calls Tryz.prog 31 #[.pointer (some ⟨mb, 0, none⟩)] w fun e w' => e = .returned (.int .i64 X'.status) ∧ ∃ c' tv', Ext TD c w c' w' ∧ Mc c' w' mb rb mp tb tv' X' (M.withF fl') Ps I) ∧ (X'.status = 0 → 0 < X.fuel ∧ X'.fuel = X.fuel - 1) := by
  unfold pStep at hp
  by_cases hf : X.fuel = 0
  · rw [if_pos hf] at hp
    simp only [Option.some.injEq, Prod.mk.injEq] at hp
    obtain ⟨rfl, rfl⟩ := hp
    refine ⟨(mStep0 h hs0 hf).mono ?_, fun h => absurd (show (28423 : Int) = 0 from h) (by decide)⟩
    rintro e w' ⟨rfl, c', hx, hm⟩
    exact ⟨rfl, c', tv, hx, hm⟩
  rw [if_neg hf] at hp
  split at hp
  · rename_i hfu
    split at hp
    · rename_i F Fs hX
      split at hp
      · rename_i ho
        split at hp
        · rename_i st Fs' fl'' hi
          simp only [Option.some.injEq, Prod.mk.injEq] at hp
          obtain ⟨rfl, rfl⟩ := hp
          have ho' := ho
          obtain ⟨p0, p1, p2, m0, m1, -, -⟩ := ho
          refine ⟨(mStep h hX hs0 hfu (j := F.pc.toNat) (by omega) p1 p2 ⟨m0, m1⟩ rfl (fun c w X1 h1 hX1 => insPlain h1 (hX1.trans hX) ho' hi)).mono ?_, fun h0 => ⟨hfu.1, ?_⟩⟩
          · rintro e w' ⟨rfl, hr⟩
            refine ⟨?_, hr⟩
            congr 2
            unfold McM.step
            split
            · rename_i h0
              rw [h0, hs0]
            · rfl
          · unfold McM.step
            split <;> rfl
        · simp at hp
      · simp at hp
    · simp at hp
  · simp at hp
def fuelAt (w : World) (mb : Nat) : Nat := match w.cell? ⟨mb, 3, none⟩ with
  | some v => (intOf v).toNat
  | none => 0
set_option maxRecDepth 100000 in
set_option maxHeartbeats 4000000 in
theorem mRun (h : Mc c w mb rb mp tb tv X M Ps I) (hs0 : X.status = 0) {n : Nat} (hp : pRun I n X M.fields = some (X', fl')) :
    Calls Tryz.prog 21 #[.pointer (some ⟨mb, 0, none⟩)] w fun e w' => e = .returned (.int .i64 X'.status) ∧ ∃ c' tv', Ext TD c w c' w' ∧ Mc c' w' mb rb mp tb tv' X' (M.withF fl') Ps I := by
  have HH := Lib.hid h
  have HP := Lib.hid hp
  have HS := Lib.hid hs0
  clear h hp hs0
  go_enter Tryz.func21, Tryz.ntmps21
  go_wp2_with fail
  go_loopw [5] (fun _ wr => ∃ (k : Nat) (c' : Nat → Nat) (tv' : Value) (Y : McM) (fl : List (List Int)), Hid (Ext TD c w c' wr ∧ Mc c' wr mb rb mp tb tv' Y (M.withF fl) Ps I ∧ pRun I k Y fl = some (X', fl') ∧ Y.status = 0)) (fun _ wr => fuelAt wr mb)
  case atStart => exact ⟨n, c, tv, X, M.fields, Lib.hid ⟨Ext.quietT _ c (Upd.refl _ _), HH.out, HP.out, HS.out⟩⟩
  case round =>
    obtain ⟨k, c1, tv1, Y, fl, H⟩ := hrel
    cases k with
    | zero => have h1 := H.out.2.2.1; simp [pRun] at h1
    | succ k =>
      have hr := H.out.2.2.1
      unfold pRun at hr
      split at hr
      · rename_i Y' fl1 hs
        obtain ⟨hS, hF⟩ := mStepP H.out.2.1 H.out.2.2.2 hs
        have HS1 := Lib.hid hS
        have HFu := Lib.hid hF
        have HR := Lib.hid hr
        clear hS hF hr hs
        by_cases h0 : Y'.status = 0
        · have HO := Lib.hid h0
          clear h0
          go_wp2_with fail
          refine HS1.out.mono ?_
          rintro e w2 ⟨rfl, c2, tv2, hx, hm⟩
          have hf1 := (HFu.out HO.out)
          have hc1 := H.out.2.1.bx.2.2.2.1
          have hc2 := hm.bx.2.2.2.1
          have HMS := Lib.hid (show fuelAt w2 mb < fuelAt wr mb by
            unfold fuelAt
            rw [hc1, hc2]
            simp only [intOf]
            omega)
          have HNX := Lib.hid (show ∃ (k : Nat) (c' : Nat → Nat) (tv' : Value) (Y : McM) (fl : List (List Int)), Hid (Ext TD c w c' w2 ∧ Mc c' w2 mb rb mp tb tv' Y (M.withF fl) Ps I ∧ pRun I k Y fl = some (X', fl') ∧ Y.status = 0) from ⟨k, c2, tv2, Y', fl1, Lib.hid ⟨H.out.1.trans hx (fun _ h => h), hm, by have := HR.out; rw [if_pos HO.out] at this; exact this, HO.out⟩⟩)
          rw [HO.out]
          clear hf1 hc1 hc2 hx hm
          go_wp2_with fail
          go_roundw
          case rel => exact HNX.out
          case measure => exact HMS.out
        · have t1 : (Y'.status == 0) = false := by simpa using h0
          have HO := Lib.hid h0
          clear h0
          go_wp2_with fail
          refine HS1.out.mono ?_
          rintro e w2 ⟨rfl, c2, tv2, hx, hm⟩
          obtain ⟨-, -, -, -, z4, -, -⟩ := hm.bx
          have hrr := HR.out
          rw [if_neg HO.out] at hrr
          simp only [Option.some.injEq, Prod.mk.injEq] at hrr
          obtain ⟨rfl, rfl⟩ := hrr
          have HX2 := Lib.hid (H.out.1.trans hx (fun _ h => h))
          have HM2 := Lib.hid hm
          clear hx hm
          go_wp2_with fail
          go_ret
          exact ⟨rfl, c2, tv2, HX2.out, HM2.out⟩
      · simp at hr
end
end Go.Proofs.YtdmadfahgkikkaaGreat
/- Package interp: a machine is made; what it tells. -/
namespace Go.Proofs.YtdmadfahgkikkaaGreat
open Go.RowKit Go.Lib Go.ChangeShapes Go.WideShapes Go.Deep Go.MapKept Go.ChangeMaps
set_option linter.unusedVariables false
set_option linter.unusedSimpArgs false

def TN (i : Nat) : Prop := i = 7 ∨ i = 10 ∨ i = 11
section
variable {c : Nat → Nat} {w : World} {mb rb mp tb : Nat} {tv : Value} {X X' : McM} {M M' : RmM} {Ps : List PI} {I : ImgM} {F : FrM} {Fs Fs' : List FrM} {fl' : List (List Int)}
theorem mStatus (h : Mc c w mb rb mp tb tv X M Ps I) : Calls Tryz.prog 13 #[.pointer (some ⟨mb, 0, none⟩)] w fun e w' => e = .returned (.int .i64 X.status) ∧ w = w' := by
  obtain ⟨-, -, m2, m3, m4, m5, mf⟩ := h.bx
  clear h
  go_enter Tryz.func13, Tryz.ntmps13
  go_wp2_with fail
  go_ret
  exact ⟨rfl, rfl⟩
theorem mFuel (h : Mc c w mb rb mp tb tv X M Ps I) : Calls Tryz.prog 14 #[.pointer (some ⟨mb, 0, none⟩)] w fun e w' => e = .returned (.int .i64 X.fuel) ∧ w = w' := by
  obtain ⟨-, -, m2, m3, m4, m5, mf⟩ := h.bx
  clear h
  go_enter Tryz.func14, Tryz.ntmps14
  go_wp2_with fail
  go_ret
  exact ⟨rfl, rfl⟩
theorem mTrace (h : Mc c w mb rb mp tb tv X M Ps I) : Calls Tryz.prog 11 #[.pointer (some ⟨mb, 0, none⟩)] w fun e w' => e = .returned (.pointer (some ⟨tb, 0, none⟩)) ∧ w = w' := by
  obtain ⟨-, -, m2, m3, m4, m5, mf⟩ := h.bx
  clear h
  go_enter Tryz.func11, Tryz.ntmps11
  go_wp2_with fail
  go_ret
  exact ⟨rfl, rfl⟩
theorem mTop_end (h : Mc c w mb rb mp tb tv X M Ps I) (hs : X.status ≠ 0) : Calls Tryz.prog 9 #[.pointer (some ⟨mb, 0, none⟩)] w fun e w' => e = .returned (.tuple #[.int .i64 (-1), .int .i64 (-1), .int .i64 (-1), .slice none 0 0]) ∧ w = w' := by
  obtain ⟨-, -, m2, m3, m4, m5, mf⟩ := h.bx
  have t1 : (X.status == 0) = false := by simpa using hs
  clear h hs
  go_enter Tryz.func9, Tryz.ntmps9
  go_wp2_with fail
  refine bodyPost_ret (v := .tuple #[.int .i64 (-1), .int .i64 (-1), .int .i64 (-1), .slice none 0 0]) (by simp only [results, Tryz.f9]; simp [go_sem]) rfl ?_
  exact ⟨rfl, rfl⟩
theorem iNew_nil (a n : Int) (w : World) : Calls Tryz.prog 6 #[.pointer none, .int .i64 a, .int .i64 n] w fun e w' => e = .returned (.tuple #[.pointer none, .int .i64 1]) ∧ w = w' := by
  go_enter Tryz.func6, Tryz.ntmps6
  go_wp2_with fail
  go_ret2
  exact ⟨rfl, rfl⟩
theorem iNew_app (h : Rm c w rb M) (a n : Int) (h0 : 0 ≤ a) (ha : (M.fields.length : Int) ≤ a) : Calls Tryz.prog 6 #[.pointer (some ⟨rb, 0, none⟩), .int .i64 a, .int .i64 n] w fun e w' => e = .returned (.tuple #[.pointer none, .int .i64 1]) ∧ w = w' := by
  have HC := Lib.hid (rCount h)
  have t1 : decide (a < 0) = false := by simp; omega
  have t2 : decide ((M.fields.length : Int) ≤ a) = true := by simp; omega
  clear h h0 ha
  go_enter Tryz.func6, Tryz.ntmps6
  go_wp2_with fail
  refine HC.out.mono ?_
  rintro e w' ⟨rfl, rfl⟩
  go_wp2_with fail
  go_ret2
  exact ⟨rfl, rfl⟩
theorem iNew_fuel (h : Rm c w rb M) (a n : Int) (h0 : 0 ≤ a) (ha : a < (M.fields.length : Int)) (hn : 100000 < n) : Calls Tryz.prog 6 #[.pointer (some ⟨rb, 0, none⟩), .int .i64 a, .int .i64 n] w fun e w' => e = .returned (.tuple #[.pointer none, .int .i64 1]) ∧ w = w' := by
  have HC := Lib.hid (rCount h)
  have t1 : decide (a < 0) = false := by simp; omega
  have t2 : decide ((M.fields.length : Int) ≤ a) = false := by simp; omega
  have t3 : decide (n < 0) = false := by simp; omega
  have t4 : decide (100000 < n) = true := by simp; omega
  clear h h0 ha hn
  go_enter Tryz.func6, Tryz.ntmps6
  go_wp2_with fail
  refine HC.out.mono ?_
  rintro e w' ⟨rfl, rfl⟩
  go_wp2_with fail
  go_ret2
  exact ⟨rfl, rfl⟩
set_option maxRecDepth 100000 in
set_option maxHeartbeats 4000000 in
theorem iNew (h : RmI c w rb M Ps) (ho : ∃ P, Ps = [P] ∧ P.1 = I ∧ ImgS I) (n : Int) (hn : 0 ≤ n ∧ n ≤ 100000) (hj : 0 < I.methods.length) (hl : (I.methods.getD 0 default).params.length + (I.methods.getD 0 default).locals.length ≤ 1000) :
    Calls Tryz.prog 6 #[.pointer (some ⟨rb, 0, none⟩), .int .i64 0, .int .i64 n] w fun e w' => ∃ mb mp tb c' tv, e = .returned (.tuple #[.pointer (some ⟨mb, 0, none⟩), .int .i64 0]) ∧ Ext TN c w c' w' ∧ Mc c' w' mb rb mp tb tv ⟨[newF I 0], n, 0, []⟩ M Ps I := by
  have HC := Lib.hid (rCount h.rm)
  have HH := Lib.hid h
  have HO := Lib.hid ho
  have hfl : (M.fields.length : Int) = 1 := by
    obtain ⟨P, rfl, -, -⟩ := ho
    have h1 : 1 = M.fields.length := h.2.2.1
    omega
  rw [hfl] at HC
  have km : (Instr.makeMap MpT none).run Tryz.prog w = .ok (.map (some w.heap.size)) (w.alloc (.map #[] 0)) := rfl
  have t3 : decide (n < 0) = false := by simp; omega
  have t4 : decide (100000 < n) = false := by simp; omega
  have HN := Lib.hid hn
  clear h hn hfl ho
  go_enter Tryz.func6, Tryz.ntmps6
  go_wp2_with fail
  refine HC.out.mono ?_
  rintro e w' ⟨rfl, rfl⟩
  go_wp2_with fail
  obtain ⟨w1, hw1⟩ : ∃ w1, w1 = w.alloc (.map #[] 0) := ⟨_, rfl⟩
  rw [← hw1]
  have hu1 : Upd (fun _ => False) w w1 := by rw [hw1]; exact Upd.alloc _ _ _
  have HMP := Lib.hid (show MapOk (paint c w 11) w1 w.heap.size I from ⟨paint_new c w 11 (Nat.le_refl _), 0, .map [], by rw [hw1]; exact World.ownsMap_made _ _ _ _, .inl ⟨rfl, fun zd => rfl⟩⟩)
  have HE1 := Lib.hid (Ext.made (c := c) None0 11 hu1)
  clear km hw1 hu1
  generalize paint c w 11 = c1 at *
  refine (tNew w1).mono ?_
  rintro e w2 ⟨tb, rfl, ht, hu⟩
  have HT2 := Lib.hid (show Trc (Col (paint c1 w1 7) w2 7) w2 tb [] from trc_of ht (fun k hk => ⟨paint_new _ _ _ hk.1, hk.2⟩))
  have E2 : Ext None0 c1 w1 (paint c1 w1 7) w2 := Ext.made None0 7 hu
  have HE2 := Lib.hid (HE1.out.trans E2 (fun _ h => h))
  have HM2 := Lib.hid (HMP.out.ext E2 (fun h => h) (fun h => h))
  clear ht hu E2
  generalize paint c1 w1 7 = c2 at *
  go_wp2_with fail
  obtain ⟨w3, hw3⟩ : ∃ w3, w3 = w2.alloc (.cells #[.pointer (some ⟨rb, 0, none⟩), .map (some w.heap.size), .pointer none, .int .i64 n, .int .i64 0, .pointer (some ⟨tb, 0, none⟩)] McT) := ⟨_, rfl⟩
  rw [← hw3]
  have hu3 : Upd (fun _ => False) w2 w3 := by rw [hw3]; exact Upd.alloc _ _ _
  have E3 : Ext None0 c2 w2 (paint c2 w2 10) w3 := Ext.made None0 10 hu3
  have HE3 := Lib.hid (HE2.out.trans E3 (fun _ h => h))
  have HM3 := Lib.hid (show Mc (paint c2 w2 10) w3 w2.heap.size rb w.heap.size tb (.pointer none) ⟨[], n, 0, []⟩ M Ps I from ⟨by rw [hw3]; exact hpTop w2 _ _ rfl, rfl, E3.trc HT2.out (fun h => h), paint_new _ _ _ (Nat.le_refl _), HM2.out.ext E3 (fun h => h) (fun h => h), HH.out.ext HE3.out (fun _ _ h => h) (fun h => h), HO.out, by show 0 ≤ 8; omega⟩)
  clear hw3 hu3 E3
  generalize paint c2 w2 10 = c3 at *
  refine (mPush HM3.out (by show 0 < 8; omega) (j := 0) hj hl).mono ?_
  rintro e w4 ⟨rfl, c4, tv4, hx4, hm4, -⟩
  have HE4 := Lib.hid ((HE3.out.mono (T' := TN) (fun _ h => h.elim)).trans (hx4.mono (T' := TN) (fun i hi => by simp only [TP10] at hi; simp only [TN]; omega)) (fun _ h => h))
  have HM4 := Lib.hid hm4
  clear hx4 hm4
  go_wp2_with fail
  go_ret2
  exact ⟨_, _, _, _, _, rfl, HE4.out, HM4.out⟩
end
end Go.Proofs.YtdmadfahgkikkaaGreat

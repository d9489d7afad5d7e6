/- Package interp: an instruction is done. -/
import Derived.Test.YtdmadfahgkikkaaGreatJhk
namespace Go.Proofs.YtdmadfahgkikkaaGreat
open Go.RowKit Go.Lib Go.ChangeShapes Go.WideShapes Go.Deep Go.MapKept Go.ChangeMaps
set_option linter.unusedVariables false
set_option linter.unusedSimpArgs false

/-- what an instruction may turn: nothing of the law's own, no image's list -/
def TD (i : Nat) : Prop := i ≠ 0 ∧ i ≠ 8 ∧ i ≠ 9
section
variable {c : Nat → Nat} {w : World} {mb rb mp tb : Nat} {tv : Value} {X : McM} {M : RmM} {Ps : List PI} {I : ImgM} {F : FrM} {Fs : List FrM}
/-- the pc is one more, and the instruction lies in a box: where every instruction begins -/
theorem dHead (h : Mc c w mb rb mp tb tv X M Ps I) (hX : X.Fs = F :: Fs) (op a b : Int) : ∃ fb cv p l k lv sv, tv = .pointer (some ⟨fb, 0, none⟩) ∧ w.cell? ⟨mb, 2, none⟩ = some (.pointer (some ⟨fb, 0, none⟩)) ∧ w.cell? ⟨mb, 0, none⟩ = some (.pointer (some ⟨rb, 0, none⟩)) ∧ w.cell? ⟨fb, 1, none⟩ = some (.int .i64 F.app) ∧ w.cell? ⟨fb, 3, none⟩ = some (.int .i64 F.pc) ∧ w.frozen? ⟨fb, 3, none⟩ = false ∧ fb ≠ mb ∧ fb < w.heap.size ∧ mb < w.heap.size ∧
    ∀ (n : Int) (w2 : World), w2 = (w.setCell ⟨fb, 3, none⟩ (.int .i64 n)).alloc (.cells #[.int .i64 op, .int .i64 a, .int .i64 b] 30) →
      Ext TD c w (paint c w 9) w2 ∧ Mc (paint c w 9) w2 mb rb mp tb tv (X.withFs (F.withPc n :: Fs)) M Ps I ∧ FrAt Fs.length (paint c w 9) w2 fb cv p l k lv sv (F.withPc n) ∧ FrL (paint c w 9) w2 cv Fs ∧
      w2.heap[w.heap.size]? = some (.cells #[.int .i64 op, .int .i64 a, .int .i64 b] 30 (0, 0)) ∧ paint c w 9 w.heap.size = 9 := by
  obtain ⟨fb, cv, p, l, k, lv, sv, rfl, hf, hr⟩ := h.top hX
  have hne : fb ≠ mb := fun e => by have h1 := hf.cb; rw [e, h.cb] at h1; omega
  refine ⟨fb, cv, p, l, k, lv, sv, rfl, h.bx.2.2.1, h.bx.1, hf.bx.2.1, hf.bx.2.2.2.1, hf.bx.2.2.2.2.2.2.2.2.2.2 3, hne, (Array.getElem?_eq_some_iff.1 hf.box).1, (Array.getElem?_eq_some_iff.1 h.box).1, fun n w2 hw2 => ?_⟩
  obtain ⟨E1, hf1⟩ := hf.setPc n
  have hd := h.dep
  rw [hX, List.length_cons] at hd
  have hr1 : FrL c (w.setCell ⟨fb, 3, none⟩ (.int .i64 n)) cv Fs := FrL.ext E1 (by simp only [FB1]; omega) hr (fun i h1 h2 => by simp only [FB1]; omega)
  have h1 := h.turnTop hX hr E1 hf1 (fun i hi => .inl hi)
  have hu2 : Upd (fun _ => False) (w.setCell ⟨fb, 3, none⟩ (.int .i64 n)) w2 := by rw [hw2]; exact Upd.alloc _ _ _
  have hsz : (w.setCell ⟨fb, 3, none⟩ (.int .i64 n)).heap.size = w.heap.size := by simp [World.setCell]
  have hp : ∀ q, paint c (w.setCell ⟨fb, 3, none⟩ (.int .i64 n)) 9 q = paint c w 9 q := fun q => by simp only [paint, hsz]
  have hpp : paint c (w.setCell ⟨fb, 3, none⟩ (.int .i64 n)) 9 = paint c w 9 := funext hp
  have E2 : Ext None0 c (w.setCell ⟨fb, 3, none⟩ (.int .i64 n)) (paint c w 9) w2 := by rw [← hpp]; exact Ext.made None0 9 hu2
  refine ⟨(E1.mono (fun i hi => by simp only [FB1] at hi; simp only [TD]; omega)).trans E2 (fun _ h => h.elim), h1.ext E2 (fun _ _ h => h), hf1.ext E2 (fun h => h) (fun _ _ h => h), FrL.ext E2 (fun h => h) hr1 (fun _ _ _ h => h), by rw [hw2]; exact hpTop _ _ _ hsz.symm, paint_new c w 9 (Nat.le_refl _)⟩
theorem twice (w : World) (b q : Nat) (u v : Value) : (w.setCell ⟨b, q, none⟩ u).setCell ⟨b, q, none⟩ v = w.setCell ⟨b, q, none⟩ v := by
  unfold World.setCell
  simp only [World.mk.injEq, and_true, true_and]
  refine Array.ext (by simp) fun i h1 h2 => ?_
  simp only [Array.getElem_modify]
  by_cases hbi : b = i
  · simp only [hbi, if_true]
    have hi : i < w.heap.size := by simpa using h2
    cases hw : w.heap[i]'hi <;> simp
  · simp [hbi]
set_option maxRecDepth 100000 in
set_option maxHeartbeats 4000000 in
theorem dPush (h : Mc c w mb rb mp tb tv X M Ps I) (hX : X.Fs = F :: Fs) (hpc : 0 ≤ F.pc ∧ F.pc ≤ 1000000) (a b : Int) (hl : F.stk.length < 1000000) :
    Calls Tryz.prog 41 #[.pointer (some ⟨mb, 0, none⟩), .agg #[.int .i64 1, .int .i64 a, .int .i64 b]] w fun e w' => e = .returned (.int .i64 0) ∧ ∃ c' tv', Ext TD c w c' w' ∧ Mc c' w' mb rb mp tb tv' (X.withFs ((F.withPc (F.pc + 1)).withStk (F.stk ++ [wrap32 a]) :: Fs)) M Ps I := by
  obtain ⟨fb, cv, p, l, k, lv, sv, rfl, b2, b0, k1, k3, f3, hne, hfl, hml, hw⟩ := dHead h hX 1 a b
  obtain ⟨w2, hw2⟩ : ∃ w2, w2 = (w.setCell ⟨fb, 3, none⟩ (.int .i64 (F.pc + 1))).alloc (.cells #[.int .i64 1, .int .i64 a, .int .i64 b] 30) := ⟨_, rfl⟩
  obtain ⟨E2, h2, hf2, hr2, hq2, h9⟩ := hw (F.pc + 1) w2 hw2
  have hwr : IntKind.i64.wrap (F.pc + 1) = F.pc + 1 := IntWalk.i64_in _ (by omega)
  have HE2 := Lib.hid E2
  have H2 := Lib.hid h2
  have HF2 := Lib.hid hf2
  have HR2 := Lib.hid hr2
  have HQ2 := Lib.hid hq2
  have H9 := Lib.hid h9
  have HW2 := Lib.hid hw2
  have HX := Lib.hid hX
  have HDEP := Lib.hid h.dep
  have HRM := Lib.hid h.rm
  have HPU := Lib.hid (fPush hf2 (wrap32 a) (by simp only [i32r, wrap32]; omega) hl)
  obtain ⟨-, y1, -, -⟩ := three hq2
  rw [hw2] at y1
  clear h hX E2 h2 hf2 hr2 hq2 h9 hw hw2
  go_enter Tryz.func41, Tryz.ntmps41
  go_wp2_with fail
  rw [← HW2.out]
  refine HPU.out.mono ?_
  rintro e w3 ⟨rfl, c3, sv3, hx3, hf3⟩
  have HFI := Lib.hid (And.intro (hx3.mono (T' := TD) (fun i hi => by simp only [FBS] at hi; simp only [TD]; omega)) (H2.out.turnTop rfl HR2.out hx3 hf3 (fun i hi => by simp only [FBS] at hi; simp only [FT3]; omega)))
  clear hx3 hf3
  go_wp2_with fail
  go_ret
  exact ⟨rfl, _, _, HE2.out.trans HFI.out.1 (fun i hi => hi), HFI.out.2⟩
set_option maxRecDepth 100000 in
set_option maxHeartbeats 4000000 in
theorem dLoad (h : Mc c w mb rb mp tb tv X M Ps I) (hX : X.Fs = F :: Fs) (hpc : 0 ≤ F.pc ∧ F.pc ≤ 1000000) {j : Nat} (b : Int) (a : Int) (ha : a = (j : Int)) (hj : j < F.loc.length) (hl : F.stk.length < 1000000) :
    Calls Tryz.prog 41 #[.pointer (some ⟨mb, 0, none⟩), .agg #[.int .i64 2, .int .i64 a, .int .i64 b]] w fun e w' => e = .returned (.int .i64 0) ∧ ∃ c' tv', Ext TD c w c' w' ∧ Mc c' w' mb rb mp tb tv' (X.withFs ((F.withPc (F.pc + 1)).withStk (F.stk ++ [F.loc.getD j 0]) :: Fs)) M Ps I := by
  obtain ⟨fb, cv, p, l, k, lv, sv, rfl, b2, b0, k1, k3, f3, hne, hfl, hml, hw⟩ := dHead h hX 2 a b
  obtain ⟨w2, hw2⟩ : ∃ w2, w2 = (w.setCell ⟨fb, 3, none⟩ (.int .i64 (F.pc + 1))).alloc (.cells #[.int .i64 2, .int .i64 a, .int .i64 b] 30) := ⟨_, rfl⟩
  obtain ⟨E2, h2, hf2, hr2, hq2, h9⟩ := hw (F.pc + 1) w2 hw2
  have hwr : IntKind.i64.wrap (F.pc + 1) = F.pc + 1 := IntWalk.i64_in _ (by omega)
  have HE2 := Lib.hid E2
  have H2 := Lib.hid h2
  have HF2 := Lib.hid hf2
  have HR2 := Lib.hid hr2
  have HQ2 := Lib.hid hq2
  have H9 := Lib.hid h9
  have HW2 := Lib.hid hw2
  have HX := Lib.hid hX
  have HDEP := Lib.hid h.dep
  have HRM := Lib.hid h.rm
  obtain ⟨g, lc, -, c1, -, hcl⟩ := fLocal hf2 (j := j) hj
  rw [← ha] at hcl
  have HLO := Lib.hid hcl
  have HPU := Lib.hid (fPush hf2 (F.loc.getD j 0) (h.top hX |>.elim fun _ hh => by
    obtain ⟨_, _, _, _, _, _, -, hf, -⟩ := hh
    exact hf.lr _ (by simp [List.getD, hj])) hl)
  obtain ⟨-, y1, -, -⟩ := three hq2
  rw [hw2] at y1 c1
  have c1' : w2.cell? ⟨g, j, none⟩ = some (.int .i32 (F.loc.getD j 0)) := by rw [hw2]; exact c1
  clear hcl ha
  clear h hX E2 h2 hf2 hr2 hq2 h9 hw hw2
  go_enter Tryz.func41, Tryz.ntmps41
  go_wp2_with fail
  rw [← HW2.out]
  clear y1 c1
  refine HLO.out.mono ?_
  rintro e w' ⟨rfl, rfl⟩
  generalize hxx : F.loc.getD j 0 = x at *
  have HXX := Lib.hid hxx
  clear hxx
  go_wp2_with fail
  refine HPU.out.mono ?_
  rintro e w3 ⟨rfl, c3, sv3, hx3, hf3⟩
  have HFI := Lib.hid (And.intro (hx3.mono (T' := TD) (fun i hi => by simp only [FBS, FB1, FL1] at hi; simp only [TD]; omega)) (H2.out.turnTop rfl HR2.out hx3 hf3 (fun i hi => by simp only [FBS, FB1, FL1] at hi; simp only [FT3]; omega)))
  clear hx3 hf3
  go_wp2_with fail
  go_ret
  rw [HXX.out]
  exact ⟨rfl, _, _, HE2.out.trans HFI.out.1 (fun i hi => hi), HFI.out.2⟩
set_option maxRecDepth 100000 in
set_option maxHeartbeats 4000000 in
theorem dStore (h : Mc c w mb rb mp tb tv X M Ps I) (hX : X.Fs = F :: Fs) (hpc : 0 ≤ F.pc ∧ F.pc ≤ 1000000) {j : Nat} {L : List Int} {x : Int} (b : Int) (a : Int) (ha : a = (j : Int)) (hj : j < F.loc.length) (hs : F.stk = L ++ [x]) :
    Calls Tryz.prog 41 #[.pointer (some ⟨mb, 0, none⟩), .agg #[.int .i64 3, .int .i64 a, .int .i64 b]] w fun e w' => e = .returned (.int .i64 0) ∧ ∃ c' tv', Ext TD c w c' w' ∧ Mc c' w' mb rb mp tb tv' (X.withFs (((F.withPc (F.pc + 1)).withStk L).withLoc (F.loc.set j x) :: Fs)) M Ps I := by
  obtain ⟨fb, cv, p, l, k, lv, sv, rfl, b2, b0, k1, k3, f3, hne, hfl, hml, hw⟩ := dHead h hX 3 a b
  obtain ⟨w2, hw2⟩ : ∃ w2, w2 = (w.setCell ⟨fb, 3, none⟩ (.int .i64 (F.pc + 1))).alloc (.cells #[.int .i64 3, .int .i64 a, .int .i64 b] 30) := ⟨_, rfl⟩
  obtain ⟨E2, h2, hf2, hr2, hq2, h9⟩ := hw (F.pc + 1) w2 hw2
  have hwr : IntKind.i64.wrap (F.pc + 1) = F.pc + 1 := IntWalk.i64_in _ (by omega)
  have HE2 := Lib.hid E2
  have H2 := Lib.hid h2
  have HF2 := Lib.hid hf2
  have HR2 := Lib.hid hr2
  have HQ2 := Lib.hid hq2
  have H9 := Lib.hid h9
  have HW2 := Lib.hid hw2
  have HX := Lib.hid hX
  have HDEP := Lib.hid h.dep
  have HRM := Lib.hid h.rm
  obtain ⟨g, lc, hlv, -, -, hcl⟩ := fLocal hf2 (j := j) hj
  rw [← ha] at hcl
  have HLO := Lib.hid hcl
  have HLV := Lib.hid hlv
  have HPO := Lib.hid (fPop hf2 (L := L) (x := x) hs)
  have HXR : Hid (i32r x) := Lib.hid (h.top hX |>.elim fun _ hh => by
    obtain ⟨_, _, _, _, _, _, -, hf, -⟩ := hh
    exact hf.sr _ (by rw [hs]; simp))
  have HJ := Lib.hid hj
  obtain ⟨-, y1, -, -⟩ := three hq2
  rw [hw2] at y1
  clear hcl hlv hs ha
  clear h hX E2 h2 hf2 hr2 hq2 h9 hw hw2
  go_enter Tryz.func41, Tryz.ntmps41
  go_wp2_with fail
  rw [← HW2.out]
  clear y1
  refine HLO.out.mono ?_
  rintro e w' ⟨rfl, rfl⟩
  go_wp2_with fail
  refine HPO.out.mono ?_
  rintro e w3 ⟨rfl, c3, sv3, hx3, hf3⟩
  obtain ⟨g', lc', hlv', d1, d2, -⟩ := fLocal hf3 (j := j) HJ.out
  have hgg : g' = g := by have h1 := HLV.out; rw [hlv'] at h1; simp at h1; exact h1.1
  subst hgg
  have hst := hf3.setLoc hlv' j x HXR.out
  have hm3 := H2.out.turnTop rfl HR2.out hx3 hf3 (fun i hi => by simp only [FBS, FB1, FL1] at hi; simp only [FT3]; omega)
  have hdl := HDEP.out
  rw [HX.out, List.length_cons] at hdl
  have hm4 := hm3.turnTop rfl (FrL.ext hx3 (by simp only [FBS]; omega) HR2.out (fun i h1 h2 => by simp only [FBS]; omega)) hst.1 hst.2 (fun i hi => by simp only [FBS, FB1, FL1] at hi; simp only [FT3]; omega)
  have HFI := Lib.hid (And.intro ((hx3.mono (T' := TD) (fun i hi => by simp only [FBS, FB1, FL1] at hi; simp only [TD]; omega)).trans (hst.1.mono (T' := TD) (fun i hi => by simp only [FL1] at hi; simp only [TD]; omega)) (fun _ h => h)) hm4)
  clear hx3 hf3 hst hm3 hm4 hlv'
  go_wp2_with fail
  go_ret
  exact ⟨rfl, _, _, HE2.out.trans HFI.out.1 (fun i hi => hi), HFI.out.2⟩
set_option maxRecDepth 100000 in
set_option maxHeartbeats 4000000 in
theorem dJump (h : Mc c w mb rb mp tb tv X M Ps I) (hX : X.Fs = F :: Fs) (hpc : 0 ≤ F.pc ∧ F.pc ≤ 1000000) (b : Int) (a : Int) :
    Calls Tryz.prog 41 #[.pointer (some ⟨mb, 0, none⟩), .agg #[.int .i64 23, .int .i64 a, .int .i64 b]] w fun e w' => e = .returned (.int .i64 0) ∧ ∃ c' tv', Ext TD c w c' w' ∧ Mc c' w' mb rb mp tb tv' (X.withFs (F.withPc a :: Fs)) M Ps I := by
  obtain ⟨fb, cv, p, l, k, lv, sv, rfl, b2, b0, k1, k3, f3, hne, hfl, hml, hw⟩ := dHead h hX 23 a b
  obtain ⟨w2, hw2⟩ : ∃ w2, w2 = (w.setCell ⟨fb, 3, none⟩ (.int .i64 (F.pc + 1))).alloc (.cells #[.int .i64 23, .int .i64 a, .int .i64 b] 30) := ⟨_, rfl⟩
  obtain ⟨E2, h2, hf2, hr2, hq2, h9⟩ := hw (F.pc + 1) w2 hw2
  have hwr : IntKind.i64.wrap (F.pc + 1) = F.pc + 1 := IntWalk.i64_in _ (by omega)
  have HE2 := Lib.hid E2
  have H2 := Lib.hid h2
  have HF2 := Lib.hid hf2
  have HR2 := Lib.hid hr2
  have HQ2 := Lib.hid hq2
  have H9 := Lib.hid h9
  have HW2 := Lib.hid hw2
  have HX := Lib.hid hX
  have HDEP := Lib.hid h.dep
  have HRM := Lib.hid h.rm
  have hJ := hw a ((w.setCell ⟨fb, 3, none⟩ (.int .i64 a)).alloc (.cells #[.int .i64 23, .int .i64 a, .int .i64 b] 30)) rfl
  have hJJ : ((w.setCell ⟨fb, 3, none⟩ (.int .i64 (F.pc + 1))).setCell ⟨fb, 3, none⟩ (.int .i64 a)) = w.setCell ⟨fb, 3, none⟩ (.int .i64 a) := twice w fb 3 _ _
  have HJ := Lib.hid hJ
  have HJJ := Lib.hid hJJ
  obtain ⟨-, y1, -, -⟩ := three hq2
  rw [hw2] at y1
  clear hJ hJJ
  clear h hX E2 h2 hf2 hr2 hq2 h9 hw hw2
  go_enter Tryz.func41, Tryz.ntmps41
  go_wp2_with fail
  go_ret
  rw [HJJ.out]
  exact ⟨rfl, _, _, HJ.out.1, HJ.out.2.1⟩
end
end Go.Proofs.YtdmadfahgkikkaaGreat

/- Package interp: an instruction is done, more. -/
import Derived.Test.YtdmadfahgkikkaaGreatJik
namespace Go.Proofs.YtdmadfahgkikkaaGreat
open Go.RowKit Go.Lib Go.ChangeShapes Go.WideShapes Go.Deep Go.MapKept Go.ChangeMaps
set_option linter.unusedVariables false
set_option linter.unusedSimpArgs false

section
variable {c : Nat → Nat} {w : World} {mb rb mp tb : Nat} {tv : Value} {X : McM} {M : RmM} {Ps : List PI} {I : ImgM} {F : FrM} {Fs : List FrM}
set_option maxRecDepth 100000 in
set_option maxHeartbeats 4000000 in
theorem dJumpIf0 (h : Mc c w mb rb mp tb tv X M Ps I) (hX : X.Fs = F :: Fs) (hpc : 0 ≤ F.pc ∧ F.pc ≤ 1000000) {L : List Int} (a b : Int) (hs0 : F.stk = L ++ [0]) :
    Calls Tryz.prog 41 #[.pointer (some ⟨mb, 0, none⟩), .agg #[.int .i64 24, .int .i64 a, .int .i64 b]] w fun e w' => e = .returned (.int .i64 0) ∧ ∃ c' tv', Ext TD c w c' w' ∧ Mc c' w' mb rb mp tb tv' (X.withFs ((F.withPc (F.pc + 1)).withStk L :: Fs)) M Ps I := by
  obtain ⟨fb, cv, p, l, k, lv, sv, rfl, b2, b0, k1, k3, f3, hne, hfl, hml, hw⟩ := dHead h hX 24 a b
  obtain ⟨w2, hw2⟩ : ∃ w2, w2 = (w.setCell ⟨fb, 3, none⟩ (.int .i64 (F.pc + 1))).alloc (.cells #[.int .i64 24, .int .i64 a, .int .i64 b] 30) := ⟨_, rfl⟩
  obtain ⟨E2, h2, hf2, hr2, hq2, h9⟩ := hw (F.pc + 1) w2 hw2
  have hwr : IntKind.i64.wrap (F.pc + 1) = F.pc + 1 := IntWalk.i64_in _ (by omega)
  have HE2 := Lib.hid E2
  have H2 := Lib.hid h2
  have HF2 := Lib.hid hf2
  have HR2 := Lib.hid hr2
  have HQ2 := Lib.hid hq2
  have H9 := Lib.hid h9
  have HW2 := Lib.hid hw2
  have HX := Lib.hid hX
  have HDEP := Lib.hid h.dep
  have HRM := Lib.hid h.rm
  have HPO := Lib.hid (fPop hf2 (L := L) (x := 0) hs0)
  obtain ⟨-, y1, -, -⟩ := three hq2
  rw [hw2] at y1
  clear hs0
  clear h hX E2 h2 hf2 hr2 hq2 h9 hw hw2
  go_enter Tryz.func41, Tryz.ntmps41
  go_wp2_with fail
  rw [← HW2.out]
  refine HPO.out.mono ?_
  rintro e w3 ⟨rfl, c3, sv3, hx3, hf3⟩
  have HFI := Lib.hid (And.intro (hx3.mono (T' := TD) (fun i hi => by simp only [FBS, FB1, FL1] at hi; simp only [TD]; omega)) (H2.out.turnTop rfl HR2.out hx3 hf3 (fun i hi => by simp only [FBS, FB1, FL1] at hi; simp only [FT3]; omega)))
  clear hx3 hf3
  go_wp2_with fail
  go_ret
  exact ⟨rfl, _, _, HE2.out.trans HFI.out.1 (fun i hi => hi), HFI.out.2⟩
set_option maxRecDepth 100000 in
set_option maxHeartbeats 4000000 in
theorem dJumpIf1 (h : Mc c w mb rb mp tb tv X M Ps I) (hX : X.Fs = F :: Fs) (hpc : 0 ≤ F.pc ∧ F.pc ≤ 1000000) {L : List Int} {x : Int} (a b : Int) (hs : F.stk = L ++ [x]) (hx0 : x ≠ 0) :
    Calls Tryz.prog 41 #[.pointer (some ⟨mb, 0, none⟩), .agg #[.int .i64 24, .int .i64 a, .int .i64 b]] w fun e w' => e = .returned (.int .i64 0) ∧ ∃ c' tv', Ext TD c w c' w' ∧ Mc c' w' mb rb mp tb tv' (X.withFs (((F.withPc (F.pc + 1)).withStk L).withPc a :: Fs)) M Ps I := by
  obtain ⟨fb, cv, p, l, k, lv, sv, rfl, b2, b0, k1, k3, f3, hne, hfl, hml, hw⟩ := dHead h hX 24 a b
  obtain ⟨w2, hw2⟩ : ∃ w2, w2 = (w.setCell ⟨fb, 3, none⟩ (.int .i64 (F.pc + 1))).alloc (.cells #[.int .i64 24, .int .i64 a, .int .i64 b] 30) := ⟨_, rfl⟩
  obtain ⟨E2, h2, hf2, hr2, hq2, h9⟩ := hw (F.pc + 1) w2 hw2
  have hwr : IntKind.i64.wrap (F.pc + 1) = F.pc + 1 := IntWalk.i64_in _ (by omega)
  have HE2 := Lib.hid E2
  have H2 := Lib.hid h2
  have HF2 := Lib.hid hf2
  have HR2 := Lib.hid hr2
  have HQ2 := Lib.hid hq2
  have H9 := Lib.hid h9
  have HW2 := Lib.hid hw2
  have HX := Lib.hid hX
  have HDEP := Lib.hid h.dep
  have HRM := Lib.hid h.rm
  have HPO := Lib.hid (fPop hf2 (L := L) (x := x) hs)
  obtain ⟨-, y1, -, -⟩ := three hq2
  rw [hw2] at y1
  have hq0 : (x == 0) = false := by simpa using hx0
  have hq1 : (x != 0) = true := by simp [bne, hq0]
  clear hs hx0
  clear h hX E2 h2 hf2 hr2 hq2 h9 hw hw2
  go_enter Tryz.func41, Tryz.ntmps41
  go_wp2_with fail
  rw [← HW2.out]
  refine HPO.out.mono ?_
  rintro e w3 ⟨rfl, c3, sv3, hx3, hf3⟩
  have hq3 := hpBlk hx3.upd HQ2.out (by rw [H9.out]; simp only [FBS]; omega)
  obtain ⟨-, y1', -, -⟩ := three hq3
  have hst := hf3.setPc a
  have hm3 := H2.out.turnTop rfl HR2.out hx3 hf3 (fun i hi => by simp only [FBS, FB1, FL1] at hi; simp only [FT3]; omega)
  have hdl := HDEP.out
  rw [HX.out, List.length_cons] at hdl
  have hm4 := hm3.turnTop rfl (FrL.ext hx3 (by simp only [FBS]; omega) HR2.out (fun i h1 h2 => by simp only [FBS]; omega)) hst.1 hst.2 (fun i hi => by simp only [FBS, FB1, FL1] at hi; simp only [FT3]; omega)
  have HFI := Lib.hid (And.intro ((hx3.mono (T' := TD) (fun i hi => by simp only [FBS, FB1, FL1] at hi; simp only [TD]; omega)).trans (hst.1.mono (T' := TD) (fun i hi => by simp only [FB1] at hi; simp only [TD]; omega)) (fun _ h => h)) hm4)
  have d3 := hf3.bx.2.2.2.1
  have df := hf3.bx.2.2.2.2.2.2.2.2.2.2 3
  clear hx3 hf3 hst hm3 hm4 hq3
  go_wp2_with fail
  go_ret
  exact ⟨rfl, _, _, HE2.out.trans HFI.out.1 (fun i hi => hi), HFI.out.2⟩
set_option maxRecDepth 100000 in
set_option maxHeartbeats 4000000 in
theorem dBin6 (h : Mc c w mb rb mp tb tv X M Ps I) (hX : X.Fs = F :: Fs) (hpc : 0 ≤ F.pc ∧ F.pc ≤ 1000000) {L : List Int} (x y : BitVec 32) (a b : Int) (hs : F.stk = L ++ [si x, si y]) (hl : F.stk.length < 1000000) :
    Calls Tryz.prog 41 #[.pointer (some ⟨mb, 0, none⟩), .agg #[.int .i64 6, .int .i64 a, .int .i64 b]] w fun e w' => e = .returned (.int .i64 0) ∧ ∃ c' tv', Ext TD c w c' w' ∧ Mc c' w' mb rb mp tb tv' (X.withFs ((F.withPc (F.pc + 1)).withStk (L ++ [si (binB 6 x y)]) :: Fs)) M Ps I := by
  obtain ⟨fb, cv, p, l, k, lv, sv, rfl, b2, b0, k1, k3, f3, hne, hfl, hml, hw⟩ := dHead h hX 6 a b
  obtain ⟨w2, hw2⟩ : ∃ w2, w2 = (w.setCell ⟨fb, 3, none⟩ (.int .i64 (F.pc + 1))).alloc (.cells #[.int .i64 6, .int .i64 a, .int .i64 b] 30) := ⟨_, rfl⟩
  obtain ⟨E2, h2, hf2, hr2, hq2, h9⟩ := hw (F.pc + 1) w2 hw2
  have hwr : IntKind.i64.wrap (F.pc + 1) = F.pc + 1 := IntWalk.i64_in _ (by omega)
  have HE2 := Lib.hid E2
  have H2 := Lib.hid h2
  have HF2 := Lib.hid hf2
  have HR2 := Lib.hid hr2
  have HQ2 := Lib.hid hq2
  have H9 := Lib.hid h9
  have HW2 := Lib.hid hw2
  have HX := Lib.hid hX
  have HDEP := Lib.hid h.dep
  have HRM := Lib.hid h.rm
  have HTK := Lib.hid (fTake hf2 (L := L) (X := [si x, si y]) hs (n := 2) rfl (by omega))
  have HLL : Hid (L.length < 1000000) := Lib.hid (by rw [hs] at hl; simp at hl; omega)
  obtain ⟨y0, -, -, -⟩ := three hq2
  rw [hw2] at y0
  have HO2 := Lib.hid (fun u => oTwo 6 (by unfold isBin; omega) x y u)
  have HB := Lib.hid (si_range (binB 6 x y))
  clear hs hl
  clear h hX E2 h2 hf2 hr2 hq2 h9 hw hw2
  go_enter Tryz.func41, Tryz.ntmps41
  go_wp2_with fail
  rw [← HW2.out]
  clear y0
  refine HTK.out.mono ?_
  rintro e w3 ⟨va, c3, sv3, rfl, hx3, hf3, hrow, hnb⟩
  obtain ⟨g, rfl⟩ : ∃ g, va = ⟨g, 0, none⟩ := by
    rcases hrow.2 with ⟨h1, -⟩ | ⟨g, cap, cur, h1, -⟩
    · simp at h1
    · simp at h1; exact ⟨g, h1.1⟩
  have r0 := rowCell hrow (j := 0) (u := .int .i32 (si x)) rfl
  have r1 := rowCell hrow (j := 1) (u := .int .i32 (si y)) rfl
  have hq3 := hpBlk hx3.upd HQ2.out (by rw [H9.out]; simp only [FBS]; omega)
  obtain ⟨y0, -, -, -⟩ := three hq3
  have hm3 := H2.out.turnTop rfl HR2.out hx3 hf3 (fun i hi => by simp only [FBS, FB1, FL1] at hi; simp only [FT3]; omega)
  have hdl := HDEP.out
  rw [HX.out, List.length_cons] at hdl
  have HR3 := Lib.hid (FrL.ext hx3 (by simp only [FBS]; omega) HR2.out (fun i h1 h2 => by simp only [FBS]; omega))
  have HX3 := Lib.hid (hx3.mono (T' := TD) (fun i hi => by simp only [FBS, FB1, FL1] at hi; simp only [TD]; omega))
  have HM3 := Lib.hid hm3
  have HF3 := Lib.hid hf3
  clear hx3 hf3 hrow hnb hq3 hm3
  go_wp2_with fail
  go_quiet (first
    | exact Calls.quiet_of_same ((HO2.out _).mono fun _ _ h => ⟨h.1, h.2.symm⟩))
  go_wp2_with fail
  have hfq := HF3.out.quiet (hpDrewN (fun _ => False) w3 nq)
  refine (fPush hfq (si (binB 6 x y)) HB.out HLL.out).mono ?_
  rintro e w4 ⟨rfl, c4, sv4, hx4, hf4⟩
  have hm3q := HM3.out.quiet (hpDrewN (fun _ => False) w3 nq)
  have hm4 := hm3q.turnTop rfl (FrL.ext (Ext.quiet c3 (hpDrewN (fun _ => False) w3 nq)) (fun h => h) HR3.out (fun _ _ _ h => h)) hx4 hf4 (fun i hi => by simp only [FBS, FB1, FL1] at hi; simp only [FT3]; omega)
  have HFI := Lib.hid (And.intro ((HX3.out.trans (Ext.quietT TD c3 (hpDrewN (fun _ => False) w3 nq)) (fun _ h => h)).trans (hx4.mono (T' := TD) (fun i hi => by simp only [FBS] at hi; simp only [TD]; omega)) (fun _ h => h)) hm4)
  clear hx4 hf4 hm3q hm4 hfq
  go_wp2_with fail
  go_ret
  exact ⟨rfl, _, _, HE2.out.trans HFI.out.1 (fun i hi => hi), HFI.out.2⟩
set_option maxRecDepth 100000 in
set_option maxHeartbeats 4000000 in
theorem dBin7 (h : Mc c w mb rb mp tb tv X M Ps I) (hX : X.Fs = F :: Fs) (hpc : 0 ≤ F.pc ∧ F.pc ≤ 1000000) {L : List Int} (x y : BitVec 32) (a b : Int) (hs : F.stk = L ++ [si x, si y]) (hl : F.stk.length < 1000000) :
    Calls Tryz.prog 41 #[.pointer (some ⟨mb, 0, none⟩), .agg #[.int .i64 7, .int .i64 a, .int .i64 b]] w fun e w' => e = .returned (.int .i64 0) ∧ ∃ c' tv', Ext TD c w c' w' ∧ Mc c' w' mb rb mp tb tv' (X.withFs ((F.withPc (F.pc + 1)).withStk (L ++ [si (binB 7 x y)]) :: Fs)) M Ps I := by
  obtain ⟨fb, cv, p, l, k, lv, sv, rfl, b2, b0, k1, k3, f3, hne, hfl, hml, hw⟩ := dHead h hX 7 a b
  obtain ⟨w2, hw2⟩ : ∃ w2, w2 = (w.setCell ⟨fb, 3, none⟩ (.int .i64 (F.pc + 1))).alloc (.cells #[.int .i64 7, .int .i64 a, .int .i64 b] 30) := ⟨_, rfl⟩
  obtain ⟨E2, h2, hf2, hr2, hq2, h9⟩ := hw (F.pc + 1) w2 hw2
  have hwr : IntKind.i64.wrap (F.pc + 1) = F.pc + 1 := IntWalk.i64_in _ (by omega)
  have HE2 := Lib.hid E2
  have H2 := Lib.hid h2
  have HF2 := Lib.hid hf2
  have HR2 := Lib.hid hr2
  have HQ2 := Lib.hid hq2
  have H9 := Lib.hid h9
  have HW2 := Lib.hid hw2
  have HX := Lib.hid hX
  have HDEP := Lib.hid h.dep
  have HRM := Lib.hid h.rm
  have HTK := Lib.hid (fTake hf2 (L := L) (X := [si x, si y]) hs (n := 2) rfl (by omega))
  have HLL : Hid (L.length < 1000000) := Lib.hid (by rw [hs] at hl; simp at hl; omega)
  obtain ⟨y0, -, -, -⟩ := three hq2
  rw [hw2] at y0
  have HO2 := Lib.hid (fun u => oTwo 7 (by unfold isBin; omega) x y u)
  have HB := Lib.hid (si_range (binB 7 x y))
  clear hs hl
  clear h hX E2 h2 hf2 hr2 hq2 h9 hw hw2
  go_enter Tryz.func41, Tryz.ntmps41
  go_wp2_with fail
  rw [← HW2.out]
  clear y0
  refine HTK.out.mono ?_
  rintro e w3 ⟨va, c3, sv3, rfl, hx3, hf3, hrow, hnb⟩
  obtain ⟨g, rfl⟩ : ∃ g, va = ⟨g, 0, none⟩ := by
    rcases hrow.2 with ⟨h1, -⟩ | ⟨g, cap, cur, h1, -⟩
    · simp at h1
    · simp at h1; exact ⟨g, h1.1⟩
  have r0 := rowCell hrow (j := 0) (u := .int .i32 (si x)) rfl
  have r1 := rowCell hrow (j := 1) (u := .int .i32 (si y)) rfl
  have hq3 := hpBlk hx3.upd HQ2.out (by rw [H9.out]; simp only [FBS]; omega)
  obtain ⟨y0, -, -, -⟩ := three hq3
  have hm3 := H2.out.turnTop rfl HR2.out hx3 hf3 (fun i hi => by simp only [FBS, FB1, FL1] at hi; simp only [FT3]; omega)
  have hdl := HDEP.out
  rw [HX.out, List.length_cons] at hdl
  have HR3 := Lib.hid (FrL.ext hx3 (by simp only [FBS]; omega) HR2.out (fun i h1 h2 => by simp only [FBS]; omega))
  have HX3 := Lib.hid (hx3.mono (T' := TD) (fun i hi => by simp only [FBS, FB1, FL1] at hi; simp only [TD]; omega))
  have HM3 := Lib.hid hm3
  have HF3 := Lib.hid hf3
  clear hx3 hf3 hrow hnb hq3 hm3
  go_wp2_with fail
  go_quiet (first
    | exact Calls.quiet_of_same ((HO2.out _).mono fun _ _ h => ⟨h.1, h.2.symm⟩))
  go_wp2_with fail
  have hfq := HF3.out.quiet (hpDrewN (fun _ => False) w3 nq)
  refine (fPush hfq (si (binB 7 x y)) HB.out HLL.out).mono ?_
  rintro e w4 ⟨rfl, c4, sv4, hx4, hf4⟩
  have hm3q := HM3.out.quiet (hpDrewN (fun _ => False) w3 nq)
  have hm4 := hm3q.turnTop rfl (FrL.ext (Ext.quiet c3 (hpDrewN (fun _ => False) w3 nq)) (fun h => h) HR3.out (fun _ _ _ h => h)) hx4 hf4 (fun i hi => by simp only [FBS, FB1, FL1] at hi; simp only [FT3]; omega)
  have HFI := Lib.hid (And.intro ((HX3.out.trans (Ext.quietT TD c3 (hpDrewN (fun _ => False) w3 nq)) (fun _ h => h)).trans (hx4.mono (T' := TD) (fun i hi => by simp only [FBS] at hi; simp only [TD]; omega)) (fun _ h => h)) hm4)
  clear hx4 hf4 hm3q hm4 hfq
  go_wp2_with fail
  go_ret
  exact ⟨rfl, _, _, HE2.out.trans HFI.out.1 (fun i hi => hi), HFI.out.2⟩
set_option maxRecDepth 100000 in
set_option maxHeartbeats 4000000 in
theorem dBin8 (h : Mc c w mb rb mp tb tv X M Ps I) (hX : X.Fs = F :: Fs) (hpc : 0 ≤ F.pc ∧ F.pc ≤ 1000000) {L : List Int} (x y : BitVec 32) (a b : Int) (hs : F.stk = L ++ [si x, si y]) (hl : F.stk.length < 1000000) :
    Calls Tryz.prog 41 #[.pointer (some ⟨mb, 0, none⟩), .agg #[.int .i64 8, .int .i64 a, .int .i64 b]] w fun e w' => e = .returned (.int .i64 0) ∧ ∃ c' tv', Ext TD c w c' w' ∧ Mc c' w' mb rb mp tb tv' (X.withFs ((F.withPc (F.pc + 1)).withStk (L ++ [si (binB 8 x y)]) :: Fs)) M Ps I := by
  obtain ⟨fb, cv, p, l, k, lv, sv, rfl, b2, b0, k1, k3, f3, hne, hfl, hml, hw⟩ := dHead h hX 8 a b
  obtain ⟨w2, hw2⟩ : ∃ w2, w2 = (w.setCell ⟨fb, 3, none⟩ (.int .i64 (F.pc + 1))).alloc (.cells #[.int .i64 8, .int .i64 a, .int .i64 b] 30) := ⟨_, rfl⟩
  obtain ⟨E2, h2, hf2, hr2, hq2, h9⟩ := hw (F.pc + 1) w2 hw2
  have hwr : IntKind.i64.wrap (F.pc + 1) = F.pc + 1 := IntWalk.i64_in _ (by omega)
  have HE2 := Lib.hid E2
  have H2 := Lib.hid h2
  have HF2 := Lib.hid hf2
  have HR2 := Lib.hid hr2
  have HQ2 := Lib.hid hq2
  have H9 := Lib.hid h9
  have HW2 := Lib.hid hw2
  have HX := Lib.hid hX
  have HDEP := Lib.hid h.dep
  have HRM := Lib.hid h.rm
  have HTK := Lib.hid (fTake hf2 (L := L) (X := [si x, si y]) hs (n := 2) rfl (by omega))
  have HLL : Hid (L.length < 1000000) := Lib.hid (by rw [hs] at hl; simp at hl; omega)
  obtain ⟨y0, -, -, -⟩ := three hq2
  rw [hw2] at y0
  have HO2 := Lib.hid (fun u => oTwo 8 (by unfold isBin; omega) x y u)
  have HB := Lib.hid (si_range (binB 8 x y))
  clear hs hl
  clear h hX E2 h2 hf2 hr2 hq2 h9 hw hw2
  go_enter Tryz.func41, Tryz.ntmps41
  go_wp2_with fail
  rw [← HW2.out]
  clear y0
  refine HTK.out.mono ?_
  rintro e w3 ⟨va, c3, sv3, rfl, hx3, hf3, hrow, hnb⟩
  obtain ⟨g, rfl⟩ : ∃ g, va = ⟨g, 0, none⟩ := by
    rcases hrow.2 with ⟨h1, -⟩ | ⟨g, cap, cur, h1, -⟩
    · simp at h1
    · simp at h1; exact ⟨g, h1.1⟩
  have r0 := rowCell hrow (j := 0) (u := .int .i32 (si x)) rfl
  have r1 := rowCell hrow (j := 1) (u := .int .i32 (si y)) rfl
  have hq3 := hpBlk hx3.upd HQ2.out (by rw [H9.out]; simp only [FBS]; omega)
  obtain ⟨y0, -, -, -⟩ := three hq3
  have hm3 := H2.out.turnTop rfl HR2.out hx3 hf3 (fun i hi => by simp only [FBS, FB1, FL1] at hi; simp only [FT3]; omega)
  have hdl := HDEP.out
  rw [HX.out, List.length_cons] at hdl
  have HR3 := Lib.hid (FrL.ext hx3 (by simp only [FBS]; omega) HR2.out (fun i h1 h2 => by simp only [FBS]; omega))
  have HX3 := Lib.hid (hx3.mono (T' := TD) (fun i hi => by simp only [FBS, FB1, FL1] at hi; simp only [TD]; omega))
  have HM3 := Lib.hid hm3
  have HF3 := Lib.hid hf3
  clear hx3 hf3 hrow hnb hq3 hm3
  go_wp2_with fail
  go_quiet (first
    | exact Calls.quiet_of_same ((HO2.out _).mono fun _ _ h => ⟨h.1, h.2.symm⟩))
  go_wp2_with fail
  have hfq := HF3.out.quiet (hpDrewN (fun _ => False) w3 nq)
  refine (fPush hfq (si (binB 8 x y)) HB.out HLL.out).mono ?_
  rintro e w4 ⟨rfl, c4, sv4, hx4, hf4⟩
  have hm3q := HM3.out.quiet (hpDrewN (fun _ => False) w3 nq)
  have hm4 := hm3q.turnTop rfl (FrL.ext (Ext.quiet c3 (hpDrewN (fun _ => False) w3 nq)) (fun h => h) HR3.out (fun _ _ _ h => h)) hx4 hf4 (fun i hi => by simp only [FBS, FB1, FL1] at hi; simp only [FT3]; omega)
  have HFI := Lib.hid (And.intro ((HX3.out.trans (Ext.quietT TD c3 (hpDrewN (fun _ => False) w3 nq)) (fun _ h => h)).trans (hx4.mono (T' := TD) (fun i hi => by simp only [FBS] at hi; simp only [TD]; omega)) (fun _ h => h)) hm4)
  clear hx4 hf4 hm3q hm4 hfq
  go_wp2_with fail
  go_ret
  exact ⟨rfl, _, _, HE2.out.trans HFI.out.1 (fun i hi => hi), HFI.out.2⟩
set_option maxRecDepth 100000 in
set_option maxHeartbeats 4000000 in
theorem dBin9 (h : Mc c w mb rb mp tb tv X M Ps I) (hX : X.Fs = F :: Fs) (hpc : 0 ≤ F.pc ∧ F.pc ≤ 1000000) {L : List Int} (x y : BitVec 32) (a b : Int) (hs : F.stk = L ++ [si x, si y]) (hl : F.stk.length < 1000000) :
    Calls Tryz.prog 41 #[.pointer (some ⟨mb, 0, none⟩), .agg #[.int .i64 9, .int .i64 a, .int .i64 b]] w fun e w' => e = .returned (.int .i64 0) ∧ ∃ c' tv', Ext TD c w c' w' ∧ Mc c' w' mb rb mp tb tv' (X.withFs ((F.withPc (F.pc + 1)).withStk (L ++ [si (binB 9 x y)]) :: Fs)) M Ps I := by
  obtain ⟨fb, cv, p, l, k, lv, sv, rfl, b2, b0, k1, k3, f3, hne, hfl, hml, hw⟩ := dHead h hX 9 a b
  obtain ⟨w2, hw2⟩ : ∃ w2, w2 = (w.setCell ⟨fb, 3, none⟩ (.int .i64 (F.pc + 1))).alloc (.cells #[.int .i64 9, .int .i64 a, .int .i64 b] 30) := ⟨_, rfl⟩
  obtain ⟨E2, h2, hf2, hr2, hq2, h9⟩ := hw (F.pc + 1) w2 hw2
  have hwr : IntKind.i64.wrap (F.pc + 1) = F.pc + 1 := IntWalk.i64_in _ (by omega)
  have HE2 := Lib.hid E2
  have H2 := Lib.hid h2
  have HF2 := Lib.hid hf2
  have HR2 := Lib.hid hr2
  have HQ2 := Lib.hid hq2
  have H9 := Lib.hid h9
  have HW2 := Lib.hid hw2
  have HX := Lib.hid hX
  have HDEP := Lib.hid h.dep
  have HRM := Lib.hid h.rm
  have HTK := Lib.hid (fTake hf2 (L := L) (X := [si x, si y]) hs (n := 2) rfl (by omega))
  have HLL : Hid (L.length < 1000000) := Lib.hid (by rw [hs] at hl; simp at hl; omega)
  obtain ⟨y0, -, -, -⟩ := three hq2
  rw [hw2] at y0
  have HO2 := Lib.hid (fun u => oTwo 9 (by unfold isBin; omega) x y u)
  have HB := Lib.hid (si_range (binB 9 x y))
  clear hs hl
  clear h hX E2 h2 hf2 hr2 hq2 h9 hw hw2
  go_enter Tryz.func41, Tryz.ntmps41
  go_wp2_with fail
  rw [← HW2.out]
  clear y0
  refine HTK.out.mono ?_
  rintro e w3 ⟨va, c3, sv3, rfl, hx3, hf3, hrow, hnb⟩
  obtain ⟨g, rfl⟩ : ∃ g, va = ⟨g, 0, none⟩ := by
    rcases hrow.2 with ⟨h1, -⟩ | ⟨g, cap, cur, h1, -⟩
    · simp at h1
    · simp at h1; exact ⟨g, h1.1⟩
  have r0 := rowCell hrow (j := 0) (u := .int .i32 (si x)) rfl
  have r1 := rowCell hrow (j := 1) (u := .int .i32 (si y)) rfl
  have hq3 := hpBlk hx3.upd HQ2.out (by rw [H9.out]; simp only [FBS]; omega)
  obtain ⟨y0, -, -, -⟩ := three hq3
  have hm3 := H2.out.turnTop rfl HR2.out hx3 hf3 (fun i hi => by simp only [FBS, FB1, FL1] at hi; simp only [FT3]; omega)
  have hdl := HDEP.out
  rw [HX.out, List.length_cons] at hdl
  have HR3 := Lib.hid (FrL.ext hx3 (by simp only [FBS]; omega) HR2.out (fun i h1 h2 => by simp only [FBS]; omega))
  have HX3 := Lib.hid (hx3.mono (T' := TD) (fun i hi => by simp only [FBS, FB1, FL1] at hi; simp only [TD]; omega))
  have HM3 := Lib.hid hm3
  have HF3 := Lib.hid hf3
  clear hx3 hf3 hrow hnb hq3 hm3
  go_wp2_with fail
  go_quiet (first
    | exact Calls.quiet_of_same ((HO2.out _).mono fun _ _ h => ⟨h.1, h.2.symm⟩))
  go_wp2_with fail
  have hfq := HF3.out.quiet (hpDrewN (fun _ => False) w3 nq)
  refine (fPush hfq (si (binB 9 x y)) HB.out HLL.out).mono ?_
  rintro e w4 ⟨rfl, c4, sv4, hx4, hf4⟩
  have hm3q := HM3.out.quiet (hpDrewN (fun _ => False) w3 nq)
  have hm4 := hm3q.turnTop rfl (FrL.ext (Ext.quiet c3 (hpDrewN (fun _ => False) w3 nq)) (fun h => h) HR3.out (fun _ _ _ h => h)) hx4 hf4 (fun i hi => by simp only [FBS, FB1, FL1] at hi; simp only [FT3]; omega)
  have HFI := Lib.hid (And.intro ((HX3.out.trans (Ext.quietT TD c3 (hpDrewN (fun _ => False) w3 nq)) (fun _ h => h)).trans (hx4.mono (T' := TD) (fun i hi => by simp only [FBS] at hi; simp only [TD]; omega)) (fun _ h => h)) hm4)
  clear hx4 hf4 hm3q hm4 hfq
  go_wp2_with fail
  go_ret
  exact ⟨rfl, _, _, HE2.out.trans HFI.out.1 (fun i hi => hi), HFI.out.2⟩
set_option maxRecDepth 100000 in
set_option maxHeartbeats 4000000 in
theorem dBin10 (h : Mc c w mb rb mp tb tv X M Ps I) (hX : X.Fs = F :: Fs) (hpc : 0 ≤ F.pc ∧ F.pc ≤ 1000000) {L : List Int} (x y : BitVec 32) (a b : Int) (hs : F.stk = L ++ [si x, si y]) (hl : F.stk.length < 1000000) :
    Calls Tryz.prog 41 #[.pointer (some ⟨mb, 0, none⟩), .agg #[.int .i64 10, .int .i64 a, .int .i64 b]] w fun e w' => e = .returned (.int .i64 0) ∧ ∃ c' tv', Ext TD c w c' w' ∧ Mc c' w' mb rb mp tb tv' (X.withFs ((F.withPc (F.pc + 1)).withStk (L ++ [si (binB 10 x y)]) :: Fs)) M Ps I := by
  obtain ⟨fb, cv, p, l, k, lv, sv, rfl, b2, b0, k1, k3, f3, hne, hfl, hml, hw⟩ := dHead h hX 10 a b
  obtain ⟨w2, hw2⟩ : ∃ w2, w2 = (w.setCell ⟨fb, 3, none⟩ (.int .i64 (F.pc + 1))).alloc (.cells #[.int .i64 10, .int .i64 a, .int .i64 b] 30) := ⟨_, rfl⟩
  obtain ⟨E2, h2, hf2, hr2, hq2, h9⟩ := hw (F.pc + 1) w2 hw2
  have hwr : IntKind.i64.wrap (F.pc + 1) = F.pc + 1 := IntWalk.i64_in _ (by omega)
  have HE2 := Lib.hid E2
  have H2 := Lib.hid h2
  have HF2 := Lib.hid hf2
  have HR2 := Lib.hid hr2
  have HQ2 := Lib.hid hq2
  have H9 := Lib.hid h9
  have HW2 := Lib.hid hw2
  have HX := Lib.hid hX
  have HDEP := Lib.hid h.dep
  have HRM := Lib.hid h.rm
  have HTK := Lib.hid (fTake hf2 (L := L) (X := [si x, si y]) hs (n := 2) rfl (by omega))
  have HLL : Hid (L.length < 1000000) := Lib.hid (by rw [hs] at hl; simp at hl; omega)
  obtain ⟨y0, -, -, -⟩ := three hq2
  rw [hw2] at y0
  have HO2 := Lib.hid (fun u => oTwo 10 (by unfold isBin; omega) x y u)
  have HB := Lib.hid (si_range (binB 10 x y))
  clear hs hl
  clear h hX E2 h2 hf2 hr2 hq2 h9 hw hw2
  go_enter Tryz.func41, Tryz.ntmps41
  go_wp2_with fail
  rw [← HW2.out]
  clear y0
  refine HTK.out.mono ?_
  rintro e w3 ⟨va, c3, sv3, rfl, hx3, hf3, hrow, hnb⟩
  obtain ⟨g, rfl⟩ : ∃ g, va = ⟨g, 0, none⟩ := by
    rcases hrow.2 with ⟨h1, -⟩ | ⟨g, cap, cur, h1, -⟩
    · simp at h1
    · simp at h1; exact ⟨g, h1.1⟩
  have r0 := rowCell hrow (j := 0) (u := .int .i32 (si x)) rfl
  have r1 := rowCell hrow (j := 1) (u := .int .i32 (si y)) rfl
  have hq3 := hpBlk hx3.upd HQ2.out (by rw [H9.out]; simp only [FBS]; omega)
  obtain ⟨y0, -, -, -⟩ := three hq3
  have hm3 := H2.out.turnTop rfl HR2.out hx3 hf3 (fun i hi => by simp only [FBS, FB1, FL1] at hi; simp only [FT3]; omega)
  have hdl := HDEP.out
  rw [HX.out, List.length_cons] at hdl
  have HR3 := Lib.hid (FrL.ext hx3 (by simp only [FBS]; omega) HR2.out (fun i h1 h2 => by simp only [FBS]; omega))
  have HX3 := Lib.hid (hx3.mono (T' := TD) (fun i hi => by simp only [FBS, FB1, FL1] at hi; simp only [TD]; omega))
  have HM3 := Lib.hid hm3
  have HF3 := Lib.hid hf3
  clear hx3 hf3 hrow hnb hq3 hm3
  go_wp2_with fail
  go_quiet (first
    | exact Calls.quiet_of_same ((HO2.out _).mono fun _ _ h => ⟨h.1, h.2.symm⟩))
  go_wp2_with fail
  have hfq := HF3.out.quiet (hpDrewN (fun _ => False) w3 nq)
  refine (fPush hfq (si (binB 10 x y)) HB.out HLL.out).mono ?_
  rintro e w4 ⟨rfl, c4, sv4, hx4, hf4⟩
  have hm3q := HM3.out.quiet (hpDrewN (fun _ => False) w3 nq)
  have hm4 := hm3q.turnTop rfl (FrL.ext (Ext.quiet c3 (hpDrewN (fun _ => False) w3 nq)) (fun h => h) HR3.out (fun _ _ _ h => h)) hx4 hf4 (fun i hi => by simp only [FBS, FB1, FL1] at hi; simp only [FT3]; omega)
  have HFI := Lib.hid (And.intro ((HX3.out.trans (Ext.quietT TD c3 (hpDrewN (fun _ => False) w3 nq)) (fun _ h => h)).trans (hx4.mono (T' := TD) (fun i hi => by simp only [FBS] at hi; simp only [TD]; omega)) (fun _ h => h)) hm4)
  clear hx4 hf4 hm3q hm4 hfq
  go_wp2_with fail
  go_ret
  exact ⟨rfl, _, _, HE2.out.trans HFI.out.1 (fun i hi => hi), HFI.out.2⟩
set_option maxRecDepth 100000 in
set_option maxHeartbeats 4000000 in
theorem dBin11 (h : Mc c w mb rb mp tb tv X M Ps I) (hX : X.Fs = F :: Fs) (hpc : 0 ≤ F.pc ∧ F.pc ≤ 1000000) {L : List Int} (x y : BitVec 32) (a b : Int) (hs : F.stk = L ++ [si x, si y]) (hl : F.stk.length < 1000000) :
    Calls Tryz.prog 41 #[.pointer (some ⟨mb, 0, none⟩), .agg #[.int .i64 11, .int .i64 a, .int .i64 b]] w fun e w' => e = .returned (.int .i64 0) ∧ ∃ c' tv', Ext TD c w c' w' ∧ Mc c' w' mb rb mp tb tv' (X.withFs ((F.withPc (F.pc + 1)).withStk (L ++ [si (binB 11 x y)]) :: Fs)) M Ps I := by
  obtain ⟨fb, cv, p, l, k, lv, sv, rfl, b2, b0, k1, k3, f3, hne, hfl, hml, hw⟩ := dHead h hX 11 a b
  obtain ⟨w2, hw2⟩ : ∃ w2, w2 = (w.setCell ⟨fb, 3, none⟩ (.int .i64 (F.pc + 1))).alloc (.cells #[.int .i64 11, .int .i64 a, .int .i64 b] 30) := ⟨_, rfl⟩
  obtain ⟨E2, h2, hf2, hr2, hq2, h9⟩ := hw (F.pc + 1) w2 hw2
  have hwr : IntKind.i64.wrap (F.pc + 1) = F.pc + 1 := IntWalk.i64_in _ (by omega)
  have HE2 := Lib.hid E2
  have H2 := Lib.hid h2
  have HF2 := Lib.hid hf2
  have HR2 := Lib.hid hr2
  have HQ2 := Lib.hid hq2
  have H9 := Lib.hid h9
  have HW2 := Lib.hid hw2
  have HX := Lib.hid hX
  have HDEP := Lib.hid h.dep
  have HRM := Lib.hid h.rm
  have HTK := Lib.hid (fTake hf2 (L := L) (X := [si x, si y]) hs (n := 2) rfl (by omega))
  have HLL : Hid (L.length < 1000000) := Lib.hid (by rw [hs] at hl; simp at hl; omega)
  obtain ⟨y0, -, -, -⟩ := three hq2
  rw [hw2] at y0
  have HO2 := Lib.hid (fun u => oTwo 11 (by unfold isBin; omega) x y u)
  have HB := Lib.hid (si_range (binB 11 x y))
  clear hs hl
  clear h hX E2 h2 hf2 hr2 hq2 h9 hw hw2
  go_enter Tryz.func41, Tryz.ntmps41
  go_wp2_with fail
  rw [← HW2.out]
  clear y0
  refine HTK.out.mono ?_
  rintro e w3 ⟨va, c3, sv3, rfl, hx3, hf3, hrow, hnb⟩
  obtain ⟨g, rfl⟩ : ∃ g, va = ⟨g, 0, none⟩ := by
    rcases hrow.2 with ⟨h1, -⟩ | ⟨g, cap, cur, h1, -⟩
    · simp at h1
    · simp at h1; exact ⟨g, h1.1⟩
  have r0 := rowCell hrow (j := 0) (u := .int .i32 (si x)) rfl
  have r1 := rowCell hrow (j := 1) (u := .int .i32 (si y)) rfl
  have hq3 := hpBlk hx3.upd HQ2.out (by rw [H9.out]; simp only [FBS]; omega)
  obtain ⟨y0, -, -, -⟩ := three hq3
  have hm3 := H2.out.turnTop rfl HR2.out hx3 hf3 (fun i hi => by simp only [FBS, FB1, FL1] at hi; simp only [FT3]; omega)
  have hdl := HDEP.out
  rw [HX.out, List.length_cons] at hdl
  have HR3 := Lib.hid (FrL.ext hx3 (by simp only [FBS]; omega) HR2.out (fun i h1 h2 => by simp only [FBS]; omega))
  have HX3 := Lib.hid (hx3.mono (T' := TD) (fun i hi => by simp only [FBS, FB1, FL1] at hi; simp only [TD]; omega))
  have HM3 := Lib.hid hm3
  have HF3 := Lib.hid hf3
  clear hx3 hf3 hrow hnb hq3 hm3
  go_wp2_with fail
  go_quiet (first
    | exact Calls.quiet_of_same ((HO2.out _).mono fun _ _ h => ⟨h.1, h.2.symm⟩))
  go_wp2_with fail
  have hfq := HF3.out.quiet (hpDrewN (fun _ => False) w3 nq)
  refine (fPush hfq (si (binB 11 x y)) HB.out HLL.out).mono ?_
  rintro e w4 ⟨rfl, c4, sv4, hx4, hf4⟩
  have hm3q := HM3.out.quiet (hpDrewN (fun _ => False) w3 nq)
  have hm4 := hm3q.turnTop rfl (FrL.ext (Ext.quiet c3 (hpDrewN (fun _ => False) w3 nq)) (fun h => h) HR3.out (fun _ _ _ h => h)) hx4 hf4 (fun i hi => by simp only [FBS, FB1, FL1] at hi; simp only [FT3]; omega)
  have HFI := Lib.hid (And.intro ((HX3.out.trans (Ext.quietT TD c3 (hpDrewN (fun _ => False) w3 nq)) (fun _ h => h)).trans (hx4.mono (T' := TD) (fun i hi => by simp only [FBS] at hi; simp only [TD]; omega)) (fun _ h => h)) hm4)
  clear hx4 hf4 hm3q hm4 hfq
  go_wp2_with fail
  go_ret
  exact ⟨rfl, _, _, HE2.out.trans HFI.out.1 (fun i hi => hi), HFI.out.2⟩
set_option maxRecDepth 100000 in
set_option maxHeartbeats 4000000 in
theorem dBin12 (h : Mc c w mb rb mp tb tv X M Ps I) (hX : X.Fs = F :: Fs) (hpc : 0 ≤ F.pc ∧ F.pc ≤ 1000000) {L : List Int} (x y : BitVec 32) (a b : Int) (hs : F.stk = L ++ [si x, si y]) (hl : F.stk.length < 1000000) :
    Calls Tryz.prog 41 #[.pointer (some ⟨mb, 0, none⟩), .agg #[.int .i64 12, .int .i64 a, .int .i64 b]] w fun e w' => e = .returned (.int .i64 0) ∧ ∃ c' tv', Ext TD c w c' w' ∧ Mc c' w' mb rb mp tb tv' (X.withFs ((F.withPc (F.pc + 1)).withStk (L ++ [si (binB 12 x y)]) :: Fs)) M Ps I := by
  obtain ⟨fb, cv, p, l, k, lv, sv, rfl, b2, b0, k1, k3, f3, hne, hfl, hml, hw⟩ := dHead h hX 12 a b
  obtain ⟨w2, hw2⟩ : ∃ w2, w2 = (w.setCell ⟨fb, 3, none⟩ (.int .i64 (F.pc + 1))).alloc (.cells #[.int .i64 12, .int .i64 a, .int .i64 b] 30) := ⟨_, rfl⟩
  obtain ⟨E2, h2, hf2, hr2, hq2, h9⟩ := hw (F.pc + 1) w2 hw2
  have hwr : IntKind.i64.wrap (F.pc + 1) = F.pc + 1 := IntWalk.i64_in _ (by omega)
  have HE2 := Lib.hid E2
  have H2 := Lib.hid h2
  have HF2 := Lib.hid hf2
  have HR2 := Lib.hid hr2
  have HQ2 := Lib.hid hq2
  have H9 := Lib.hid h9
  have HW2 := Lib.hid hw2
  have HX := Lib.hid hX
  have HDEP := Lib.hid h.dep
  have HRM := Lib.hid h.rm
  have HTK := Lib.hid (fTake hf2 (L := L) (X := [si x, si y]) hs (n := 2) rfl (by omega))
  have HLL : Hid (L.length < 1000000) := Lib.hid (by rw [hs] at hl; simp at hl; omega)
  obtain ⟨y0, -, -, -⟩ := three hq2
  rw [hw2] at y0
  have HO2 := Lib.hid (fun u => oTwo 12 (by unfold isBin; omega) x y u)
  have HB := Lib.hid (si_range (binB 12 x y))
  clear hs hl
  clear h hX E2 h2 hf2 hr2 hq2 h9 hw hw2
  go_enter Tryz.func41, Tryz.ntmps41
  go_wp2_with fail
  rw [← HW2.out]
  clear y0
  refine HTK.out.mono ?_
  rintro e w3 ⟨va, c3, sv3, rfl, hx3, hf3, hrow, hnb⟩
  obtain ⟨g, rfl⟩ : ∃ g, va = ⟨g, 0, none⟩ := by
    rcases hrow.2 with ⟨h1, -⟩ | ⟨g, cap, cur, h1, -⟩
    · simp at h1
    · simp at h1; exact ⟨g, h1.1⟩
  have r0 := rowCell hrow (j := 0) (u := .int .i32 (si x)) rfl
  have r1 := rowCell hrow (j := 1) (u := .int .i32 (si y)) rfl
  have hq3 := hpBlk hx3.upd HQ2.out (by rw [H9.out]; simp only [FBS]; omega)
  obtain ⟨y0, -, -, -⟩ := three hq3
  have hm3 := H2.out.turnTop rfl HR2.out hx3 hf3 (fun i hi => by simp only [FBS, FB1, FL1] at hi; simp only [FT3]; omega)
  have hdl := HDEP.out
  rw [HX.out, List.length_cons] at hdl
  have HR3 := Lib.hid (FrL.ext hx3 (by simp only [FBS]; omega) HR2.out (fun i h1 h2 => by simp only [FBS]; omega))
  have HX3 := Lib.hid (hx3.mono (T' := TD) (fun i hi => by simp only [FBS, FB1, FL1] at hi; simp only [TD]; omega))
  have HM3 := Lib.hid hm3
  have HF3 := Lib.hid hf3
  clear hx3 hf3 hrow hnb hq3 hm3
  go_wp2_with fail
  go_quiet (first
    | exact Calls.quiet_of_same ((HO2.out _).mono fun _ _ h => ⟨h.1, h.2.symm⟩))
  go_wp2_with fail
  have hfq := HF3.out.quiet (hpDrewN (fun _ => False) w3 nq)
  refine (fPush hfq (si (binB 12 x y)) HB.out HLL.out).mono ?_
  rintro e w4 ⟨rfl, c4, sv4, hx4, hf4⟩
  have hm3q := HM3.out.quiet (hpDrewN (fun _ => False) w3 nq)
  have hm4 := hm3q.turnTop rfl (FrL.ext (Ext.quiet c3 (hpDrewN (fun _ => False) w3 nq)) (fun h => h) HR3.out (fun _ _ _ h => h)) hx4 hf4 (fun i hi => by simp only [FBS, FB1, FL1] at hi; simp only [FT3]; omega)
  have HFI := Lib.hid (And.intro ((HX3.out.trans (Ext.quietT TD c3 (hpDrewN (fun _ => False) w3 nq)) (fun _ h => h)).trans (hx4.mono (T' := TD) (fun i hi => by simp only [FBS] at hi; simp only [TD]; omega)) (fun _ h => h)) hm4)
  clear hx4 hf4 hm3q hm4 hfq
  go_wp2_with fail
  go_ret
  exact ⟨rfl, _, _, HE2.out.trans HFI.out.1 (fun i hi => hi), HFI.out.2⟩
set_option maxRecDepth 100000 in
set_option maxHeartbeats 4000000 in
theorem dBin13 (h : Mc c w mb rb mp tb tv X M Ps I) (hX : X.Fs = F :: Fs) (hpc : 0 ≤ F.pc ∧ F.pc ≤ 1000000) {L : List Int} (x y : BitVec 32) (a b : Int) (hs : F.stk = L ++ [si x, si y]) (hl : F.stk.length < 1000000) :
    Calls Tryz.prog 41 #[.pointer (some ⟨mb, 0, none⟩), .agg #[.int .i64 13, .int .i64 a, .int .i64 b]] w fun e w' => e = .returned (.int .i64 0) ∧ ∃ c' tv', Ext TD c w c' w' ∧ Mc c' w' mb rb mp tb tv' (X.withFs ((F.withPc (F.pc + 1)).withStk (L ++ [si (binB 13 x y)]) :: Fs)) M Ps I := by
  obtain ⟨fb, cv, p, l, k, lv, sv, rfl, b2, b0, k1, k3, f3, hne, hfl, hml, hw⟩ := dHead h hX 13 a b
  obtain ⟨w2, hw2⟩ : ∃ w2, w2 = (w.setCell ⟨fb, 3, none⟩ (.int .i64 (F.pc + 1))).alloc (.cells #[.int .i64 13, .int .i64 a, .int .i64 b] 30) := ⟨_, rfl⟩
  obtain ⟨E2, h2, hf2, hr2, hq2, h9⟩ := hw (F.pc + 1) w2 hw2
  have hwr : IntKind.i64.wrap (F.pc + 1) = F.pc + 1 := IntWalk.i64_in _ (by omega)
  have HE2 := Lib.hid E2
  have H2 := Lib.hid h2
  have HF2 := Lib.hid hf2
  have HR2 := Lib.hid hr2
  have HQ2 := Lib.hid hq2
  have H9 := Lib.hid h9
  have HW2 := Lib.hid hw2
  have HX := Lib.hid hX
  have HDEP := Lib.hid h.dep
  have HRM := Lib.hid h.rm
  have HTK := Lib.hid (fTake hf2 (L := L) (X := [si x, si y]) hs (n := 2) rfl (by omega))
  have HLL : Hid (L.length < 1000000) := Lib.hid (by rw [hs] at hl; simp at hl; omega)
  obtain ⟨y0, -, -, -⟩ := three hq2
  rw [hw2] at y0
  have HO2 := Lib.hid (fun u => oTwo 13 (by unfold isBin; omega) x y u)
  have HB := Lib.hid (si_range (binB 13 x y))
  clear hs hl
  clear h hX E2 h2 hf2 hr2 hq2 h9 hw hw2
  go_enter Tryz.func41, Tryz.ntmps41
  go_wp2_with fail
  rw [← HW2.out]
  clear y0
  refine HTK.out.mono ?_
  rintro e w3 ⟨va, c3, sv3, rfl, hx3, hf3, hrow, hnb⟩
  obtain ⟨g, rfl⟩ : ∃ g, va = ⟨g, 0, none⟩ := by
    rcases hrow.2 with ⟨h1, -⟩ | ⟨g, cap, cur, h1, -⟩
    · simp at h1
    · simp at h1; exact ⟨g, h1.1⟩
  have r0 := rowCell hrow (j := 0) (u := .int .i32 (si x)) rfl
  have r1 := rowCell hrow (j := 1) (u := .int .i32 (si y)) rfl
  have hq3 := hpBlk hx3.upd HQ2.out (by rw [H9.out]; simp only [FBS]; omega)
  obtain ⟨y0, -, -, -⟩ := three hq3
  have hm3 := H2.out.turnTop rfl HR2.out hx3 hf3 (fun i hi => by simp only [FBS, FB1, FL1] at hi; simp only [FT3]; omega)
  have hdl := HDEP.out
  rw [HX.out, List.length_cons] at hdl
  have HR3 := Lib.hid (FrL.ext hx3 (by simp only [FBS]; omega) HR2.out (fun i h1 h2 => by simp only [FBS]; omega))
  have HX3 := Lib.hid (hx3.mono (T' := TD) (fun i hi => by simp only [FBS, FB1, FL1] at hi; simp only [TD]; omega))
  have HM3 := Lib.hid hm3
  have HF3 := Lib.hid hf3
  clear hx3 hf3 hrow hnb hq3 hm3
  go_wp2_with fail
  go_quiet (first
    | exact Calls.quiet_of_same ((HO2.out _).mono fun _ _ h => ⟨h.1, h.2.symm⟩))
  go_wp2_with fail
  have hfq := HF3.out.quiet (hpDrewN (fun _ => False) w3 nq)
  refine (fPush hfq (si (binB 13 x y)) HB.out HLL.out).mono ?_
  rintro e w4 ⟨rfl, c4, sv4, hx4, hf4⟩
  have hm3q := HM3.out.quiet (hpDrewN (fun _ => False) w3 nq)
  have hm4 := hm3q.turnTop rfl (FrL.ext (Ext.quiet c3 (hpDrewN (fun _ => False) w3 nq)) (fun h => h) HR3.out (fun _ _ _ h => h)) hx4 hf4 (fun i hi => by simp only [FBS, FB1, FL1] at hi; simp only [FT3]; omega)
  have HFI := Lib.hid (And.intro ((HX3.out.trans (Ext.quietT TD c3 (hpDrewN (fun _ => False) w3 nq)) (fun _ h => h)).trans (hx4.mono (T' := TD) (fun i hi => by simp only [FBS] at hi; simp only [TD]; omega)) (fun _ h => h)) hm4)
  clear hx4 hf4 hm3q hm4 hfq
  go_wp2_with fail
  go_ret
  exact ⟨rfl, _, _, HE2.out.trans HFI.out.1 (fun i hi => hi), HFI.out.2⟩
set_option maxRecDepth 100000 in
set_option maxHeartbeats 4000000 in
theorem dBin14 (h : Mc c w mb rb mp tb tv X M Ps I) (hX : X.Fs = F :: Fs) (hpc : 0 ≤ F.pc ∧ F.pc ≤ 1000000) {L : List Int} (x y : BitVec 32) (a b : Int) (hs : F.stk = L ++ [si x, si y]) (hl : F.stk.length < 1000000) :
    Calls Tryz.prog 41 #[.pointer (some ⟨mb, 0, none⟩), .agg #[.int .i64 14, .int .i64 a, .int .i64 b]] w fun e w' => e = .returned (.int .i64 0) ∧ ∃ c' tv', Ext TD c w c' w' ∧ Mc c' w' mb rb mp tb tv' (X.withFs ((F.withPc (F.pc + 1)).withStk (L ++ [si (binB 14 x y)]) :: Fs)) M Ps I := by
  obtain ⟨fb, cv, p, l, k, lv, sv, rfl, b2, b0, k1, k3, f3, hne, hfl, hml, hw⟩ := dHead h hX 14 a b
  obtain ⟨w2, hw2⟩ : ∃ w2, w2 = (w.setCell ⟨fb, 3, none⟩ (.int .i64 (F.pc + 1))).alloc (.cells #[.int .i64 14, .int .i64 a, .int .i64 b] 30) := ⟨_, rfl⟩
  obtain ⟨E2, h2, hf2, hr2, hq2, h9⟩ := hw (F.pc + 1) w2 hw2
  have hwr : IntKind.i64.wrap (F.pc + 1) = F.pc + 1 := IntWalk.i64_in _ (by omega)
  have HE2 := Lib.hid E2
  have H2 := Lib.hid h2
  have HF2 := Lib.hid hf2
  have HR2 := Lib.hid hr2
  have HQ2 := Lib.hid hq2
  have H9 := Lib.hid h9
  have HW2 := Lib.hid hw2
  have HX := Lib.hid hX
  have HDEP := Lib.hid h.dep
  have HRM := Lib.hid h.rm
  have HTK := Lib.hid (fTake hf2 (L := L) (X := [si x, si y]) hs (n := 2) rfl (by omega))
  have HLL : Hid (L.length < 1000000) := Lib.hid (by rw [hs] at hl; simp at hl; omega)
  obtain ⟨y0, -, -, -⟩ := three hq2
  rw [hw2] at y0
  have HO2 := Lib.hid (fun u => oTwo 14 (by unfold isBin; omega) x y u)
  have HB := Lib.hid (si_range (binB 14 x y))
  clear hs hl
  clear h hX E2 h2 hf2 hr2 hq2 h9 hw hw2
  go_enter Tryz.func41, Tryz.ntmps41
  go_wp2_with fail
  rw [← HW2.out]
  clear y0
  refine HTK.out.mono ?_
  rintro e w3 ⟨va, c3, sv3, rfl, hx3, hf3, hrow, hnb⟩
  obtain ⟨g, rfl⟩ : ∃ g, va = ⟨g, 0, none⟩ := by
    rcases hrow.2 with ⟨h1, -⟩ | ⟨g, cap, cur, h1, -⟩
    · simp at h1
    · simp at h1; exact ⟨g, h1.1⟩
  have r0 := rowCell hrow (j := 0) (u := .int .i32 (si x)) rfl
  have r1 := rowCell hrow (j := 1) (u := .int .i32 (si y)) rfl
  have hq3 := hpBlk hx3.upd HQ2.out (by rw [H9.out]; simp only [FBS]; omega)
  obtain ⟨y0, -, -, -⟩ := three hq3
  have hm3 := H2.out.turnTop rfl HR2.out hx3 hf3 (fun i hi => by simp only [FBS, FB1, FL1] at hi; simp only [FT3]; omega)
  have hdl := HDEP.out
  rw [HX.out, List.length_cons] at hdl
  have HR3 := Lib.hid (FrL.ext hx3 (by simp only [FBS]; omega) HR2.out (fun i h1 h2 => by simp only [FBS]; omega))
  have HX3 := Lib.hid (hx3.mono (T' := TD) (fun i hi => by simp only [FBS, FB1, FL1] at hi; simp only [TD]; omega))
  have HM3 := Lib.hid hm3
  have HF3 := Lib.hid hf3
  clear hx3 hf3 hrow hnb hq3 hm3
  go_wp2_with fail
  go_quiet (first
    | exact Calls.quiet_of_same ((HO2.out _).mono fun _ _ h => ⟨h.1, h.2.symm⟩))
  go_wp2_with fail
  have hfq := HF3.out.quiet (hpDrewN (fun _ => False) w3 nq)
  refine (fPush hfq (si (binB 14 x y)) HB.out HLL.out).mono ?_
  rintro e w4 ⟨rfl, c4, sv4, hx4, hf4⟩
  have hm3q := HM3.out.quiet (hpDrewN (fun _ => False) w3 nq)
  have hm4 := hm3q.turnTop rfl (FrL.ext (Ext.quiet c3 (hpDrewN (fun _ => False) w3 nq)) (fun h => h) HR3.out (fun _ _ _ h => h)) hx4 hf4 (fun i hi => by simp only [FBS, FB1, FL1] at hi; simp only [FT3]; omega)
  have HFI := Lib.hid (And.intro ((HX3.out.trans (Ext.quietT TD c3 (hpDrewN (fun _ => False) w3 nq)) (fun _ h => h)).trans (hx4.mono (T' := TD) (fun i hi => by simp only [FBS] at hi; simp only [TD]; omega)) (fun _ h => h)) hm4)
  clear hx4 hf4 hm3q hm4 hfq
  go_wp2_with fail
  go_ret
  exact ⟨rfl, _, _, HE2.out.trans HFI.out.1 (fun i hi => hi), HFI.out.2⟩
set_option maxRecDepth 100000 in
set_option maxHeartbeats 4000000 in
theorem dBin19 (h : Mc c w mb rb mp tb tv X M Ps I) (hX : X.Fs = F :: Fs) (hpc : 0 ≤ F.pc ∧ F.pc ≤ 1000000) {L : List Int} (x y : BitVec 32) (a b : Int) (hs : F.stk = L ++ [si x, si y]) (hl : F.stk.length < 1000000) :
    Calls Tryz.prog 41 #[.pointer (some ⟨mb, 0, none⟩), .agg #[.int .i64 19, .int .i64 a, .int .i64 b]] w fun e w' => e = .returned (.int .i64 0) ∧ ∃ c' tv', Ext TD c w c' w' ∧ Mc c' w' mb rb mp tb tv' (X.withFs ((F.withPc (F.pc + 1)).withStk (L ++ [si (binB 19 x y)]) :: Fs)) M Ps I := by
  obtain ⟨fb, cv, p, l, k, lv, sv, rfl, b2, b0, k1, k3, f3, hne, hfl, hml, hw⟩ := dHead h hX 19 a b
  obtain ⟨w2, hw2⟩ : ∃ w2, w2 = (w.setCell ⟨fb, 3, none⟩ (.int .i64 (F.pc + 1))).alloc (.cells #[.int .i64 19, .int .i64 a, .int .i64 b] 30) := ⟨_, rfl⟩
  obtain ⟨E2, h2, hf2, hr2, hq2, h9⟩ := hw (F.pc + 1) w2 hw2
  have hwr : IntKind.i64.wrap (F.pc + 1) = F.pc + 1 := IntWalk.i64_in _ (by omega)
  have HE2 := Lib.hid E2
  have H2 := Lib.hid h2
  have HF2 := Lib.hid hf2
  have HR2 := Lib.hid hr2
  have HQ2 := Lib.hid hq2
  have H9 := Lib.hid h9
  have HW2 := Lib.hid hw2
  have HX := Lib.hid hX
  have HDEP := Lib.hid h.dep
  have HRM := Lib.hid h.rm
  have HTK := Lib.hid (fTake hf2 (L := L) (X := [si x, si y]) hs (n := 2) rfl (by omega))
  have HLL : Hid (L.length < 1000000) := Lib.hid (by rw [hs] at hl; simp at hl; omega)
  obtain ⟨y0, -, -, -⟩ := three hq2
  rw [hw2] at y0
  have HO2 := Lib.hid (fun u => oTwo 19 (by unfold isBin; omega) x y u)
  have HB := Lib.hid (si_range (binB 19 x y))
  clear hs hl
  clear h hX E2 h2 hf2 hr2 hq2 h9 hw hw2
  go_enter Tryz.func41, Tryz.ntmps41
  go_wp2_with fail
  rw [← HW2.out]
  clear y0
  refine HTK.out.mono ?_
  rintro e w3 ⟨va, c3, sv3, rfl, hx3, hf3, hrow, hnb⟩
  obtain ⟨g, rfl⟩ : ∃ g, va = ⟨g, 0, none⟩ := by
    rcases hrow.2 with ⟨h1, -⟩ | ⟨g, cap, cur, h1, -⟩
    · simp at h1
    · simp at h1; exact ⟨g, h1.1⟩
  have r0 := rowCell hrow (j := 0) (u := .int .i32 (si x)) rfl
  have r1 := rowCell hrow (j := 1) (u := .int .i32 (si y)) rfl
  have hq3 := hpBlk hx3.upd HQ2.out (by rw [H9.out]; simp only [FBS]; omega)
  obtain ⟨y0, -, -, -⟩ := three hq3
  have hm3 := H2.out.turnTop rfl HR2.out hx3 hf3 (fun i hi => by simp only [FBS, FB1, FL1] at hi; simp only [FT3]; omega)
  have hdl := HDEP.out
  rw [HX.out, List.length_cons] at hdl
  have HR3 := Lib.hid (FrL.ext hx3 (by simp only [FBS]; omega) HR2.out (fun i h1 h2 => by simp only [FBS]; omega))
  have HX3 := Lib.hid (hx3.mono (T' := TD) (fun i hi => by simp only [FBS, FB1, FL1] at hi; simp only [TD]; omega))
  have HM3 := Lib.hid hm3
  have HF3 := Lib.hid hf3
  clear hx3 hf3 hrow hnb hq3 hm3
  go_wp2_with fail
  go_quiet (first
    | exact Calls.quiet_of_same ((HO2.out _).mono fun _ _ h => ⟨h.1, h.2.symm⟩))
  go_wp2_with fail
  have hfq := HF3.out.quiet (hpDrewN (fun _ => False) w3 nq)
  refine (fPush hfq (si (binB 19 x y)) HB.out HLL.out).mono ?_
  rintro e w4 ⟨rfl, c4, sv4, hx4, hf4⟩
  have hm3q := HM3.out.quiet (hpDrewN (fun _ => False) w3 nq)
  have hm4 := hm3q.turnTop rfl (FrL.ext (Ext.quiet c3 (hpDrewN (fun _ => False) w3 nq)) (fun h => h) HR3.out (fun _ _ _ h => h)) hx4 hf4 (fun i hi => by simp only [FBS, FB1, FL1] at hi; simp only [FT3]; omega)
  have HFI := Lib.hid (And.intro ((HX3.out.trans (Ext.quietT TD c3 (hpDrewN (fun _ => False) w3 nq)) (fun _ h => h)).trans (hx4.mono (T' := TD) (fun i hi => by simp only [FBS] at hi; simp only [TD]; omega)) (fun _ h => h)) hm4)
  clear hx4 hf4 hm3q hm4 hfq
  go_wp2_with fail
  go_ret
  exact ⟨rfl, _, _, HE2.out.trans HFI.out.1 (fun i hi => hi), HFI.out.2⟩
set_option maxRecDepth 100000 in
set_option maxHeartbeats 4000000 in
theorem dBin20 (h : Mc c w mb rb mp tb tv X M Ps I) (hX : X.Fs = F :: Fs) (hpc : 0 ≤ F.pc ∧ F.pc ≤ 1000000) {L : List Int} (x y : BitVec 32) (a b : Int) (hs : F.stk = L ++ [si x, si y]) (hl : F.stk.length < 1000000) :
    Calls Tryz.prog 41 #[.pointer (some ⟨mb, 0, none⟩), .agg #[.int .i64 20, .int .i64 a, .int .i64 b]] w fun e w' => e = .returned (.int .i64 0) ∧ ∃ c' tv', Ext TD c w c' w' ∧ Mc c' w' mb rb mp tb tv' (X.withFs ((F.withPc (F.pc + 1)).withStk (L ++ [si (binB 20 x y)]) :: Fs)) M Ps I := by
  obtain ⟨fb, cv, p, l, k, lv, sv, rfl, b2, b0, k1, k3, f3, hne, hfl, hml, hw⟩ := dHead h hX 20 a b
  obtain ⟨w2, hw2⟩ : ∃ w2, w2 = (w.setCell ⟨fb, 3, none⟩ (.int .i64 (F.pc + 1))).alloc (.cells #[.int .i64 20, .int .i64 a, .int .i64 b] 30) := ⟨_, rfl⟩
  obtain ⟨E2, h2, hf2, hr2, hq2, h9⟩ := hw (F.pc + 1) w2 hw2
  have hwr : IntKind.i64.wrap (F.pc + 1) = F.pc + 1 := IntWalk.i64_in _ (by omega)
  have HE2 := Lib.hid E2
  have H2 := Lib.hid h2
  have HF2 := Lib.hid hf2
  have HR2 := Lib.hid hr2
  have HQ2 := Lib.hid hq2
  have H9 := Lib.hid h9
  have HW2 := Lib.hid hw2
  have HX := Lib.hid hX
  have HDEP := Lib.hid h.dep
  have HRM := Lib.hid h.rm
  have HTK := Lib.hid (fTake hf2 (L := L) (X := [si x, si y]) hs (n := 2) rfl (by omega))
  have HLL : Hid (L.length < 1000000) := Lib.hid (by rw [hs] at hl; simp at hl; omega)
  obtain ⟨y0, -, -, -⟩ := three hq2
  rw [hw2] at y0
  have HO2 := Lib.hid (fun u => oTwo 20 (by unfold isBin; omega) x y u)
  have HB := Lib.hid (si_range (binB 20 x y))
  clear hs hl
  clear h hX E2 h2 hf2 hr2 hq2 h9 hw hw2
  go_enter Tryz.func41, Tryz.ntmps41
  go_wp2_with fail
  rw [← HW2.out]
  clear y0
  refine HTK.out.mono ?_
  rintro e w3 ⟨va, c3, sv3, rfl, hx3, hf3, hrow, hnb⟩
  obtain ⟨g, rfl⟩ : ∃ g, va = ⟨g, 0, none⟩ := by
    rcases hrow.2 with ⟨h1, -⟩ | ⟨g, cap, cur, h1, -⟩
    · simp at h1
    · simp at h1; exact ⟨g, h1.1⟩
  have r0 := rowCell hrow (j := 0) (u := .int .i32 (si x)) rfl
  have r1 := rowCell hrow (j := 1) (u := .int .i32 (si y)) rfl
  have hq3 := hpBlk hx3.upd HQ2.out (by rw [H9.out]; simp only [FBS]; omega)
  obtain ⟨y0, -, -, -⟩ := three hq3
  have hm3 := H2.out.turnTop rfl HR2.out hx3 hf3 (fun i hi => by simp only [FBS, FB1, FL1] at hi; simp only [FT3]; omega)
  have hdl := HDEP.out
  rw [HX.out, List.length_cons] at hdl
  have HR3 := Lib.hid (FrL.ext hx3 (by simp only [FBS]; omega) HR2.out (fun i h1 h2 => by simp only [FBS]; omega))
  have HX3 := Lib.hid (hx3.mono (T' := TD) (fun i hi => by simp only [FBS, FB1, FL1] at hi; simp only [TD]; omega))
  have HM3 := Lib.hid hm3
  have HF3 := Lib.hid hf3
  clear hx3 hf3 hrow hnb hq3 hm3
  go_wp2_with fail
  go_quiet (first
    | exact Calls.quiet_of_same ((HO2.out _).mono fun _ _ h => ⟨h.1, h.2.symm⟩))
  go_wp2_with fail
  have hfq := HF3.out.quiet (hpDrewN (fun _ => False) w3 nq)
  refine (fPush hfq (si (binB 20 x y)) HB.out HLL.out).mono ?_
  rintro e w4 ⟨rfl, c4, sv4, hx4, hf4⟩
  have hm3q := HM3.out.quiet (hpDrewN (fun _ => False) w3 nq)
  have hm4 := hm3q.turnTop rfl (FrL.ext (Ext.quiet c3 (hpDrewN (fun _ => False) w3 nq)) (fun h => h) HR3.out (fun _ _ _ h => h)) hx4 hf4 (fun i hi => by simp only [FBS, FB1, FL1] at hi; simp only [FT3]; omega)
  have HFI := Lib.hid (And.intro ((HX3.out.trans (Ext.quietT TD c3 (hpDrewN (fun _ => False) w3 nq)) (fun _ h => h)).trans (hx4.mono (T' := TD) (fun i hi => by simp only [FBS] at hi; simp only [TD]; omega)) (fun _ h => h)) hm4)
  clear hx4 hf4 hm3q hm4 hfq
  go_wp2_with fail
  go_ret
  exact ⟨rfl, _, _, HE2.out.trans HFI.out.1 (fun i hi => hi), HFI.out.2⟩
set_option maxRecDepth 100000 in
set_option maxHeartbeats 4000000 in
theorem dBin21 (h : Mc c w mb rb mp tb tv X M Ps I) (hX : X.Fs = F :: Fs) (hpc : 0 ≤ F.pc ∧ F.pc ≤ 1000000) {L : List Int} (x y : BitVec 32) (a b : Int) (hs : F.stk = L ++ [si x, si y]) (hl : F.stk.length < 1000000) :
    Calls Tryz.prog 41 #[.pointer (some ⟨mb, 0, none⟩), .agg #[.int .i64 21, .int .i64 a, .int .i64 b]] w fun e w' => e = .returned (.int .i64 0) ∧ ∃ c' tv', Ext TD c w c' w' ∧ Mc c' w' mb rb mp tb tv' (X.withFs ((F.withPc (F.pc + 1)).withStk (L ++ [si (binB 21 x y)]) :: Fs)) M Ps I := by
  obtain ⟨fb, cv, p, l, k, lv, sv, rfl, b2, b0, k1, k3, f3, hne, hfl, hml, hw⟩ := dHead h hX 21 a b
  obtain ⟨w2, hw2⟩ : ∃ w2, w2 = (w.setCell ⟨fb, 3, none⟩ (.int .i64 (F.pc + 1))).alloc (.cells #[.int .i64 21, .int .i64 a, .int .i64 b] 30) := ⟨_, rfl⟩
  obtain ⟨E2, h2, hf2, hr2, hq2, h9⟩ := hw (F.pc + 1) w2 hw2
  have hwr : IntKind.i64.wrap (F.pc + 1) = F.pc + 1 := IntWalk.i64_in _ (by omega)
  have HE2 := Lib.hid E2
  have H2 := Lib.hid h2
  have HF2 := Lib.hid hf2
  have HR2 := Lib.hid hr2
  have HQ2 := Lib.hid hq2
  have H9 := Lib.hid h9
  have HW2 := Lib.hid hw2
  have HX := Lib.hid hX
  have HDEP := Lib.hid h.dep
  have HRM := Lib.hid h.rm
  have HTK := Lib.hid (fTake hf2 (L := L) (X := [si x, si y]) hs (n := 2) rfl (by omega))
  have HLL : Hid (L.length < 1000000) := Lib.hid (by rw [hs] at hl; simp at hl; omega)
  obtain ⟨y0, -, -, -⟩ := three hq2
  rw [hw2] at y0
  have HO2 := Lib.hid (fun u => oTwo 21 (by unfold isBin; omega) x y u)
  have HB := Lib.hid (si_range (binB 21 x y))
  clear hs hl
  clear h hX E2 h2 hf2 hr2 hq2 h9 hw hw2
  go_enter Tryz.func41, Tryz.ntmps41
  go_wp2_with fail
  rw [← HW2.out]
  clear y0
  refine HTK.out.mono ?_
  rintro e w3 ⟨va, c3, sv3, rfl, hx3, hf3, hrow, hnb⟩
  obtain ⟨g, rfl⟩ : ∃ g, va = ⟨g, 0, none⟩ := by
    rcases hrow.2 with ⟨h1, -⟩ | ⟨g, cap, cur, h1, -⟩
    · simp at h1
    · simp at h1; exact ⟨g, h1.1⟩
  have r0 := rowCell hrow (j := 0) (u := .int .i32 (si x)) rfl
  have r1 := rowCell hrow (j := 1) (u := .int .i32 (si y)) rfl
  have hq3 := hpBlk hx3.upd HQ2.out (by rw [H9.out]; simp only [FBS]; omega)
  obtain ⟨y0, -, -, -⟩ := three hq3
  have hm3 := H2.out.turnTop rfl HR2.out hx3 hf3 (fun i hi => by simp only [FBS, FB1, FL1] at hi; simp only [FT3]; omega)
  have hdl := HDEP.out
  rw [HX.out, List.length_cons] at hdl
  have HR3 := Lib.hid (FrL.ext hx3 (by simp only [FBS]; omega) HR2.out (fun i h1 h2 => by simp only [FBS]; omega))
  have HX3 := Lib.hid (hx3.mono (T' := TD) (fun i hi => by simp only [FBS, FB1, FL1] at hi; simp only [TD]; omega))
  have HM3 := Lib.hid hm3
  have HF3 := Lib.hid hf3
  clear hx3 hf3 hrow hnb hq3 hm3
  go_wp2_with fail
  go_quiet (first
    | exact Calls.quiet_of_same ((HO2.out _).mono fun _ _ h => ⟨h.1, h.2.symm⟩))
  go_wp2_with fail
  have hfq := HF3.out.quiet (hpDrewN (fun _ => False) w3 nq)
  refine (fPush hfq (si (binB 21 x y)) HB.out HLL.out).mono ?_
  rintro e w4 ⟨rfl, c4, sv4, hx4, hf4⟩
  have hm3q := HM3.out.quiet (hpDrewN (fun _ => False) w3 nq)
  have hm4 := hm3q.turnTop rfl (FrL.ext (Ext.quiet c3 (hpDrewN (fun _ => False) w3 nq)) (fun h => h) HR3.out (fun _ _ _ h => h)) hx4 hf4 (fun i hi => by simp only [FBS, FB1, FL1] at hi; simp only [FT3]; omega)
  have HFI := Lib.hid (And.intro ((HX3.out.trans (Ext.quietT TD c3 (hpDrewN (fun _ => False) w3 nq)) (fun _ h => h)).trans (hx4.mono (T' := TD) (fun i hi => by simp only [FBS] at hi; simp only [TD]; omega)) (fun _ h => h)) hm4)
  clear hx4 hf4 hm3q hm4 hfq
  go_wp2_with fail
  go_ret
  exact ⟨rfl, _, _, HE2.out.trans HFI.out.1 (fun i hi => hi), HFI.out.2⟩
end
end Go.Proofs.YtdmadfahgkikkaaGreat

/- Package interp: an instruction is done: fields, calls, returns, a division by 0. -/
import Derived.Test.YtdmadfahgkikkaaGreatJkk
import Derived.Test.YtdmadfahgkikkaaGreatQok
namespace Go.Proofs.YtdmadfahgkikkaaGreat
open Go.RowKit Go.Lib Go.ChangeShapes Go.WideShapes Go.Deep Go.MapKept Go.ChangeMaps
set_option linter.unusedVariables false
set_option linter.unusedSimpArgs false

section
variable {c : Nat → Nat} {w : World} {mb rb mp tb : Nat} {tv : Value} {X : McM} {M : RmM} {Ps : List PI} {I : ImgM} {F : FrM} {Fs : List FrM}
set_option maxRecDepth 100000 in
set_option maxHeartbeats 4000000 in
theorem dPutF (h : Mc c w mb rb mp tb tv X M Ps I) (hX : X.Fs = F :: Fs) (hpc : 0 ≤ F.pc ∧ F.pc ≤ 1000000) {L : List Int} {x : Int} {q : Nat} (b : Int) (hs : F.stk = L ++ [x]) (hap : F.app = 0) (hf0 : 0 < M.fields.length) (hq : q < (M.fields.getD 0 []).length) :
    Calls Tryz.prog 41 #[.pointer (some ⟨mb, 0, none⟩), .agg #[.int .i64 34, .int .i64 (q : Int), .int .i64 b]] w fun e w' => e = .returned (.int .i64 0) ∧ ∃ c' tv', Ext TD c w c' w' ∧ Mc c' w' mb rb mp tb tv' (X.withFs ((F.withPc (F.pc + 1)).withStk L :: Fs)) (M.setF 0 q x) Ps I := by
  obtain ⟨fb, cv, p, l, k, lv, sv, rfl, b2, b0, k1, k3, f3, hne, hfl, hml, hw⟩ := dHead h hX 34 (q : Int) b
  obtain ⟨w2, hw2⟩ : ∃ w2, w2 = (w.setCell ⟨fb, 3, none⟩ (.int .i64 (F.pc + 1))).alloc (.cells #[.int .i64 34, .int .i64 (q : Int), .int .i64 b] 30) := ⟨_, rfl⟩
  obtain ⟨E2, h2, hf2, hr2, hq2, h9⟩ := hw (F.pc + 1) w2 hw2
  have hwr : IntKind.i64.wrap (F.pc + 1) = F.pc + 1 := IntWalk.i64_in _ (by omega)
  have HE2 := Lib.hid E2
  have H2 := Lib.hid h2
  have HF2 := Lib.hid hf2
  have HR2 := Lib.hid hr2
  have HQ2 := Lib.hid hq2
  have H9 := Lib.hid h9
  have HW2 := Lib.hid hw2
  have HX := Lib.hid hX
  have HDEP := Lib.hid h.dep
  have HRM := Lib.hid h.rm
  have HPO := Lib.hid (fPop (hf2.quiet (Upd.drew _ _)) (L := L) (x := x) hs)
  have HF0 := Lib.hid hf0
  have HQ := Lib.hid hq
  have HSL := Lib.hid hs
  rw [hap] at k1
  have HAP := Lib.hid hap
  clear hs hap hf0 hq
  clear h hX E2 h2 hf2 hr2 hq2 h9 hw hw2
  go_enter Tryz.func41, Tryz.ntmps41
  go_upto_region 28 with fail
  rw [← HW2.out]
  have hHeld : (fun w' : World => w'.cell? ⟨mb, 0, none⟩ = some (.pointer (some ⟨rb, 0, none⟩)) ∧ w'.cell? ⟨fb, 1, none⟩ = some (.int .i64 0) ∧ w'.cell? ⟨w.heap.size, 1, none⟩ = some (.int .i64 (q : Int))) w2.drew := by
    obtain ⟨-, y1, -, -⟩ := three HQ2.out
    have h1 := HF2.out.bx.2.1
    rw [show (F.withPc (F.pc + 1)).app = 0 from HAP.out] at h1
    exact ⟨H2.out.bx.1, h1, y1⟩
  clear b2 b0 k1 k3 f3
  refine wp_region_last (S := (fun w' : World => w'.cell? ⟨mb, 0, none⟩ = some (.pointer (some ⟨rb, 0, none⟩)) ∧ w'.cell? ⟨fb, 1, none⟩ = some (.int .i64 0) ∧ w'.cell? ⟨w.heap.size, 1, none⟩ = some (.int .i64 (q : Int)))) 12 _ (by kernel_rfl) (by kernel_rfl) rfl ?_
  change wpHL _ _ _ _ _ _ _ _ _ _ w2.drew
  refine wpHL_take (i := 0) (v := ?_) rfl (by kernel_rfl) (fun _ _ _ h => h) hHeld (Or.inl ⟨by rfl, ?_⟩) ?_
  rotate_left
  · (intro w hSw; obtain ⟨y0, y1, y2⟩ := hSw; go_simp; try with_reducible rfl)
  try simp only [Act.put, List.getElem_toArray, List.getElem_cons_succ, List.getElem_cons_zero, List.setIfInBounds_toArray, List.set_cons_zero, List.set_cons_succ]
  refine wpHL_take (i := 1) (v := ?_) rfl (by kernel_rfl) (fun _ _ _ h => h) hHeld (Or.inl ⟨by rfl, ?_⟩) ?_
  rotate_left
  · (intro w hSw; obtain ⟨y0, y1, y2⟩ := hSw; go_simp; try with_reducible rfl)
  try simp only [Act.put, List.getElem_toArray, List.getElem_cons_succ, List.getElem_cons_zero, List.setIfInBounds_toArray, List.set_cons_zero, List.set_cons_succ]
  refine wpHL_take (i := 2) (v := ?_) rfl (by kernel_rfl) (fun _ _ _ h => h) hHeld (Or.inl ⟨by rfl, ?_⟩) ?_
  rotate_left
  · (intro w hSw; obtain ⟨y0, y1, y2⟩ := hSw; go_simp; try with_reducible rfl)
  try simp only [Act.put, List.getElem_toArray, List.getElem_cons_succ, List.getElem_cons_zero, List.setIfInBounds_toArray, List.set_cons_zero, List.set_cons_succ]
  refine wpHL_take (i := 3) (v := ?_) rfl (by kernel_rfl) (fun _ _ _ h => h) hHeld (Or.inl ⟨by rfl, ?_⟩) ?_
  rotate_left
  · (intro w hSw; obtain ⟨y0, y1, y2⟩ := hSw; go_simp; try with_reducible rfl)
  try simp only [Act.put, List.getElem_toArray, List.getElem_cons_succ, List.getElem_cons_zero, List.setIfInBounds_toArray, List.set_cons_zero, List.set_cons_succ]
  refine wpHL_take (i := 4) (v := ?_) rfl (by kernel_rfl) (fun _ _ _ h => h) hHeld (Or.inl ⟨by rfl, ?_⟩) ?_
  rotate_left
  · (intro w hSw; obtain ⟨y0, y1, y2⟩ := hSw; go_simp; try with_reducible rfl)
  try simp only [Act.put, List.getElem_toArray, List.getElem_cons_succ, List.getElem_cons_zero, List.setIfInBounds_toArray, List.set_cons_zero, List.set_cons_succ]
  refine wpHL_take (i := 5) (v := ?_) rfl (by kernel_rfl) (fun _ _ _ h => h) hHeld (Or.inl ⟨by rfl, ?_⟩) ?_
  rotate_left
  · (intro w hSw; obtain ⟨y0, y1, y2⟩ := hSw; go_simp; try with_reducible rfl)
  try simp only [Act.put, List.getElem_toArray, List.getElem_cons_succ, List.getElem_cons_zero, List.setIfInBounds_toArray, List.set_cons_zero, List.set_cons_succ]
  refine wpHL_take (i := 6) (v := ?_) rfl (by kernel_rfl) (fun _ _ _ h => h) hHeld (Or.inl ⟨by rfl, ?_⟩) ?_
  rotate_left
  · (intro w hSw; obtain ⟨y0, y1, y2⟩ := hSw; go_simp; try with_reducible rfl)
  try simp only [Act.put, List.getElem_toArray, List.getElem_cons_succ, List.getElem_cons_zero, List.setIfInBounds_toArray, List.set_cons_zero, List.set_cons_succ]
  refine wpHL_take (i := 7) (v := ?_) rfl (by kernel_rfl) (fun _ _ _ h => h) hHeld (Or.inl ⟨by rfl, ?_⟩) ?_
  rotate_left
  · (intro w hSw; obtain ⟨y0, y1, y2⟩ := hSw; go_simp; try with_reducible rfl)
  try simp only [Act.put, List.getElem_toArray, List.getElem_cons_succ, List.getElem_cons_zero, List.setIfInBounds_toArray, List.set_cons_zero, List.set_cons_succ]
  refine wpHL_take (i := 8) (v := ?_) rfl (by kernel_rfl) (fun _ _ _ h => h) hHeld (Or.inl ⟨by rfl, ?_⟩) ?_
  rotate_left
  · (intro w hSw; obtain ⟨y0, y1, y2⟩ := hSw; go_simp; try with_reducible rfl)
  try simp only [Act.put, List.getElem_toArray, List.getElem_cons_succ, List.getElem_cons_zero, List.setIfInBounds_toArray, List.set_cons_zero, List.set_cons_succ]
  refine wpHL_take (i := 9) (v := ?_) rfl (by kernel_rfl) (fun _ _ _ h => h) hHeld (Or.inl ⟨by rfl, ?_⟩) ?_
  rotate_left
  · (intro w hSw; obtain ⟨y0, y1, y2⟩ := hSw; go_simp; try with_reducible rfl)
  try simp only [Act.put, List.getElem_toArray, List.getElem_cons_succ, List.getElem_cons_zero, List.setIfInBounds_toArray, List.set_cons_zero, List.set_cons_succ]
  refine wpHL_take (i := 10) (v := ?_) rfl (by kernel_rfl) (fun _ _ _ h => h) hHeld (Or.inl ⟨by rfl, ?_⟩) ?_
  rotate_left
  · (intro w hSw; obtain ⟨y0, y1, y2⟩ := hSw; go_simp; try with_reducible rfl)
  try simp only [Act.put, List.getElem_toArray, List.getElem_cons_succ, List.getElem_cons_zero, List.setIfInBounds_toArray, List.set_cons_zero, List.set_cons_succ]
  refine wpHL_step (i := 11) rfl (by kernel_rfl) (by decide) (fun K hK => ?_)
  have HKK := Lib.hid hK
  clear hK hHeld
  go_simp
  refine HPO.out.mono ?_
  rintro e w3 ⟨rfl, c3, sv3, hx3, hf3⟩
  have hx3' : Ext (FBS Fs.length) (paint c w 9) w2 c3 w3 := ⟨hx3.same, (Upd.drew (fun q => FBS Fs.length (paint c w 9 q)) w2).trans hx3.upd (fun q hq _ => hq)⟩
  have hm3 := H2.out.turnTop rfl HR2.out hx3' hf3 (fun i hi => by simp only [FBS, FB1, FL1] at hi; simp only [FT3]; omega)
  have hq3 := hpBlk hx3'.upd HQ2.out (by rw [H9.out]; simp only [FBS]; omega)
  have hHeld : (fun w' : World => w'.cell? ⟨mb, 0, none⟩ = some (.pointer (some ⟨rb, 0, none⟩)) ∧ w'.cell? ⟨fb, 1, none⟩ = some (.int .i64 0) ∧ w'.cell? ⟨w.heap.size, 1, none⟩ = some (.int .i64 (q : Int))) w3 := by
    obtain ⟨-, y1, -, -⟩ := three hq3
    have h1 := hf3.bx.2.1
    rw [show ((F.withPc (F.pc + 1)).withStk L).app = 0 from HAP.out] at h1
    exact ⟨hm3.bx.1, h1, y1⟩
  have HSF := Lib.hid (rSetField hm3.rm.rm (i := 0) (k := q) HF0.out HQ.out x)
  have HX3 := Lib.hid hx3'
  have HM3 := Lib.hid hm3
  clear hx3 hx3' hf3 hm3 hq3
  go_simp
  refine HKK.out _ _ hHeld ?_
  clear HKK hHeld
  try simp only [Act.put, List.getElem_toArray, List.getElem_cons_succ, List.getElem_cons_zero, List.setIfInBounds_toArray, List.set_cons_zero, List.set_cons_succ]
  refine wpHL_last (by kernel_rfl) ?_
  go_wp2_with fail
  refine HSF.out.mono ?_
  rintro e w4 ⟨rfl, hx4, hr4⟩
  have hm4 := HM3.out.room hx4 (HM3.out.rm.turn hr4 rfl (by simp [RmM.setF]) hx4 (ft_ne (by omega))) (fun i => by
    by_cases e : i = 100 + 0
    · exact .inr (.inr (by omega))
    · exact .inl (ft_ne e))
  have HFI := Lib.hid (And.intro ((HX3.out.mono (T' := TD) (fun i hi => by simp only [FBS] at hi; simp only [TD]; omega)).trans (hx4.mono (T' := TD) (fun i hi => by simp only [FT] at hi; simp only [TD]; omega)) (fun _ h => h)) hm4)
  clear hx4 hr4 hm4
  go_wp2_with fail
  go_ret
  exact ⟨rfl, _, _, HE2.out.trans HFI.out.1 (fun i hi => hi), HFI.out.2⟩
set_option maxRecDepth 100000 in
set_option maxHeartbeats 4000000 in
theorem dCallDeep (h : Mc c w mb rb mp tb tv X M Ps I) (hX : X.Fs = F :: Fs) (hpc : 0 ≤ F.pc ∧ F.pc ≤ 1000000) (b : Int) {j : Nat} (hap : F.app = 0) (hd : X.Fs.length = 8) :
    Calls Tryz.prog 41 #[.pointer (some ⟨mb, 0, none⟩), .agg #[.int .i64 37, .int .i64 (j : Int), .int .i64 b]] w fun e w' => e = .returned (.int .i64 28422) ∧ ∃ c' tv', Ext TD c w c' w' ∧ Mc c' w' mb rb mp tb tv' (X.withFs (F.withPc (F.pc + 1) :: Fs)) M Ps I := by
  obtain ⟨fb, cv, p, l, k, lv, sv, rfl, b2, b0, k1, k3, f3, hne, hfl, hml, hw⟩ := dHead h hX 37 (j : Int) b
  obtain ⟨w2, hw2⟩ : ∃ w2, w2 = (w.setCell ⟨fb, 3, none⟩ (.int .i64 (F.pc + 1))).alloc (.cells #[.int .i64 37, .int .i64 (j : Int), .int .i64 b] 30) := ⟨_, rfl⟩
  obtain ⟨E2, h2, hf2, hr2, hq2, h9⟩ := hw (F.pc + 1) w2 hw2
  have hwr : IntKind.i64.wrap (F.pc + 1) = F.pc + 1 := IntWalk.i64_in _ (by omega)
  have HE2 := Lib.hid E2
  have H2 := Lib.hid h2
  have HF2 := Lib.hid hf2
  have HR2 := Lib.hid hr2
  have HQ2 := Lib.hid hq2
  have H9 := Lib.hid h9
  have HW2 := Lib.hid hw2
  have HX := Lib.hid hX
  have HDEP := Lib.hid h.dep
  have HRM := Lib.hid h.rm
  have HCA := Lib.hid (fun u (hu : Upd (fun _ => False) w2 u) => mCallDeep (h2.quiet hu) (by show (F.withPc (F.pc + 1) :: Fs).length = 8; rw [← hd, hX]; rfl) 0 (j : Int))
  rw [hap] at k1
  obtain ⟨-, y1, -, -⟩ := three hq2
  rw [hw2] at y1
  have HAP := Lib.hid hap
  clear hap hd
  clear h hX E2 h2 hf2 hr2 hq2 h9 hw hw2
  go_enter Tryz.func41, Tryz.ntmps41
  go_wp2_with fail
  rw [← HW2.out]
  have y1' : w2.cell? ⟨w.heap.size, 1, none⟩ = some (.int .i64 (j : Int)) := by obtain ⟨-, y1, -, -⟩ := three HQ2.out; exact y1
  have k1' : w2.cell? ⟨fb, 1, none⟩ = some (.int .i64 0) := by have h1 := HF2.out.bx.2.1; rw [show (F.withPc (F.pc + 1)).app = 0 from HAP.out] at h1; exact h1
  clear y1 k1 b2 b0 k3 f3
  go_region_law ((first
    | (go_simp; (refine (HCA.out _ (Upd.drew _ w2)).mono ?_); rintro e w3 ⟨rfl, rfl⟩)))
  all_goals
    simp only [Exit.inBlock, Exit.then]
    go_at_K
    go_wp2_with fail
    go_ret
    exact ⟨rfl, _, _, HE2.out.trans (Ext.quietT TD _ (Upd.drew _ w2)) (fun _ h => h), H2.out.quiet (Upd.drew _ _)⟩
set_option maxRecDepth 100000 in
set_option maxHeartbeats 4000000 in
theorem dCall (h : Mc c w mb rb mp tb tv X M Ps I) (hX : X.Fs = F :: Fs) (hpc : 0 ≤ F.pc ∧ F.pc ≤ 1000000) (b : Int) {j : Nat} (hap : F.app = 0) (hd : X.Fs.length < 8) (hj : j < I.methods.length) (hl : (I.methods.getD j default).params.length + (I.methods.getD j default).locals.length ≤ 1000) {L A : List Int} (hs : F.stk = L ++ A) (hA : A.length = (I.methods.getD j default).params.length) :
    Calls Tryz.prog 41 #[.pointer (some ⟨mb, 0, none⟩), .agg #[.int .i64 37, .int .i64 (j : Int), .int .i64 b]] w fun e w' => e = .returned (.int .i64 0) ∧ ∃ c' tv', Ext TD c w c' w' ∧ Mc c' w' mb rb mp tb tv' (X.withFs (callF I j A :: (F.withPc (F.pc + 1)).withStk L :: Fs)) M Ps I := by
  obtain ⟨fb, cv, p, l, k, lv, sv, rfl, b2, b0, k1, k3, f3, hne, hfl, hml, hw⟩ := dHead h hX 37 (j : Int) b
  obtain ⟨w2, hw2⟩ : ∃ w2, w2 = (w.setCell ⟨fb, 3, none⟩ (.int .i64 (F.pc + 1))).alloc (.cells #[.int .i64 37, .int .i64 (j : Int), .int .i64 b] 30) := ⟨_, rfl⟩
  obtain ⟨E2, h2, hf2, hr2, hq2, h9⟩ := hw (F.pc + 1) w2 hw2
  have hwr : IntKind.i64.wrap (F.pc + 1) = F.pc + 1 := IntWalk.i64_in _ (by omega)
  have HE2 := Lib.hid E2
  have H2 := Lib.hid h2
  have HF2 := Lib.hid hf2
  have HR2 := Lib.hid hr2
  have HQ2 := Lib.hid hq2
  have H9 := Lib.hid h9
  have HW2 := Lib.hid hw2
  have HX := Lib.hid hX
  have HDEP := Lib.hid h.dep
  have HRM := Lib.hid h.rm
  have HCA := Lib.hid (fun u (hu : Upd (fun _ => False) w2 u) => mCall (h2.quiet hu) rfl (by show (F.withPc (F.pc + 1) :: Fs).length < 8; have h3 := hd; rw [hX] at h3; exact h3) hj hl (L := L) (A := A) hs hA)
  have HAP := Lib.hid hap
  have HD8 := Lib.hid hd
  obtain ⟨-, y1, -, -⟩ := three hq2
  rw [hw2] at y1
  clear hap hd hj hl hs hA
  clear h hX E2 h2 hf2 hr2 hq2 h9 hw hw2
  go_enter Tryz.func41, Tryz.ntmps41
  go_wp2_with fail
  rw [← HW2.out]
  have y1' : w2.cell? ⟨w.heap.size, 1, none⟩ = some (.int .i64 (j : Int)) := by obtain ⟨-, y1, -, -⟩ := three HQ2.out; exact y1
  have k1' : w2.cell? ⟨fb, 1, none⟩ = some (.int .i64 0) := by have h1 := HF2.out.bx.2.1; rw [show (F.withPc (F.pc + 1)).app = 0 from HAP.out] at h1; exact h1
  clear y1 k1 b2 b0 k3 f3
  go_region_law ((first
    | (go_simp; (refine (HCA.out _ (Upd.drew _ w2)).mono ?_); rintro e w3 ⟨rfl, c3, tv3, hx3, hm3⟩; have HX3 := Lib.hid hx3; have HM3 := Lib.hid hm3; clear hx3 hm3)))
  all_goals
    simp only [Exit.inBlock, Exit.then]
    go_at_K
    go_wp2_with fail
    go_ret
    have hx4 : Ext (TCall Fs.length) (paint c w 9) w2 c3 w3 := ⟨HX3.out.same, (Upd.drew (fun q => TCall Fs.length (paint c w 9 q)) w2).trans HX3.out.upd (fun q hq _ => hq)⟩
    exact ⟨rfl, _, _, HE2.out.trans (hx4.mono (T' := TD) (fun i hi => by simp only [TCall, FBS] at hi; simp only [TD]; omega)) (fun _ h => h), HM3.out⟩
set_option maxRecDepth 100000 in
set_option maxHeartbeats 4000000 in
theorem dRetFirst (h : Mc c w mb rb mp tb tv X M Ps I) (hX : X.Fs = F :: Fs) (hpc : 0 ≤ F.pc ∧ F.pc ≤ 1000000) (a b : Int) (h0 : Fs = []) :
    Calls Tryz.prog 41 #[.pointer (some ⟨mb, 0, none⟩), .agg #[.int .i64 39, .int .i64 a, .int .i64 b]] w fun e w' => e = .returned (.int .i64 36864) ∧ ∃ c' tv', Ext TD c w c' w' ∧ Mc c' w' mb rb mp tb tv' (X.withFs ([])) M Ps I := by
  obtain ⟨fb, cv, p, l, k, lv, sv, rfl, b2, b0, k1, k3, f3, hne, hfl, hml, hw⟩ := dHead h hX 39 a b
  obtain ⟨w2, hw2⟩ : ∃ w2, w2 = (w.setCell ⟨fb, 3, none⟩ (.int .i64 (F.pc + 1))).alloc (.cells #[.int .i64 39, .int .i64 a, .int .i64 b] 30) := ⟨_, rfl⟩
  obtain ⟨E2, h2, hf2, hr2, hq2, h9⟩ := hw (F.pc + 1) w2 hw2
  have hwr : IntKind.i64.wrap (F.pc + 1) = F.pc + 1 := IntWalk.i64_in _ (by omega)
  have HE2 := Lib.hid E2
  have H2 := Lib.hid h2
  have HF2 := Lib.hid hf2
  have HR2 := Lib.hid hr2
  have HQ2 := Lib.hid hq2
  have H9 := Lib.hid h9
  have HW2 := Lib.hid hw2
  have HX := Lib.hid hX
  have HDEP := Lib.hid h.dep
  have HRM := Lib.hid h.rm
  have HRE := Lib.hid (mRetFirst h2 (by show F.withPc (F.pc + 1) :: Fs = _; rw [h0]))
  clear h0
  clear h hX E2 h2 hf2 hr2 hq2 h9 hw hw2
  go_enter Tryz.func41, Tryz.ntmps41
  go_wp2_with fail
  rw [← HW2.out]
  refine HRE.out.mono ?_
  rintro e w3 ⟨rfl, c3, hx3, hm3⟩
  have HFI := Lib.hid (And.intro (hx3.mono (T' := TD) (fun i hi => by simp only [T10] at hi; simp only [TD]; omega)) hm3)
  clear hx3 hm3
  go_wp2_with fail
  go_ret
  exact ⟨rfl, _, _, HE2.out.trans HFI.out.1 (fun i hi => hi), HFI.out.2⟩
set_option maxRecDepth 100000 in
set_option maxHeartbeats 4000000 in
theorem dRet0 (h : Mc c w mb rb mp tb tv X M Ps I) (hX : X.Fs = F :: Fs) (hpc : 0 ≤ F.pc ∧ F.pc ≤ 1000000) (a b : Int) {G : FrM} {Gs : List FrM} (hFs : Fs = G :: Gs) (h0 : F.m.res = 0) :
    Calls Tryz.prog 41 #[.pointer (some ⟨mb, 0, none⟩), .agg #[.int .i64 39, .int .i64 a, .int .i64 b]] w fun e w' => e = .returned (.int .i64 0) ∧ ∃ c' tv', Ext TD c w c' w' ∧ Mc c' w' mb rb mp tb tv' (X.withFs (Fs)) M Ps I := by
  obtain ⟨fb, cv, p, l, k, lv, sv, rfl, b2, b0, k1, k3, f3, hne, hfl, hml, hw⟩ := dHead h hX 39 a b
  obtain ⟨w2, hw2⟩ : ∃ w2, w2 = (w.setCell ⟨fb, 3, none⟩ (.int .i64 (F.pc + 1))).alloc (.cells #[.int .i64 39, .int .i64 a, .int .i64 b] 30) := ⟨_, rfl⟩
  obtain ⟨E2, h2, hf2, hr2, hq2, h9⟩ := hw (F.pc + 1) w2 hw2
  have hwr : IntKind.i64.wrap (F.pc + 1) = F.pc + 1 := IntWalk.i64_in _ (by omega)
  have HE2 := Lib.hid E2
  have H2 := Lib.hid h2
  have HF2 := Lib.hid hf2
  have HR2 := Lib.hid hr2
  have HQ2 := Lib.hid hq2
  have H9 := Lib.hid h9
  have HW2 := Lib.hid hw2
  have HX := Lib.hid hX
  have HDEP := Lib.hid h.dep
  have HRM := Lib.hid h.rm
  have HRE := Lib.hid (mRet0 (F := F.withPc (F.pc + 1)) (G := G) (Fs := Gs) h2 (by show F.withPc (F.pc + 1) :: Fs = _; rw [hFs]) h0)
  rw [← hFs] at HRE
  clear h0 hFs
  clear h hX E2 h2 hf2 hr2 hq2 h9 hw hw2
  go_enter Tryz.func41, Tryz.ntmps41
  go_wp2_with fail
  rw [← HW2.out]
  refine HRE.out.mono ?_
  rintro e w3 ⟨rfl, c3, tv3, hx3, hm3⟩
  have HFI := Lib.hid (And.intro (hx3.mono (T' := TD) (fun i hi => by simp only [T10] at hi; simp only [TD]; omega)) hm3)
  clear hx3 hm3
  go_wp2_with fail
  go_ret
  exact ⟨rfl, _, _, HE2.out.trans HFI.out.1 (fun i hi => hi), HFI.out.2⟩
set_option maxRecDepth 100000 in
set_option maxHeartbeats 4000000 in
theorem dRet1 (h : Mc c w mb rb mp tb tv X M Ps I) (hX : X.Fs = F :: Fs) (hpc : 0 ≤ F.pc ∧ F.pc ≤ 1000000) (a b : Int) {G : FrM} {Gs : List FrM} (hFs : Fs = G :: Gs) (h0 : F.m.res ≠ 0) {L : List Int} {x : Int} (hs : F.stk = L ++ [x]) (hl : G.stk.length < 1000000) :
    Calls Tryz.prog 41 #[.pointer (some ⟨mb, 0, none⟩), .agg #[.int .i64 39, .int .i64 a, .int .i64 b]] w fun e w' => e = .returned (.int .i64 0) ∧ ∃ c' tv', Ext TD c w c' w' ∧ Mc c' w' mb rb mp tb tv' (X.withFs (G.withStk (G.stk ++ [x]) :: Gs)) M Ps I := by
  obtain ⟨fb, cv, p, l, k, lv, sv, rfl, b2, b0, k1, k3, f3, hne, hfl, hml, hw⟩ := dHead h hX 39 a b
  obtain ⟨w2, hw2⟩ : ∃ w2, w2 = (w.setCell ⟨fb, 3, none⟩ (.int .i64 (F.pc + 1))).alloc (.cells #[.int .i64 39, .int .i64 a, .int .i64 b] 30) := ⟨_, rfl⟩
  obtain ⟨E2, h2, hf2, hr2, hq2, h9⟩ := hw (F.pc + 1) w2 hw2
  have hwr : IntKind.i64.wrap (F.pc + 1) = F.pc + 1 := IntWalk.i64_in _ (by omega)
  have HE2 := Lib.hid E2
  have H2 := Lib.hid h2
  have HF2 := Lib.hid hf2
  have HR2 := Lib.hid hr2
  have HQ2 := Lib.hid hq2
  have H9 := Lib.hid h9
  have HW2 := Lib.hid hw2
  have HX := Lib.hid hX
  have HDEP := Lib.hid h.dep
  have HRM := Lib.hid h.rm
  have HRE := Lib.hid (mRet1 (F := F.withPc (F.pc + 1)) (G := G) (Fs := Gs) h2 (by show F.withPc (F.pc + 1) :: Fs = _; rw [hFs]) h0 hs hl)
  clear h0 hFs hs hl
  clear h hX E2 h2 hf2 hr2 hq2 h9 hw hw2
  go_enter Tryz.func41, Tryz.ntmps41
  go_wp2_with fail
  rw [← HW2.out]
  refine HRE.out.mono ?_
  rintro e w3 ⟨rfl, c3, tv3, hx3, hm3⟩
  have HFI := Lib.hid (And.intro (hx3.mono (T' := TD) (fun i hi => by simp only [FBS] at hi; simp only [TD]; omega)) hm3)
  clear hx3 hm3
  go_wp2_with fail
  go_ret
  exact ⟨rfl, _, _, HE2.out.trans HFI.out.1 (fun i hi => hi), HFI.out.2⟩
end
end Go.Proofs.YtdmadfahgkikkaaGreat

/- Package chip: an instruction is done. -/
import Derived.Test.YtibmgmgkaacibaaEqk
import Derived.Test.YtibmgmgkaacibaaZg
import Derived.Test.YtibmgmgkaacibaaRl
import Derived.Deep.RegionHeld3
namespace Go.Proofs.Ytibmgmgkaacibaa
open Go.RowKit Go.ChangeShapes Go.WideShapes Go.Deep Go.IntWalk
set_option linter.unusedVariables false
set_option linter.unusedSimpArgs false
def szP (op : Nat) : Nat := bif op == 43 then 4 else 2
def doX1 (op : Nat) (x : Ch) : Ch := x.withR 15 ((x.R 15 + szP op) % 4294967296)
def doA (op d n m cond : Nat) (imm : Int) (x : Ch) (M : Nat → Nat) : Rs :=
  ansP op d cond imm (lefP (doX1 op x).R op d n m) (rigP (doX1 op x).R op m imm) ((x.R 15 + 4) % 4294967296) (doX1 op x) M
def sgP (op out : Nat) (x : Ch) : Ch := bif maskB 268435454 op then { x with nf := out / 2147483648 != 0, zf := out == 0 } else x
def stD (op d out : Nat) (x : Ch) : Ch := bif maskB 46157266430 op then x.withR d out else x
def doP (op d n m cond : Nat) (imm : Int) (x : Ch) (M : Nat → Nat) : Rs :=
  ⟨stD op d (doA op d n m cond imm x M).out (sgP op (doA op d n m cond imm x M).out (doA op d n m cond imm x M).x), (doA op d n m cond imm x M).t, (doA op d n m cond imm x M).c, (doA op d n m cond imm x M).M, (doA op d n m cond imm x M).out⟩
theorem wdN_lt {M : Nat → Nat} (h : MOk M) (k : Int) : (wdP M k).toNat < 4294967296 := by
  unfold wdP; split
  · have := wordM_lt h k.toNat; omega
  · simp
theorem byN_lt {M : Nat → Nat} (h : MOk M) (k : Int) : (byP M k).toNat < 4294967296 := by
  unfold byP; split
  · have := h k.toNat; omega
  · simp
theorem ansP_lt (op d cond : Nat) (imm : Int) (l r pc : Nat) (x : Ch) (M : Nat → Nat) (hl : l < 4294967296) (hr : r < 4294967296) (hM : MOk M) : (ansP op d cond imm l r pc x M).out < 4294967296 := by
  have h1 : l &&& r < 4294967296 := Nat.lt_of_le_of_lt Nat.and_le_left hl
  have h2 : l &&& (4294967295 - r) < 4294967296 := Nat.lt_of_le_of_lt Nat.and_le_left hl
  have h3 : l ||| r < 4294967296 := Nat.or_lt_two_pow (n := 32) hl hr
  have h4 : l ^^^ r < 4294967296 := Nat.xor_lt_two_pow (n := 32) hl hr
  unfold ansP
  split
  all_goals first
    | with_reducible exact h1
    | with_reducible exact h2
    | with_reducible exact h3
    | with_reducible exact h4
    | with_reducible exact hr
    | with_reducible exact sumN_lt _ _ _
    | with_reducible exact lslN_lt _ _
    | with_reducible exact lsrN_lt _ _ hl
    | with_reducible exact asrN_lt _ _
    | with_reducible exact rorN_lt _ _ hl
    | with_reducible exact wdN_lt hM _
    | with_reducible exact byN_lt hM _
    | (show _ % 4294967296 < 4294967296; exact Nat.mod_lt _ (by decide))
    | (show (0 : Nat) < 4294967296; decide)
    | (show 4294967295 - r < 4294967296; omega)
    | (unfold pushP; cases allSw _ _ <;> (show (0 : Nat) < 4294967296; decide))
    | (unfold popP; show (0 : Nat) < 4294967296; decide)
    | (cases holdsP x cond <;> (show (0 : Nat) < 4294967296; decide))
section
variable {w w' : World} {b bm g : Nat} {x : Ch} {i : I6} {t_ c : Int} {M : Nat → Nat}
theorem lefP_lt {R : Nat → Nat} (h : WordsOk R) (op d n m : Nat) : lefP R op d n m < 4294967296 := by
  unfold lefP; repeat' split
  all_goals first | exact h _ | omega
theorem rigP_lt {R : Nat → Nat} (h : WordsOk R) (op m : Nat) (imm : Int) : rigP R op m imm < 4294967296 := by
  unfold rigP; split
  · exact h _
  · omega
theorem eq0 (m : Nat) : (((m : Nat) : Int) == 0) = (m == 0) := by
  have h := ne0 m
  simp only [bne] at h
  exact Bool.not_inj h
theorem tSize2 (i : I6) (op : Nat) (hop : i.op = (op : Int)) (w : World) : Calls Try.prog 48 #[i.val] w fun e w' => e = .returned (.int .i64 (szP op : Int)) ∧ New w w' := by
  refine (tSize i w).mono fun e w' h => ⟨?_, h.2⟩
  rw [h.1, hop]
  by_cases h43 : op = 43
  · subst h43; rfl
  · have h1 : ((op : Int) == 43) = false := by simp; omega
    have h2 : (op == 43) = false := by simpa using h43
    rw [h1]; unfold szP; rw [h2]; rfl
set_option maxRecDepth 20000 in
set_option maxHeartbeats 4000000 in
theorem sDo (h : Stp w b bm g i x (-1) 1 M) (op d n m cond : Nat) (hi : InOk i op d n m cond) (hop : 1 ≤ op) (him : op = 39 ∨ op = 40 → 1 ≤ i.imm ∧ i.imm ≤ 511) (hst : x.st = 0) : Calls Try.prog 33 #[.pointer (some ⟨b, 0, none⟩)] w fun e w' => ∃ a, a = doA op d n m cond i.imm x M ∧ a.out < 4294967296 ∧ e = .returned (.tuple #[]) ∧ Stp w' b bm g i (stD op d a.out (sgP op a.out a.x)) a.t a.c a.M ∧ Upd (BG b g) w w' := by
  have c15 := h.sp.c15
  have H0 := Lib.hid (h.calm (Upd.drew (fun _ => False) w))
  have HI := Lib.hid hi
  have HIM := Lib.hid him
  have HST := Lib.hid hst
  have HOP := Lib.hid hop
  have HMO := Lib.hid h.mm.ok
  have HWO := Lib.hid h.sp.ok
  obtain ⟨a15, ha15⟩ : ∃ a15, (x.R 15 + szP op) % 4294967296 = a15 := ⟨_, rfl⟩
  have ha15l : a15 < 4294967296 := by omega
  have HA15 := Lib.hid (show ((x.R 15 : Int) + (szP op : Int)) % 4294967296 = (a15 : Int) by omega)
  have HX1 : Hid (x.withR 15 a15 = doX1 op x) := Lib.hid (by unfold doX1; rw [ha15])
  obtain ⟨pc, hpc⟩ : ∃ pc, (x.R 15 + 4) % 4294967296 = pc := ⟨_, rfl⟩
  have hpcl : pc < 4294967296 := by omega
  have HPC := Lib.hid (show ((x.R 15 : Int) + 4) % 4294967296 = (pc : Int) by omega)
  obtain ⟨a, ha⟩ : ∃ a, a = doA op d n m cond i.imm x M := ⟨_, rfl⟩
  have HA : Hid (ansP op d cond i.imm (lefP (doX1 op x).R op d n m) (rigP (doX1 op x).R op m i.imm) pc (doX1 op x) M = a) := Lib.hid (by rw [ha, ← hpc]; rfl)
  have hx1 : WordsOk (doX1 op x).R := by rw [← HX1.out]; exact h.sp.ok.set 15 ha15l
  have HL := Lib.hid (lefP_lt hx1 op d n m)
  have HR := Lib.hid (rigP_lt hx1 op m i.imm)
  have HOL : Hid (a.out < 4294967296) := Lib.hid (by rw [← HA.out]; exact ansP_lt op d cond i.imm _ _ pc _ M HL.out HR.out h.mm.ok)
  have hst1 : (doX1 op x).st = 0 := hst
  have HS1 := Lib.hid hst1
  have hol := HOL.out
  suffices hs : Calls Try.prog 33 #[.pointer (some ⟨b, 0, none⟩)] w fun e w' => e = .returned (.tuple #[]) ∧ Stp w' b bm g i (stD op d a.out (sgP op a.out a.x)) a.t a.c a.M ∧ Upd (BG b g) w w' from hs.mono fun e w' h => ⟨a, ha, hol, h⟩
  clear h hi him hst hop ha15 hpc ha hx1 hst1
  go_enter Try.func33, Try.ntmps33
  go_wp2_with fail
  have hHeld : w.drew.cell? ⟨b, 15, none⟩ = some (.int .u32 (x.R 15 : Int)) ∧ w.drew.cell? ⟨b, 24, none⟩ = some (.int .i64 i.op) ∧ w.drew.cell? ⟨b, 25, none⟩ = some (.int .i64 i.d) ∧ w.drew.cell? ⟨b, 26, none⟩ = some (.int .i64 i.n) ∧ w.drew.cell? ⟨b, 27, none⟩ = some (.int .i64 i.m) ∧ w.drew.cell? ⟨b, 28, none⟩ = some (.int .i64 i.imm) ∧ w.drew.cell? ⟨b, 29, none⟩ = some (.int .i64 i.cond) := ⟨H0.out.sp.c15, H0.out.sp.c24, H0.out.sp.c25, H0.out.sp.c26, H0.out.sp.c27, H0.out.sp.c28, H0.out.sp.c29⟩
  refine wp_region_last (S := fun u => u.cell? ⟨b, 15, none⟩ = some (.int .u32 (x.R 15 : Int)) ∧ u.cell? ⟨b, 24, none⟩ = some (.int .i64 i.op) ∧ u.cell? ⟨b, 25, none⟩ = some (.int .i64 i.d) ∧ u.cell? ⟨b, 26, none⟩ = some (.int .i64 i.n) ∧ u.cell? ⟨b, 27, none⟩ = some (.int .i64 i.m) ∧ u.cell? ⟨b, 28, none⟩ = some (.int .i64 i.imm) ∧ u.cell? ⟨b, 29, none⟩ = some (.int .i64 i.cond)) 17 _ (by kernel_rfl) (by kernel_rfl) rfl ?_
  change wpHL _ _ _ _ _ _ _ _ _ _ w.drew
  refine wpHL_take (i := 0) (v := ?_) rfl (by kernel_rfl) (fun _ _ _ h => h) hHeld (Or.inl ⟨by rfl, ?_⟩) ?_
  rotate_left
  · (intro u hSw; obtain ⟨y0, y1, y2, y3, y4, y5, y6⟩ := hSw; go_simp; try with_reducible rfl)
  try simp only [Act.put, List.getElem_toArray, List.getElem_cons_succ, List.getElem_cons_zero, List.setIfInBounds_toArray, List.set_cons_zero, List.set_cons_succ]
  refine wpHL_take (i := 1) (v := ?_) rfl (by kernel_rfl) (fun _ _ _ h => h) hHeld (Or.inl ⟨by rfl, ?_⟩) ?_
  rotate_left
  · (intro u hSw; obtain ⟨y0, y1, y2, y3, y4, y5, y6⟩ := hSw; go_simp; try with_reducible rfl)
  try simp only [Act.put, List.getElem_toArray, List.getElem_cons_succ, List.getElem_cons_zero, List.setIfInBounds_toArray, List.set_cons_zero, List.set_cons_succ]
  refine wpHL_take (i := 2) (v := ?_) rfl (by kernel_rfl) (fun _ _ _ h => h) hHeld (Or.inl ⟨by rfl, ?_⟩) ?_
  rotate_left
  · (intro u hSw; obtain ⟨y0, y1, y2, y3, y4, y5, y6⟩ := hSw; go_simp; try with_reducible rfl)
  try simp only [Act.put, List.getElem_toArray, List.getElem_cons_succ, List.getElem_cons_zero, List.setIfInBounds_toArray, List.set_cons_zero, List.set_cons_succ]
  refine wpHL_take (i := 3) (v := ?_) rfl (by kernel_rfl) (fun _ _ _ h => h) hHeld (Or.inl ⟨by rfl, ?_⟩) ?_
  rotate_left
  · (intro u hSw; obtain ⟨y0, y1, y2, y3, y4, y5, y6⟩ := hSw; go_simp; try with_reducible rfl)
  try simp only [Act.put, List.getElem_toArray, List.getElem_cons_succ, List.getElem_cons_zero, List.setIfInBounds_toArray, List.set_cons_zero, List.set_cons_succ]
  refine wpHL_take (i := 4) (v := ?_) rfl (by kernel_rfl) (fun _ _ _ h => h) hHeld (Or.inl ⟨by rfl, ?_⟩) ?_
  rotate_left
  · (intro u hSw; obtain ⟨y0, y1, y2, y3, y4, y5, y6⟩ := hSw; go_simp; try with_reducible rfl)
  try simp only [Act.put, List.getElem_toArray, List.getElem_cons_succ, List.getElem_cons_zero, List.setIfInBounds_toArray, List.set_cons_zero, List.set_cons_succ]
  refine wpHL_take (i := 5) (v := ?_) rfl (by kernel_rfl) (fun _ _ _ h => h) hHeld (Or.inl ⟨by rfl, ?_⟩) ?_
  rotate_left
  · (intro u hSw; obtain ⟨y0, y1, y2, y3, y4, y5, y6⟩ := hSw; go_simp; try with_reducible rfl)
  try simp only [Act.put, List.getElem_toArray, List.getElem_cons_succ, List.getElem_cons_zero, List.setIfInBounds_toArray, List.set_cons_zero, List.set_cons_succ]
  refine wpHL_take (i := 6) (v := ?_) rfl (by kernel_rfl) (fun _ _ _ h => h) hHeld (Or.inl ⟨by rfl, ?_⟩) ?_
  rotate_left
  · (intro u hSw; obtain ⟨y0, y1, y2, y3, y4, y5, y6⟩ := hSw; go_simp; try with_reducible rfl)
  try simp only [Act.put, List.getElem_toArray, List.getElem_cons_succ, List.getElem_cons_zero, List.setIfInBounds_toArray, List.set_cons_zero, List.set_cons_succ]
  refine wpHL_take (i := 7) (v := ?_) rfl (by kernel_rfl) (fun _ _ _ h => h) hHeld (Or.inl ⟨by rfl, ?_⟩) ?_
  rotate_left
  · (intro u hSw; obtain ⟨y0, y1, y2, y3, y4, y5, y6⟩ := hSw; go_simp; try with_reducible rfl)
  try simp only [Act.put, List.getElem_toArray, List.getElem_cons_succ, List.getElem_cons_zero, List.setIfInBounds_toArray, List.set_cons_zero, List.set_cons_succ]
  refine wpHL_take (i := 8) (v := ?_) rfl (by kernel_rfl) (fun _ _ _ h => h) hHeld (Or.inl ⟨by rfl, ?_⟩) ?_
  rotate_left
  · (intro u hSw; obtain ⟨y0, y1, y2, y3, y4, y5, y6⟩ := hSw; go_simp; try with_reducible rfl)
  try simp only [Act.put, List.getElem_toArray, List.getElem_cons_succ, List.getElem_cons_zero, List.setIfInBounds_toArray, List.set_cons_zero, List.set_cons_succ]
  refine wpHL_take (i := 9) (v := ?_) rfl (by kernel_rfl) (fun _ _ _ h => h) hHeld (Or.inl ⟨by rfl, ?_⟩) ?_
  rotate_left
  · (intro u hSw; obtain ⟨y0, y1, y2, y3, y4, y5, y6⟩ := hSw; go_simp; try with_reducible rfl)
  try simp only [Act.put, List.getElem_toArray, List.getElem_cons_succ, List.getElem_cons_zero, List.setIfInBounds_toArray, List.set_cons_zero, List.set_cons_succ]
  refine wpHL_take (i := 13) (v := ?_) rfl (by kernel_rfl) (fun _ _ _ h => h) hHeld (Or.inl ⟨by rfl, ?_⟩) ?_
  rotate_left
  · (intro u hSw; obtain ⟨y0, y1, y2, y3, y4, y5, y6⟩ := hSw; go_simp; try with_reducible rfl)
  try simp only [Act.put, List.getElem_toArray, List.getElem_cons_succ, List.getElem_cons_zero, List.setIfInBounds_toArray, List.set_cons_zero, List.set_cons_succ]
  refine wpHL_take (i := 14) (v := ?_) rfl (by kernel_rfl) (fun _ _ _ h => h) hHeld (Or.inl ⟨by rfl, ?_⟩) ?_
  rotate_left
  · (intro u hSw; obtain ⟨y0, y1, y2, y3, y4, y5, y6⟩ := hSw; go_simp; try with_reducible rfl)
  try simp only [Act.put, List.getElem_toArray, List.getElem_cons_succ, List.getElem_cons_zero, List.setIfInBounds_toArray, List.set_cons_zero, List.set_cons_succ]
  refine wpHL_take (i := 15) (v := ?_) rfl (by kernel_rfl) (fun _ _ _ h => h) hHeld (Or.inl ⟨by rfl, ?_⟩) ?_
  rotate_left
  · (intro u hSw; obtain ⟨y0, y1, y2, y3, y4, y5, y6⟩ := hSw; go_simp; try with_reducible rfl)
  try simp only [Act.put, List.getElem_toArray, List.getElem_cons_succ, List.getElem_cons_zero, List.setIfInBounds_toArray, List.set_cons_zero, List.set_cons_succ]
  refine wpHL_step (i := 10) rfl (by kernel_rfl) (by decide) (fun K hK => ?_)
  have HKK := Lib.hid hK
  clear hK hHeld
  go_simp
  refine (tSize2 i op HI.out.eop _).mono ?_
  rintro e w1 ⟨rfl, hu⟩
  have H1 := Lib.hid (H0.out.calm hu)
  have HU1 := Lib.hid (bg_n (b := b) (g := g) ((Upd.drew (fun _ => False) w).trans hu (fun _ h _ => h)))
  clear hu
  have hHeld : w1.cell? ⟨b, 15, none⟩ = some (.int .u32 (x.R 15 : Int)) ∧ w1.cell? ⟨b, 24, none⟩ = some (.int .i64 i.op) ∧ w1.cell? ⟨b, 25, none⟩ = some (.int .i64 i.d) ∧ w1.cell? ⟨b, 26, none⟩ = some (.int .i64 i.n) ∧ w1.cell? ⟨b, 27, none⟩ = some (.int .i64 i.m) ∧ w1.cell? ⟨b, 28, none⟩ = some (.int .i64 i.imm) ∧ w1.cell? ⟨b, 29, none⟩ = some (.int .i64 i.cond) := ⟨H1.out.sp.c15, H1.out.sp.c24, H1.out.sp.c25, H1.out.sp.c26, H1.out.sp.c27, H1.out.sp.c28, H1.out.sp.c29⟩
  refine HKK.out _ _ hHeld ?_
  try simp only [Act.put, List.getElem_toArray, List.getElem_cons_succ, List.getElem_cons_zero, List.setIfInBounds_toArray, List.set_cons_zero, List.set_cons_succ]
  clear HKK
  refine wpHL_take (i := 11) (v := ?_) rfl (by kernel_rfl) (fun _ _ _ h => h) hHeld (Or.inl ⟨by rfl, ?_⟩) ?_
  rotate_left
  · (intro u hSw; obtain ⟨y0, y1, y2, y3, y4, y5, y6⟩ := hSw; go_simp; try with_reducible rfl)
  try simp only [Act.put, List.getElem_toArray, List.getElem_cons_succ, List.getElem_cons_zero, List.setIfInBounds_toArray, List.set_cons_zero, List.set_cons_succ]
  refine wpHL_take (i := 12) (v := ?_) rfl (by kernel_rfl) (fun _ _ _ h => h) hHeld (Or.inl ⟨by rfl, ?_⟩) ?_
  rotate_left
  · (intro u hSw; obtain ⟨y0, y1, y2, y3, y4, y5, y6⟩ := hSw; go_simp; try with_reducible rfl)
  try simp only [Act.put, List.getElem_toArray, List.getElem_cons_succ, List.getElem_cons_zero, List.setIfInBounds_toArray, List.set_cons_zero, List.set_cons_succ]
  refine wpHL_take (i := 16) (v := ?_) rfl (by kernel_rfl) (fun _ _ _ h => h) hHeld (Or.inl ⟨by rfl, ?_⟩) ?_
  rotate_left
  · (intro u hSw; obtain ⟨y0, y1, y2, y3, y4, y5, y6⟩ := hSw; go_simp; try with_reducible rfl)
  try simp only [Act.put, List.getElem_toArray, List.getElem_cons_succ, List.getElem_cons_zero, List.setIfInBounds_toArray, List.set_cons_zero, List.set_cons_succ]
  refine wpHL_last (by kernel_rfl) ?_
  clear hHeld c15
  have c15 := H1.out.sp.c15
  have f15 := H1.out.sp.fz 15
  have HE := Lib.hid (H1.out.sp.setR 15 (by decide) a15 ha15l)
  go_wp2_with fail
  rw [HA15.out, HPC.out]
  have H2 : Hid (Stp (w1.setCell ⟨b, 15, none⟩ (.int .u32 (a15 : Int))) b bm g i (doX1 op x) (-1) 1 M) := Lib.hid (by rw [← HX1.out]; exact H1.out.box HE.out (Sp.setU _ _ _ _))
  have HU2 := Lib.hid (bg_tr HU1.out (bg_b (g := g) (Sp.setU w1 b 15 (.int .u32 (a15 : Int)))))
  obtain ⟨w2, hw2⟩ : ∃ w2, w2 = w1.setCell ⟨b, 15, none⟩ (.int .u32 (a15 : Int)) := ⟨_, rfl⟩
  rw [← hw2] at H2 HU2 ⊢
  clear hw2 c15 f15 HE H1 HU1 H0
  refine (sLeft H2.out.sp op d n m cond HI.out).mono ?_
  rintro e w3 ⟨rfl, hu⟩
  have H3 := Lib.hid (H2.out.calm hu)
  have HU3 := Lib.hid (bg_tr HU2.out (bg_n hu))
  clear hu H2 HU2
  go_wp2_with fail
  refine (sRight H3.out.sp op d n m cond HI.out).mono ?_
  rintro e w4 ⟨rfl, hu⟩
  have H4 := Lib.hid (H3.out.calm hu)
  have HU4 := Lib.hid (bg_tr HU3.out (bg_n hu))
  clear hu H3 HU3
  go_wp2_with fail
  have HAns := Lib.hid (sAnswer H4.out d n m cond _ _ pc HL.out HR.out hpcl op HI.out HOP.out HIM.out HS1.out)
  rw [HA.out] at HAns
  generalize lefP (doX1 op x).R op d n m = l at *
  generalize rigP (doX1 op x).R op m i.imm = r at *
  refine HAns.out.mono ?_
  rintro e w5 ⟨rfl, hs, hu⟩
  have H5 := Lib.hid hs
  have HU5 := Lib.hid (bg_tr HU4.out hu)
  clear hs hu H4 HU4 HAns
  go_wp2_with fail
  refine (sIs H5.out.sp 268435454 op (by omega) (by have := HI.out.opl; omega) HI.out.eop).mono ?_
  rintro e _ ⟨rfl, rfl⟩
  cases hb : maskB 268435454 op
  · have HSG : Hid (sgP op a.out a.x = a.x) := Lib.hid (by unfold sgP; rw [hb]; rfl)
    clear hb
    have H6 : Hid (Stp w5 b bm g i (sgP op a.out a.x) a.t a.c a.M) := Lib.hid (by rw [HSG.out]; exact H5.out)
    have HU6 := HU5
    clear H5 HU5
    go_wp2_with fail
    refine (sIs H6.out.sp 46157266430 op (by omega) (by have := HI.out.opl; omega) HI.out.eop).mono ?_
    rintro e _ ⟨rfl, rfl⟩
    cases hb2 : maskB 46157266430 op
    · have HQ : Hid (stD op d a.out (sgP op a.out a.x) = sgP op a.out a.x) := Lib.hid (by unfold stD; rw [hb2]; rfl)
      clear hb2
      go_wp2_with fail
      go_end0
      rw [HQ.out]
      exact ⟨rfl, H6.out, HU6.out⟩
    · have HQ : Hid (stD op d a.out (sgP op a.out a.x) = (sgP op a.out a.x).withR d a.out) := Lib.hid (by unfold stD; rw [hb2]; rfl)
      clear hb2
      have c25 := H6.out.sp.c25
      rw [HI.out.ed] at c25
      have hd16 := HI.out.dl
      have cr := H6.out.sp.reg d hd16
      have fr := H6.out.sp.fz d
      have hd0 : (0 : Int) ≤ (d : Int) := by omega
      have hd1 : (d : Int) < 16 := by omega
      have hd25 : ¬ d = 25 := by omega
      have HE := Lib.hid ((H6.out.sp.upd (Upd.drew (fun _ => False) _) (fun h => h)).setR d hd16 a.out HOL.out)
      have HE2 := Lib.hid (H6.out.sp.setR d hd16 a.out HOL.out)
      go_wp2_with fail
      go_region_held3 (fun u => u.cell? ⟨b, 25, none⟩ = some (.int .i64 (d : Int))) (simp [c25, World.cell?_setCell_other, hd25]) (fail)
      all_goals
        go_wp2_with fail
        go_end0
        rw [HQ.out]
        exact ⟨rfl, H6.out.box (HE2.out.upd (Upd.drew (fun _ => False) _) (fun h => h)) ((Sp.setU _ _ _ _).trans (Upd.drew (fun q => q = b) _) (fun _ h _ => h)), bg_tr HU6.out (bg_b ((Sp.setU _ _ _ _).trans (Upd.drew (fun q => q = b) _) (fun _ h _ => h)))⟩
  · have HSG : Hid (sgP op a.out a.x = { a.x with nf := a.out / 2147483648 != 0, zf := a.out == 0 }) := Lib.hid (by unfold sgP; rw [hb]; rfl)
    clear hb
    have c16 := H5.out.sp.c16
    have c17 := H5.out.sp.c17
    have f16 := H5.out.sp.fz 16
    have f17 := H5.out.sp.fz 17
    have HE := Lib.hid ((H5.out.sp.set_nf (a.out / 2147483648 != 0)).set_zf (a.out == 0))
    have HN1 := Lib.hid (show (((a.out : Nat) : Int) / 2147483648 != 0) = (a.out / 2147483648 != 0) by rw [show ((a.out : Nat) : Int) / 2147483648 = ((a.out / 2147483648 : Nat) : Int) by omega, ne0])
    have HN2 := Lib.hid (show (((a.out : Nat) : Int) == 0) = (a.out == 0) from eq0 a.out)
    go_wp2_with fail
    rw [HN1.out, HN2.out]
    have H6 : Hid (Stp ((w5.setCell ⟨b, 16, none⟩ (.bool (a.out / 2147483648 != 0))).setCell ⟨b, 17, none⟩ (.bool (a.out == 0))) b bm g i (sgP op a.out a.x) a.t a.c a.M) := Lib.hid (by rw [HSG.out]; exact H5.out.box HE.out ((Sp.setU _ _ _ _).putU _ _))
    have HU6 := Lib.hid (bg_tr HU5.out (bg_b (g := g) ((Sp.setU w5 b 16 (.bool (a.out / 2147483648 != 0))).putU 17 (.bool (a.out == 0)))))
    generalize ((w5.setCell ⟨b, 16, none⟩ (.bool (a.out / 2147483648 != 0))).setCell ⟨b, 17, none⟩ (.bool (a.out == 0))) = w6 at *
    clear H5 HU5 c16 c17 f16 f17 HE
    refine (sIs H6.out.sp 46157266430 op (by omega) (by have := HI.out.opl; omega) HI.out.eop).mono ?_
    rintro e _ ⟨rfl, rfl⟩
    cases hb2 : maskB 46157266430 op
    · have HQ : Hid (stD op d a.out (sgP op a.out a.x) = sgP op a.out a.x) := Lib.hid (by unfold stD; rw [hb2]; rfl)
      clear hb2
      go_wp2_with fail
      go_end0
      rw [HQ.out]
      exact ⟨rfl, H6.out, HU6.out⟩
    · have HQ : Hid (stD op d a.out (sgP op a.out a.x) = (sgP op a.out a.x).withR d a.out) := Lib.hid (by unfold stD; rw [hb2]; rfl)
      clear hb2
      have c25 := H6.out.sp.c25
      rw [HI.out.ed] at c25
      have hd16 := HI.out.dl
      have cr := H6.out.sp.reg d hd16
      have fr := H6.out.sp.fz d
      have hd0 : (0 : Int) ≤ (d : Int) := by omega
      have hd1 : (d : Int) < 16 := by omega
      have hd25 : ¬ d = 25 := by omega
      have HE := Lib.hid ((H6.out.sp.upd (Upd.drew (fun _ => False) _) (fun h => h)).setR d hd16 a.out HOL.out)
      have HE2 := Lib.hid (H6.out.sp.setR d hd16 a.out HOL.out)
      go_wp2_with fail
      go_region_held3 (fun u => u.cell? ⟨b, 25, none⟩ = some (.int .i64 (d : Int))) (simp [c25, World.cell?_setCell_other, hd25]) (fail)
      all_goals
        go_wp2_with fail
        go_end0
        rw [HQ.out]
        exact ⟨rfl, H6.out.box (HE2.out.upd (Upd.drew (fun _ => False) _) (fun h => h)) ((Sp.setU _ _ _ _).trans (Upd.drew (fun q => q = b) _) (fun _ h _ => h)), bg_tr HU6.out (bg_b ((Sp.setU _ _ _ _).trans (Upd.drew (fun q => q = b) _) (fun _ h _ => h)))⟩
end
end Go.Proofs.Ytibmgmgkaacibaa

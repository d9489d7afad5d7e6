/- Package interp: a division by 0. -/
import Derived.Test.YtdmadfahgkikkaaGreatJlk
namespace Go.Proofs.YtdmadfahgkikkaaGreat
open Go.RowKit Go.Lib Go.ChangeShapes Go.WideShapes Go.Deep Go.MapKept Go.ChangeMaps
set_option linter.unusedVariables false
set_option linter.unusedSimpArgs false

section
variable {c c' : Nat → Nat} {w w' : World} {mb rb mp tb : Nat} {tv : Value} {X : McM} {M M' : RmM} {Ps : List PI} {I : ImgM} {F : FrM} {Fs : List FrM}
theorem i32_row {v : Value} {n : Nat} {xs : List Int} {a : Addr} (h : w.ownsRow 0 21 1 (.slice (some a) n n) n (i32v xs)) (hn : xs.length = n) (hx : ∀ x ∈ xs, i32r x) : I32 w (.slice (some a) n n) xs := by
  rcases h.2 with ⟨h1, -⟩ | ⟨g, cap, cur, h1, -, -, h2, h3, -⟩
  · simp at h1
  · simp at h1
    obtain ⟨rfl, rfl⟩ := h1
    refine ⟨hx, _, _, by rw [hn], by rw [hn]; exact Nat.le_refl _, h3, .inr ⟨g, 0, rfl, fun j hj => ?_⟩⟩
    rw [Nat.zero_add]
    exact rowCell h (j := j) (by simp [i32v, List.getD, hj])
/-- the room has served, and what shows is told -/
theorem Mc.served {tr' : List EvM} (h : Mc c w mb rb mp tb tv X M Ps I) (hx : Ext TR c w c' w') (hr : Rm c' w' rb M') (hi : M'.im = M.im) (hl : M'.fields.length = M.fields.length) (ht : TrO c' w' (.pointer (some ⟨tb, 0, none⟩)) (some tr')) : Mc c' w' mb rb mp tb tv (X.withTr tr') M' Ps I := by
  have hd := h.dep
  obtain ⟨tb', he, ht⟩ := ht
  simp at he
  subst he
  exact ⟨hx.blk h.box (by rw [h.cb]; simp only [TR]; omega), FrL.ext hx (by simp only [TR]; omega) h.frs (fun i h1 h2 => by simp only [TR]; omega), ht, hx.col (Array.getElem?_eq_some_iff.1 h.box).1 h.cb, h.map.ext hx (by simp only [TR]; omega) (by simp only [TR]; omega), h.rm.turn hr hi hl hx (by simp only [TR]; omega), h.one, h.dep⟩
set_option maxRecDepth 100000 in
set_option maxHeartbeats 4000000 in
theorem mServe0 (h : Mc c w mb rb mp tb tv X M Ps I) (hX : X.Fs = F :: Fs) {L : List Int} (x : BitVec 32) (a b : Int) (hs : F.stk = L ++ [si x, si 0#32]) :
    Calls Tryz.prog 53 #[.pointer (some ⟨mb, 0, none⟩), .agg #[.int .i64 17, .int .i64 a, .int .i64 b]] w fun e w' => e = .returned (.tuple #[.int .i32 0, .int .i64 28419]) ∧ ∃ c' fb cv p l k lv sv, tv = .pointer (some ⟨fb, 0, none⟩) ∧ Ext TD c w c' w' ∧ Mc c' w' mb rb mp tb tv (X.withFs (F.withStk L :: Fs)) M Ps I ∧ FrAt Fs.length c' w' fb cv p l k lv sv (F.withStk L) ∧ FrL c' w' cv Fs := by
  obtain ⟨fb, cv, p, l, k, lv, sv, rfl, hf, hr⟩ := h.top hX
  obtain ⟨w1, hw1⟩ : ∃ w1, w1 = w.alloc (.cells #[.int .i64 17, .int .i64 a, .int .i64 b] 30) := ⟨_, rfl⟩
  have hu1 : Upd (fun _ => False) w w1 := by rw [hw1]; exact Upd.alloc _ _ _
  have hq1 : w1.heap[w.heap.size]? = some (.cells #[.int .i64 17, .int .i64 a, .int .i64 b] 30 (0, 0)) := by rw [hw1]; exact hpTop w _ _ rfl
  have H1 := Lib.hid (h.ext (Ext.made None0 9 hu1) (fun _ _ h => h))
  have HF1 := Lib.hid (hf.ext (Ext.made None0 9 hu1) (fun h => h) (fun _ _ h => h))
  have HR1 := Lib.hid (FrL.ext (Ext.made None0 9 hu1) (fun h => h) hr (fun _ _ _ h => h))
  have HE1 := Lib.hid (Ext.made (c := c) TD 9 hu1)
  have H9 := Lib.hid (paint_new c w 9 (Nat.le_refl w.heap.size))
  have HQ1 := Lib.hid hq1
  have HW1 := Lib.hid hw1
  have HX := Lib.hid hX
  have HS := Lib.hid hs
  have HDEP := Lib.hid h.dep
  have HXR := Lib.hid (fun y (hy : y ∈ [si x, si 0#32]) => hf.sr y (by rw [hs]; exact List.mem_append.2 (.inr hy)))
  have b2 := h.bx.2.2.1
  have hml : mb < w.heap.size := (Array.getElem?_eq_some_iff.1 h.box).1
  generalize paint c w 9 = c1 at *
  clear h hX hf hr hu1 hq1 hw1 hs
  go_enter Tryz.func53, Tryz.ntmps53
  go_upto_region 1 with fail
  rw [← HW1.out]
  have hHeld : (fun w' : World => w'.cell? ⟨mb, 2, none⟩ = some (.pointer (some ⟨fb, 0, none⟩)) ∧ w'.cell? ⟨w.heap.size, 0, none⟩ = some (.int .i64 17)) w1.drew := by
    obtain ⟨y0, -, -, -⟩ := three HQ1.out
    exact ⟨H1.out.bx.2.2.1, y0⟩
  clear b2
  refine wp_region_last (S := (fun w' : World => w'.cell? ⟨mb, 2, none⟩ = some (.pointer (some ⟨fb, 0, none⟩)) ∧ w'.cell? ⟨w.heap.size, 0, none⟩ = some (.int .i64 17))) 8 _ (by kernel_rfl) (by kernel_rfl) rfl ?_
  change wpHL _ _ _ _ _ _ _ _ _ _ w1.drew
  refine wpHL_take (i := 0) (v := ?_) rfl (by kernel_rfl) (fun _ _ _ h => h) hHeld (Or.inl ⟨by rfl, ?_⟩) ?_
  rotate_left
  · (intro w hSw; obtain ⟨y0, y1⟩ := hSw; go_simp; try with_reducible rfl)
  try simp only [Act.put, List.getElem_toArray, List.getElem_cons_succ, List.getElem_cons_zero, List.setIfInBounds_toArray, List.set_cons_zero, List.set_cons_succ]
  refine wpHL_take (i := 1) (v := ?_) rfl (by kernel_rfl) (fun _ _ _ h => h) hHeld (Or.inl ⟨by rfl, ?_⟩) ?_
  rotate_left
  · (intro w hSw; obtain ⟨y0, y1⟩ := hSw; go_simp; try with_reducible rfl)
  try simp only [Act.put, List.getElem_toArray, List.getElem_cons_succ, List.getElem_cons_zero, List.setIfInBounds_toArray, List.set_cons_zero, List.set_cons_succ]
  refine wpHL_take (i := 2) (v := ?_) rfl (by kernel_rfl) (fun _ _ _ h => h) hHeld (Or.inl ⟨by rfl, ?_⟩) ?_
  rotate_left
  · (intro w hSw; obtain ⟨y0, y1⟩ := hSw; go_simp; try with_reducible rfl)
  try simp only [Act.put, List.getElem_toArray, List.getElem_cons_succ, List.getElem_cons_zero, List.setIfInBounds_toArray, List.set_cons_zero, List.set_cons_succ]
  refine wpHL_take (i := 3) (v := ?_) rfl (by kernel_rfl) (fun _ _ _ h => h) hHeld (Or.inl ⟨by rfl, ?_⟩) ?_
  rotate_left
  · (intro w hSw; obtain ⟨y0, y1⟩ := hSw; go_simp; try with_reducible rfl)
  try simp only [Act.put, List.getElem_toArray, List.getElem_cons_succ, List.getElem_cons_zero, List.setIfInBounds_toArray, List.set_cons_zero, List.set_cons_succ]
  refine wpHL_take (i := 4) (v := ?_) rfl (by kernel_rfl) (fun _ _ _ h => h) hHeld (Or.inl ⟨by rfl, ?_⟩) ?_
  rotate_left
  · (intro w hSw; obtain ⟨y0, y1⟩ := hSw; go_simp; try with_reducible rfl)
  try simp only [Act.put, List.getElem_toArray, List.getElem_cons_succ, List.getElem_cons_zero, List.setIfInBounds_toArray, List.set_cons_zero, List.set_cons_succ]
  refine wpHL_take (i := 5) (v := ?_) rfl (by kernel_rfl) (fun _ _ _ h => h) hHeld (Or.inl ⟨by rfl, ?_⟩) ?_
  rotate_left
  · (intro w hSw; obtain ⟨y0, y1⟩ := hSw; go_simp; try with_reducible rfl)
  try simp only [Act.put, List.getElem_toArray, List.getElem_cons_succ, List.getElem_cons_zero, List.setIfInBounds_toArray, List.set_cons_zero, List.set_cons_succ]
  refine wpHL_step (i := 6) rfl (by kernel_rfl) (by decide) (fun K hK => ?_)
  have HKK := Lib.hid hK
  clear hK
  go_simp
  refine (rServes 17 w1.drew).mono ?_
  rintro e w' ⟨rfl, rfl⟩
  rw [show servesP 17 = 2 from rfl]
  go_simp
  refine HKK.out _ _ hHeld ?_
  clear HKK
  try simp only [Act.put, List.getElem_toArray, List.getElem_cons_succ, List.getElem_cons_zero, List.setIfInBounds_toArray, List.set_cons_zero, List.set_cons_succ]
  refine wpHL_step (i := 7) rfl (by kernel_rfl) (by decide) (fun K hK => ?_)
  have HKK := Lib.hid hK
  clear hK hHeld
  go_simp
  refine (fTake (HF1.out.quiet (Upd.drew _ _)) (L := L) (X := [si x, si 0#32]) HS.out (n := 2) rfl (by omega)).mono ?_
  rintro e w2 ⟨va, c2, sv2, rfl, hx2, hf2, hrow, hnb⟩
  have hx2' : Ext (FBS Fs.length) c1 w1 c2 w2 := ⟨hx2.same, (Upd.drew (fun q => FBS Fs.length (c1 q)) w1).trans hx2.upd (fun q hq _ => hq)⟩
  have hdl := HDEP.out
  rw [HX.out, List.length_cons] at hdl
  have hm2 := H1.out.turnTop HX.out HR1.out hx2' hf2 (fun i hi => by simp only [FBS, FB1, FL1] at hi; simp only [FT3]; omega)
  have hq2 := hpBlk hx2'.upd HQ1.out (by rw [H9.out]; simp only [FBS]; omega)
  have HI := Lib.hid (i32_row (v := .slice (some va) 2 2) hrow rfl (fun y hy => HXR.out y hy))
  have HNB : Hid (∀ q, (Value.slice (some va) 2 2).ownBlock = some q → ¬ TR (c2 q)) := Lib.hid (fun q hq => by rw [(hnb q hq).2]; simp only [TR]; omega)
  have hHeld : (fun w' : World => w'.cell? ⟨mb, 2, none⟩ = some (.pointer (some ⟨fb, 0, none⟩)) ∧ w'.cell? ⟨w.heap.size, 0, none⟩ = some (.int .i64 17)) w2 := by
    obtain ⟨y0, -, -, -⟩ := three hq2
    exact ⟨hm2.bx.2.2.1, y0⟩
  have HM2 := Lib.hid hm2
  have HF2 := Lib.hid hf2
  have HR2 := Lib.hid (FrL.ext hx2' (by simp only [FBS]; omega) HR1.out (fun i h1 h2 => by simp only [FBS]; omega))
  have HE2 := Lib.hid (HE1.out.trans (hx2'.mono (T' := TD) (fun i hi => by simp only [FBS] at hi; simp only [TD]; omega)) (fun _ h => h))
  have HQ2 := Lib.hid hq2
  have HC9 : Hid (c2 w.heap.size = 9) := Lib.hid (hx2'.col (Array.getElem?_eq_some_iff.1 HQ1.out).1 H9.out)
  clear hx2 hx2' hf2 hm2 hq2 hrow hnb
  go_simp
  refine HKK.out _ _ hHeld ?_
  clear HKK hHeld
  try simp only [Act.put, List.getElem_toArray, List.getElem_cons_succ, List.getElem_cons_zero, List.setIfInBounds_toArray, List.set_cons_zero, List.set_cons_succ]
  refine wpHL_last (by kernel_rfl) ?_
  go_upto_region 2 with fail
  have hHeld : (fun w' : World => w'.cell? ⟨mb, 0, none⟩ = some (.pointer (some ⟨rb, 0, none⟩)) ∧ w'.cell? ⟨mb, 5, none⟩ = some (.pointer (some ⟨tb, 0, none⟩)) ∧ w'.cell? ⟨mb, 2, none⟩ = some (.pointer (some ⟨fb, 0, none⟩)) ∧ w'.cell? ⟨fb, 1, none⟩ = some (.int .i64 F.app) ∧ w'.cell? ⟨w.heap.size, 0, none⟩ = some (.int .i64 17) ∧ w'.cell? ⟨w.heap.size, 1, none⟩ = some (.int .i64 a) ∧ w'.cell? ⟨w.heap.size, 2, none⟩ = some (.int .i64 b)) w2.drew := by
    obtain ⟨y0, y1, y2, -⟩ := three HQ2.out
    obtain ⟨m0, -, m2, -, -, m5, -⟩ := HM2.out.bx
    exact ⟨m0, m5, m2, HF2.out.bx.2.1, y0, y1, y2⟩
  refine wp_region_last (S := (fun w' : World => w'.cell? ⟨mb, 0, none⟩ = some (.pointer (some ⟨rb, 0, none⟩)) ∧ w'.cell? ⟨mb, 5, none⟩ = some (.pointer (some ⟨tb, 0, none⟩)) ∧ w'.cell? ⟨mb, 2, none⟩ = some (.pointer (some ⟨fb, 0, none⟩)) ∧ w'.cell? ⟨fb, 1, none⟩ = some (.int .i64 F.app) ∧ w'.cell? ⟨w.heap.size, 0, none⟩ = some (.int .i64 17) ∧ w'.cell? ⟨w.heap.size, 1, none⟩ = some (.int .i64 a) ∧ w'.cell? ⟨w.heap.size, 2, none⟩ = some (.int .i64 b))) 27 _ (by kernel_rfl) (by kernel_rfl) rfl ?_
  change wpHL _ _ _ _ _ _ _ _ _ _ w2.drew
  refine wpHL_take (i := 0) (v := ?_) rfl (by kernel_rfl) (fun _ _ _ h => h) hHeld (Or.inl ⟨by rfl, ?_⟩) ?_
  rotate_left
  · (intro w hSw; obtain ⟨y0, y1, y2, y3, y4, y5, y6⟩ := hSw; go_simp; try with_reducible rfl)
  try simp only [Act.put, List.getElem_toArray, List.getElem_cons_succ, List.getElem_cons_zero, List.setIfInBounds_toArray, List.set_cons_zero, List.set_cons_succ]
  refine wpHL_take (i := 1) (v := ?_) rfl (by kernel_rfl) (fun _ _ _ h => h) hHeld (Or.inl ⟨by rfl, ?_⟩) ?_
  rotate_left
  · (intro w hSw; obtain ⟨y0, y1, y2, y3, y4, y5, y6⟩ := hSw; go_simp; try with_reducible rfl)
  try simp only [Act.put, List.getElem_toArray, List.getElem_cons_succ, List.getElem_cons_zero, List.setIfInBounds_toArray, List.set_cons_zero, List.set_cons_succ]
  refine wpHL_take (i := 2) (v := ?_) rfl (by kernel_rfl) (fun _ _ _ h => h) hHeld (Or.inl ⟨by rfl, ?_⟩) ?_
  rotate_left
  · (intro w hSw; obtain ⟨y0, y1, y2, y3, y4, y5, y6⟩ := hSw; go_simp; try with_reducible rfl)
  try simp only [Act.put, List.getElem_toArray, List.getElem_cons_succ, List.getElem_cons_zero, List.setIfInBounds_toArray, List.set_cons_zero, List.set_cons_succ]
  refine wpHL_take (i := 3) (v := ?_) rfl (by kernel_rfl) (fun _ _ _ h => h) hHeld (Or.inl ⟨by rfl, ?_⟩) ?_
  rotate_left
  · (intro w hSw; obtain ⟨y0, y1, y2, y3, y4, y5, y6⟩ := hSw; go_simp; try with_reducible rfl)
  try simp only [Act.put, List.getElem_toArray, List.getElem_cons_succ, List.getElem_cons_zero, List.setIfInBounds_toArray, List.set_cons_zero, List.set_cons_succ]
  refine wpHL_take (i := 4) (v := ?_) rfl (by kernel_rfl) (fun _ _ _ h => h) hHeld (Or.inl ⟨by rfl, ?_⟩) ?_
  rotate_left
  · (intro w hSw; obtain ⟨y0, y1, y2, y3, y4, y5, y6⟩ := hSw; go_simp; try with_reducible rfl)
  try simp only [Act.put, List.getElem_toArray, List.getElem_cons_succ, List.getElem_cons_zero, List.setIfInBounds_toArray, List.set_cons_zero, List.set_cons_succ]
  refine wpHL_take (i := 5) (v := ?_) rfl (by kernel_rfl) (fun _ _ _ h => h) hHeld (Or.inl ⟨by rfl, ?_⟩) ?_
  rotate_left
  · (intro w hSw; obtain ⟨y0, y1, y2, y3, y4, y5, y6⟩ := hSw; go_simp; try with_reducible rfl)
  try simp only [Act.put, List.getElem_toArray, List.getElem_cons_succ, List.getElem_cons_zero, List.setIfInBounds_toArray, List.set_cons_zero, List.set_cons_succ]
  refine wpHL_take (i := 6) (v := ?_) rfl (by kernel_rfl) (fun _ _ _ h => h) hHeld (Or.inl ⟨by rfl, ?_⟩) ?_
  rotate_left
  · (intro w hSw; obtain ⟨y0, y1, y2, y3, y4, y5, y6⟩ := hSw; go_simp; try with_reducible rfl)
  try simp only [Act.put, List.getElem_toArray, List.getElem_cons_succ, List.getElem_cons_zero, List.setIfInBounds_toArray, List.set_cons_zero, List.set_cons_succ]
  refine wpHL_take (i := 7) (v := ?_) rfl (by kernel_rfl) (fun _ _ _ h => h) hHeld (Or.inl ⟨by rfl, ?_⟩) ?_
  rotate_left
  · (intro w hSw; obtain ⟨y0, y1, y2, y3, y4, y5, y6⟩ := hSw; go_simp; try with_reducible rfl)
  try simp only [Act.put, List.getElem_toArray, List.getElem_cons_succ, List.getElem_cons_zero, List.setIfInBounds_toArray, List.set_cons_zero, List.set_cons_succ]
  refine wpHL_take (i := 8) (v := ?_) rfl (by kernel_rfl) (fun _ _ _ h => h) hHeld (Or.inl ⟨by rfl, ?_⟩) ?_
  rotate_left
  · (intro w hSw; obtain ⟨y0, y1, y2, y3, y4, y5, y6⟩ := hSw; go_simp; try with_reducible rfl)
  try simp only [Act.put, List.getElem_toArray, List.getElem_cons_succ, List.getElem_cons_zero, List.setIfInBounds_toArray, List.set_cons_zero, List.set_cons_succ]
  refine wpHL_take (i := 9) (v := ?_) rfl (by kernel_rfl) (fun _ _ _ h => h) hHeld (Or.inl ⟨by rfl, ?_⟩) ?_
  rotate_left
  · (intro w hSw; obtain ⟨y0, y1, y2, y3, y4, y5, y6⟩ := hSw; go_simp; try with_reducible rfl)
  try simp only [Act.put, List.getElem_toArray, List.getElem_cons_succ, List.getElem_cons_zero, List.setIfInBounds_toArray, List.set_cons_zero, List.set_cons_succ]
  refine wpHL_take (i := 10) (v := ?_) rfl (by kernel_rfl) (fun _ _ _ h => h) hHeld (Or.inl ⟨by rfl, ?_⟩) ?_
  rotate_left
  · (intro w hSw; obtain ⟨y0, y1, y2, y3, y4, y5, y6⟩ := hSw; go_simp; try with_reducible rfl)
  try simp only [Act.put, List.getElem_toArray, List.getElem_cons_succ, List.getElem_cons_zero, List.setIfInBounds_toArray, List.set_cons_zero, List.set_cons_succ]
  refine wpHL_take (i := 11) (v := ?_) rfl (by kernel_rfl) (fun _ _ _ h => h) hHeld (Or.inl ⟨by rfl, ?_⟩) ?_
  rotate_left
  · (intro w hSw; obtain ⟨y0, y1, y2, y3, y4, y5, y6⟩ := hSw; go_simp; try with_reducible rfl)
  try simp only [Act.put, List.getElem_toArray, List.getElem_cons_succ, List.getElem_cons_zero, List.setIfInBounds_toArray, List.set_cons_zero, List.set_cons_succ]
  refine wpHL_take (i := 12) (v := ?_) rfl (by kernel_rfl) (fun _ _ _ h => h) hHeld (Or.inl ⟨by rfl, ?_⟩) ?_
  rotate_left
  · (intro w hSw; obtain ⟨y0, y1, y2, y3, y4, y5, y6⟩ := hSw; go_simp; try with_reducible rfl)
  try simp only [Act.put, List.getElem_toArray, List.getElem_cons_succ, List.getElem_cons_zero, List.setIfInBounds_toArray, List.set_cons_zero, List.set_cons_succ]
  refine wpHL_take (i := 13) (v := ?_) rfl (by kernel_rfl) (fun _ _ _ h => h) hHeld (Or.inl ⟨by rfl, ?_⟩) ?_
  rotate_left
  · (intro w hSw; obtain ⟨y0, y1, y2, y3, y4, y5, y6⟩ := hSw; go_simp; try with_reducible rfl)
  try simp only [Act.put, List.getElem_toArray, List.getElem_cons_succ, List.getElem_cons_zero, List.setIfInBounds_toArray, List.set_cons_zero, List.set_cons_succ]
  refine wpHL_take (i := 14) (v := ?_) rfl (by kernel_rfl) (fun _ _ _ h => h) hHeld (Or.inl ⟨by rfl, ?_⟩) ?_
  rotate_left
  · (intro w hSw; obtain ⟨y0, y1, y2, y3, y4, y5, y6⟩ := hSw; go_simp; try with_reducible rfl)
  try simp only [Act.put, List.getElem_toArray, List.getElem_cons_succ, List.getElem_cons_zero, List.setIfInBounds_toArray, List.set_cons_zero, List.set_cons_succ]
  refine wpHL_take (i := 15) (v := ?_) rfl (by kernel_rfl) (fun _ _ _ h => h) hHeld (Or.inl ⟨by rfl, ?_⟩) ?_
  rotate_left
  · (intro w hSw; obtain ⟨y0, y1, y2, y3, y4, y5, y6⟩ := hSw; go_simp; try with_reducible rfl)
  try simp only [Act.put, List.getElem_toArray, List.getElem_cons_succ, List.getElem_cons_zero, List.setIfInBounds_toArray, List.set_cons_zero, List.set_cons_succ]
  refine wpHL_take (i := 16) (v := ?_) rfl (by kernel_rfl) (fun _ _ _ h => h) hHeld (Or.inl ⟨by rfl, ?_⟩) ?_
  rotate_left
  · (intro w hSw; obtain ⟨y0, y1, y2, y3, y4, y5, y6⟩ := hSw; go_simp; try with_reducible rfl)
  try simp only [Act.put, List.getElem_toArray, List.getElem_cons_succ, List.getElem_cons_zero, List.setIfInBounds_toArray, List.set_cons_zero, List.set_cons_succ]
  refine wpHL_take (i := 17) (v := ?_) rfl (by kernel_rfl) (fun _ _ _ h => h) hHeld (Or.inl ⟨by rfl, ?_⟩) ?_
  rotate_left
  · (intro w hSw; obtain ⟨y0, y1, y2, y3, y4, y5, y6⟩ := hSw; go_simp; try with_reducible rfl)
  try simp only [Act.put, List.getElem_toArray, List.getElem_cons_succ, List.getElem_cons_zero, List.setIfInBounds_toArray, List.set_cons_zero, List.set_cons_succ]
  refine wpHL_take (i := 18) (v := ?_) rfl (by kernel_rfl) (fun _ _ _ h => h) hHeld (Or.inl ⟨by rfl, ?_⟩) ?_
  rotate_left
  · (intro w hSw; obtain ⟨y0, y1, y2, y3, y4, y5, y6⟩ := hSw; go_simp; try with_reducible rfl)
  try simp only [Act.put, List.getElem_toArray, List.getElem_cons_succ, List.getElem_cons_zero, List.setIfInBounds_toArray, List.set_cons_zero, List.set_cons_succ]
  refine wpHL_take (i := 19) (v := ?_) rfl (by kernel_rfl) (fun _ _ _ h => h) hHeld (Or.inl ⟨by rfl, ?_⟩) ?_
  rotate_left
  · (intro w hSw; obtain ⟨y0, y1, y2, y3, y4, y5, y6⟩ := hSw; go_simp; try with_reducible rfl)
  try simp only [Act.put, List.getElem_toArray, List.getElem_cons_succ, List.getElem_cons_zero, List.setIfInBounds_toArray, List.set_cons_zero, List.set_cons_succ]
  refine wpHL_take (i := 20) (v := ?_) rfl (by kernel_rfl) (fun _ _ _ h => h) hHeld (Or.inl ⟨by rfl, ?_⟩) ?_
  rotate_left
  · (intro w hSw; obtain ⟨y0, y1, y2, y3, y4, y5, y6⟩ := hSw; go_simp; try with_reducible rfl)
  try simp only [Act.put, List.getElem_toArray, List.getElem_cons_succ, List.getElem_cons_zero, List.setIfInBounds_toArray, List.set_cons_zero, List.set_cons_succ]
  refine wpHL_take (i := 21) (v := ?_) rfl (by kernel_rfl) (fun _ _ _ h => h) hHeld (Or.inl ⟨by rfl, ?_⟩) ?_
  rotate_left
  · (intro w hSw; obtain ⟨y0, y1, y2, y3, y4, y5, y6⟩ := hSw; go_simp; try with_reducible rfl)
  try simp only [Act.put, List.getElem_toArray, List.getElem_cons_succ, List.getElem_cons_zero, List.setIfInBounds_toArray, List.set_cons_zero, List.set_cons_succ]
  refine wpHL_step (i := 22) rfl (by kernel_rfl) (by decide) (fun K hK => ?_)
  have HKK := Lib.hid hK
  clear hK hHeld
  go_simp
  have hmd := HM2.out.quiet (Upd.drew (fun _ => False) w2)
  refine (sv17n hmd.rm.rm (o := some X.tr) ⟨tb, rfl, hmd.trc⟩ F.app a b _ x 0#32 (HI.out.upd (Upd.drew (fun _ => False) w2) (fun _ _ h => h)) (by decide +kernel) HNB.out).mono ?_
  rintro e w3 ⟨rfl, c3, hx3, hr3, ht3⟩
  have hm3 := hmd.served hx3 hr3 rfl rfl ht3
  have hx3' : Ext TR c2 w2 c3 w3 := ⟨hx3.same, (Upd.drew (fun q => TR (c2 q)) w2).trans hx3.upd (fun q hq _ => hq)⟩
  have hdl := HDEP.out
  rw [HX.out, List.length_cons] at hdl
  have hf3 := HF2.out.ext hx3' (by simp only [TR]; omega) (fun i hi => by simp only [FT3] at hi; simp only [TR]; omega)
  have hHeld : (fun w' : World => w'.cell? ⟨mb, 0, none⟩ = some (.pointer (some ⟨rb, 0, none⟩)) ∧ w'.cell? ⟨mb, 5, none⟩ = some (.pointer (some ⟨tb, 0, none⟩)) ∧ w'.cell? ⟨mb, 2, none⟩ = some (.pointer (some ⟨fb, 0, none⟩)) ∧ w'.cell? ⟨fb, 1, none⟩ = some (.int .i64 F.app) ∧ w'.cell? ⟨w.heap.size, 0, none⟩ = some (.int .i64 17) ∧ w'.cell? ⟨w.heap.size, 1, none⟩ = some (.int .i64 a) ∧ w'.cell? ⟨w.heap.size, 2, none⟩ = some (.int .i64 b)) w3 := by
    obtain ⟨y0, y1, y2, -⟩ := three (hpBlk hx3'.upd HQ2.out (by rw [HC9.out]; simp only [TR]; omega))
    obtain ⟨m0, -, m2, -, -, m5, -⟩ := hm3.bx
    exact ⟨m0, m5, m2, hf3.bx.2.1, y0, y1, y2⟩
  have HFI := Lib.hid (And.intro (HE2.out.trans (hx3'.mono (T' := TD) (fun i hi => by simp only [TR] at hi; simp only [TD]; omega)) (fun _ h => h)) (And.intro hm3 (And.intro hf3 (FrL.ext hx3' (by simp only [TR]; omega) HR2.out (fun i h1 h2 => by simp only [TR]; omega)))))
  clear hmd hx3 hx3' hr3 ht3 hm3 hf3
  go_simp
  refine HKK.out _ _ hHeld ?_
  clear HKK
  try simp only [Act.put, List.getElem_toArray, List.getElem_cons_succ, List.getElem_cons_zero, List.setIfInBounds_toArray, List.set_cons_zero, List.set_cons_succ]
  refine wpHL_take (i := 23) (v := ?_) rfl (by kernel_rfl) (fun _ _ _ h => h) hHeld (Or.inl ⟨by rfl, ?_⟩) ?_
  rotate_left
  · (intro w hSw; obtain ⟨y0, y1, y2, y3, y4, y5, y6⟩ := hSw; go_simp; try with_reducible rfl)
  try simp only [Act.put, List.getElem_toArray, List.getElem_cons_succ, List.getElem_cons_zero, List.setIfInBounds_toArray, List.set_cons_zero, List.set_cons_succ]
  refine wpHL_take (i := 24) (v := ?_) rfl (by kernel_rfl) (fun _ _ _ h => h) hHeld (Or.inl ⟨by rfl, ?_⟩) ?_
  rotate_left
  · (intro w hSw; obtain ⟨y0, y1, y2, y3, y4, y5, y6⟩ := hSw; go_simp; try with_reducible rfl)
  try simp only [Act.put, List.getElem_toArray, List.getElem_cons_succ, List.getElem_cons_zero, List.setIfInBounds_toArray, List.set_cons_zero, List.set_cons_succ]
  refine wpHL_take (i := 25) (v := ?_) rfl (by kernel_rfl) (fun _ _ _ h => h) hHeld (Or.inl ⟨by rfl, ?_⟩) ?_
  rotate_left
  · (intro w hSw; obtain ⟨y0, y1, y2, y3, y4, y5, y6⟩ := hSw; go_simp; try with_reducible rfl)
  try simp only [Act.put, List.getElem_toArray, List.getElem_cons_succ, List.getElem_cons_zero, List.setIfInBounds_toArray, List.set_cons_zero, List.set_cons_succ]
  refine wpHL_take (i := 26) (v := ?_) rfl (by kernel_rfl) (fun _ _ _ h => h) hHeld (Or.inl ⟨by rfl, ?_⟩) ?_
  rotate_left
  · (intro w hSw; obtain ⟨y0, y1, y2, y3, y4, y5, y6⟩ := hSw; go_simp; try with_reducible rfl)
  try simp only [Act.put, List.getElem_toArray, List.getElem_cons_succ, List.getElem_cons_zero, List.setIfInBounds_toArray, List.set_cons_zero, List.set_cons_succ]
  clear hHeld
  refine wpHL_last (by kernel_rfl) ?_
  go_wp2_with fail
  go_ret2
  exact ⟨rfl, _, HFI.out.1, HFI.out.2.1, _, ⟨_, _, _, _, _, HFI.out.2.2.1⟩, HFI.out.2.2.2⟩
set_option maxRecDepth 100000 in
set_option maxHeartbeats 4000000 in
theorem dDiv0 (h : Mc c w mb rb mp tb tv X M Ps I) (hX : X.Fs = F :: Fs) (hpc : 0 ≤ F.pc ∧ F.pc ≤ 1000000) {L : List Int} (x : BitVec 32) (a b : Int) (hs : F.stk = L ++ [si x, si 0#32]) :
    Calls Tryz.prog 41 #[.pointer (some ⟨mb, 0, none⟩), .agg #[.int .i64 17, .int .i64 a, .int .i64 b]] w fun e w' => e = .returned (.int .i64 28419) ∧ ∃ c' tv', Ext TD c w c' w' ∧ Mc c' w' mb rb mp tb tv' (X.withFs ((F.withPc (F.pc + 1)).withStk (L ++ [0]) :: Fs)) M Ps I := by
  obtain ⟨fb, cv, p, l, k, lv, sv, rfl, b2, b0, k1, k3, f3, hne, hfl, hml, hw⟩ := dHead h hX 17 a b
  obtain ⟨w2, hw2⟩ : ∃ w2, w2 = (w.setCell ⟨fb, 3, none⟩ (.int .i64 (F.pc + 1))).alloc (.cells #[.int .i64 17, .int .i64 a, .int .i64 b] 30) := ⟨_, rfl⟩
  obtain ⟨E2, h2, hf2, hr2, hq2, h9⟩ := hw (F.pc + 1) w2 hw2
  have hwr : IntKind.i64.wrap (F.pc + 1) = F.pc + 1 := IntWalk.i64_in _ (by omega)
  have HE2 := Lib.hid E2
  have H2 := Lib.hid h2
  have HF2 := Lib.hid hf2
  have HR2 := Lib.hid hr2
  have HQ2 := Lib.hid hq2
  have H9 := Lib.hid h9
  have HW2 := Lib.hid hw2
  have HX := Lib.hid hX
  have HDEP := Lib.hid h.dep
  have HRM := Lib.hid h.rm
  have HSV := Lib.hid (mServe0 h2 rfl x a b hs)
  have HLL : Hid (L.length < 1000000) := Lib.hid (by have h3 := hf2.sl; have h4 : (F.withPc (F.pc + 1)).stk = L ++ [si x, si 0#32] := hs; rw [h4] at h3; simp at h3; omega)
  obtain ⟨y0, y1, y2, -⟩ := three hq2
  rw [hw2] at y0 y1 y2
  clear hs
  clear h hX E2 h2 hf2 hr2 hq2 h9 hw hw2
  go_enter Tryz.func41, Tryz.ntmps41
  go_wp2_with fail
  rw [← HW2.out]
  clear y0 y1 y2
  refine HSV.out.mono ?_
  rintro e w3 ⟨rfl, c3, fb', cv3, p3, l3, k3', lv3, sv3, he, hx3, hm3, hf3, hr3⟩
  simp at he
  subst he
  have HPU := Lib.hid (fPush hf3 0 (by simp [i32r]) HLL.out)
  have H3 := Lib.hid (And.intro hx3 (And.intro hm3 hr3))
  clear hx3 hm3 hf3 hr3
  go_wp2_with fail
  refine HPU.out.mono ?_
  rintro e w4 ⟨rfl, c4, sv4, hx4, hf4⟩
  have hm4 := H3.out.2.1.turnTop rfl H3.out.2.2 hx4 hf4 (fun i hi => by simp only [FBS, FB1, FL1] at hi; simp only [FT3]; omega)
  have HFI := Lib.hid (And.intro (H3.out.1.trans (hx4.mono (T' := TD) (fun i hi => by simp only [FBS] at hi; simp only [TD]; omega)) (fun _ h => h)) hm4)
  clear hx4 hf4 hm4
  go_wp2_with fail
  go_ret
  exact ⟨rfl, _, _, HE2.out.trans HFI.out.1 (fun i hi => hi), HFI.out.2⟩
end
end Go.Proofs.YtdmadfahgkikkaaGreat

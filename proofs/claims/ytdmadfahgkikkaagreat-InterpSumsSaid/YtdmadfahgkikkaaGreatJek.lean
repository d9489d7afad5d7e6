/- Package interp: a frame is laid over the others. -/
import Derived.Test.YtdmadfahgkikkaaGreatJdk
namespace Go.Proofs.YtdmadfahgkikkaaGreat
open Go.RowKit Go.Lib Go.ChangeShapes Go.WideShapes Go.Deep Go.MapKept Go.ChangeMaps
set_option linter.unusedVariables false
set_option linter.unusedSimpArgs false

section
variable {c : Nat → Nat} {w : World} {mb rb mp tb : Nat} {tv : Value} {X : McM} {M : RmM} {Ps : List PI} {I : ImgM}
def TP10 (i : Nat) : Prop := i = 10 ∨ i = 11
def newF (I : ImgM) (j : Nat) : FrM := ⟨0, (j : Int), 0, I.methods.getD j default, List.replicate ((I.methods.getD j default).params.length + (I.methods.getD j default).locals.length) 0, []⟩
theorem set10 {w2 : World} {b : Nat} {a0 a1 a2 a3 a4 a5 a6 a7 a8 a9 v4 v5 v6 v7 : Value} {t : TypeId} (h : w2.heap[b]? = some (.cells #[a0, a1, a2, a3, a4, a5, a6, a7, a8, a9] t (0, 0))) :
    ((((w2.setCell ⟨b, 4, none⟩ v4).setCell ⟨b, 5, none⟩ v5).setCell ⟨b, 6, none⟩ v6).setCell ⟨b, 7, none⟩ v7).heap[b]? = some (.cells #[a0, a1, a2, a3, v4, v5, v6, v7, a8, a9] t (0, 0)) := by
  simp [World.setCell, Array.getElem?_modify, h]
theorem set10_8 {w2 : World} {b : Nat} {a0 a1 a2 a3 a4 a5 a6 a7 a8 a9 v : Value} {t : TypeId} (h : w2.heap[b]? = some (.cells #[a0, a1, a2, a3, a4, a5, a6, a7, a8, a9] t (0, 0))) : (w2.setCell ⟨b, 8, none⟩ v).heap[b]? = some (.cells #[a0, a1, a2, a3, a4, a5, a6, a7, v, a9] t (0, 0)) := by
  simp [World.setCell, Array.getElem?_modify, h]
theorem set10_9 {w2 : World} {b : Nat} {a0 a1 a2 a3 a4 a5 a6 a7 a8 a9 v : Value} {t : TypeId} (h : w2.heap[b]? = some (.cells #[a0, a1, a2, a3, a4, a5, a6, a7, a8, a9] t (0, 0))) : (w2.setCell ⟨b, 9, none⟩ v).heap[b]? = some (.cells #[a0, a1, a2, a3, a4, a5, a6, a7, a8, v] t (0, 0)) := by
  simp [World.setCell, Array.getElem?_modify, h]
theorem fld3 (w : World) (a0 a1 a2 a3 a4 : Value) : (Instr.field 59 (.agg #[a0, a1, a2, a3, a4]) 3).run Tryz.prog w = .ok a3 w := by
  simp [Instr.field, go_sem, asAgg, Tryz.underlying59, run_underlying]
set_option maxRecDepth 100000 in
set_option maxHeartbeats 4000000 in
theorem mPush (h : Mc c w mb rb mp tb tv X M Ps I) (hd : X.Fs.length < 8) {j : Nat} (hj : j < I.methods.length) (hl : (I.methods.getD j default).params.length + (I.methods.getD j default).locals.length ≤ 1000) :
    Calls Tryz.prog 24 #[.pointer (some ⟨mb, 0, none⟩), .int .i64 0, .int .i64 (j : Int)] w fun e w' => e = .returned (.tuple #[]) ∧ ∃ c' tv', Ext TP10 c w c' w' ∧ Mc c' w' mb rb mp tb tv' (X.withFs (newF I j :: X.Fs)) M Ps I ∧ ∃ fb p l k lv sv, tv' = .pointer (some ⟨fb, 0, none⟩) ∧ FrAt X.Fs.length c' w' fb tv p l k lv sv (newF I j) ∧ FrL c' w' tv X.Fs ∧ ∃ g, w.heap.size ≤ g ∧ lv = .slice (some ⟨g, 0, none⟩) ((I.methods.getD j default).params.length + (I.methods.getD j default).locals.length) ((I.methods.getD j default).params.length + (I.methods.getD j default).locals.length) := by
  obtain ⟨-, -, b2, -, -, -, -⟩ := h.bx
  obtain ⟨ta, rfl⟩ := h.frs.ptr
  obtain ⟨d, hdd⟩ : ∃ d, d = X.Fs.length := ⟨_, rfl⟩
  obtain ⟨w1, hw1⟩ : ∃ w1, w1 = w.alloc (.cells #[.pointer ta, .int .i64 0, .int .i64 (j : Int), .int .i64 0, .slice none 0 0, .int .i64 0, .slice none 0 0, .slice none 0 0, .slice none 0 0, .slice none 0 0] FrT) := ⟨_, rfl⟩
  have hu1 : Upd (fun _ => False) w w1 := by rw [hw1]; exact Upd.alloc _ _ _
  have hq1 : w1.heap[w.heap.size]? = some (.cells #[.pointer ta, .int .i64 0, .int .i64 (j : Int), .int .i64 0, .slice none 0 0, .int .i64 0, .slice none 0 0, .slice none 0 0, .slice none 0 0, .slice none 0 0] FrT (0, 0)) := by rw [hw1]; exact hpTop w _ _ rfl
  have H1 := Lib.hid (h.ext (Ext.made None0 (20 + 3 * d) hu1) (fun _ _ h => h))
  have HIM := Lib.hid (mImage H1.out)
  have H := Lib.hid h
  have HU1 := Lib.hid hu1
  have HQ1 := Lib.hid hq1
  have HW1 := Lib.hid hw1
  have HD := Lib.hid hdd
  have HM0 := Lib.hid h.cb
  have HJ := Lib.hid hj
  have hd8 : d < 8 := by omega
  have hmb : mb < w.heap.size := (Array.getElem?_eq_some_iff.1 h.box).1
  have HMB := Lib.hid hmb
  have HB8 := Lib.hid hd8
  have hcp : paint c w (20 + 3 * d) w.heap.size = 20 + 3 * d := paint_new _ _ _ (Nat.le_refl _)
  have HCP := Lib.hid hcp
  have hj0 : (0 : Int) ≤ (j : Int) := Int.natCast_nonneg _
  have hj1 : (j : Int) < (I.methods.length : Int) := by omega
  have t1 : decide ((0 : Int) ≤ (j : Int)) = true := by simp
  have t2 : decide ((j : Int) < (I.methods.length : Int)) = true := by simp; omega
  clear h hu1 hq1 hw1 hd hdd hd8 hcp
  go_enter Tryz.func24, Tryz.ntmps24
  go_wp2_with fail
  rw [← HW1.out]
  clear b2
  refine HIM.out.mono ?_
  rintro e w2 ⟨v, c2, rfl, hk, hx2, hm2⟩
  obtain ⟨fa, fc, ia, ic, ma, mc, xa, xc, rfl, hmet⟩ := hk.met
  obtain ⟨g, off, p, l, k, rfl, m0, m1, m2, m3, hmk⟩ := hmet j HJ.out
  rw [Nat.add_zero] at m0
  have hnp := hmk.now
  obtain ⟨pa, pc, rfl, -, -⟩ := hnp.1.slice
  obtain ⟨la, lc, rfl, -, -⟩ := hnp.2.1.slice
  obtain ⟨ka, kc, rfl, -, -⟩ := hnp.2.2.slice
  have hq2 := hpBlk hx2.upd HQ1.out (by rw [HCP.out]; simp only [T11]; omega)
  have hcc2 : c2 w.heap.size = 20 + 3 * d := hx2.col (Array.getElem?_eq_some_iff.1 HQ1.out).1 HCP.out
  obtain ⟨-, -, -, -, -, -, -, -, -, -, qf⟩ := ten hq2
  have f4 := qf 4
  have f5 := qf 5
  have f6 := qf 6
  have f7 := qf 7
  obtain ⟨e0, e1, e2, e3, e4, e5, e6, e7, e8, e9, -⟩ := ten hq2
  have HX2 := Lib.hid hx2
  have HM2 := Lib.hid hm2
  have HMK := Lib.hid hmk
  have HQ2 := Lib.hid hq2
  have HCC2 := Lib.hid hcc2
  clear hk hx2 hm2 hmet hmk hnp hq2 hcc2 qf HIM
  generalize hMM : I.methods.getD j default = m at *
  have HMM := Lib.hid hMM
  clear hMM
  obtain ⟨np, hnp⟩ : ∃ n, n = m.params.length := ⟨_, rfl⟩
  obtain ⟨nl, hnl⟩ : ∃ n, n = m.locals.length := ⟨_, rfl⟩
  rw [← hnp] at m0
  rw [← hnl] at m2
  rw [← hnp, ← hnl] at hl HMK
  have HNP := Lib.hid hnp
  have HNL := Lib.hid hnl
  clear hnp hnl
  have kf := fld3 w2 (.string I.name) (.slice fa I.fields.length fc) (.slice ia I.imports.length ic) (.slice (some ⟨g, off, none⟩) I.methods.length mc) (.slice xa I.exports.length xc)
  simp only [img5]
  go_upto_region 17 with fail
  clear kf f4 f5 f6 f7 e0 e1 e2 e3 e4 e5 e6 e7 e8 e9 m0 m1 m2 m3
  obtain ⟨w3, hw3⟩ : ∃ w3, w3 = (((w2.setCell ⟨w.heap.size, 4, none⟩ (.slice pa np pc)).setCell ⟨w.heap.size, 5, none⟩ (.int .i64 m.res)).setCell ⟨w.heap.size, 6, none⟩ (.slice la nl lc)).setCell ⟨w.heap.size, 7, none⟩ (.slice ka m.code.length kc) := ⟨_, rfl⟩
  rw [← hw3]
  have hq3 := set10 (v4 := .slice pa np pc) (v5 := .int .i64 m.res) (v6 := .slice la nl lc) (v7 := .slice ka m.code.length kc) HQ2.out
  rw [← hw3] at hq3
  have hu3 : Upd (fun q => q = w.heap.size) w2 w3 := by rw [hw3]; exact hpS (hpS (hpS (hpS (Upd.refl _ _) rfl) rfl) rfl) rfl
  have HQ3 := Lib.hid hq3
  have HU3 := Lib.hid hu3
  have hHeld : (fun w' : World => w'.cell? ⟨w.heap.size, 4, none⟩ = some (.slice pa np pc) ∧ w'.cell? ⟨w.heap.size, 6, none⟩ = some (.slice la nl lc)) w3.drew := by
    obtain ⟨-, -, -, -, e4, -, e6, -⟩ := ten HQ3.out
    exact ⟨e4, e6⟩
  obtain ⟨i0, hi0, hz0, hz1, hz2⟩ := info_parts infoJ32
  have hwr : IntKind.i64.wrap ((np : Int) + (nl : Int)) = ((np + nl : Nat) : Int) := by rw [IntWalk.i64_in _ (by omega)]; omega
  clear hw3 hq3 hu3
  refine wp_region_last (S := (fun w' : World => w'.cell? ⟨w.heap.size, 4, none⟩ = some (.slice pa np pc) ∧ w'.cell? ⟨w.heap.size, 6, none⟩ = some (.slice la nl lc))) 17 _ (by kernel_rfl) (by kernel_rfl) rfl ?_
  change wpHL _ _ _ _ _ _ _ _ _ _ w3.drew
  refine wpHL_take (i := 0) (v := ?_) rfl (by kernel_rfl) (fun _ _ _ h => h) hHeld (Or.inl ⟨by rfl, ?_⟩) ?_
  rotate_left
  · (intro w hSw; obtain ⟨y0, y1⟩ := hSw; go_simp; try with_reducible rfl)
  try simp only [Act.put, List.getElem_toArray, List.getElem_cons_succ, List.getElem_cons_zero, List.setIfInBounds_toArray, List.set_cons_zero, List.set_cons_succ]
  refine wpHL_take (i := 1) (v := ?_) rfl (by kernel_rfl) (fun _ _ _ h => h) hHeld (Or.inl ⟨by rfl, ?_⟩) ?_
  rotate_left
  · (intro w hSw; obtain ⟨y0, y1⟩ := hSw; go_simp; try with_reducible rfl)
  try simp only [Act.put, List.getElem_toArray, List.getElem_cons_succ, List.getElem_cons_zero, List.setIfInBounds_toArray, List.set_cons_zero, List.set_cons_succ]
  refine wpHL_take (i := 2) (v := ?_) rfl (by kernel_rfl) (fun _ _ _ h => h) hHeld (Or.inl ⟨by rfl, ?_⟩) ?_
  rotate_left
  · (intro w hSw; obtain ⟨y0, y1⟩ := hSw; go_simp; try with_reducible rfl)
  try simp only [Act.put, List.getElem_toArray, List.getElem_cons_succ, List.getElem_cons_zero, List.setIfInBounds_toArray, List.set_cons_zero, List.set_cons_succ]
  refine wpHL_take (i := 3) (v := ?_) rfl (by kernel_rfl) (fun _ _ _ h => h) hHeld (Or.inl ⟨by rfl, ?_⟩) ?_
  rotate_left
  · (intro w hSw; obtain ⟨y0, y1⟩ := hSw; go_simp; try with_reducible rfl)
  try simp only [Act.put, List.getElem_toArray, List.getElem_cons_succ, List.getElem_cons_zero, List.setIfInBounds_toArray, List.set_cons_zero, List.set_cons_succ]
  refine wpHL_take (i := 4) (v := ?_) rfl (by kernel_rfl) (fun _ _ _ h => h) hHeld (Or.inl ⟨by rfl, ?_⟩) ?_
  rotate_left
  · (intro w hSw; obtain ⟨y0, y1⟩ := hSw; go_simp; try with_reducible rfl)
  try simp only [Act.put, List.getElem_toArray, List.getElem_cons_succ, List.getElem_cons_zero, List.setIfInBounds_toArray, List.set_cons_zero, List.set_cons_succ]
  refine wpHL_take (i := 5) (v := ?_) rfl (by kernel_rfl) (fun _ _ _ h => h) hHeld (Or.inl ⟨by rfl, ?_⟩) ?_
  rotate_left
  · (intro w hSw; obtain ⟨y0, y1⟩ := hSw; go_simp; try with_reducible rfl)
  try simp only [Act.put, List.getElem_toArray, List.getElem_cons_succ, List.getElem_cons_zero, List.setIfInBounds_toArray, List.set_cons_zero, List.set_cons_succ]
  refine wpHL_take (i := 6) (v := ?_) rfl (by kernel_rfl) (fun _ _ _ h => h) hHeld (Or.inl ⟨by rfl, ?_⟩) ?_
  rotate_left
  · (intro w hSw; obtain ⟨y0, y1⟩ := hSw; go_simp; try with_reducible rfl)
  try simp only [Act.put, List.getElem_toArray, List.getElem_cons_succ, List.getElem_cons_zero, List.setIfInBounds_toArray, List.set_cons_zero, List.set_cons_succ]
  refine wpHL_take (i := 7) (v := ?_) rfl (by kernel_rfl) (fun _ _ _ h => h) hHeld (Or.inl ⟨by rfl, ?_⟩) ?_
  rotate_left
  · (intro w hSw; obtain ⟨y0, y1⟩ := hSw; go_simp; try with_reducible rfl)
  try simp only [Act.put, List.getElem_toArray, List.getElem_cons_succ, List.getElem_cons_zero, List.setIfInBounds_toArray, List.set_cons_zero, List.set_cons_succ]
  refine wpHL_take (i := 8) (v := ?_) rfl (by kernel_rfl) (fun _ _ _ h => h) hHeld (Or.inl ⟨by rfl, ?_⟩) ?_
  rotate_left
  · (intro w hSw; obtain ⟨y0, y1⟩ := hSw; go_simp; try with_reducible rfl)
  try simp only [Act.put, List.getElem_toArray, List.getElem_cons_succ, List.getElem_cons_zero, List.setIfInBounds_toArray, List.set_cons_zero, List.set_cons_succ]
  refine wpHL_take (i := 9) (v := ?_) rfl (by kernel_rfl) (fun _ _ _ h => h) hHeld (Or.inl ⟨by rfl, ?_⟩) ?_
  rotate_left
  · (intro w hSw; obtain ⟨y0, y1⟩ := hSw; go_simp; try with_reducible rfl)
  try simp only [Act.put, List.getElem_toArray, List.getElem_cons_succ, List.getElem_cons_zero, List.setIfInBounds_toArray, List.set_cons_zero, List.set_cons_succ]
  refine wpHL_take (i := 10) (v := ?_) rfl (by kernel_rfl) (fun _ _ _ h => h) hHeld (Or.inl ⟨by rfl, ?_⟩) ?_
  rotate_left
  · (intro w hSw; obtain ⟨y0, y1⟩ := hSw; go_simp; try with_reducible rfl)
  try simp only [Act.put, List.getElem_toArray, List.getElem_cons_succ, List.getElem_cons_zero, List.setIfInBounds_toArray, List.set_cons_zero, List.set_cons_succ]
  refine wpHL_take (i := 11) (v := ?_) rfl (by kernel_rfl) (fun _ _ _ h => h) hHeld (Or.inl ⟨by rfl, ?_⟩) ?_
  rotate_left
  · (intro w hSw; obtain ⟨y0, y1⟩ := hSw; go_simp; try with_reducible rfl)
  try simp only [Act.put, List.getElem_toArray, List.getElem_cons_succ, List.getElem_cons_zero, List.setIfInBounds_toArray, List.set_cons_zero, List.set_cons_succ]
  refine wpHL_take (i := 12) (v := ?_) rfl (by kernel_rfl) (fun _ _ _ h => h) hHeld (Or.inl ⟨by rfl, ?_⟩) ?_
  rotate_left
  · (intro w hSw; obtain ⟨y0, y1⟩ := hSw; go_simp; try with_reducible rfl)
  try simp only [Act.put, List.getElem_toArray, List.getElem_cons_succ, List.getElem_cons_zero, List.setIfInBounds_toArray, List.set_cons_zero, List.set_cons_succ]
  refine wpHL_take (i := 13) (v := ?_) rfl (by kernel_rfl) (fun _ _ _ h => h) hHeld (Or.inl ⟨by rfl, ?_⟩) ?_
  rotate_left
  · (intro w hSw; obtain ⟨y0, y1⟩ := hSw; go_simp; try with_reducible rfl)
  try simp only [Act.put, List.getElem_toArray, List.getElem_cons_succ, List.getElem_cons_zero, List.setIfInBounds_toArray, List.set_cons_zero, List.set_cons_succ]
  refine wpHL_step (i := 14) rfl (by kernel_rfl) (by decide) (fun K hK => ?_)
  have HKK := Lib.hid hK
  clear hK hHeld
  refine qMake rfl (.tmp 48) (.tmp 48) 32 rfl 21 i0 (.int .i32 0) 1 Tryz.underlying32 hi0 hz0 hz1 (np + nl) rfl rfl (by rw [hz2]; omega) (by unfold maxLen; omega) ?_
  intro w4 hrow hg4
  have hz4 : (madeCells (Value.int .i32 0).cells ((np + nl) * 1)).toList = i32v (List.replicate (np + nl) 0) := by
    show (madeCells #[Value.int .i32 0] ((np + nl) * 1)).toList = _
    rw [Nat.mul_one]
    refine List.ext_getElem (by simp [madeCells, i32v]) fun i h1 h2 => ?_
    simp [madeCells, i32v, Nat.mod_one]
  rw [hz4] at hrow
  have hu4 : Upd (fun _ => False) w3 w4 := (Upd.drew (fun _ => False) w3).trans ((Upd.grown (S := fun k => (none : Option Nat) = some k) hg4 (fun k hk => .inl hk)).mono (fun k hk _ => by simp at hk)) (fun _ h _ => h)
  have hq4 := hpBlk hu4 HQ3.out (fun h => h)
  have HR4 : Hid (w4.ownsRow 0 21 1 (.slice (some ⟨w3.heap.size, 0, none⟩) (np + nl) (np + nl)) (np + nl) (i32v (List.replicate (np + nl) 0))) := Lib.hid hrow
  have HU4 := Lib.hid hu4
  have HQ4 := Lib.hid hq4
  obtain ⟨-, -, -, -, e4, -, e6, -, e8, e9, qf⟩ := ten hq4
  have f8 := qf 8
  have f9 := qf 9
  have hmbl : mb < w4.heap.size := by
    have h1 := HMB.out
    have h2 := HU1.out.size
    have h3 := HX2.out.upd.size
    have h4 := HU3.out.size
    have h5 := hu4.size
    omega
  have hfbl : w.heap.size < w4.heap.size := (Array.getElem?_eq_some_iff.1 hq4).1
  have hmne : mb ≠ w.heap.size := by have := HMB.out; omega
  have hb4 := hpBlk hu4 (hpBlk HU3.out HM2.out.box (by have := HMB.out; omega)) (fun h => h)
  obtain ⟨-, -, g2, -, -, -, gf⟩ := six6 hb4
  have gf2 := gf 2
  have HB4 := Lib.hid hb4
  clear hrow hg4 hu4 hq4 hz4 qf hb4 gf
  have hHeld : (fun w' : World => w'.cell? ⟨w.heap.size, 4, none⟩ = some (.slice pa np pc) ∧ w'.cell? ⟨w.heap.size, 6, none⟩ = some (.slice la nl lc)) w4 := ⟨e4, e6⟩
  refine HKK.out _ _ hHeld ?_
  clear HKK
  try simp only [Act.put, List.getElem_toArray, List.getElem_cons_succ, List.getElem_cons_zero, List.setIfInBounds_toArray, List.set_cons_zero, List.set_cons_succ]
  refine wpHL_take (i := 15) (v := ?_) rfl (by kernel_rfl) (fun _ _ _ h => h) hHeld (Or.inl ⟨by rfl, ?_⟩) ?_
  rotate_left
  · (intro w hSw; obtain ⟨y0, y1⟩ := hSw; go_simp; try with_reducible rfl)
  try simp only [Act.put, List.getElem_toArray, List.getElem_cons_succ, List.getElem_cons_zero, List.setIfInBounds_toArray, List.set_cons_zero, List.set_cons_succ]
  refine wpHL_take (i := 16) (v := ?_) rfl (by kernel_rfl) (fun _ _ _ h => h) hHeld (Or.inl ⟨by rfl, ?_⟩) ?_
  rotate_left
  · (intro w hSw; obtain ⟨y0, y1⟩ := hSw; go_simp; try with_reducible rfl)
  try simp only [Act.put, List.getElem_toArray, List.getElem_cons_succ, List.getElem_cons_zero, List.setIfInBounds_toArray, List.set_cons_zero, List.set_cons_succ]
  refine wpHL_last (by kernel_rfl) ?_
  clear hHeld
  obtain ⟨C8, hC8, hmk⟩ : ∃ C8 : Array Value, C8.size = 8 ∧ ∀ u : World, (Instr.makeSlice 32 (.int .i64 0) (.int .i64 8)).run Tryz.prog u = .ok (.slice (some ⟨u.heap.size, 0, none⟩) 0 8) (u.alloc (.cells C8 21)) :=
    ⟨madeCells (Value.int .i32 0).cells ((8 : Int).toNat * i0.size), by rw [hz1]; simp [madeCells], fun u => run_make (w := u) 32 21 i0 (.int .i32 0) Tryz.underlying32 hi0 hz0 .i64 .i64 0 8 (by omega) (by omega) (by rw [hz2]; omega) (by omega)⟩
  have HC8 := Lib.hid hC8
  clear hC8
  go_wp2_with fail
  obtain ⟨w8, hw8⟩ : ∃ w8, w8 = ((((w4.setCell ⟨w.heap.size, 8, none⟩ (.slice (some ⟨w3.heap.size, 0, none⟩) (np + nl) (np + nl))).setCell ⟨w.heap.size, 9, none⟩ (.slice (some ⟨w4.heap.size, 0, none⟩) 0 8)).setCell ⟨mb, 2, none⟩ (.pointer (some ⟨w.heap.size, 0, none⟩))).alloc (.cells C8 21)) := ⟨_, rfl⟩
  rw [← hw8]
  go_end0
  obtain ⟨c4, hc4⟩ : ∃ c4, c4 = paint c2 w3 (21 + 3 * d) := ⟨_, rfl⟩
  have hd8 := HB8.out
  have hdd := HD.out
  have hfl2 : w.heap.size < w2.heap.size := (Array.getElem?_eq_some_iff.1 HQ2.out).1
  have hc2 := HCC2.out
  have E23 : Ext (fun i => i = 20 + 3 * d) c2 w2 c2 w3 := ⟨fun _ _ => rfl, HU3.out.mono (fun q hq _ => by rw [hq]; exact hc2)⟩
  have H3 := HM2.out.ext E23 (fun i hi => by simp only [MC] at hi; omega)
  have H4 := H3.ext (Ext.made None0 (21 + 3 * d) HU4.out) (fun _ _ h => h)
  have E24 := E23.trans (Ext.made (c := c2) (fun i => i = 20 + 3 * d) (21 + 3 * d) HU4.out) (fun _ h => h)
  rw [← hc4] at H4 E24
  have hfc4 : c4 w.heap.size = 20 + 3 * d := E24.col hfl2 hc2
  have hu48 : Upd (fun q => q = w.heap.size ∨ q = mb) w4 w8 := by
    rw [hw8]
    exact (hpS (hpS (hpS (Upd.refl _ _) (.inl rfl)) (.inl rfl)) (.inr rfl) : Upd (fun q => q = w.heap.size ∨ q = mb) w4 _).trans (Upd.alloc (fun _ => False) _ _) (fun _ h _ => h.elim)
  have hsz8 : (((w4.setCell ⟨w.heap.size, 8, none⟩ (.slice (some ⟨w3.heap.size, 0, none⟩) (np + nl) (np + nl))).setCell ⟨w.heap.size, 9, none⟩ (.slice (some ⟨w4.heap.size, 0, none⟩) 0 8)).setCell ⟨mb, 2, none⟩ (.pointer (some ⟨w.heap.size, 0, none⟩))).heap.size = w4.heap.size := by simp [World.setCell]
  have htop : w8.heap[w4.heap.size]? = some (.cells C8 21 (0, 0)) := by rw [hw8]; exact hpTop _ _ _ hsz8.symm
  have hqf : w8.heap[w.heap.size]? = some (.cells #[.pointer ta, .int .i64 0, .int .i64 (j : Int), .int .i64 0, .slice pa np pc, .int .i64 m.res, .slice la nl lc, .slice ka m.code.length kc, .slice (some ⟨w3.heap.size, 0, none⟩) (np + nl) (np + nl), .slice (some ⟨w4.heap.size, 0, none⟩) 0 8] FrT (0, 0)) := by
    rw [hw8]
    exact hpBlk (S := fun _ => False) (Upd.alloc _ _ _) (hpBlk (S := fun q => q = mb) (Upd.setCell (S := fun q => q = mb) _ (.inl rfl) _) (set10_9 (set10_8 HQ4.out)) (fun h => hmne h.symm)) (fun h => h)
  have hmbx : w8.heap[mb]? = some (.cells #[.pointer (some ⟨rb, 0, none⟩), .map (some mp), .pointer (some ⟨w.heap.size, 0, none⟩), .int .i64 X.fuel, .int .i64 X.status, .pointer (some ⟨tb, 0, none⟩)] McT (0, 0)) := by
    rw [hw8]
    refine hpBlk (S := fun _ => False) (Upd.alloc _ _ _) ?_ (fun h => h)
    have h1 := hpBlk (S := fun q => q = w.heap.size) (hpS (hpS (Upd.refl _ w4) rfl) rfl : Upd (fun q => q = w.heap.size) w4 ((w4.setCell ⟨w.heap.size, 8, none⟩ (.slice (some ⟨w3.heap.size, 0, none⟩) (np + nl) (np + nl))).setCell ⟨w.heap.size, 9, none⟩ (.slice (some ⟨w4.heap.size, 0, none⟩) 0 8))) HB4.out hmne
    simp only [World.setCell] at h1 ⊢
    simp only [Array.getElem?_modify, h1]
    simp
  obtain ⟨c8, hc8⟩ : ∃ c8, c8 = paint c4 w4 (22 + 3 * d) := ⟨_, rfl⟩
  have hmc4 : c4 mb = 10 := H4.cb
  have E48 : Ext (fun i => i = 20 + 3 * d ∨ i = 10) c4 w4 c8 w8 := ⟨fun q hq => by rw [hc8]; exact paint_old _ _ _ hq, hu48.mono (fun q hq _ => by
    rcases hq with rfl | rfl
    · exact .inl hfc4
    · exact .inr hmc4)⟩
  have hm8 := (HMK.out.ext E24 (by omega)).ext E48 (by omega)
  have hmm := HMM.out
  have hfr : FrAt d c8 w8 w.heap.size (.pointer ta) (.slice pa np pc) (.slice la nl lc) (.slice ka m.code.length kc) (.slice (some ⟨w3.heap.size, 0, none⟩) (np + nl) (np + nl)) (.slice (some ⟨w4.heap.size, 0, none⟩) 0 8) (newF I j) := by
    have hnf : newF I j = ⟨0, (j : Int), 0, m, List.replicate (np + nl) 0, []⟩ := by unfold newF; rw [hmm, HNP.out, HNL.out]
    rw [hnf]
    exact ⟨hqf, hm8, by rw [List.length_replicate]; exact E48.row HR4.out (fun q hq => by simp [Value.ownBlock] at hq; rw [← hq, hc4, paint_new _ _ _ (Nat.le_refl _)]; omega), ⟨by simp [i32v], .inr ⟨w4.heap.size, 8, C8, rfl, Nat.zero_le _, htop, by simp, by unfold maxLen; omega, by rw [HC8.out], by simp [i32v]⟩⟩,
      E48.col hfbl hfc4, fun q hq => by simp [Value.ownBlock] at hq; rw [← hq]; exact E48.col (hpRowLt HR4.out _ rfl) (by rw [hc4]; exact paint_new _ _ _ (Nat.le_refl _)), fun q hq => by simp [Value.ownBlock] at hq; rw [← hq, hc8]; exact paint_new _ _ _ (Nat.le_refl _),
      fun x hx => by rw [List.eq_of_mem_replicate hx]; simp [i32r], fun x hx => by simp at hx, by simpa using hl, by simp⟩
  refine ⟨rfl, c8, .pointer (some ⟨w.heap.size, 0, none⟩), ⟨fun q hq => ?_, ?_⟩, ?_, ?_⟩
  · have h1 : q < w1.heap.size := Nat.lt_of_lt_of_le hq HU1.out.size
    have h2 : q < w2.heap.size := Nat.lt_of_lt_of_le h1 HX2.out.upd.size
    have h4 : q < w4.heap.size := Nat.lt_of_lt_of_le h2 E24.upd.size
    rw [E48.same q h4, E24.same q h2, HX2.out.same q h1, paint_old _ _ _ hq]
  · have k2 : Upd (fun q => TP10 (c q)) w w2 := (HU1.out.mono (T := fun q => TP10 (c q)) (fun _ h _ => h.elim)).trans HX2.out.upd (fun q hq hl => by
      rw [paint_old _ _ _ hl] at hq
      exact .inr hq)
    have k3 := k2.trans HU3.out (fun q hq hl => by omega)
    have k4 := k3.trans HU4.out (fun _ h _ => h.elim)
    exact k4.trans hu48 (fun q hq hl => by
      rcases hq with rfl | rfl
      · omega
      · exact .inl HM0.out)
  · refine ⟨hmbx, ⟨w.heap.size, .pointer ta, _, _, _, _, _, rfl, by rw [← hdd]; exact hfr, FrL.ext E48 (by omega) H4.frs (fun i h1 h2 => by omega)⟩, E48.trc H4.trc (by omega), E48.col hmbl hmc4, H4.map.ext E48 (by omega) (by omega), H4.rm.ext E48 (fun i hi => by simp only [RmC] at hi; omega) (by omega), H4.one, by simp only [McM.withFs, List.length_cons]; omega⟩
  · exact ⟨_, _, _, _, _, _, rfl, by rw [← hdd]; exact hfr, FrL.ext E48 (by omega) H4.frs (fun i h1 h2 => by omega), w3.heap.size, Nat.le_trans (Nat.le_of_lt hfl2) HU3.out.size, by first | rw [HMM.out, HNP.out, HNL.out] | rw [HNP.out, HNL.out, ← HMM.out]⟩
end
end Go.Proofs.YtdmadfahgkikkaaGreat

/- Package room: Add. -/
import Derived.Test.YtdmadfahgkikkaaGreatQAk
import Derived.Test.YtdmadfahgkikkaaGreatRl
import Derived.Test.YtdmadfahgkikkaaGreatHek
import Derived.Deep.RegionLaw
import Derived.OwnWalk
import Derived.Deep.QuietTactic
namespace Go.Proofs.YtdmadfahgkikkaaGreat
open Go.RowKit Go.Lib Go.ChangeShapes Go.WideShapes Go.Deep
set_option linter.unusedVariables false
set_option linter.unusedSimpArgs false

theorem infoImg : (Tryz.prog.info? 59).map (fun i => (i.zero, i.size, i.bytes)) = some (some (.agg #[.string { data := #[] }, .slice none 0 0, .slice none 0 0, .slice none 0 0, .slice none 0 0]), 5, 112) := by kernel_rfl
theorem infoI32 : (Tryz.prog.info? 21).map (fun i => (i.zero, i.size, i.bytes)) = some (some (.int .i32 0), 1, 4) := by kernel_rfl
theorem infoI32s : (Tryz.prog.info? 32).map (fun i => (i.zero, i.size, i.bytes)) = some (some (.slice none 0 0), 1, 24) := by kernel_rfl
theorem qMake {P : Program} {ops : Array Oper} {o : Oper} {a : Act} {w : World} {K : Act → World → Prop} {Q : Exit → Act → World → Prop} {E : Prop}
    (hg : o.guard = none) (l c : Operand) (t : TypeId) (hop : o.op = Op.makeSlice t l c) (e : TypeId) (i : TypeInfo) (z : Value) (size : Nat) (h1 : P.underlying t = some (.slice e)) (h2 : P.info? e = some i) (h3 : i.zero = some z) (h4 : i.size = size)
    (n : Nat) (hl : a.eval l = .int .i64 (n : Int)) (hc : a.eval c = .int .i64 (n : Int)) (b2 : i.bytes * n ≤ 281474976710656) (b3 : n ≤ maxLen)
    (hK : ∀ w', w'.ownsRow 0 e size (.slice (some ⟨w.heap.size, 0, none⟩) n n) n (madeCells z.cells (n * size)).toList → w.grownBy w' none → K (a.put o.dst (.slice (some ⟨w.heap.size, 0, none⟩) n n)) w') :
    if Region.wanted o (yielded ops a.tmps) = true then Oper.wp P o a w K Q else E := by
  have hw : Region.wanted o (yielded ops a.tmps) = true := by simp [Region.wanted, hg]
  rw [if_pos hw]
  obtain ⟨w', hrun, r1, r2⟩ := run_make_full (P := P) w 0 t e i z size h1 h2 h3 h4 .i64 .i64 n b2 b3 (Nat.zero_le _)
  have hK' := hK w' r1 r2
  unfold Oper.wp
  simp [execOp, hop, hl, hc, hrun, Result.andThen]
  exact hK'
theorem qSrc (w : World) (e : TypeId) (cs : Array Value) (sz : Nat) (h1 : ∀ u ∈ cs.toList, u.oneCell' = true) (n c : Nat) (hn : cs.size = n * sz) : Src (w.alloc (.cells cs e)) sz (.slice (some ⟨w.heap.size, 0, none⟩) n c) n cs.toList := by
  refine .inr ⟨_, _, rfl, by simpa using hn, fun j u hj => ?_, h1⟩
  have hadd : (⟨w.heap.size, 0, none⟩ : Addr).add j = ⟨w.heap.size, j, none⟩ := by unfold Addr.add; split <;> simp_all
  rw [hadd]
  show (match (w.heap.push _)[w.heap.size]? with | some (.cells c _ _) => _ | _ => _) = _
  simpa using hj
theorem made_i32 (n : Nat) : (madeCells (Value.int .i32 0).cells (n * 1)).toList = i32v (List.replicate n 0) := by
  show (madeCells #[Value.int .i32 0] (n * 1)).toList = _
  rw [Nat.mul_one]
  refine List.ext_getElem (by simp [madeCells, i32v]) fun i h1 h2 => ?_
  simp [madeCells, i32v, Nat.mod_one]
/-- an applet more, its fields 0 -/
def AddedI (c : Nat → Nat) (w : World) (rb : Nat) (M : RmM) (Ps : List PI) (I : ImgM) (w' : World) : Prop := ∃ c' P, P.1 = I ∧ Ext TA c w c' w' ∧ RmI c' w' rb (M.addI (List.replicate I.fields.length 0) (pisC (Ps ++ [P]))) (Ps ++ [P])
set_option maxRecDepth 100000 in
set_option maxHeartbeats 4000000 in
theorem rAdd {c : Nat → Nat} {w : World} {rb : Nat} {M : RmM} {Ps : List PI} (h : RmI c w rb M Ps) (hl : M.fields.length < 4) (v : Value) (I : ImgM) (hI : Img w v I) (hS : ImgS I) :
    Calls Tryz.prog 20 #[.pointer (some ⟨rb, 0, none⟩), v] w fun e w' => e = .returned (.tuple #[.int .i64 (M.fields.length : Nat), .bool true]) ∧ AddedI c w rb M Ps I w' := by
  obtain ⟨⟨hb, iv, fv, pv, sv, ivs, fvs, h⟩, him, hlen, hK⟩ := h
  obtain rfl : ivs = pisC Ps := h.es.trans him
  have HI := Lib.hid hI
  obtain ⟨f, im, mt, xp, rfl, hf, hi, hm, hx, -⟩ := hI
  obtain ⟨fa, fc, rfl, hfc, hfm⟩ := hf.slice
  obtain ⟨ja, jc, rfl, -, -⟩ := hi.slice
  obtain ⟨ma, mc, rfl, -, -⟩ := hm.slice
  obtain ⟨xa, xc, rfl, -, -⟩ := hx.slice
  clear hf hi hm hx
  obtain ⟨ia, ic, rfl⟩ := ownsRow_slice h.imgs
  obtain ⟨ga, gc, rfl⟩ := ownsRow_slice h.flds
  obtain ⟨w1, hw1⟩ : ∃ w1, w1 = w.alloc (.cells #[.string I.name, .slice fa I.fields.length fc, .slice ja I.imports.length jc, .slice ma I.methods.length mc, .slice xa I.exports.length xc] 59) := ⟨_, rfl⟩
  have hu1 : Upd (fun _ => False) w w1 := by rw [hw1]; exact Upd.alloc _ _ _
  have hx1 : w1.heap[w.heap.size]? = some (.cells #[.string I.name, .slice fa I.fields.length fc, .slice ja I.imports.length jc, .slice ma I.methods.length mc, .slice xa I.exports.length xc] 59 (0, 0)) := by rw [hw1]; exact hpTop w _ _ rfl
  have hrb : rb < w.heap.size := (Array.getElem?_eq_some_iff.1 h.box).1
  have HCL := Lib.hid (fun u (hu : Upd (fun _ => False) w u) => rCloneImage u _ I (HI.out.later (hu.below (Nat.le_refl _) (fun _ h => h.elim))) hS)
  have HL := Lib.hid hlen
  have HK := Lib.hid hK
  have HH := Lib.hid h
  have HU1 := Lib.hid hu1
  have HX1 := Lib.hid hx1
  have HW1 := Lib.hid hw1
  have HS := Lib.hid hS.1
  have HA : Hid (∀ u, Upd (fun k => paint c w 9 k = 3) w1 u → (fun w' : World => w'.cell? ⟨rb, 0, none⟩ = some (.slice ia M.fields.length ic) ∧ w'.cell? ⟨w.heap.size, 0, none⟩ = some (.string I.name) ∧ w'.cell? ⟨w.heap.size, 1, none⟩ = some (.slice fa I.fields.length fc) ∧ w'.cell? ⟨w.heap.size, 2, none⟩ = some (.slice ja I.imports.length jc) ∧ w'.cell? ⟨w.heap.size, 3, none⟩ = some (.slice ma I.methods.length mc) ∧ w'.cell? ⟨w.heap.size, 4, none⟩ = some (.slice xa I.exports.length xc)) u) := Lib.hid (fun u hu => by
    obtain ⟨e0, e1, e2, e3, e4, -⟩ := five (hpBlk hu hx1 (by rw [paint_new c w 9 (Nat.le_refl _)]; omega))
    exact ⟨(five (hpBlk hu (h.quiet hu1).box (by rw [paint_old c w 9 hrb, h.cb]; omega))).1, e0, e1, e2, e3, e4⟩)
  have HFR : Hid (∀ u, Upd (fun k => paint c w 9 k = 3) w1 u → u.frozen? ⟨rb, 0, none⟩ = false) := Lib.hid (fun u hu => (five (hpBlk hu (h.quiet hu1).box (by rw [paint_old c w 9 hrb, h.cb]; omega))).2.2.2.2.2 0)
  have a0 := h.bx.1
  have HRB := Lib.hid hrb
  clear hlen hK h him hu1 hx1 hw1 hS
  have t1 : decide (4 ≤ (M.fields.length : Int)) = false := by simp only [decide_eq_false_iff_not]; omega
  have n63 : (M.fields.length : Int) ≤ 9223372036854775807 := by omega
  obtain ⟨i0, hi0, hz0, hz1, hz2⟩ := info_parts infoImg
  obtain ⟨j0, hj0, hy0, hy1, hy2⟩ := info_parts infoI32s
  obtain ⟨k0, hk0, hx0, hx1, hx2⟩ := info_parts infoI32
  go_enter Tryz.func20, Tryz.ntmps20
  go_wp2_with fail
  rw [← HW1.out]
  go_upto_region 11 with fail
  have HZ : Hid (Upd (fun _ => False) w1 w1.drew) := Lib.hid (Upd.drew _ _)
  have hHeld : (fun w' : World => w'.cell? ⟨rb, 0, none⟩ = some (.slice ia M.fields.length ic) ∧ w'.cell? ⟨w.heap.size, 0, none⟩ = some (.string I.name) ∧ w'.cell? ⟨w.heap.size, 1, none⟩ = some (.slice fa I.fields.length fc) ∧ w'.cell? ⟨w.heap.size, 2, none⟩ = some (.slice ja I.imports.length jc) ∧ w'.cell? ⟨w.heap.size, 3, none⟩ = some (.slice ma I.methods.length mc) ∧ w'.cell? ⟨w.heap.size, 4, none⟩ = some (.slice xa I.exports.length xc)) w1.drew := HA.out _ (Upd.drew _ _)
  clear a0 hrb
  refine wp_region_last (S := (fun w' : World => w'.cell? ⟨rb, 0, none⟩ = some (.slice ia M.fields.length ic) ∧ w'.cell? ⟨w.heap.size, 0, none⟩ = some (.string I.name) ∧ w'.cell? ⟨w.heap.size, 1, none⟩ = some (.slice fa I.fields.length fc) ∧ w'.cell? ⟨w.heap.size, 2, none⟩ = some (.slice ja I.imports.length jc) ∧ w'.cell? ⟨w.heap.size, 3, none⟩ = some (.slice ma I.methods.length mc) ∧ w'.cell? ⟨w.heap.size, 4, none⟩ = some (.slice xa I.exports.length xc))) 11 _ (by kernel_rfl) (by kernel_rfl) rfl ?_
  change wpHL _ _ _ _ _ _ _ _ _ _ w1.drew
  refine wpHL_take (i := 0) (v := ?_) rfl (by kernel_rfl) (fun _ _ _ h => h) hHeld (Or.inl ⟨by rfl, ?_⟩) ?_
  rotate_left
  · (intro w hSw; obtain ⟨y0, y1, y2, y3, y4, y5⟩ := hSw; go_simp; try with_reducible rfl)
  try simp only [Act.put, List.getElem_toArray, List.getElem_cons_succ, List.getElem_cons_zero, List.setIfInBounds_toArray, List.set_cons_zero, List.set_cons_succ]
  refine wpHL_take (i := 1) (v := ?_) rfl (by kernel_rfl) (fun _ _ _ h => h) hHeld (Or.inl ⟨by rfl, ?_⟩) ?_
  rotate_left
  · (intro w hSw; obtain ⟨y0, y1, y2, y3, y4, y5⟩ := hSw; go_simp; try with_reducible rfl)
  try simp only [Act.put, List.getElem_toArray, List.getElem_cons_succ, List.getElem_cons_zero, List.setIfInBounds_toArray, List.set_cons_zero, List.set_cons_succ]
  refine wpHL_take (i := 2) (v := ?_) rfl (by kernel_rfl) (fun _ _ _ h => h) hHeld (Or.inl ⟨by rfl, ?_⟩) ?_
  rotate_left
  · (intro w hSw; obtain ⟨y0, y1, y2, y3, y4, y5⟩ := hSw; go_simp; try with_reducible rfl)
  try simp only [Act.put, List.getElem_toArray, List.getElem_cons_succ, List.getElem_cons_zero, List.setIfInBounds_toArray, List.set_cons_zero, List.set_cons_succ]
  refine wpHL_take (i := 3) (v := ?_) rfl (by kernel_rfl) (fun _ _ _ h => h) hHeld (Or.inl ⟨by rfl, ?_⟩) ?_
  rotate_left
  · (intro w hSw; obtain ⟨y0, y1, y2, y3, y4, y5⟩ := hSw; go_simp; try with_reducible rfl)
  try simp only [Act.put, List.getElem_toArray, List.getElem_cons_succ, List.getElem_cons_zero, List.setIfInBounds_toArray, List.set_cons_zero, List.set_cons_succ]
  refine wpHL_take (i := 4) (v := ?_) rfl (by kernel_rfl) (fun _ _ _ h => h) hHeld (Or.inl ⟨by rfl, ?_⟩) ?_
  rotate_left
  · (intro w hSw; obtain ⟨y0, y1, y2, y3, y4, y5⟩ := hSw; go_simp; try with_reducible rfl)
  try simp only [Act.put, List.getElem_toArray, List.getElem_cons_succ, List.getElem_cons_zero, List.setIfInBounds_toArray, List.set_cons_zero, List.set_cons_succ]
  refine wpHL_take (i := 5) (v := ?_) rfl (by kernel_rfl) (fun _ _ _ h => h) hHeld (Or.inl ⟨by rfl, ?_⟩) ?_
  rotate_left
  · (intro w hSw; obtain ⟨y0, y1, y2, y3, y4, y5⟩ := hSw; go_simp; try with_reducible rfl)
  try simp only [Act.put, List.getElem_toArray, List.getElem_cons_succ, List.getElem_cons_zero, List.setIfInBounds_toArray, List.set_cons_zero, List.set_cons_succ]
  refine wpHL_step (i := 6) rfl (by kernel_rfl) (by decide) (fun K hK => ?_)
  have HKK := Lib.hid hK
  clear hK hHeld
  go_simp
  refine (HCL.out _ (HU1.out.trans HZ.out (fun _ h _ => h))).mono ?_
  rintro e w2 ⟨v', rfl, hv, hu⟩
  obtain ⟨f', i', m', x', rfl, hf', hi', hm', hx', -⟩ := hv.img (Upd.refl _ w2)
  obtain ⟨fa', fc', rfl, -, -⟩ := hf'.slice
  obtain ⟨ja', jc', rfl, -, -⟩ := hi'.slice
  obtain ⟨ma', mc', rfl, -, -⟩ := hm'.slice
  obtain ⟨xa', xc', rfl, -, -⟩ := hx'.slice
  obtain ⟨P, hP⟩ : ∃ P : PI, P = (I, Value.slice fa' I.fields.length fc', Value.slice ja' I.imports.length jc', Value.slice ma' I.methods.length mc', Value.slice xa' I.exports.length xc') := ⟨_, rfl⟩
  have HP := Lib.hid hP
  have HU2 := Lib.hid ((HU1.out.trans HZ.out (fun _ h _ => h)).trans hu (fun _ h _ => h))
  have HIK : Hid (ImgK (paint c w 8) w2 (piV P) P.1) := Lib.hid (by rw [hP]; exact ImgK.made (HU1.out.trans HZ.out (fun _ h _ => h)) hv)
  have HD2 : Hid (Upd (fun k => paint c w 9 k = 3) w1 w2) := Lib.hid ((HZ.out.trans hu (fun _ h _ => h)).mono (fun _ h _ => h.elim))
  clear hv hu hP hf' hi' hm' hx'
  go_simp
  have hHeld := HA.out _ HD2.out
  refine HKK.out _ _ hHeld ?_
  clear HKK hHeld
  try simp only [Act.put, List.getElem_toArray, List.getElem_cons_succ, List.getElem_cons_zero, List.setIfInBounds_toArray, List.set_cons_zero, List.set_cons_succ]
  refine wpHL_step (i := 7) rfl (by kernel_rfl) (by decide) (fun K hK => ?_)
  have HKK := Lib.hid hK
  clear hK
  go_simp
  obtain ⟨w3, hw3⟩ : ∃ w3, w3 = w2.alloc (.cells #[.string I.name, .slice fa' I.fields.length fc', .slice ja' I.imports.length jc', .slice ma' I.methods.length mc', .slice xa' I.exports.length xc'] 59) := ⟨_, rfl⟩
  rw [← hw3]
  have HU3 : Hid (Upd (fun _ => False) w2 w3) := Lib.hid (by rw [hw3]; exact Upd.alloc _ _ _)
  have HSRC : Hid (Src w3 5 (.slice (some ⟨w2.heap.size, 0, none⟩) 1 1) 1 (piC P)) := Lib.hid (by rw [hw3, HP.out]; exact qSrc w2 59 _ 5 (by simp [Value.oneCell']) 1 1 rfl)
  have H2 : Hid (RmAt (paint c w 8) w2 rb hb (.slice ia M.fields.length ic) (.slice ga M.fields.length gc) pv sv (pisC Ps) fvs M) := Lib.hid (HH.out.ext (Ext.made None0 8 HU2.out) (fun _ _ h => h))
  have HROW := Lib.hid (H2.out.quiet HU3.out).imgs
  have HD3 : Hid (Upd (fun k => paint c w 9 k = 3) w1 w3) := Lib.hid (HD2.out.trans (HU3.out.mono (fun _ h _ => h.elim)) (fun _ h _ => h))
  have hHeld := HA.out _ HD3.out
  clear hw3
  refine HKK.out _ _ hHeld ?_
  clear HKK hHeld
  try simp only [Act.put, List.getElem_toArray, List.getElem_cons_succ, List.getElem_cons_zero, List.setIfInBounds_toArray, List.set_cons_zero, List.set_cons_succ]
  refine wpHL_step (i := 8) rfl (by kernel_rfl) (by decide) (fun K hK => ?_)
  have HKK := Lib.hid hK
  clear hK
  refine hpStep rfl (.tmp 18) (.tmp 21) 79 rfl 0 59 i0 _ 5 112 Tryz.underlying79 hi0 hz0 hz1 hz2 rfl (by decide) (.slice ia M.fields.length ic) M.fields.length (pisC Ps) rfl HROW.out 1 (piC P) HSRC.out (by unfold maxLen; omega) (by omega) (Nat.zero_le _) ?_
  intro v4 w4 ho hg hf
  obtain ⟨va4, vc4, rfl⟩ := ownsRow_slice ho
  have HTL := Lib.hid (addA H2.out HU3.out ho hg hf (by rw [HP.out]; simp [piC, Value.oneCell']))
  have hu4 : Upd (fun k => paint c w 9 k = 3) w3 w4 := (Upd.grown (S := fun k => (Value.slice ia M.fields.length ic).ownBlock = some k) hg (fun k hk => .inl hk)).mono (fun k hk _ => by rw [paint_old c w 9 (hpRowLt HH.out.imgs k hk)]; exact HH.out.ci k hk)
  have HD4 := Lib.hid (HD3.out.trans hu4 (fun _ h _ => h))
  have f4 := HFR.out _ HD4.out
  have hHeld := HA.out _ HD4.out
  clear ho hg hf hu4
  refine HKK.out _ _ hHeld ?_
  clear HKK
  try simp only [Act.put, List.getElem_toArray, List.getElem_cons_succ, List.getElem_cons_zero, List.setIfInBounds_toArray, List.set_cons_zero, List.set_cons_succ]
  refine wpHL_take (i := 9) (v := ?_) rfl (by kernel_rfl) (fun _ _ _ h => h) hHeld (Or.inl ⟨by rfl, ?_⟩) ?_
  rotate_left
  · (intro w hSw; obtain ⟨y0, y1, y2, y3, y4, y5⟩ := hSw; go_simp; try with_reducible rfl)
  try simp only [Act.put, List.getElem_toArray, List.getElem_cons_succ, List.getElem_cons_zero, List.setIfInBounds_toArray, List.set_cons_zero, List.set_cons_succ]
  refine wpHL_take (i := 10) (v := ?_) rfl (by kernel_rfl) (fun _ _ _ h => h) hHeld (Or.inl ⟨by rfl, ?_⟩) ?_
  rotate_left
  · (intro w hSw; obtain ⟨y0, y1, y2, y3, y4, y5⟩ := hSw; go_simp; try with_reducible rfl)
  try simp only [Act.put, List.getElem_toArray, List.getElem_cons_succ, List.getElem_cons_zero, List.setIfInBounds_toArray, List.set_cons_zero, List.set_cons_succ]
  obtain ⟨b0, -⟩ := hHeld
  refine wpHL_last (by kernel_rfl) ?_
  go_upto_region 13 with fail
  obtain ⟨w5, hw5⟩ : ∃ w5, w5 = w4.setCell ⟨rb, 0, none⟩ (.slice va4 (M.fields.length + 1) vc4) := ⟨_, rfl⟩
  rw [← hw5] at HTL
  rw [← hw5]
  obtain ⟨c2, hc2⟩ : ∃ c2, c2 = paint (paint c w 8) w2 3 := ⟨_, rfl⟩
  rw [← hc2] at HTL
  have HX5 : Hid (w5.heap[w.heap.size]? = some (.cells #[.string I.name, .slice fa I.fields.length fc, .slice ja I.imports.length jc, .slice ma I.methods.length mc, .slice xa I.exports.length xc] 59 (0, 0))) := Lib.hid (by
    have h1 := hpBlk HD4.out HX1.out (by rw [paint_new c w 9 (Nat.le_refl _)]; omega)
    rw [hw5]
    have hne : ¬ w.heap.size = rb := by have := HRB.out; omega
    exact hpBlk (S := fun k => k = rb) (Upd.setCell (S := fun k => k = rb) w4 (.inl rfl) _) h1 hne)
  have hcz : c2 w.heap.size = 8 := by rw [hc2, paint_old _ w2 3 (by have := (Array.getElem?_eq_some_iff.1 HX1.out).1; have := HU2.out.size; have h1 := HD2.out.size; omega), paint_new c w 8 (Nat.le_refl _)]
  have HCZ := Lib.hid hcz
  have HC2 := Lib.hid hc2
  clear hw5 hc2 f4 b0 hcz
  have HB : Hid (∀ u, Upd (fun k => c2 k = 4) w5 u → (fun w' : World => w'.cell? ⟨rb, 1, none⟩ = some (.slice ga M.fields.length gc) ∧ w'.cell? ⟨w.heap.size, 1, none⟩ = some (.slice fa I.fields.length fc)) u) := Lib.hid (fun u hu => by
    obtain ⟨e0, e1, e2, e3, e4, -⟩ := five (hpBlk hu HX5.out (by rw [HCZ.out]; omega))
    exact ⟨(five (hpBlk hu HTL.out.2.box (by rw [HTL.out.2.cb]; omega))).2.1, e1⟩)
  have HFB : Hid (∀ u, Upd (fun k => c2 k = 4) w5 u → u.frozen? ⟨rb, 1, none⟩ = false) := Lib.hid (fun u hu => (five (hpBlk hu HTL.out.2.box (by rw [HTL.out.2.cb]; omega))).2.2.2.2.2 1)
  have HZ5 : Hid (Upd (fun _ => False) w5 w5.drew) := Lib.hid (Upd.drew _ _)
  have hHeld : (fun w' : World => w'.cell? ⟨rb, 1, none⟩ = some (.slice ga M.fields.length gc) ∧ w'.cell? ⟨w.heap.size, 1, none⟩ = some (.slice fa I.fields.length fc)) w5.drew := HB.out _ (Upd.drew _ _)
  refine wp_region_last (S := (fun w' : World => w'.cell? ⟨rb, 1, none⟩ = some (.slice ga M.fields.length gc) ∧ w'.cell? ⟨w.heap.size, 1, none⟩ = some (.slice fa I.fields.length fc))) 13 _ (by kernel_rfl) (by kernel_rfl) rfl ?_
  change wpHL _ _ _ _ _ _ _ _ _ _ w5.drew
  refine wpHL_take (i := 0) (v := ?_) rfl (by kernel_rfl) (fun _ _ _ h => h) hHeld (Or.inl ⟨by rfl, ?_⟩) ?_
  rotate_left
  · (intro w hSw; obtain ⟨y0, y1⟩ := hSw; go_simp; try with_reducible rfl)
  try simp only [Act.put, List.getElem_toArray, List.getElem_cons_succ, List.getElem_cons_zero, List.setIfInBounds_toArray, List.set_cons_zero, List.set_cons_succ]
  refine wpHL_take (i := 1) (v := ?_) rfl (by kernel_rfl) (fun _ _ _ h => h) hHeld (Or.inl ⟨by rfl, ?_⟩) ?_
  rotate_left
  · (intro w hSw; obtain ⟨y0, y1⟩ := hSw; go_simp; try with_reducible rfl)
  try simp only [Act.put, List.getElem_toArray, List.getElem_cons_succ, List.getElem_cons_zero, List.setIfInBounds_toArray, List.set_cons_zero, List.set_cons_succ]
  refine wpHL_take (i := 2) (v := ?_) rfl (by kernel_rfl) (fun _ _ _ h => h) hHeld (Or.inl ⟨by rfl, ?_⟩) ?_
  rotate_left
  · (intro w hSw; obtain ⟨y0, y1⟩ := hSw; go_simp; try with_reducible rfl)
  try simp only [Act.put, List.getElem_toArray, List.getElem_cons_succ, List.getElem_cons_zero, List.setIfInBounds_toArray, List.set_cons_zero, List.set_cons_succ]
  refine wpHL_take (i := 3) (v := ?_) rfl (by kernel_rfl) (fun _ _ _ h => h) hHeld (Or.inl ⟨by rfl, ?_⟩) ?_
  rotate_left
  · (intro w hSw; obtain ⟨y0, y1⟩ := hSw; go_simp; try with_reducible rfl)
  try simp only [Act.put, List.getElem_toArray, List.getElem_cons_succ, List.getElem_cons_zero, List.setIfInBounds_toArray, List.set_cons_zero, List.set_cons_succ]
  refine wpHL_take (i := 4) (v := ?_) rfl (by kernel_rfl) (fun _ _ _ h => h) hHeld (Or.inl ⟨by rfl, ?_⟩) ?_
  rotate_left
  · (intro w hSw; obtain ⟨y0, y1⟩ := hSw; go_simp; try with_reducible rfl)
  try simp only [Act.put, List.getElem_toArray, List.getElem_cons_succ, List.getElem_cons_zero, List.setIfInBounds_toArray, List.set_cons_zero, List.set_cons_succ]
  refine wpHL_take (i := 5) (v := ?_) rfl (by kernel_rfl) (fun _ _ _ h => h) hHeld (Or.inl ⟨by rfl, ?_⟩) ?_
  rotate_left
  · (intro w hSw; obtain ⟨y0, y1⟩ := hSw; go_simp; try with_reducible rfl)
  try simp only [Act.put, List.getElem_toArray, List.getElem_cons_succ, List.getElem_cons_zero, List.setIfInBounds_toArray, List.set_cons_zero, List.set_cons_succ]
  refine wpHL_take (i := 6) (v := ?_) rfl (by kernel_rfl) (fun _ _ _ h => h) hHeld (Or.inl ⟨by rfl, ?_⟩) ?_
  rotate_left
  · (intro w hSw; obtain ⟨y0, y1⟩ := hSw; go_simp; try with_reducible rfl)
  try simp only [Act.put, List.getElem_toArray, List.getElem_cons_succ, List.getElem_cons_zero, List.setIfInBounds_toArray, List.set_cons_zero, List.set_cons_succ]
  refine wpHL_take (i := 7) (v := ?_) rfl (by kernel_rfl) (fun _ _ _ h => h) hHeld (Or.inl ⟨by rfl, ?_⟩) ?_
  rotate_left
  · (intro w hSw; obtain ⟨y0, y1⟩ := hSw; go_simp; try with_reducible rfl)
  try simp only [Act.put, List.getElem_toArray, List.getElem_cons_succ, List.getElem_cons_zero, List.setIfInBounds_toArray, List.set_cons_zero, List.set_cons_succ]
  refine wpHL_step (i := 8) rfl (by kernel_rfl) (by decide) (fun K hK => ?_)
  have HKK := Lib.hid hK
  clear hK hHeld
  have hS0 := HS.out
  refine qMake rfl (.tmp 32) (.tmp 32) 32 rfl 21 k0 (.int .i32 0) 1 Tryz.underlying32 hk0 hx0 hx1 I.fields.length rfl rfl (by rw [hx2]; omega) (by unfold maxLen; omega) ?_
  intro w6 hrow hg6
  rw [made_i32] at hrow
  obtain ⟨F, hF⟩ : ∃ F, F = Value.slice (some ⟨w5.heap.size, 0, none⟩) I.fields.length I.fields.length := ⟨_, rfl⟩
  have HF := Lib.hid hF
  have hu6 : Upd (fun _ => False) w5 w6 := HZ5.out.trans ((Upd.grown (S := fun k => (none : Option Nat) = some k) hg6 (fun k hk => .inl hk)).mono (fun k hk _ => by simp at hk)) (fun _ h _ => h)
  have HU6 := Lib.hid hu6
  have HR6 : Hid (w6.ownsRow 0 21 1 (.slice (some ⟨w5.heap.size, 0, none⟩) I.fields.length I.fields.length) I.fields.length (i32v (List.replicate I.fields.length 0))) := Lib.hid hrow
  have hHeld := HB.out _ (hu6.mono (fun _ h _ => h.elim))
  clear hrow hg6 hu6
  refine HKK.out _ _ hHeld ?_
  clear HKK hHeld
  try simp only [Act.put, List.getElem_toArray, List.getElem_cons_succ, List.getElem_cons_zero, List.setIfInBounds_toArray, List.set_cons_zero, List.set_cons_succ]
  refine wpHL_step (i := 9) rfl (by kernel_rfl) (by decide) (fun K hK => ?_)
  have HKK := Lib.hid hK
  clear hK
  go_simp
  rw [← HF.out]
  rw [← HF.out] at HR6
  obtain ⟨w7, hw7⟩ : ∃ w7, w7 = w6.alloc (.cells #[F] 32) := ⟨_, rfl⟩
  rw [← hw7]
  have HU7 : Hid (Upd (fun _ => False) w6 w7) := Lib.hid (by rw [hw7]; exact Upd.alloc _ _ _)
  have hF1 : F.oneCell' = true := by rw [HF.out]; rfl
  have HF1 := Lib.hid hF1
  have HSRC7 : Hid (Src w7 1 (.slice (some ⟨w6.heap.size, 0, none⟩) 1 1) 1 [F]) := Lib.hid (by rw [hw7]; exact qSrc w6 32 #[F] 1 (by simpa using hF1) 1 1 rfl)
  have H6 : Hid (RmX (M.fields.length + 1) (paint c2 w5 (100 + M.fields.length)) w6 rb hb (.slice va4 (M.fields.length + 1) vc4) (.slice ga M.fields.length gc) pv sv (pisC Ps ++ piC P) fvs M) := Lib.hid (HTL.out.2.ext (Ext.made None0 (100 + M.fields.length) HU6.out) (fun _ _ h => h))
  have HROW7 := Lib.hid (H6.out.ext (Ext.quiet _ HU7.out) (fun _ _ h => h)).flds
  have hHeld := HB.out _ ((HU6.out.trans HU7.out (fun _ h _ => h)).mono (fun _ h _ => h.elim))
  clear hw7 hF hF1
  refine HKK.out _ _ hHeld ?_
  clear HKK hHeld
  try simp only [Act.put, List.getElem_toArray, List.getElem_cons_succ, List.getElem_cons_zero, List.setIfInBounds_toArray, List.set_cons_zero, List.set_cons_succ]
  refine wpHL_step (i := 10) rfl (by kernel_rfl) (by decide) (fun K hK => ?_)
  have HKK := Lib.hid hK
  clear hK
  refine hpStep rfl (.tmp 29) (.tmp 34) 80 rfl 0 32 j0 _ 1 24 Tryz.underlying80 hj0 hy0 hy1 hy2 rfl (by decide) (.slice ga M.fields.length gc) M.fields.length fvs rfl HROW7.out 1 [F] HSRC7.out (by unfold maxLen; omega) (by omega) (Nat.zero_le _) ?_
  intro v8 w8 ho hg hf
  obtain ⟨va8, vc8, rfl⟩ := ownsRow_slice ho
  have HTF := Lib.hid (addF (xs := List.replicate I.fields.length 0) H6.out hl (by rw [List.length_replicate]; exact HR6.out) (fun k hk => by
    rw [HF.out] at hk
    simp [Value.ownBlock] at hk
    rw [← hk]
    exact paint_new c2 w5 _ (Nat.le_refl _)) HF1.out HU7.out ho hg hf)
  have hu8 : Upd (fun k => c2 k = 4) w5 w8 := (((HU6.out.trans HU7.out (fun _ h _ => h)).mono (T := fun k => c2 k = 4) (fun _ h _ => h.elim))).trans (Upd.grown (S := fun k => (Value.slice ga M.fields.length gc).ownBlock = some k) hg (fun k hk => .inl hk)) (fun k hk _ => HTL.out.2.cf k hk)
  have f8 := HFB.out _ hu8
  have hHeld := HB.out _ hu8
  clear ho hg hf hu8
  refine HKK.out _ _ hHeld ?_
  clear HKK
  try simp only [Act.put, List.getElem_toArray, List.getElem_cons_succ, List.getElem_cons_zero, List.setIfInBounds_toArray, List.set_cons_zero, List.set_cons_succ]
  refine wpHL_take (i := 11) (v := ?_) rfl (by kernel_rfl) (fun _ _ _ h => h) hHeld (Or.inl ⟨by rfl, ?_⟩) ?_
  rotate_left
  · (intro w hSw; obtain ⟨y0, y1⟩ := hSw; go_simp; try with_reducible rfl)
  try simp only [Act.put, List.getElem_toArray, List.getElem_cons_succ, List.getElem_cons_zero, List.setIfInBounds_toArray, List.set_cons_zero, List.set_cons_succ]
  refine wpHL_take (i := 12) (v := ?_) rfl (by kernel_rfl) (fun _ _ _ h => h) hHeld (Or.inl ⟨by rfl, ?_⟩) ?_
  rotate_left
  · (intro w hSw; obtain ⟨y0, y1⟩ := hSw; go_simp; try with_reducible rfl)
  try simp only [Act.put, List.getElem_toArray, List.getElem_cons_succ, List.getElem_cons_zero, List.setIfInBounds_toArray, List.set_cons_zero, List.set_cons_succ]
  obtain ⟨b0, -⟩ := hHeld
  refine wpHL_last (by kernel_rfl) ?_
  go_wp2_with fail
  refine bodyPost_ret (v := .tuple #[.int .i64 (M.fields.length : Int), .bool true]) (by simp only [results, Tryz.f20]; simp [go_sem]) rfl ?_
  have E1 : Ext TA c w (paint c w 8) w2 := Ext.made TA 8 HU2.out
  have h2 := HC2.out
  subst h2
  have E2 := HTL.out.1
  have E3 := Ext.made (c := paint (paint c w 8) w2 3) TA (100 + M.fields.length) HU6.out
  have E4 := HTF.out.1
  have EA := (E1.trans E2 (fun _ h => h)).trans (E3.trans E4 (fun _ h => h)) (fun _ h => h)
  have E23 := E2.trans (E3.trans E4 (fun _ h => h)) (fun _ h => h)
  refine ⟨rfl, _, P, by rw [HP.out], EA, ⟨_, _, _, _, _, _, _, by rw [pisC_append]; exact HTF.out.2⟩, rfl, by simp [RmM.addI, HL.out], fun p hp => ?_⟩
  rcases List.mem_append.1 hp with h1 | h1
  · exact (HK.out p h1).ext EA (by simp [TA])
  · rw [List.mem_singleton] at h1
    rw [h1]
    exact HIK.out.ext E23 (by simp [TA])
end Go.Proofs.YtdmadfahgkikkaaGreat

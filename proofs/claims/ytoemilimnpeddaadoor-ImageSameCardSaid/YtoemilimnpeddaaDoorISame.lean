/- The walk of ImageSame. -/
import Derived.Test.YtoemilimnpeddaaDoorBu
import Derived.Test.YtoemilimnpeddaaDoorRSa
import Derived.Test.YtoemilimnpeddaaDoorIk
namespace Go.Proofs.YtoemilimnpeddaaDoor
open Go.RowKit Go.Lib
set_option linter.unusedVariables false
set_option linter.unusedSimpArgs false

theorem isPick (n : Int) (w : World) : Calls Tryd.prog 11 #[.int .i64 n, .int .i64 1000] w fun e w' => ∃ k : Int, e = .returned (.int .i64 k) ∧ 0 ≤ k ∧ k < 1000 ∧ w = w' := by
  refine (hPick n 1000 w (by omega) (by omega)).mono fun e w' ⟨h1, h2⟩ => ?_
  exact ⟨n % 1000, h1, Int.emod_nonneg _ (by omega), Int.emod_lt_of_pos _ (by omega), h2⟩
theorem isEq {a b : Bool} {P : Prop} (h1 : a = true ↔ P) (h2 : b = true ↔ P) : b = a := by
  rw [Bool.eq_iff_iff, h1, h2]
theorem isB (a : Bool) : (a == a) = true := by simp

set_option maxRecDepth 100000 in
set_option maxHeartbeats 20000000 in
theorem imageSame_walk (W : World) (k m how at' by' : Int) (near : Bool) (lv ov : Value) (L O : List RawR) (hl : RawsAt W lv L) (hL : L.length ≤ 4398046511104) (ho : RawsAt W ov O) (hO : O.length ≤ 4398046511104) (hB : Bins ⟨W, fun _ => False⟩) (wh : wi64 how) :
    Calls Tryd.prog 6 #[.int .i64 k, .int .i64 m, lv, ov, .int .i64 how, .int .i64 at', .int .i64 by', .bool near] W fun e w' => e = .returned (.bool true) ∧ Upd (fun _ => False) W w' := by
  obtain ⟨la, lc, rfl⟩ := hl.slice
  obtain ⟨oa, oc, rfl⟩ := ho.slice
  have HL := Lib.hid hl
  have HO := Lib.hid ho
  have HB := Lib.hid hB
  have HWH := Lib.hid wh
  clear hl ho hB wh
  go_enter Tryd.func6, Tryd.ntmps6
  go_wp2_with fail
  refine (hApplet W k _ L HL.out hL HB.out).mono ?_
  rintro e w1 ⟨v1, I, rfl, hI, -, -, hu⟩
  obtain ⟨fa, fc, ia, ic, ma, mc, xa, xc, rfl, -⟩ := hI.parts
  have HU1 := Lib.hid (hu.trans (Upd.alloc (fun _ => False) w1 (.cells #[.string I.name, .slice fa I.fields.length fc, .slice ia I.imports.length ic, .slice ma I.methods.length mc, .slice xa I.exports.length xc] 27)) (fun _ h _ => h))
  have HXA := Lib.hid (blk_top' w1 (.cells #[.string I.name, .slice fa I.fields.length fc, .slice ia I.imports.length ic, .slice ma I.methods.length mc, .slice xa I.exports.length xc] 27) _ rfl)
  have HA := Lib.hid (hI.later (upd_below (Upd.alloc (fun _ => False) w1 (.cells #[.string I.name, .slice fa I.fields.length fc, .slice ia I.imports.length ic, .slice ma I.methods.length mc, .slice xa I.exports.length xc] 27))))
  have HB1 : Hid (Bins ⟨w1.alloc (.cells #[.string I.name, .slice fa I.fields.length fc, .slice ia I.imports.length ic, .slice ma I.methods.length mc, .slice xa I.exports.length xc] 27), fun _ => False⟩) := Lib.hid ⟨fun h => h, fun k hk => (HU1.out.cell (World.block_lt_of_cell? _ _ (HB.out.2 k hk)) (fun h => h)).trans (HB.out.2 k hk)⟩
  have HO1 := Lib.hid (HO.out.later (upd_below HU1.out))
  clear hI hu
  go_wp2_with fail
  refine (hApplet _ m _ O HO1.out hO HB1.out).mono ?_
  rintro e w2 ⟨v2, J, rfl, hJ, -, -, hu⟩
  obtain ⟨fb, fd, ib, id, mb, md, xb, xd, rfl, -⟩ := hJ.parts
  have hu2 := hu.trans (Upd.alloc (fun _ => False) w2 (.cells #[.string J.name, .slice fb J.fields.length fd, .slice ib J.imports.length id, .slice mb J.methods.length md, .slice xb J.exports.length xd] 27)) (fun _ h _ => h)
  have HXB := Lib.hid (blk_top' w2 (.cells #[.string J.name, .slice fb J.fields.length fd, .slice ib J.imports.length id, .slice mb J.methods.length md, .slice xb J.exports.length xd] 27) _ rfl)
  have HJ := Lib.hid (hJ.later (upd_below (Upd.alloc (fun _ => False) w2 (.cells #[.string J.name, .slice fb J.fields.length fd, .slice ib J.imports.length id, .slice mb J.methods.length md, .slice xb J.exports.length xd] 27))))
  replace HA := Lib.hid (HA.out.later (upd_below hu2))
  replace HXA := Lib.hid (stay_blk hu2 HXA.out (fun h => h))
  have HU := Lib.hid (HU1.out.trans hu2 (fun _ h _ => h))
  have HLT : Hid (w1.heap.size < w2.heap.size) := Lib.hid (by have h1 := hu.size; simp at h1; omega)
  have HWS : Hid (W.heap.size ≤ w2.heap.size) := Lib.hid (by have h1 := HU1.out.size; have h2 := hu.size; omega)
  clear hJ hu hu2 HB1 HO1 HU1 HO
  cases near with
  | false =>
    have HU0 := Lib.hid (HU.out.trans (Upd.drew (fun _ => False) (w2.alloc (.cells #[.string J.name, .slice fb J.fields.length fd, .slice ib J.imports.length id, .slice mb J.methods.length md, .slice xb J.exports.length xd] 27))) (fun _ h _ => h))
    have HXA0 : Hid ((w2.alloc (.cells #[.string J.name, .slice fb J.fields.length fd, .slice ib J.imports.length id, .slice mb J.methods.length md, .slice xb J.exports.length xd] 27)).drew.heap[w1.heap.size]? = some (.cells #[.string I.name, .slice fa I.fields.length fc, .slice ia I.imports.length ic, .slice ma I.methods.length mc, .slice xa I.exports.length xc] 27 (0, 0))) := Lib.hid HXA.out
    have HXB0 : Hid ((w2.alloc (.cells #[.string J.name, .slice fb J.fields.length fd, .slice ib J.imports.length id, .slice mb J.methods.length md, .slice xb J.exports.length xd] 27)).drew.heap[w2.heap.size]? = some (.cells #[.string J.name, .slice fb J.fields.length fd, .slice ib J.imports.length id, .slice mb J.methods.length md, .slice xb J.exports.length xd] 27 (0, 0))) := Lib.hid HXB.out
    have HA0 := Lib.hid (HA.out.later (upd_below (Upd.drew (fun _ => False) (w2.alloc (.cells #[.string J.name, .slice fb J.fields.length fd, .slice ib J.imports.length id, .slice mb J.methods.length md, .slice xb J.exports.length xd] 27)))))
    have HJ0 := Lib.hid (HJ.out.later (upd_below (Upd.drew (fun _ => False) (w2.alloc (.cells #[.string J.name, .slice fb J.fields.length fd, .slice ib J.imports.length id, .slice mb J.methods.length md, .slice xb J.exports.length xd] 27)))))
    have HSS : Hid (∀ w' : World, w'.heap[w1.heap.size]? = some (.cells #[.string I.name, .slice fa I.fields.length fc, .slice ia I.imports.length ic, .slice ma I.methods.length mc, .slice xa I.exports.length xc] 27 (0, 0)) → w'.heap[w2.heap.size]? = some (.cells #[.string J.name, .slice fb J.fields.length fd, .slice ib J.imports.length id, .slice mb J.methods.length md, .slice xb J.exports.length xd] 27 (0, 0)) → (fun w' => w'.cell? ⟨w1.heap.size, 0, none⟩ = some (.string I.name) ∧ w'.cell? ⟨w1.heap.size, 1, none⟩ = some (.slice fa I.fields.length fc) ∧ w'.cell? ⟨w1.heap.size, 2, none⟩ = some (.slice ia I.imports.length ic) ∧ w'.cell? ⟨w1.heap.size, 3, none⟩ = some (.slice ma I.methods.length mc) ∧ w'.cell? ⟨w1.heap.size, 4, none⟩ = some (.slice xa I.exports.length xc) ∧ w'.cell? ⟨w2.heap.size, 0, none⟩ = some (.string J.name) ∧ w'.cell? ⟨w2.heap.size, 1, none⟩ = some (.slice fb J.fields.length fd) ∧ w'.cell? ⟨w2.heap.size, 2, none⟩ = some (.slice ib J.imports.length id) ∧ w'.cell? ⟨w2.heap.size, 3, none⟩ = some (.slice mb J.methods.length md) ∧ w'.cell? ⟨w2.heap.size, 4, none⟩ = some (.slice xb J.exports.length xd)) w') := Lib.hid (fun w' h h' => ⟨cells_at h 0 _ rfl, cells_at h 1 _ rfl, cells_at h 2 _ rfl, cells_at h 3 _ rfl, cells_at h 4 _ rfl, cells_at h' 0 _ rfl, cells_at h' 1 _ rfl, cells_at h' 2 _ rfl, cells_at h' 3 _ rfl, cells_at h' 4 _ rfl⟩)
    clear HU HXA HXB HA HJ
    go_upto_region 5 with fail
    refine wp_region_last (S := fun w' => w'.cell? ⟨w1.heap.size, 0, none⟩ = some (.string I.name) ∧ w'.cell? ⟨w1.heap.size, 1, none⟩ = some (.slice fa I.fields.length fc) ∧ w'.cell? ⟨w1.heap.size, 2, none⟩ = some (.slice ia I.imports.length ic) ∧ w'.cell? ⟨w1.heap.size, 3, none⟩ = some (.slice ma I.methods.length mc) ∧ w'.cell? ⟨w1.heap.size, 4, none⟩ = some (.slice xa I.exports.length xc) ∧ w'.cell? ⟨w2.heap.size, 0, none⟩ = some (.string J.name) ∧ w'.cell? ⟨w2.heap.size, 1, none⟩ = some (.slice fb J.fields.length fd) ∧ w'.cell? ⟨w2.heap.size, 2, none⟩ = some (.slice ib J.imports.length id) ∧ w'.cell? ⟨w2.heap.size, 3, none⟩ = some (.slice mb J.methods.length md) ∧ w'.cell? ⟨w2.heap.size, 4, none⟩ = some (.slice xb J.exports.length xd)) 15 _ (by kernel_rfl) (by kernel_rfl) rfl ?_
    change wpHL _ _ _ _ _ _ _ _ _ _ (w2.alloc (.cells #[.string J.name, .slice fb J.fields.length fd, .slice ib J.imports.length id, .slice mb J.methods.length md, .slice xb J.exports.length xd] 27)).drew
    generalize (w2.alloc (.cells #[.string J.name, .slice fb J.fields.length fd, .slice ib J.imports.length id, .slice mb J.methods.length md, .slice xb J.exports.length xd] 27)).drew = u0 at HU0 HXA0 HXB0 HA0 HJ0 ⊢
    refine wpHL_1 (i := 0) rfl (by kernel_rfl) (by decide) (fun K HK0 => ?_)
    go_simp
    refine (known4 _).mono ?_
    rintro e u1 ⟨rfl, hu⟩
    have HU1 := Lib.hid (HU0.out.trans hu (fun _ h _ => h))
    have HXA1 := Lib.hid (stay_blk hu HXA0.out (fun h => h))
    have HXB1 := Lib.hid (stay_blk hu HXB0.out (fun h => h))
    have HA1 := Lib.hid (HA0.out.later (upd_below hu))
    have HJ1 := Lib.hid (HJ0.out.later (upd_below hu))
    clear hu
    refine HK0.out _ _ (HSS.out _ HXA1.out HXB1.out) ?_
    try simp only [Act.put, List.getElem_toArray, List.getElem_cons_succ, List.getElem_cons_zero, List.setIfInBounds_toArray, List.set_cons_zero, List.set_cons_succ]
    clear HK0
    have hHeld := HSS.out _ HXA1.out HXB1.out
    refine wpHL_take (i := 1) (v := ?_) rfl (by kernel_rfl) (fun _ _ _ h => h) hHeld (Or.inl ⟨by rfl, ?_⟩) ?_
    rotate_left
    · (intro w hSw; obtain ⟨y0, y1, y2, y3, y4, y5, y6, y7, y8, y9⟩ := hSw; go_simp; try with_reducible rfl)
    simp only [Act.put, List.getElem_toArray, List.getElem_cons_succ, List.getElem_cons_zero, List.setIfInBounds_toArray, List.set_cons_zero, List.set_cons_succ]
    refine wpHL_take (i := 2) (v := ?_) rfl (by kernel_rfl) (fun _ _ _ h => h) hHeld (Or.inl ⟨by rfl, ?_⟩) ?_
    rotate_left
    · (intro w hSw; obtain ⟨y0, y1, y2, y3, y4, y5, y6, y7, y8, y9⟩ := hSw; go_simp; try with_reducible rfl)
    simp only [Act.put, List.getElem_toArray, List.getElem_cons_succ, List.getElem_cons_zero, List.setIfInBounds_toArray, List.set_cons_zero, List.set_cons_succ]
    refine wpHL_take (i := 3) (v := ?_) rfl (by kernel_rfl) (fun _ _ _ h => h) hHeld (Or.inl ⟨by rfl, ?_⟩) ?_
    rotate_left
    · (intro w hSw; obtain ⟨y0, y1, y2, y3, y4, y5, y6, y7, y8, y9⟩ := hSw; go_simp; try with_reducible rfl)
    simp only [Act.put, List.getElem_toArray, List.getElem_cons_succ, List.getElem_cons_zero, List.setIfInBounds_toArray, List.set_cons_zero, List.set_cons_succ]
    refine wpHL_take (i := 5) (v := ?_) rfl (by kernel_rfl) (fun _ _ _ h => h) hHeld (Or.inl ⟨by rfl, ?_⟩) ?_
    rotate_left
    · (intro w hSw; obtain ⟨y0, y1, y2, y3, y4, y5, y6, y7, y8, y9⟩ := hSw; go_simp; try with_reducible rfl)
    simp only [Act.put, List.getElem_toArray, List.getElem_cons_succ, List.getElem_cons_zero, List.setIfInBounds_toArray, List.set_cons_zero, List.set_cons_succ]
    refine wpHL_take (i := 6) (v := ?_) rfl (by kernel_rfl) (fun _ _ _ h => h) hHeld (Or.inl ⟨by rfl, ?_⟩) ?_
    rotate_left
    · (intro w hSw; obtain ⟨y0, y1, y2, y3, y4, y5, y6, y7, y8, y9⟩ := hSw; go_simp; try with_reducible rfl)
    simp only [Act.put, List.getElem_toArray, List.getElem_cons_succ, List.getElem_cons_zero, List.setIfInBounds_toArray, List.set_cons_zero, List.set_cons_succ]
    clear hHeld
    refine wpHL_1 (i := 4) rfl (by kernel_rfl) (by decide) (fun K HK0 => ?_)
    go_simp
    refine (cImgSame _ _ _ I J HA1.out HJ1.out).mono ?_
    rintro e u2 ⟨r1, rfl, hr1, hu⟩
    have HU2 := Lib.hid (HU1.out.trans hu (fun _ h _ => h))
    have HXA2 := Lib.hid (stay_blk hu HXA1.out (fun h => h))
    have HXB2 := Lib.hid (stay_blk hu HXB1.out (fun h => h))
    have HA2 := Lib.hid (HA1.out.later (upd_below hu))
    have HJ2 := Lib.hid (HJ1.out.later (upd_below hu))
    clear hu
    refine HK0.out _ _ (HSS.out _ HXA2.out HXB2.out) ?_
    try simp only [Act.put, List.getElem_toArray, List.getElem_cons_succ, List.getElem_cons_zero, List.setIfInBounds_toArray, List.set_cons_zero, List.set_cons_succ]
    clear HK0
    have HR1 := Lib.hid hr1
    clear hr1
    refine wpHL_1 (i := 7) rfl (by kernel_rfl) (by decide) (fun K HK0 => ?_)
    go_simp
    refine (rSame _ _ _ I J HA2.out HJ2.out).mono ?_
    rintro e u3 ⟨r2, rfl, hr2, hu⟩
    have HU3 := Lib.hid (HU2.out.trans hu (fun _ h _ => h))
    have HXA3 := Lib.hid (stay_blk hu HXA2.out (fun h => h))
    have HXB3 := Lib.hid (stay_blk hu HXB2.out (fun h => h))
    have HA3 := Lib.hid (HA2.out.later (upd_below hu))
    have HJ3 := Lib.hid (HJ2.out.later (upd_below hu))
    clear hu
    refine HK0.out _ _ (HSS.out _ HXA3.out HXB3.out) ?_
    try simp only [Act.put, List.getElem_toArray, List.getElem_cons_succ, List.getElem_cons_zero, List.setIfInBounds_toArray, List.set_cons_zero, List.set_cons_succ]
    clear HK0
    have HR2 := Lib.hid hr2
    clear hr2
    obtain rfl := isEq HR1.out HR2.out
    have hbq := isB r2
    have hHeld := HSS.out _ HXA3.out HXB3.out
    refine wpHL_take (i := 8) (v := ?_) rfl (by kernel_rfl) (fun _ _ _ h => h) hHeld (Or.inl ⟨by rfl, ?_⟩) ?_
    rotate_left
    · (intro w hSw; obtain ⟨y0, y1, y2, y3, y4, y5, y6, y7, y8, y9⟩ := hSw; go_simp; try with_reducible rfl)
    simp only [Act.put, List.getElem_toArray, List.getElem_cons_succ, List.getElem_cons_zero, List.setIfInBounds_toArray, List.set_cons_zero, List.set_cons_succ]
    refine wpHL_take (i := 9) (v := ?_) rfl (by kernel_rfl) (fun _ _ _ h => h) hHeld (Or.inl ⟨by rfl, ?_⟩) ?_
    rotate_left
    · (intro w hSw; obtain ⟨y0, y1, y2, y3, y4, y5, y6, y7, y8, y9⟩ := hSw; go_simp; try with_reducible rfl)
    simp only [Act.put, List.getElem_toArray, List.getElem_cons_succ, List.getElem_cons_zero, List.setIfInBounds_toArray, List.set_cons_zero, List.set_cons_succ]
    refine wpHL_take (i := 10) (v := ?_) rfl (by kernel_rfl) (fun _ _ _ h => h) hHeld (Or.inl ⟨by rfl, ?_⟩) ?_
    rotate_left
    · (intro w hSw; obtain ⟨y0, y1, y2, y3, y4, y5, y6, y7, y8, y9⟩ := hSw; go_simp; try with_reducible rfl)
    simp only [Act.put, List.getElem_toArray, List.getElem_cons_succ, List.getElem_cons_zero, List.setIfInBounds_toArray, List.set_cons_zero, List.set_cons_succ]
    refine wpHL_take (i := 11) (v := ?_) rfl (by kernel_rfl) (fun _ _ _ h => h) hHeld (Or.inl ⟨by rfl, ?_⟩) ?_
    rotate_left
    · (intro w hSw; obtain ⟨y0, y1, y2, y3, y4, y5, y6, y7, y8, y9⟩ := hSw; go_simp; try with_reducible rfl)
    simp only [Act.put, List.getElem_toArray, List.getElem_cons_succ, List.getElem_cons_zero, List.setIfInBounds_toArray, List.set_cons_zero, List.set_cons_succ]
    refine wpHL_take (i := 12) (v := ?_) rfl (by kernel_rfl) (fun _ _ _ h => h) hHeld (Or.inl ⟨by rfl, ?_⟩) ?_
    rotate_left
    · (intro w hSw; obtain ⟨y0, y1, y2, y3, y4, y5, y6, y7, y8, y9⟩ := hSw; go_simp; try with_reducible rfl)
    simp only [Act.put, List.getElem_toArray, List.getElem_cons_succ, List.getElem_cons_zero, List.setIfInBounds_toArray, List.set_cons_zero, List.set_cons_succ]
    clear hHeld
    refine wpHL_1 (i := 13) rfl (by kernel_rfl) (by decide) (fun K HK0 => ?_)
    go_simp
    refine (cImgSame _ _ _ I I HA3.out HA3.out).mono ?_
    rintro e u4 ⟨r3, rfl, hr3, hu⟩
    have HU4 := Lib.hid (HU3.out.trans hu (fun _ h _ => h))
    have HXA4 := Lib.hid (stay_blk hu HXA3.out (fun h => h))
    have HXB4 := Lib.hid (stay_blk hu HXB3.out (fun h => h))
    have HA4 := Lib.hid (HA3.out.later (upd_below hu))
    have HJ4 := Lib.hid (HJ3.out.later (upd_below hu))
    clear hu
    refine HK0.out _ _ (HSS.out _ HXA4.out HXB4.out) ?_
    try simp only [Act.put, List.getElem_toArray, List.getElem_cons_succ, List.getElem_cons_zero, List.setIfInBounds_toArray, List.set_cons_zero, List.set_cons_succ]
    clear HK0
    obtain rfl : r3 = true := hr3.2 rfl
    clear hr3
    have hHeld := HSS.out _ HXA4.out HXB4.out
    refine wpHL_take (i := 14) (v := ?_) rfl (by kernel_rfl) (fun _ _ _ h => h) hHeld (Or.inl ⟨by rfl, ?_⟩) ?_
    rotate_left
    · (intro w hSw; obtain ⟨y0, y1, y2, y3, y4, y5, y6, y7, y8, y9⟩ := hSw; go_simp; try with_reducible rfl)
    simp only [Act.put, List.getElem_toArray, List.getElem_cons_succ, List.getElem_cons_zero, List.setIfInBounds_toArray, List.set_cons_zero, List.set_cons_succ]
    clear hHeld
    refine wpHL_last (by kernel_rfl) ?_
    go_wp2_with fail
    go_ret
    exact ⟨rfl, HU4.out⟩
  | true =>
    have HB2 : Hid (Bins ⟨w2.alloc (.cells #[.string J.name, .slice fb J.fields.length fd, .slice ib J.imports.length id, .slice mb J.methods.length md, .slice xb J.exports.length xd] 27), fun _ => False⟩) := Lib.hid ⟨fun h => h, fun k hk => (HU.out.cell (World.block_lt_of_cell? _ _ (HB.out.2 k hk)) (fun h => h)).trans (HB.out.2 k hk)⟩
    have HL2 := Lib.hid (HL.out.later (upd_below HU.out))
    go_wp2_with fail
    refine (isPick _ _).mono ?_
    rintro e _ ⟨k1, rfl, p1, p2, rfl⟩
    go_wp2_with fail
    refine (isPick _ _).mono ?_
    rintro e _ ⟨k2, rfl, q1, q2, rfl⟩
    go_wp2_with fail
    refine (hBent4 _ k _ L how k1 k2 HL2.out hL HB2.out HWH.out p1 p2 q1 q2).mono ?_
    rintro e w3 ⟨v3, G, rfl, hG, hu⟩
    obtain ⟨fg, fh, ig, ih, mg, mh, xg, xh, rfl, -⟩ := hG.parts
    replace HA := Lib.hid (HA.out.later (upd_below hu))
    replace HXA := Lib.hid (stay_blk hu HXA.out (fun h => h))
    replace HXB := Lib.hid (stay_blk hu HXB.out (fun h => h))
    replace HU := Lib.hid (HU.out.trans hu (fun _ h _ => h))
    skip
    have hu5 : Upd (fun j => j = w2.heap.size) w3 (((((w3.setCell ⟨w2.heap.size, 0, none⟩ (.string G.name)).setCell ⟨w2.heap.size, 1, none⟩ (.slice fg G.fields.length fh)).setCell ⟨w2.heap.size, 2, none⟩ (.slice ig G.imports.length ih)).setCell ⟨w2.heap.size, 3, none⟩ (.slice mg G.methods.length mh)).setCell ⟨w2.heap.size, 4, none⟩ (.slice xg G.exports.length xh)) := ((((setAt _ _ _ _).trans (setAt _ _ _ _) (fun _ h _ => h)).trans (setAt _ _ _ _) (fun _ h _ => h)).trans (setAt _ _ _ _) (fun _ h _ => h)).trans (setAt _ _ _ _) (fun _ h _ => h)
    have HNI := Lib.hid (noInt HXB.out)
    have HJ5 := Lib.hid (hG.off hu5 HNI.out)
    have HA5 := Lib.hid (HA.out.off hu5 HNI.out)
    have HXA5 := Lib.hid (stay_blk hu5 HXA.out (fun h => by have := HLT.out; omega))
    have HXB5 : Hid ((((((w3.setCell ⟨w2.heap.size, 0, none⟩ (.string G.name)).setCell ⟨w2.heap.size, 1, none⟩ (.slice fg G.fields.length fh)).setCell ⟨w2.heap.size, 2, none⟩ (.slice ig G.imports.length ih)).setCell ⟨w2.heap.size, 3, none⟩ (.slice mg G.methods.length mh)).setCell ⟨w2.heap.size, 4, none⟩ (.slice xg G.exports.length xh)).heap[w2.heap.size]? = some (.cells #[.string G.name, .slice fg G.fields.length fh, .slice ig G.imports.length ih, .slice mg G.methods.length mh, .slice xg G.exports.length xh] 27 (0, 0))) := Lib.hid (set_blk (set_blk (set_blk (set_blk (set_blk HXB.out)))))
    have HU5 := Lib.hid (HU.out.trans hu5 (fun j h hl => by have h1 := HWS.out; omega))
    have z0 := cells_at HXB.out 0 _ rfl
    have f0 := cells_fr HXB.out 0
    have z1 := cells_at HXB.out 1 _ rfl
    have f1 := cells_fr HXB.out 1
    have z2 := cells_at HXB.out 2 _ rfl
    have f2 := cells_fr HXB.out 2
    have z3 := cells_at HXB.out 3 _ rfl
    have f3 := cells_fr HXB.out 3
    have z4 := cells_at HXB.out 4 _ rfl
    have f4 := cells_fr HXB.out 4
    clear HA HJ HXA HXB HU hG hu hu5
    have HA := HA5
    have HJ := HJ5
    have HXA := HXA5
    have HXB := HXB5
    have HU := HU5
    clear HA5 HJ5 HXA5 HXB5 HU5 HB2 HL2 HL HB HWH HNI
    have HU0 := Lib.hid (HU.out.trans (Upd.drew (fun _ => False) ((((((w3.setCell ⟨w2.heap.size, 0, none⟩ (.string G.name)).setCell ⟨w2.heap.size, 1, none⟩ (.slice fg G.fields.length fh)).setCell ⟨w2.heap.size, 2, none⟩ (.slice ig G.imports.length ih)).setCell ⟨w2.heap.size, 3, none⟩ (.slice mg G.methods.length mh)).setCell ⟨w2.heap.size, 4, none⟩ (.slice xg G.exports.length xh)))) (fun _ h _ => h))
    have HXA0 : Hid (((((((w3.setCell ⟨w2.heap.size, 0, none⟩ (.string G.name)).setCell ⟨w2.heap.size, 1, none⟩ (.slice fg G.fields.length fh)).setCell ⟨w2.heap.size, 2, none⟩ (.slice ig G.imports.length ih)).setCell ⟨w2.heap.size, 3, none⟩ (.slice mg G.methods.length mh)).setCell ⟨w2.heap.size, 4, none⟩ (.slice xg G.exports.length xh))).drew.heap[w1.heap.size]? = some (.cells #[.string I.name, .slice fa I.fields.length fc, .slice ia I.imports.length ic, .slice ma I.methods.length mc, .slice xa I.exports.length xc] 27 (0, 0))) := Lib.hid HXA.out
    have HXB0 : Hid (((((((w3.setCell ⟨w2.heap.size, 0, none⟩ (.string G.name)).setCell ⟨w2.heap.size, 1, none⟩ (.slice fg G.fields.length fh)).setCell ⟨w2.heap.size, 2, none⟩ (.slice ig G.imports.length ih)).setCell ⟨w2.heap.size, 3, none⟩ (.slice mg G.methods.length mh)).setCell ⟨w2.heap.size, 4, none⟩ (.slice xg G.exports.length xh))).drew.heap[w2.heap.size]? = some (.cells #[.string G.name, .slice fg G.fields.length fh, .slice ig G.imports.length ih, .slice mg G.methods.length mh, .slice xg G.exports.length xh] 27 (0, 0))) := Lib.hid HXB.out
    have HA0 := Lib.hid (HA.out.later (upd_below (Upd.drew (fun _ => False) ((((((w3.setCell ⟨w2.heap.size, 0, none⟩ (.string G.name)).setCell ⟨w2.heap.size, 1, none⟩ (.slice fg G.fields.length fh)).setCell ⟨w2.heap.size, 2, none⟩ (.slice ig G.imports.length ih)).setCell ⟨w2.heap.size, 3, none⟩ (.slice mg G.methods.length mh)).setCell ⟨w2.heap.size, 4, none⟩ (.slice xg G.exports.length xh))))))
    have HJ0 := Lib.hid (HJ.out.later (upd_below (Upd.drew (fun _ => False) ((((((w3.setCell ⟨w2.heap.size, 0, none⟩ (.string G.name)).setCell ⟨w2.heap.size, 1, none⟩ (.slice fg G.fields.length fh)).setCell ⟨w2.heap.size, 2, none⟩ (.slice ig G.imports.length ih)).setCell ⟨w2.heap.size, 3, none⟩ (.slice mg G.methods.length mh)).setCell ⟨w2.heap.size, 4, none⟩ (.slice xg G.exports.length xh))))))
    have HSS : Hid (∀ w' : World, w'.heap[w1.heap.size]? = some (.cells #[.string I.name, .slice fa I.fields.length fc, .slice ia I.imports.length ic, .slice ma I.methods.length mc, .slice xa I.exports.length xc] 27 (0, 0)) → w'.heap[w2.heap.size]? = some (.cells #[.string G.name, .slice fg G.fields.length fh, .slice ig G.imports.length ih, .slice mg G.methods.length mh, .slice xg G.exports.length xh] 27 (0, 0)) → (fun w' => w'.cell? ⟨w1.heap.size, 0, none⟩ = some (.string I.name) ∧ w'.cell? ⟨w1.heap.size, 1, none⟩ = some (.slice fa I.fields.length fc) ∧ w'.cell? ⟨w1.heap.size, 2, none⟩ = some (.slice ia I.imports.length ic) ∧ w'.cell? ⟨w1.heap.size, 3, none⟩ = some (.slice ma I.methods.length mc) ∧ w'.cell? ⟨w1.heap.size, 4, none⟩ = some (.slice xa I.exports.length xc) ∧ w'.cell? ⟨w2.heap.size, 0, none⟩ = some (.string G.name) ∧ w'.cell? ⟨w2.heap.size, 1, none⟩ = some (.slice fg G.fields.length fh) ∧ w'.cell? ⟨w2.heap.size, 2, none⟩ = some (.slice ig G.imports.length ih) ∧ w'.cell? ⟨w2.heap.size, 3, none⟩ = some (.slice mg G.methods.length mh) ∧ w'.cell? ⟨w2.heap.size, 4, none⟩ = some (.slice xg G.exports.length xh)) w') := Lib.hid (fun w' h h' => ⟨cells_at h 0 _ rfl, cells_at h 1 _ rfl, cells_at h 2 _ rfl, cells_at h 3 _ rfl, cells_at h 4 _ rfl, cells_at h' 0 _ rfl, cells_at h' 1 _ rfl, cells_at h' 2 _ rfl, cells_at h' 3 _ rfl, cells_at h' 4 _ rfl⟩)
    clear HU HXA HXB HA HJ
    go_upto_region 5 with fail
    refine wp_region_last (S := fun w' => w'.cell? ⟨w1.heap.size, 0, none⟩ = some (.string I.name) ∧ w'.cell? ⟨w1.heap.size, 1, none⟩ = some (.slice fa I.fields.length fc) ∧ w'.cell? ⟨w1.heap.size, 2, none⟩ = some (.slice ia I.imports.length ic) ∧ w'.cell? ⟨w1.heap.size, 3, none⟩ = some (.slice ma I.methods.length mc) ∧ w'.cell? ⟨w1.heap.size, 4, none⟩ = some (.slice xa I.exports.length xc) ∧ w'.cell? ⟨w2.heap.size, 0, none⟩ = some (.string G.name) ∧ w'.cell? ⟨w2.heap.size, 1, none⟩ = some (.slice fg G.fields.length fh) ∧ w'.cell? ⟨w2.heap.size, 2, none⟩ = some (.slice ig G.imports.length ih) ∧ w'.cell? ⟨w2.heap.size, 3, none⟩ = some (.slice mg G.methods.length mh) ∧ w'.cell? ⟨w2.heap.size, 4, none⟩ = some (.slice xg G.exports.length xh)) 15 _ (by kernel_rfl) (by kernel_rfl) rfl ?_
    change wpHL _ _ _ _ _ _ _ _ _ _ ((((((w3.setCell ⟨w2.heap.size, 0, none⟩ (.string G.name)).setCell ⟨w2.heap.size, 1, none⟩ (.slice fg G.fields.length fh)).setCell ⟨w2.heap.size, 2, none⟩ (.slice ig G.imports.length ih)).setCell ⟨w2.heap.size, 3, none⟩ (.slice mg G.methods.length mh)).setCell ⟨w2.heap.size, 4, none⟩ (.slice xg G.exports.length xh))).drew
    generalize ((((((w3.setCell ⟨w2.heap.size, 0, none⟩ (.string G.name)).setCell ⟨w2.heap.size, 1, none⟩ (.slice fg G.fields.length fh)).setCell ⟨w2.heap.size, 2, none⟩ (.slice ig G.imports.length ih)).setCell ⟨w2.heap.size, 3, none⟩ (.slice mg G.methods.length mh)).setCell ⟨w2.heap.size, 4, none⟩ (.slice xg G.exports.length xh))).drew = u0 at HU0 HXA0 HXB0 HA0 HJ0 ⊢
    refine wpHL_1 (i := 0) rfl (by kernel_rfl) (by decide) (fun K HK0 => ?_)
    go_simp
    refine (known4 _).mono ?_
    rintro e u1 ⟨rfl, hu⟩
    have HU1 := Lib.hid (HU0.out.trans hu (fun _ h _ => h))
    have HXA1 := Lib.hid (stay_blk hu HXA0.out (fun h => h))
    have HXB1 := Lib.hid (stay_blk hu HXB0.out (fun h => h))
    have HA1 := Lib.hid (HA0.out.later (upd_below hu))
    have HJ1 := Lib.hid (HJ0.out.later (upd_below hu))
    clear hu
    refine HK0.out _ _ (HSS.out _ HXA1.out HXB1.out) ?_
    try simp only [Act.put, List.getElem_toArray, List.getElem_cons_succ, List.getElem_cons_zero, List.setIfInBounds_toArray, List.set_cons_zero, List.set_cons_succ]
    clear HK0
    have hHeld := HSS.out _ HXA1.out HXB1.out
    refine wpHL_take (i := 1) (v := ?_) rfl (by kernel_rfl) (fun _ _ _ h => h) hHeld (Or.inl ⟨by rfl, ?_⟩) ?_
    rotate_left
    · (intro w hSw; obtain ⟨y0, y1, y2, y3, y4, y5, y6, y7, y8, y9⟩ := hSw; go_simp; try with_reducible rfl)
    simp only [Act.put, List.getElem_toArray, List.getElem_cons_succ, List.getElem_cons_zero, List.setIfInBounds_toArray, List.set_cons_zero, List.set_cons_succ]
    refine wpHL_take (i := 2) (v := ?_) rfl (by kernel_rfl) (fun _ _ _ h => h) hHeld (Or.inl ⟨by rfl, ?_⟩) ?_
    rotate_left
    · (intro w hSw; obtain ⟨y0, y1, y2, y3, y4, y5, y6, y7, y8, y9⟩ := hSw; go_simp; try with_reducible rfl)
    simp only [Act.put, List.getElem_toArray, List.getElem_cons_succ, List.getElem_cons_zero, List.setIfInBounds_toArray, List.set_cons_zero, List.set_cons_succ]
    refine wpHL_take (i := 3) (v := ?_) rfl (by kernel_rfl) (fun _ _ _ h => h) hHeld (Or.inl ⟨by rfl, ?_⟩) ?_
    rotate_left
    · (intro w hSw; obtain ⟨y0, y1, y2, y3, y4, y5, y6, y7, y8, y9⟩ := hSw; go_simp; try with_reducible rfl)
    simp only [Act.put, List.getElem_toArray, List.getElem_cons_succ, List.getElem_cons_zero, List.setIfInBounds_toArray, List.set_cons_zero, List.set_cons_succ]
    refine wpHL_take (i := 5) (v := ?_) rfl (by kernel_rfl) (fun _ _ _ h => h) hHeld (Or.inl ⟨by rfl, ?_⟩) ?_
    rotate_left
    · (intro w hSw; obtain ⟨y0, y1, y2, y3, y4, y5, y6, y7, y8, y9⟩ := hSw; go_simp; try with_reducible rfl)
    simp only [Act.put, List.getElem_toArray, List.getElem_cons_succ, List.getElem_cons_zero, List.setIfInBounds_toArray, List.set_cons_zero, List.set_cons_succ]
    refine wpHL_take (i := 6) (v := ?_) rfl (by kernel_rfl) (fun _ _ _ h => h) hHeld (Or.inl ⟨by rfl, ?_⟩) ?_
    rotate_left
    · (intro w hSw; obtain ⟨y0, y1, y2, y3, y4, y5, y6, y7, y8, y9⟩ := hSw; go_simp; try with_reducible rfl)
    simp only [Act.put, List.getElem_toArray, List.getElem_cons_succ, List.getElem_cons_zero, List.setIfInBounds_toArray, List.set_cons_zero, List.set_cons_succ]
    clear hHeld
    refine wpHL_1 (i := 4) rfl (by kernel_rfl) (by decide) (fun K HK0 => ?_)
    go_simp
    refine (cImgSame _ _ _ I G HA1.out HJ1.out).mono ?_
    rintro e u2 ⟨r1, rfl, hr1, hu⟩
    have HU2 := Lib.hid (HU1.out.trans hu (fun _ h _ => h))
    have HXA2 := Lib.hid (stay_blk hu HXA1.out (fun h => h))
    have HXB2 := Lib.hid (stay_blk hu HXB1.out (fun h => h))
    have HA2 := Lib.hid (HA1.out.later (upd_below hu))
    have HJ2 := Lib.hid (HJ1.out.later (upd_below hu))
    clear hu
    refine HK0.out _ _ (HSS.out _ HXA2.out HXB2.out) ?_
    try simp only [Act.put, List.getElem_toArray, List.getElem_cons_succ, List.getElem_cons_zero, List.setIfInBounds_toArray, List.set_cons_zero, List.set_cons_succ]
    clear HK0
    have HR1 := Lib.hid hr1
    clear hr1
    refine wpHL_1 (i := 7) rfl (by kernel_rfl) (by decide) (fun K HK0 => ?_)
    go_simp
    refine (rSame _ _ _ I G HA2.out HJ2.out).mono ?_
    rintro e u3 ⟨r2, rfl, hr2, hu⟩
    have HU3 := Lib.hid (HU2.out.trans hu (fun _ h _ => h))
    have HXA3 := Lib.hid (stay_blk hu HXA2.out (fun h => h))
    have HXB3 := Lib.hid (stay_blk hu HXB2.out (fun h => h))
    have HA3 := Lib.hid (HA2.out.later (upd_below hu))
    have HJ3 := Lib.hid (HJ2.out.later (upd_below hu))
    clear hu
    refine HK0.out _ _ (HSS.out _ HXA3.out HXB3.out) ?_
    try simp only [Act.put, List.getElem_toArray, List.getElem_cons_succ, List.getElem_cons_zero, List.setIfInBounds_toArray, List.set_cons_zero, List.set_cons_succ]
    clear HK0
    have HR2 := Lib.hid hr2
    clear hr2
    obtain rfl := isEq HR1.out HR2.out
    have hbq := isB r2
    have hHeld := HSS.out _ HXA3.out HXB3.out
    refine wpHL_take (i := 8) (v := ?_) rfl (by kernel_rfl) (fun _ _ _ h => h) hHeld (Or.inl ⟨by rfl, ?_⟩) ?_
    rotate_left
    · (intro w hSw; obtain ⟨y0, y1, y2, y3, y4, y5, y6, y7, y8, y9⟩ := hSw; go_simp; try with_reducible rfl)
    simp only [Act.put, List.getElem_toArray, List.getElem_cons_succ, List.getElem_cons_zero, List.setIfInBounds_toArray, List.set_cons_zero, List.set_cons_succ]
    refine wpHL_take (i := 9) (v := ?_) rfl (by kernel_rfl) (fun _ _ _ h => h) hHeld (Or.inl ⟨by rfl, ?_⟩) ?_
    rotate_left
    · (intro w hSw; obtain ⟨y0, y1, y2, y3, y4, y5, y6, y7, y8, y9⟩ := hSw; go_simp; try with_reducible rfl)
    simp only [Act.put, List.getElem_toArray, List.getElem_cons_succ, List.getElem_cons_zero, List.setIfInBounds_toArray, List.set_cons_zero, List.set_cons_succ]
    refine wpHL_take (i := 10) (v := ?_) rfl (by kernel_rfl) (fun _ _ _ h => h) hHeld (Or.inl ⟨by rfl, ?_⟩) ?_
    rotate_left
    · (intro w hSw; obtain ⟨y0, y1, y2, y3, y4, y5, y6, y7, y8, y9⟩ := hSw; go_simp; try with_reducible rfl)
    simp only [Act.put, List.getElem_toArray, List.getElem_cons_succ, List.getElem_cons_zero, List.setIfInBounds_toArray, List.set_cons_zero, List.set_cons_succ]
    refine wpHL_take (i := 11) (v := ?_) rfl (by kernel_rfl) (fun _ _ _ h => h) hHeld (Or.inl ⟨by rfl, ?_⟩) ?_
    rotate_left
    · (intro w hSw; obtain ⟨y0, y1, y2, y3, y4, y5, y6, y7, y8, y9⟩ := hSw; go_simp; try with_reducible rfl)
    simp only [Act.put, List.getElem_toArray, List.getElem_cons_succ, List.getElem_cons_zero, List.setIfInBounds_toArray, List.set_cons_zero, List.set_cons_succ]
    refine wpHL_take (i := 12) (v := ?_) rfl (by kernel_rfl) (fun _ _ _ h => h) hHeld (Or.inl ⟨by rfl, ?_⟩) ?_
    rotate_left
    · (intro w hSw; obtain ⟨y0, y1, y2, y3, y4, y5, y6, y7, y8, y9⟩ := hSw; go_simp; try with_reducible rfl)
    simp only [Act.put, List.getElem_toArray, List.getElem_cons_succ, List.getElem_cons_zero, List.setIfInBounds_toArray, List.set_cons_zero, List.set_cons_succ]
    clear hHeld
    refine wpHL_1 (i := 13) rfl (by kernel_rfl) (by decide) (fun K HK0 => ?_)
    go_simp
    refine (cImgSame _ _ _ I I HA3.out HA3.out).mono ?_
    rintro e u4 ⟨r3, rfl, hr3, hu⟩
    have HU4 := Lib.hid (HU3.out.trans hu (fun _ h _ => h))
    have HXA4 := Lib.hid (stay_blk hu HXA3.out (fun h => h))
    have HXB4 := Lib.hid (stay_blk hu HXB3.out (fun h => h))
    have HA4 := Lib.hid (HA3.out.later (upd_below hu))
    have HJ4 := Lib.hid (HJ3.out.later (upd_below hu))
    clear hu
    refine HK0.out _ _ (HSS.out _ HXA4.out HXB4.out) ?_
    try simp only [Act.put, List.getElem_toArray, List.getElem_cons_succ, List.getElem_cons_zero, List.setIfInBounds_toArray, List.set_cons_zero, List.set_cons_succ]
    clear HK0
    obtain rfl : r3 = true := hr3.2 rfl
    clear hr3
    have hHeld := HSS.out _ HXA4.out HXB4.out
    refine wpHL_take (i := 14) (v := ?_) rfl (by kernel_rfl) (fun _ _ _ h => h) hHeld (Or.inl ⟨by rfl, ?_⟩) ?_
    rotate_left
    · (intro w hSw; obtain ⟨y0, y1, y2, y3, y4, y5, y6, y7, y8, y9⟩ := hSw; go_simp; try with_reducible rfl)
    simp only [Act.put, List.getElem_toArray, List.getElem_cons_succ, List.getElem_cons_zero, List.setIfInBounds_toArray, List.set_cons_zero, List.set_cons_succ]
    clear hHeld
    refine wpHL_last (by kernel_rfl) ?_
    go_wp2_with fail
    go_ret
    exact ⟨rfl, HU4.out⟩
end Go.Proofs.YtoemilimnpeddaaDoor

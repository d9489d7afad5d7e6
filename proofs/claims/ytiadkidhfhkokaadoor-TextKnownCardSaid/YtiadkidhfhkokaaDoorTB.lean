/- Package text: the law TextKnown, walked. -/
import Derived.Test.YtiadkidhfhkokaaDoorTA
namespace Go.Proofs.YtiadkidhfhkokaaDoor
open Go.RowKit Go.Shelf Go.Lib
set_option linter.unusedVariables false
set_option linter.unusedSimpArgs false

theorem img_open {w : World} {v : Value} {I : ImgM} (h : Img w v I) : ∃ fa fc ia ic ma mc xa xc, v = img5 I.name (.slice fa I.fields.length fc) (.slice ia I.imports.length ic) (.slice ma I.methods.length mc) (.slice xa I.exports.length xc) := by
  obtain ⟨f, i, m, x, rfl, hf, hi, hm, hx, -⟩ := h
  obtain ⟨fa, fc, rfl, -⟩ := ints_at hf (Upd.refl _ _)
  obtain ⟨xa, xc, rfl, -⟩ := ints_at hx (Upd.refl _ _)
  obtain ⟨p, ⟨ia, ic, rfl, -⟩, -⟩ := hi
  obtain ⟨p, q, r, ⟨ma, mc, rfl, -⟩, -⟩ := hm
  exact ⟨fa, fc, ia, ic, ma, mc, xa, xc, rfl⟩
set_option maxRecDepth 100000 in
theorem kb5_print : printT kb5I = ([97, 112, 112, 108, 101, 116, 32, 98, 195, 169, 116, 97, 10, 102, 105, 101, 108, 100, 32, 115, 101, 99, 10, 105, 109, 112, 111, 114, 116, 32, 97, 32, 49, 32, 110, 111, 110, 101, 32, 112, 117, 98, 32, 115, 101, 99, 97, 10, 109, 101, 116, 104, 111, 100, 32, 110, 111, 110, 101, 10, 108, 111, 99, 97, 108, 115, 32, 112, 117, 98, 97, 10, 32, 32, 114, 101, 116, 10, 101, 120, 112, 111, 114, 116, 32, 48, 10], 0) := by kernel_rfl
theorem z_print : printT zImg = ([], 1) := by kernel_rfl
theorem kb5_out {w : World} {v : Value} (hI : Img w v kb5I) {B : Nat} (ht : Tb B w) (hB : B ≤ w.heap.size) : Calls Tryd.prog 9 #[v] w fun e w' => e = .returned (.tuple #[.string { data := #[97, 112, 112, 108, 101, 116, 32, 98, 195, 169, 116, 97, 10, 102, 105, 101, 108, 100, 32, 115, 101, 99, 10, 105, 109, 112, 111, 114, 116, 32, 97, 32, 49, 32, 110, 111, 110, 101, 32, 112, 117, 98, 32, 115, 101, 99, 97, 10, 109, 101, 116, 104, 111, 100, 32, 110, 111, 110, 101, 10, 108, 111, 99, 97, 108, 115, 32, 112, 117, 98, 97, 10, 32, 32, 114, 101, 116, 10, 101, 120, 112, 111, 114, 116, 32, 48, 10] }, .int .i64 0]) ∧ Upd (fun _ => False) w w' := by
  have h := tPrint hI ht hB
  rw [kb5_print] at h
  exact h
theorem z_out {w : World} {v : Value} (hI : Img w v zImg) {B : Nat} (ht : Tb B w) (hB : B ≤ w.heap.size) : Calls Tryd.prog 9 #[v] w fun e w' => e = .returned (.tuple #[.string { data := #[] }, .int .i64 1]) ∧ Upd (fun _ => False) w w' := by
  have h := tPrint hI ht hB
  rw [z_print] at h
  exact h
theorem kn4_call (w : World) : Calls Tryd.prog 11 #[.int .i64 4] w fun e w' => e = .returned (.string { data := #[115, 101, 99, 97] }) ∧ w = w' := tKindName 4 (by omega) w
theorem kn5_no (w : World) : Calls Tryd.prog 11 #[.int .i64 5] w fun e w' => e = .returned (.string { data := #[] }) ∧ w = w' := tKindName_no 5 (by omega) w
theorem kpub_call (w : World) : Calls Tryd.prog 12 #[.string { data := #[112, 117, 98] }] w fun e w' => e = .returned (.int .i64 1) ∧ w = w' := by
  have h := tKind [112, 117, 98] w
  rw [show kindP [112, 117, 98] = 1 by decide] at h
  exact h
theorem kx_call (w : World) : Calls Tryd.prog 12 #[.string { data := #[120] }] w fun e w' => e = .returned (.int .i64 (-1)) ∧ w = w' := by
  have h := tKind [120] w
  rw [show kindP [120] = -1 by decide] at h
  exact h
set_option maxRecDepth 100000 in
set_option maxHeartbeats 4000000 in
theorem textKnown_walk (w : World) (ht : Tb w.heap.size w) : Calls Tryd.prog 3 #[] w fun e w' => e = .returned (.bool true) ∧ Upd (fun _ => False) w w' := by
  have HT := Lib.hid ht
  clear ht
  go_enter Tryd.func3, Tryd.ntmps3
  go_wp2_with fail
  refine (kb5_call w).mono ?_
  rintro e w1 ⟨v, rfl, hI, hu⟩
  obtain ⟨fa, fc, ia, ic, ma, mc, xa, xc, rfl⟩ := img_open hI
  obtain ⟨w2, hw2⟩ : ∃ w2, w2 = w1.alloc (.cells #[.string kb5I.name, .slice fa kb5I.fields.length fc, .slice ia kb5I.imports.length ic, .slice ma kb5I.methods.length mc, .slice xa kb5I.exports.length xc] IMG) := ⟨_, rfl⟩
  have hu2 : Upd (fun _ => False) w1 w2 := by rw [hw2]; exact Upd.alloc (fun _ => False) _ _
  have HU2 := Lib.hid (hu.trans hu2 (fun _ h _ => h))
  have HI2 := Lib.hid (hI.later (upd_below hu2))
  have HW2 := Lib.hid hw2
  clear hI hu hu2 hw2
  go_wp2_with fail
  rw [← HW2.out]
  refine (kb5_out HI2.out (HT.out.kept (upd_below HU2.out)) HU2.out.size).mono ?_
  rintro e w3 ⟨rfl, hu⟩
  have HV0 := Lib.hid (HU2.out.trans hu (fun _ h _ => h))
  clear hu
  obtain ⟨y0, hy0⟩ : ∃ y0, y0 = w3 := ⟨_, rfl⟩
  subst hy0
  go_wp2_with fail
  refine (kf5_call y0).mono ?_
  rintro e z0 ⟨v, rfl, hI, hu⟩
  obtain ⟨f0, g0, i0, j0, m0, o0, p0, q0, rfl⟩ := img_open hI
  obtain ⟨y1, hy1⟩ : ∃ y1, y1 = z0.alloc (.cells #[.string zImg.name, .slice f0 zImg.fields.length g0, .slice i0 zImg.imports.length j0, .slice m0 zImg.methods.length o0, .slice p0 zImg.exports.length q0] IMG) := ⟨_, rfl⟩
  have hu2 : Upd (fun _ => False) z0 y1 := by rw [hy1]; exact Upd.alloc (fun _ => False) _ _
  have HV1 := Lib.hid (HV0.out.trans (hu.trans hu2 (fun _ h _ => h)) (fun _ h _ => h))
  have HY1 := Lib.hid hy1
  clear hI hu hu2 hy1
  go_wp2_with fail
  rw [← HY1.out]
  refine (kr5_call y1).mono ?_
  rintro e z1 ⟨v, rfl, hI, hu⟩
  obtain ⟨f1, g1, i1, j1, m1, o1, p1, q1, rfl⟩ := img_open hI
  obtain ⟨y2, hy2⟩ : ∃ y2, y2 = z1.alloc (.cells #[.string zImg.name, .slice f1 zImg.fields.length g1, .slice i1 zImg.imports.length j1, .slice m1 zImg.methods.length o1, .slice p1 zImg.exports.length q1] IMG) := ⟨_, rfl⟩
  have hu2 : Upd (fun _ => False) z1 y2 := by rw [hy2]; exact Upd.alloc (fun _ => False) _ _
  have HV2 := Lib.hid (HV1.out.trans (hu.trans hu2 (fun _ h _ => h)) (fun _ h _ => h))
  have HY2 := Lib.hid hy2
  clear hI hu hu2 hy2
  go_wp2_with fail
  rw [← HY2.out]
  refine (ka5_call y2).mono ?_
  rintro e z2 ⟨v, rfl, hI, hu⟩
  obtain ⟨f2, g2, i2, j2, m2, o2, p2, q2, rfl⟩ := img_open hI
  obtain ⟨y3, hy3⟩ : ∃ y3, y3 = z2.alloc (.cells #[.string zImg.name, .slice f2 zImg.fields.length g2, .slice i2 zImg.imports.length j2, .slice m2 zImg.methods.length o2, .slice p2 zImg.exports.length q2] IMG) := ⟨_, rfl⟩
  have hu2 : Upd (fun _ => False) z2 y3 := by rw [hy3]; exact Upd.alloc (fun _ => False) _ _
  have HV3 := Lib.hid (HV2.out.trans (hu.trans hu2 (fun _ h _ => h)) (fun _ h _ => h))
  have HY3 := Lib.hid hy3
  clear hI hu hu2 hy3
  go_wp2_with fail
  rw [← HY3.out]
  refine (ke5_call y3).mono ?_
  rintro e z3 ⟨v, rfl, hI, hu⟩
  obtain ⟨f3, g3, i3, j3, m3, o3, p3, q3, rfl⟩ := img_open hI
  obtain ⟨y4, hy4⟩ : ∃ y4, y4 = z3.alloc (.cells #[.string zImg.name, .slice f3 zImg.fields.length g3, .slice i3 zImg.imports.length j3, .slice m3 zImg.methods.length o3, .slice p3 zImg.exports.length q3] IMG) := ⟨_, rfl⟩
  have hu2 : Upd (fun _ => False) z3 y4 := by rw [hy4]; exact Upd.alloc (fun _ => False) _ _
  have HV4 := Lib.hid (HV3.out.trans (hu.trans hu2 (fun _ h _ => h)) (fun _ h _ => h))
  have HY4 := Lib.hid hy4
  clear hI hu hu2 hy4
  go_wp2_with fail
  rw [← HY4.out]
  refine (z_out (img_zero y4) (HT.out.kept (upd_below HV4.out)) HV4.out.size).mono ?_
  rintro e w5 ⟨rfl, hu⟩
  have HV5 := Lib.hid (HV4.out.trans hu (fun _ h _ => h))
  clear hu
  go_wp2_with fail
  refine (known5 w5).mono ?_
  rintro e w6 ⟨rfl, hu⟩
  have HV6 := Lib.hid (HV5.out.trans hu (fun _ h _ => h))
  clear hu
  go_wp2_with fail
  refine (kn4_call w6).mono ?_
  rintro e w7 ⟨rfl, rfl⟩
  go_wp2_with fail
  refine (kpub_call w6).mono ?_
  rintro e w7 ⟨rfl, rfl⟩
  go_wp2_with fail
  refine (kx_call w6).mono ?_
  rintro e w7 ⟨rfl, rfl⟩
  go_wp2_with fail
  refine (kn5_no w6).mono ?_
  rintro e w7 ⟨rfl, rfl⟩
  go_wp2_with fail
  go_ret
  exact ⟨rfl, HV6.out⟩
end Go.Proofs.YtiadkidhfhkokaaDoor

/- ImageKnown: chapter 4's example, and more: the walk. -/
import Derived.Test.YtndidnmnaekjhaaIk
namespace Go.Proofs.Ytndidnmnaekjhaa
open Go.RowKit Go.Lib
set_option linter.unusedVariables false

theorem read_at (w : World) (x : Value) (ys : List Int) (E : Int) (h : Vw w x ys) (hr : readP ys = (E, imgN)) :
    Calls Try.prog 4 #[x] w fun e w' => ∃ fa ia ma xa fc ic mc xc, e = .returned (.tuple #[img5 { data := #[] } (.slice fa 0 fc) (.slice ia 0 ic) (.slice ma 0 mc) (.slice xa 0 xc), .int .i64 E]) ∧ Upd (fun _ => False) w w' := by
  refine (cImgRead w x ys h).mono ?_
  rw [hr]
  rintro e w' ⟨r, rfl, ⟨f, i, m, y, hr', hf, hi, hm, hy, -⟩, hu⟩
  obtain ⟨fa, fc, rfl, -, -⟩ := hf.slice
  obtain ⟨ia, ic, rfl, -, -⟩ := hi.slice
  obtain ⟨ma, mc, rfl, -, -⟩ := hm.slice
  obtain ⟨xa, xc, rfl, -, -⟩ := hy.slice
  rw [hr']
  exact ⟨fa, ia, ma, xa, fc, ic, mc, xc, rfl, hu⟩
theorem read1 : readP [84, 65, 67, 73] = (7, imgN) := by kernel_rfl
theorem read2 : readP [84, 65, 67, 73, 2] = (5, imgN) := by kernel_rfl
theorem read3 : readP (List.replicate 8193 0) = (6, imgN) := by
  unfold readP
  rw [if_pos (show 8192 < (List.replicate 8193 (0 : Int)).length by rw [List.length_replicate]; omega)]
theorem read4 : readP (smallL ++ [0]) = (5, imgN) := by kernel_rfl
theorem read5 : readP [] = (7, imgN) := by kernel_rfl
theorem none_right : imgB insB imgN = false := by kernel_rfl
theorem name1 : nmB { data := #[98, 195, 169, 116, 97, 46, 49] } = true := by kernel_rfl
theorem name2 : nmB { data := #[] } = false := by kernel_rfl
theorem name3 : nmB { data := #[65] } = false := by kernel_rfl
theorem name4 : nmB { data := #[255] } = false := by kernel_rfl
theorem name5 : nmB { data := #[97, 196, 128] } = false := by kernel_rfl
theorem name_at (s : ByteArray) (b : Bool) (w : World) (hs : s.size ≤ maxLen) (hb : nmB s = b) : Calls Try.prog 8 #[.string s] w fun e w' => e = .returned (.bool b) ∧ Upd (fun _ => False) w w' := hb ▸ cIsName s w hs

set_option maxRecDepth 100000 in
set_option maxHeartbeats 8000000 in
theorem imageKnown_walk (W : World) : Calls Try.prog 3 #[] W fun e w' => e = .returned (.bool true) ∧ Below W.heap.size W w' := by
  obtain ⟨i0, hi, hz0, hz1, hz2⟩ := info_parts info5
  have kc := Lib.run_convert_bytes_const (P := Try.prog) W 30 5 #[.int .u8 84, .int .u8 65, .int .u8 67, .int .u8 73] 4 4 Try.underlying30 Try.underlying5
  have HV1 := Lib.hid (vw_lit W 5 (4, 5) [84, 65, 67, 73] #[.int .u8 84, .int .u8 65, .int .u8 67, .int .u8 73] 4 4 rfl rfl (Nat.le_refl _) (by unfold maxLen; omega) (by decide))
  have HU1 := Lib.hid (Upd.alloc (fun _ => False) W (.cells #[.int .u8 84, .int .u8 65, .int .u8 67, .int .u8 73] 5 (4, 5)))
  go_enter Try.func3, Try.ntmps3
  go_wp2_with fail
  refine (read_at _ _ _ 7 HV1.out read1).mono ?_
  rintro e w1 ⟨fa, ia, ma, xa, fc, ic, mc, xc, rfl, hu⟩
  have HU2 := Lib.hid ((HU1.out.trans hu (fun _ h _ => h)).trans (Upd.alloc (fun _ => False) w1 (.cells #[.string { data := #[] }, .slice fa 0 fc, .slice ia 0 ic, .slice ma 0 mc, .slice xa 0 xc] 26)) (fun _ h _ => h))
  clear hu kc
  have kc := Lib.run_convert_bytes_const (P := Try.prog) (w1.alloc (.cells #[.string { data := #[] }, .slice fa 0 fc, .slice ia 0 ic, .slice ma 0 mc, .slice xa 0 xc] 26)) 30 5 #[.int .u8 84, .int .u8 65, .int .u8 67, .int .u8 73, .int .u8 2] 5 5 Try.underlying30 Try.underlying5
  rw [show (w1.alloc (.cells #[.string { data := #[] }, .slice fa 0 fc, .slice ia 0 ic, .slice ma 0 mc, .slice xa 0 xc] 26)).heap.size = w1.heap.size + 1 by simp] at kc
  have hv := vw_lit (w1.alloc (.cells #[.string { data := #[] }, .slice fa 0 fc, .slice ia 0 ic, .slice ma 0 mc, .slice xa 0 xc] 26)) 5 (5, 6) [84, 65, 67, 73, 2] #[.int .u8 84, .int .u8 65, .int .u8 67, .int .u8 73, .int .u8 2] 5 5 rfl rfl (Nat.le_refl _) (by unfold maxLen; omega) (by decide)
  rw [show (w1.alloc (.cells #[.string { data := #[] }, .slice fa 0 fc, .slice ia 0 ic, .slice ma 0 mc, .slice xa 0 xc] 26)).heap.size = w1.heap.size + 1 by simp] at hv
  have HV2 := Lib.hid hv
  have HU3 := Lib.hid (HU2.out.trans (Upd.alloc (fun _ => False) _ (.cells #[.int .u8 84, .int .u8 65, .int .u8 67, .int .u8 73, .int .u8 2] 5 (5, 6))) (fun _ h _ => h))
  clear hv
  go_wp2_with fail
  refine (read_at _ _ _ 5 HV2.out read2).mono ?_
  rintro e w2 ⟨ga, ja, na, ya, gc, jc, nc, yc, rfl, hu⟩
  have HU4 := Lib.hid ((HU3.out.trans hu (fun _ h _ => h)).trans (Upd.alloc (fun _ => False) w2 (.cells #[.string { data := #[] }, .slice ga 0 gc, .slice ja 0 jc, .slice na 0 nc, .slice ya 0 yc] 26)) (fun _ h _ => h))
  have hz := run_zeros (w2.alloc (.cells #[.string { data := #[] }, .slice ga 0 gc, .slice ja 0 jc, .slice na 0 nc, .slice ya 0 yc] 26)) 8193 8193 rfl (by omega)
  have hv := vw_zeros (w2.alloc (.cells #[.string { data := #[] }, .slice ga 0 gc, .slice ja 0 jc, .slice na 0 nc, .slice ya 0 yc] 26)) 8193 (by omega)
  rw [show (w2.alloc (.cells #[.string { data := #[] }, .slice ga 0 gc, .slice ja 0 jc, .slice na 0 nc, .slice ya 0 yc] 26)).heap.size = w2.heap.size + 1 by simp] at hz hv
  have HV3 := Lib.hid hv
  have HU5 := Lib.hid (HU4.out.trans (Upd.alloc (fun _ => False) _ (.cells (zerosA 8193) 5)) (fun _ h _ => h))
  clear hu kc hv
  go_wp2_with fail
  refine (read_at _ _ _ 6 HV3.out read3).mono ?_
  rintro e w3 ⟨fa3, ia3, ma3, xa3, fc3, ic3, mc3, xc3, rfl, hu⟩
  have HU6 := Lib.hid ((HU5.out.trans hu (fun _ h _ => h)).trans (Upd.alloc (fun _ => False) w3 (.cells #[.string { data := #[] }, .slice fa3 0 fc3, .slice ia3 0 ic3, .slice ma3 0 mc3, .slice xa3 0 xc3] 26)) (fun _ h _ => h))
  clear hu hz
  go_wp2_with fail
  refine (cImgLay_no _ _ imgN (img0_is _) none_right).mono ?_
  rintro e w4 ⟨rfl, hu⟩
  have HU7 := Lib.hid (HU6.out.trans hu (fun _ h _ => h))
  clear hu
  go_wp2_with fail
  refine (cSmall _).mono ?_
  rintro e w5 ⟨fa5, ia5, ma5, xa5, fc5, ic5, mc5, xc5, rfl, hI, hu⟩
  have HI := Lib.hid hI
  have HU8 := Lib.hid (HU7.out.trans hu (fun _ h _ => h))
  clear hI hu
  go_wp2_with fail
  refine (cImgLay _ _ smallM HI.out small_right).mono ?_
  rw [small_lay]
  rintro e w6 ⟨x, rfl, hN⟩
  obtain ⟨a6, c6, rfl⟩ : ∃ a c, x = .slice a 20 c := by obtain ⟨a, c, h⟩ := ownsRow_slice hN.1; exact ⟨a, c, h⟩
  have HO6 : Hid (w6.ownsRow 0 5 1 (.slice a6 20 c6) 20 (bv smallL)) := Lib.hid hN.1
  have HF6 := Lib.hid hN.2.2
  have HU9 := Lib.hid (HU8.out.trans hN.2.1 (fun _ h _ => h))
  have hs8 := HU8.out.size
  clear hN
  go_wp2_with (at_builtin; go_loud (refine wpList_append_mine _ rfl _ _ 30 rfl 0 5 i0 (.int .u8 0) 1 1 Try.underlying30 hi hz0 hz1 hz2 rfl (by decide) (.slice a6 20 c6) 20 (bv smallL) rfl (HO6.out.alloc _) 1 [.int .u8 0] (Src.lit w6 5 #[.int .u8 0] (by simp [Value.oneCell']) 1 _ rfl) (by unfold maxLen; omega) (by omega) (Nat.zero_le _) ?_))
  intro v7 w7 ho hg hf
  obtain ⟨a7, c7, rfl⟩ := ownsRow_slice ho
  have HV7 : Hid (Vw w7 (.slice a7 (20 + 1) c7) (smallL ++ [0])) := Lib.hid (vw_of_row (by rw [bv_append]; exact ho) (by decide))
  have HU10 : Hid (Upd (fun _ => False) W w7) := Lib.hid (upd_new ((HU9.out.mono (T := fun k => W.heap.size ≤ k) (fun _ h _ => h.elim)).trans ((Upd.row (Upd.alloc _ w6 _) hg).mono (T := fun k => W.heap.size ≤ k) (fun k hk _ => by have := HF6.out k hk; omega)) (fun _ h _ => h)))
  clear ho hg hf hs8
  go_wp2_with fail
  refine (read_at _ _ _ 5 HV7.out read4).mono ?_
  rintro e w8 ⟨fa8, ia8, ma8, xa8, fc8, ic8, mc8, xc8, rfl, hu⟩
  have HU11 := Lib.hid ((HU10.out.trans hu (fun _ h _ => h)).trans (Upd.alloc (fun _ => False) w8 (.cells #[.string { data := #[] }, .slice fa8 0 fc8, .slice ia8 0 ic8, .slice ma8 0 mc8, .slice xa8 0 xc8] 26)) (fun _ h _ => h))
  clear hu
  go_wp2_with fail
  refine (read_at _ _ _ 7 (Vw.nil _) read5).mono ?_
  rintro e w9 ⟨fa9, ia9, ma9, xa9, fc9, ic9, mc9, xc9, rfl, hu⟩
  have HU12 := Lib.hid ((HU11.out.trans hu (fun _ h _ => h)).trans (Upd.alloc (fun _ => False) w9 (.cells #[.string { data := #[] }, .slice fa9 0 fc9, .slice ia9 0 ic9, .slice ma9 0 mc9, .slice xa9 0 xc9] 26)) (fun _ h _ => h))
  clear hu
  go_wp2_with fail
  refine (known4 _).mono ?_
  rintro e u1 ⟨rfl, hu⟩
  have HU13 := Lib.hid (HU12.out.trans hu (fun _ h _ => h))
  clear hu
  go_wp2_with fail
  refine (name_at _ _ _ (by decide) name1).mono ?_
  rintro e u2 ⟨rfl, hu⟩
  have HU14 := Lib.hid (HU13.out.trans hu (fun _ h _ => h))
  clear hu
  go_wp2_with fail
  refine (name_at _ _ _ (by decide) name2).mono ?_
  rintro e u3 ⟨rfl, hu⟩
  have HU15 := Lib.hid (HU14.out.trans hu (fun _ h _ => h))
  clear hu
  go_wp2_with fail
  refine (name_at _ _ _ (by decide) name3).mono ?_
  rintro e u4 ⟨rfl, hu⟩
  have HU16 := Lib.hid (HU15.out.trans hu (fun _ h _ => h))
  clear hu
  go_wp2_with fail
  refine (name_at _ _ _ (by decide) name4).mono ?_
  rintro e u5 ⟨rfl, hu⟩
  have HU17 := Lib.hid (HU16.out.trans hu (fun _ h _ => h))
  clear hu
  go_wp2_with fail
  refine (name_at _ _ _ (by decide) name5).mono ?_
  rintro e u6 ⟨rfl, hu⟩
  have HU18 := Lib.hid (HU17.out.trans hu (fun _ h _ => h))
  clear hu
  go_wp2_with fail
  refine (cSmall _).mono ?_
  rintro e u7 ⟨ga7, ja7, na7, ya7, gc7, jc7, nc7, yc7, rfl, hI, hu⟩
  have HI7 := Lib.hid hI
  have HU19 := Lib.hid (HU18.out.trans hu (fun _ h _ => h))
  clear hI hu
  go_wp2_with fail
  refine (cImgRight _ _ smallM HI7.out).mono ?_
  rw [small_right]
  rintro e u8 ⟨rfl, hu⟩
  have HU20 := Lib.hid (HU19.out.trans hu (fun _ h _ => h))
  clear hu
  go_wp2_with fail
  refine (cImgRight _ _ imgN (img0_is _)).mono ?_
  rw [none_right]
  rintro e u9 ⟨rfl, hu⟩
  have HU21 := Lib.hid (HU20.out.trans hu (fun _ h _ => h))
  clear hu
  go_wp2_with fail
  go_ret
  exact ⟨rfl, upd_below HU21.out⟩
end Go.Proofs.Ytndidnmnaekjhaa

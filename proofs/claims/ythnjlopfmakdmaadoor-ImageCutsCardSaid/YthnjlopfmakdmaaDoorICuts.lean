/- The law ImageCuts of stage 4, walked. -/
import Derived.Test.YthnjlopfmakdmaaDoorIbj
import Derived.Test.YthnjlopfmakdmaaDoorMu
import Derived.Test.YthnjlopfmakdmaaDoorIk
import Derived.Test.YthnjlopfmakdmaaDoorIl
namespace Go.Proofs.YthnjlopfmakdmaaDoor
open Go.RowKit Go.Lib
set_option linter.unusedVariables false

theorem Vw.taken {w : World} {a : Option Addr} {n c : Nat} {ys : List Int} (h : Vw w (.slice a n c) ys) {q : Nat} (hq : q < ys.length) : Vw w (.slice a q c) (ys.take q) := by
  refine ⟨fun y hy => h.1 y (List.mem_of_mem_take hy), ?_⟩
  rcases h.2 with ⟨_, rfl⟩ | ⟨g, off, c', he, h1, h2, h3⟩
  · simp at hq
  · simp at he
    obtain ⟨rfl, rfl, rfl⟩ := he
    have hl : (ys.take q).length = q := by simp; omega
    refine .inr ⟨g, off, c, by rw [hl], by rw [hl]; omega, h2, fun j hj => ?_⟩
    rw [hl] at hj
    rw [h3 j (by omega)]
    simp [List.getD, hj]
/-- an image's five values, its slices shown -/
theorem Img.open {w : World} {v : Value} {I : ImgM} (h : Img w v I) : ∃ fa fc ia ic ma mc xa xc, v = img5 I.name (.slice fa I.fields.length fc) (.slice ia I.imports.length ic) (.slice ma I.methods.length mc) (.slice xa I.exports.length xc) := by
  obtain ⟨f, i, m, x, rfl, hf, hi, hm, hx, -⟩ := h
  obtain ⟨fa, fc, rfl, -, -⟩ := hf.slice
  obtain ⟨ia, ic, rfl, -, -⟩ := hi.slice
  obtain ⟨ma, mc, rfl, -, -⟩ := hm.slice
  obtain ⟨xa, xc, rfl, -, -⟩ := hx.slice
  exact ⟨fa, fc, ia, ic, ma, mc, xa, xc, rfl⟩

set_option maxRecDepth 100000 in
set_option maxHeartbeats 8000000 in
theorem imageCuts_walk (W : World) (k at' more : Int) (lv : Value) (L : List RawR) (hl : RawsAt W lv L) (hL : L.length ≤ 4398046511104) (hB : Bins ⟨W, fun _ => False⟩) (hm : 0 ≤ more ∧ more ≤ 255) :
    Calls Tryd.prog 5 #[.int .i64 k, lv, .int .i64 at', .int .u8 more] W fun e w' => e = .returned (.bool true) ∧ Upd (fun _ => False) W w' := by
  obtain ⟨i0, hi, hz0, hz1, hz2⟩ := info_parts info5
  obtain ⟨la, lc, rfl⟩ := hl.slice
  have HL := Lib.hid hl
  have HB := Lib.hid hB
  have HMO := Lib.hid hm
  clear hl hB hm
  go_enter Tryd.func5, Tryd.ntmps5
  go_wp2_with fail
  refine (hApplet W k _ L HL.out hL HB.out).mono ?_
  rintro e w1 ⟨v, I, rfl, hI, -, -, hu⟩
  obtain ⟨fa, fc, ia, ic, ma, mc, xa, xc, rfl⟩ := hI.open
  have HI := Lib.hid hI
  have HU := Lib.hid hu
  clear hI hu
  cases hr : imgB insB I with
  | false =>
    have HR := Lib.hid hr
    clear hr
    go_wp2_with fail
    refine (cImgLay_no w1 _ I HI.out HR.out).mono ?_
    rintro e w2 ⟨rfl, hu⟩
    replace HU := Lib.hid (HU.out.trans hu (fun _ h _ => h))
    clear hu
    go_wp2_with fail
    refine (known4 w2).mono ?_
    rintro e w3 ⟨rfl, hu⟩
    replace HU := Lib.hid (HU.out.trans hu (fun _ h _ => h))
    clear hu
    go_wp2_with fail
    refine (known4 w3).mono ?_
    rintro e w4 ⟨rfl, hu⟩
    replace HU := Lib.hid (HU.out.trans hu (fun _ h _ => h))
    clear hu
    go_wp2_with fail
    go_ret
    exact ⟨rfl, HU.out⟩
  | true =>
    have HR := Lib.hid hr
    have HLEN := Lib.hid (img_len2 (img_fit hr))
    clear hr
    go_wp2_with fail
    refine (cImgLay w1 _ I HI.out HR.out).mono ?_
    rintro e w2 ⟨x, rfl, hN⟩
    have hlen0 : 0 < (imgL I).length := by simp [imgL, markL]
    have hlen1 : (imgL I).length ≤ 8100 := HLEN.out
    obtain ⟨xa2, xc2, rfl⟩ := ownsRow_slice hN.1
    have HBY : Hid (Byts (imgL I)) := Lib.hid (imgL_byts HR.out)
    have HV := Lib.hid (hN.vw HBY.out)
    have HO := Lib.hid hN.1
    replace HU := Lib.hid (HU.out.trans hN.2.1 (fun _ h _ => h))
    clear hN
    obtain ⟨ys, hys⟩ : ∃ ys, ys = imgL I := ⟨_, rfl⟩
    rw [← hys] at hlen0 hlen1 HV HO HBY ⊢
    have HY := Lib.hid hys
    clear hys
    have hb0 : ((ys.length : Int) == 0) = false := beq_eq_false_iff_ne.2 (by omega)
    go_wp2_with fail
    refine (known4 w2).mono ?_
    rintro e w3 ⟨rfl, hu⟩
    replace HU := Lib.hid (HU.out.trans hu (fun _ h _ => h))
    have HV3 := Lib.hid (HV.out.upd hu (fun _ _ h => h))
    have HU23 := Lib.hid hu
    clear hu
    go_wp2_with fail
    refine (hPick at' ys.length w3 (by omega) (by omega)).mono ?_
    rintro e _ ⟨rfl, rfl⟩
    have hq0 := Int.emod_nonneg at' (b := (ys.length : Int)) (by omega)
    have hq1 := Int.emod_lt_of_pos at' (b := (ys.length : Int)) (by omega)
    obtain ⟨q, hq⟩ : ∃ q : Nat, at' % (ys.length : Int) = q := ⟨(at' % (ys.length : Int)).toNat, by omega⟩
    rw [hq] at hq0 hq1 ⊢
    have hql : q < ys.length := by omega
    have hcap : ys.length ≤ xc2 := by
      obtain ⟨a9, c9, he, h9, -⟩ := HV3.out.slice
      simp at he
      omega
    clear hq
    have HE1 : Hid ((readP (ys.take q)).1 ≠ 0) := Lib.hid (by
      have := readP_cut HR.out (k := q) (by rw [← HY.out]; exact hql) (by rw [← HY.out]; exact HBY.out)
      rw [← HY.out] at this
      exact this)
    have HE2 : Hid ((readP (ys ++ [more])).1 ≠ 0) := Lib.hid (by
      have := readP_more HR.out more []
      rw [← HY.out] at this
      exact this)
    have HB2 : Hid (Byts (ys ++ [more])) := Lib.hid (HBY.out.app (by intro y hy; simp at hy; rw [hy]; exact HMO.out))
    go_wp2_with fail
    refine (cImgRead w3 _ (ys.take q) (HV3.out.taken hql)).mono ?_
    rintro e w4 ⟨r, rfl, hI4, hu⟩
    obtain ⟨e1, he1⟩ : ∃ e1, e1 = (readP (ys.take q)).1 := ⟨_, rfl⟩
    rw [← he1] at HE1 ⊢
    have hn1 : (e1 != 0) = true := by simpa using HE1.out
    obtain ⟨f4, fc4, i4, ic4, m4, mc4, x4, xc4, rfl⟩ := hI4.open
    generalize (readP (ys.take q)).2 = I4 at *
    have HO4 := Lib.hid (ownsRow_upd (ownsRow_upd HO.out (HU23.out) (fun _ _ h => h)) hu (fun _ _ h => h))
    have HV4 := Lib.hid (HV3.out.upd hu (fun _ _ h => h))
    replace HU := Lib.hid (HU.out.trans hu (fun _ h _ => h))
    clear hu hI4 he1
    go_wp2_with fail
    refine (few _ _ ys ys.length (HV4.out.upd (Upd.alloc (fun _ => False) w4 _) (fun _ _ h => h)) (.inl (by omega)) (by omega) (by omega)).mono ?_
    rintro e w6 ⟨v6, rfl, hN⟩
    have hU6 : Upd (fun _ => False) W w6 := (HU.out.trans (Upd.alloc _ w4 _) (fun _ h _ => h)).trans hN.2.1 (fun _ h _ => h)
    have hN6 : ∀ j, v6.ownBlock = some j → W.heap.size ≤ j := fun j hj => by
      have h1 := hN.2.2 j hj
      have h2 := HU.out.size
      simp at h1
      omega
    have hO6 := hN.1
    rw [show ys.take ((ys.length : Int)).toNat = ys by simp] at hO6
    obtain ⟨a6, c6, rfl⟩ := ownsRow_slice hO6
    have HO6 := Lib.hid hO6
    have HN6 := Lib.hid hN6
    have HSRC := Lib.hid (srcAt w6 5 #[.int .u8 more] (bv [more]) rfl 1 (by simp [bv, Value.oneCell']) 1 1 w6.heap.size rfl rfl)
    replace HU := Lib.hid hU6
    clear hN hO6 hU6 hN6
    go_wp2_with (at_builtin; go_loud (refine wpList_append_mine _ rfl _ _ 30 rfl 0 5 i0 (.int .u8 0) 1 1 Tryd.underlying30 hi hz0 hz1 hz2 rfl (by decide) (.slice a6 ys.length c6) ys.length (bv ys) rfl (HO6.out.alloc _) 1 (bv [more]) HSRC.out (by unfold maxLen; omega) (by omega) (Nat.zero_le _) ?_))
    intro v7 w7 ho hg hf
    have hu7 := Upd.row (Upd.alloc _ w6 _) hg
    replace HU := Lib.hid (upd_of_new (W := ⟨W, fun _ => False⟩) HU.out hu7 (fun j hj => .inr (HN6.out j hj)))
    have hV7 : Vw w7 v7 (ys ++ [more]) := vw_of_row (by rw [List.length_append, bv_append]; exact ho) HB2.out
    obtain ⟨a7, c7, rfl⟩ := ownsRow_slice ho
    have HV7 := Lib.hid hV7
    clear ho hg hf hu7 hV7
    go_wp2_with fail
    refine (cImgRead w7 _ (ys ++ [more]) HV7.out).mono ?_
    rintro e w8 ⟨r, rfl, hI8, hu⟩
    obtain ⟨e2, he2⟩ : ∃ e2, e2 = (readP (ys ++ [more])).1 := ⟨_, rfl⟩
    rw [← he2] at HE2 ⊢
    have hn2 : (e2 != 0) = true := by simpa using HE2.out
    obtain ⟨f8, fc8, i8, ic8, m8, mc8, x8, xc8, rfl⟩ := hI8.open
    generalize (readP (ys ++ [more])).2 = I8 at *
    replace HU := Lib.hid (HU.out.trans hu (fun _ h _ => h))
    clear hu hI8 he2
    go_wp2_with fail
    go_ret
    exact ⟨rfl, HU.out.trans (Upd.alloc _ w8 _) (fun _ h _ => h)⟩
end Go.Proofs.YthnjlopfmakdmaaDoor

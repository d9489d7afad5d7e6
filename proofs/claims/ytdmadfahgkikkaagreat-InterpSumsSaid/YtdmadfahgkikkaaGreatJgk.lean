/- Package interp: a return. -/
import Derived.Test.YtdmadfahgkikkaaGreatJfk
namespace Go.Proofs.YtdmadfahgkikkaaGreat
open Go.RowKit Go.Lib Go.ChangeShapes Go.WideShapes Go.Deep Go.MapKept Go.ChangeMaps
set_option linter.unusedVariables false
set_option linter.unusedSimpArgs false

section
variable {c : Nat → Nat} {w : World} {mb rb mp tb : Nat} {tv : Value} {X : McM} {M : RmM} {Ps : List PI} {I : ImgM}
/-- the topmost frame goes -/
theorem Mc.drop {F : FrM} {Fs : List FrM} {cv : Value} (h : Mc c w mb rb mp tb tv X M Ps I) (hX : X.Fs = F :: Fs) (hr : FrL c w cv Fs) :
    Ext T10 c w c (w.setCell ⟨mb, 2, none⟩ cv) ∧ Mc c (w.setCell ⟨mb, 2, none⟩ cv) mb rb mp tb cv (X.withFs Fs) M Ps I := by
  have hu : Upd (fun q => q = mb) w (w.setCell ⟨mb, 2, none⟩ cv) := hpS (Upd.refl _ _) rfl
  have E : Ext T10 c w c (w.setCell ⟨mb, 2, none⟩ cv) := ⟨fun _ _ => rfl, hu.mono (fun q hq _ => by rw [hq]; exact h.cb)⟩
  have hd := h.dep
  rw [hX, List.length_cons] at hd
  refine ⟨E, by simp [World.setCell, Array.getElem?_modify, h.box, McM.withFs], FrL.ext E (by simp only [T10]; omega) hr (fun i h1 h2 => by simp only [T10]; omega), E.trc h.trc (by simp only [T10]; omega), h.cb, h.map.ext E (by simp only [T10]; omega) (by simp only [T10]; omega), h.rm.ext E (fun i hi => by simp only [RmC] at hi; simp only [T10]; omega) (by simp only [T10]; omega), h.one, by simp only [McM.withFs]; omega⟩
set_option maxHeartbeats 1000000 in
theorem mRetFirst {F : FrM} (h : Mc c w mb rb mp tb tv X M Ps I) (hX : X.Fs = [F]) : Calls Tryz.prog 52 #[.pointer (some ⟨mb, 0, none⟩)] w fun e w' => e = .returned (.int .i64 36864) ∧ ∃ c', Ext T10 c w c' w' ∧ Mc c' w' mb rb mp tb (.pointer none) (X.withFs []) M Ps I := by
  obtain ⟨fb, cv, p, l, k, lv, sv, rfl, hf, hr⟩ := h.top hX
  have he : cv = .pointer none := hr
  subst he
  obtain ⟨-, -, b2, -, -, -, bf⟩ := h.bx
  have f2 := bf 2
  have k0 := hf.bx.1
  have HD := Lib.hid (h.drop hX hr)
  clear h hX hf hr bf
  go_enter Tryz.func52, Tryz.ntmps52
  go_wp2_with fail
  go_ret
  exact ⟨rfl, c, HD.out⟩
set_option maxHeartbeats 1000000 in
theorem mRet0 {F G : FrM} {Fs : List FrM} (h : Mc c w mb rb mp tb tv X M Ps I) (hX : X.Fs = F :: G :: Fs) (h0 : F.m.res = 0) : Calls Tryz.prog 52 #[.pointer (some ⟨mb, 0, none⟩)] w fun e w' => e = .returned (.int .i64 0) ∧ ∃ c' tv', Ext T10 c w c' w' ∧ Mc c' w' mb rb mp tb tv' (X.withFs (G :: Fs)) M Ps I := by
  obtain ⟨fb, cv, p, l, k, lv, sv, rfl, hf, hr⟩ := h.top hX
  have HD := Lib.hid (h.drop hX hr)
  obtain ⟨gb, gv, p', l', k', lv', sv', rfl, hg, hrr⟩ := hr
  obtain ⟨-, -, b2, -, -, -, bf⟩ := h.bx
  have f2 := bf 2
  have hne : fb ≠ mb := fun e => by have h1 := hf.cb; rw [e, h.cb] at h1; omega
  obtain ⟨k0, -, -, -, -, k5, -⟩ := hf.bx
  rw [h0] at k5
  clear h hX hf bf hg hrr h0
  go_enter Tryz.func52, Tryz.ntmps52
  go_wp2_with fail
  go_ret
  exact ⟨rfl, c, _, HD.out⟩
set_option maxRecDepth 100000 in
set_option maxHeartbeats 2000000 in
theorem mRet1 {F G : FrM} {Fs : List FrM} (h : Mc c w mb rb mp tb tv X M Ps I) (hX : X.Fs = F :: G :: Fs) (h0 : F.m.res ≠ 0) {L : List Int} {x : Int} (hs : F.stk = L ++ [x]) (hl : G.stk.length < 1000000) :
    Calls Tryz.prog 52 #[.pointer (some ⟨mb, 0, none⟩)] w fun e w' => e = .returned (.int .i64 0) ∧ ∃ c' tv', Ext (fun i => i = 10 ∨ FBS (Fs.length + 1) i ∨ FBS Fs.length i) c w c' w' ∧ Mc c' w' mb rb mp tb tv' (X.withFs (G.withStk (G.stk ++ [x]) :: Fs)) M Ps I := by
  obtain ⟨fb, cv, p, l, k, lv, sv, rfl, hf, hr⟩ := h.top hX
  have HDR := Lib.hid (h.drop hX hr)
  obtain ⟨gb, gv, p', l', k', lv', sv', rfl, hg, hrr⟩ := hr
  obtain ⟨-, -, b2, -, -, -, bf⟩ := h.bx
  have f2 := bf 2
  have hne : fb ≠ mb := fun e => by have h1 := hf.cb; rw [e, h.cb] at h1; omega
  obtain ⟨k0, -, -, -, -, k5, -⟩ := hf.bx
  have t5 : (F.m.res == 0) = false := by simpa using h0
  have t6 : (F.m.res != 0) = true := by simp [bne, t5]
  have HX := Lib.hid hX
  have HF := Lib.hid hf
  have HS := Lib.hid hs
  have HDEP := Lib.hid h.dep
  have HXR := Lib.hid (hf.sr x (by rw [hs]; simp))
  clear h hX hf bf hg hrr h0 hs
  go_enter Tryz.func52, Tryz.ntmps52
  go_upto_region 6 with fail
  clear k0 k5 f2 b2
  obtain ⟨w1, hw1⟩ : ∃ w1, w1 = w.setCell ⟨mb, 2, none⟩ (.pointer (some ⟨gb, 0, none⟩)) := ⟨_, rfl⟩
  rw [← hw1] at HDR ⊢
  have hdep := HDEP.out
  rw [HX.out] at hdep
  simp only [List.length_cons] at hdep
  have hf1 := HF.out.ext HDR.out.1 (by simp only [T10]; omega) (fun i hi => by simp only [FT3, List.length_cons] at hi; simp only [T10]; omega)
  have HPO := Lib.hid (fPop (hf1.quiet (Upd.drew _ _)) HS.out)
  have hHeld : (fun w' : World => w'.cell? ⟨mb, 2, none⟩ = some (.pointer (some ⟨gb, 0, none⟩))) w1.drew := HDR.out.2.bx.2.2.1
  clear hw1 hf1
  refine wp_region_last (S := (fun w' : World => w'.cell? ⟨mb, 2, none⟩ = some (.pointer (some ⟨gb, 0, none⟩)))) 6 _ (by kernel_rfl) (by kernel_rfl) rfl ?_
  change wpHL _ _ _ _ _ _ _ _ _ _ w1.drew
  refine wpHL_take (i := 0) (v := ?_) rfl (by kernel_rfl) (fun _ _ _ h => h) hHeld (Or.inl ⟨by rfl, ?_⟩) ?_
  rotate_left
  · (intro w hSw; obtain y0 := hSw; go_simp; try with_reducible rfl)
  try simp only [Act.put, List.getElem_toArray, List.getElem_cons_succ, List.getElem_cons_zero, List.setIfInBounds_toArray, List.set_cons_zero, List.set_cons_succ]
  refine wpHL_take (i := 1) (v := ?_) rfl (by kernel_rfl) (fun _ _ _ h => h) hHeld (Or.inl ⟨by rfl, ?_⟩) ?_
  rotate_left
  · (intro w hSw; obtain y0 := hSw; go_simp; try with_reducible rfl)
  try simp only [Act.put, List.getElem_toArray, List.getElem_cons_succ, List.getElem_cons_zero, List.setIfInBounds_toArray, List.set_cons_zero, List.set_cons_succ]
  refine wpHL_take (i := 2) (v := ?_) rfl (by kernel_rfl) (fun _ _ _ h => h) hHeld (Or.inl ⟨by rfl, ?_⟩) ?_
  rotate_left
  · (intro w hSw; obtain y0 := hSw; go_simp; try with_reducible rfl)
  try simp only [Act.put, List.getElem_toArray, List.getElem_cons_succ, List.getElem_cons_zero, List.setIfInBounds_toArray, List.set_cons_zero, List.set_cons_succ]
  refine wpHL_take (i := 3) (v := ?_) rfl (by kernel_rfl) (fun _ _ _ h => h) hHeld (Or.inl ⟨by rfl, ?_⟩) ?_
  rotate_left
  · (intro w hSw; obtain y0 := hSw; go_simp; try with_reducible rfl)
  try simp only [Act.put, List.getElem_toArray, List.getElem_cons_succ, List.getElem_cons_zero, List.setIfInBounds_toArray, List.set_cons_zero, List.set_cons_succ]
  refine wpHL_take (i := 4) (v := ?_) rfl (by kernel_rfl) (fun _ _ _ h => h) hHeld (Or.inl ⟨by rfl, ?_⟩) ?_
  rotate_left
  · (intro w hSw; obtain y0 := hSw; go_simp; try with_reducible rfl)
  try simp only [Act.put, List.getElem_toArray, List.getElem_cons_succ, List.getElem_cons_zero, List.setIfInBounds_toArray, List.set_cons_zero, List.set_cons_succ]
  refine wpHL_step (i := 5) rfl (by kernel_rfl) (by decide) (fun K hK => ?_)
  have HKK := Lib.hid hK
  clear hK hHeld
  go_simp
  refine HPO.out.mono ?_
  rintro e w2 ⟨rfl, c2, sv2, hx2, -⟩
  have hx2' : Ext (FBS (Fs.length + 1)) c w1 c2 w2 := ⟨hx2.same, (Upd.drew (fun q => FBS (Fs.length + 1) (c q)) w1).trans hx2.upd (fun q hq _ => hq)⟩
  have hm2 := HDR.out.2.ext hx2' (fun i hi => by simp only [MC, McM.withFs, List.length_cons] at hi; simp only [FBS]; omega)
  have HX2 := Lib.hid hx2'
  have HM2 := Lib.hid hm2
  have hHeld : (fun w' : World => w'.cell? ⟨mb, 2, none⟩ = some (.pointer (some ⟨gb, 0, none⟩))) w2 := hm2.bx.2.2.1
  clear hx2 hx2' hm2
  go_simp
  refine HKK.out _ _ hHeld ?_
  clear HKK hHeld
  try simp only [Act.put, List.getElem_toArray, List.getElem_cons_succ, List.getElem_cons_zero, List.setIfInBounds_toArray, List.set_cons_zero, List.set_cons_succ]
  refine wpHL_last (by kernel_rfl) ?_
  obtain ⟨gb', gv', p2, l2, k2, lv2, sv2', he, hg2, hr2⟩ := HM2.out.top rfl
  simp at he
  subst he
  have HPU := Lib.hid (fPush hg2 x HXR.out hl)
  have HR2 := Lib.hid hr2
  clear hg2 hr2
  go_wp2_with fail
  refine HPU.out.mono ?_
  rintro e w3 ⟨rfl, c3, sv3, hx3, hf3⟩
  have hm3 := HM2.out.turnTop rfl HR2.out hx3 hf3 (fun i hi => by simp only [FBS] at hi; simp only [FT3]; omega)
  have H3 := Lib.hid (And.intro hx3 hm3)
  clear hx3 hf3 hm3
  go_wp2_with fail
  go_ret
  refine ⟨rfl, c3, _, ((HDR.out.1.mono (fun i hi => .inl hi)).trans HX2.out (fun i hi => .inr (.inl hi))).trans H3.out.1 (fun i hi => .inr (.inr hi)), H3.out.2⟩
end
end Go.Proofs.YtdmadfahgkikkaaGreat

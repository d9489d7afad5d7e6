/- Package interp: how deep; an applet's image, asked once; a frame is laid over the others. -/
import Derived.Test.YtdmadfahgkikkaaGreatJck
namespace Go.Proofs.YtdmadfahgkikkaaGreat
open Go.RowKit Go.Lib Go.ChangeShapes Go.WideShapes Go.Deep Go.MapKept Go.ChangeMaps
set_option linter.unusedVariables false
set_option linter.unusedSimpArgs false

section
variable {c : Nat → Nat} {w : World} {mb rb mp tb : Nat} {tv : Value} {X : McM} {M : RmM} {Ps : List PI} {I : ImgM}
theorem mDepth (h : Mc c w mb rb mp tb tv X M Ps I) : Calls Tryz.prog 15 #[.pointer (some ⟨mb, 0, none⟩)] w fun e w' => e = .returned (.int .i64 (X.Fs.length : Int)) ∧ w = w' := by
  obtain ⟨-, -, b2, -, -, -, -⟩ := h.bx
  obtain ⟨ta, rfl⟩ := h.frs.ptr
  have HF := Lib.hid h.frs
  have hd := h.dep
  clear h
  generalize X.Fs = L0 at *
  go_enter Tryz.func15, Tryz.ntmps15
  go_wp2_with fail
  go_loop [3, 4] (fun n v => ∃ (j : Nat) (a : Option Addr) (L : List FrM), n = .int .i64 (j : Nat) ∧ v = .pointer a ∧ j + L.length = L0.length ∧ Hid (FrL c w (.pointer a) L)) (fun n _ => L0.length - (intOf n).toNat)
  case atStart => exact ⟨0, ta, L0, rfl, rfl, by omega, HF⟩
  case round =>
    obtain ⟨j, a, L, rfl, rfl, hj, HL⟩ := hrel
    cases L with
    | nil =>
      have h1 := HL.out
      obtain rfl : a = none := by simpa [FrL] using h1
      have hje : j = L0.length := by simpa using hj
      subst hje
      clear h1
      go_wp2_with fail
      go_ret
      exact ⟨rfl, rfl⟩
    | cons F L =>
      obtain ⟨fb, cv, p, l, k, lv, sv, he, hf, hr⟩ := HL.out
      obtain rfl : a = some ⟨fb, 0, none⟩ := by simpa using he
      obtain ⟨ca, rfl⟩ := hr.ptr
      have k0 := hf.bx.1
      have HR := Lib.hid hr
      have hw : IntKind.i64.wrap ((j : Int) + 1) = (j : Int) + 1 := IntWalk.i64_in _ (by omega)
      simp only [List.length_cons] at hj
      clear he hf hr
      go_wp2_with fail
      go_round
      case rel => exact ⟨j + 1, ca, L, by go_num, rfl, by omega, HR⟩
      case measure => simp [intOf]; omega
def T11 (i : Nat) : Prop := i = 11
/-- the map has turned -/
theorem Mc.setMap {w' : World} (h : Mc c w mb rb mp tb tv X M Ps I) (hx : Ext T11 c w c w') (hm : MapOk c w' mp I) : Mc c w' mb rb mp tb tv X M Ps I := by
  have hd := h.dep
  exact ⟨hx.blk h.box (by rw [h.cb]; simp only [T11]; omega), FrL.ext hx (by simp only [T11]; omega) h.frs (fun i h1 h2 => by simp only [T11]; omega), hx.trc h.trc (by simp only [T11]; omega), h.cb, hm, h.rm.ext hx (fun i hi => by simp only [RmC] at hi; simp only [T11]; omega) (by simp only [T11]; omega), h.one, h.dep⟩
def T9 (i : Nat) : Prop := i = 9
/-- a block of colour 9 has turned -/
theorem own9 {w' : World} {b : Nat} (hu : Upd (fun q => q = b) w w') (hb : c b = 9) : Ext T9 c w c w' := ⟨fun _ _ => rfl, hu.mono (fun q hq _ => by rw [hq]; exact hb)⟩
theorem mc9 (n : Nat) : ∀ i, MC n i → ¬ T9 i := fun i hi => by simp only [MC] at hi; simp only [T9]; omega
theorem held5 {b : Nat} {w2 : World} {a0 a1 a2 a3 a4 v0 v1 v2 v3 v4 : Value} {t : TypeId} (h : w2.heap[b]? = some (.cells #[a0, a1, a2, a3, a4] t (0, 0))) :
    (((((w2.setCell ⟨b, 0, none⟩ v0).setCell ⟨b, 1, none⟩ v1).setCell ⟨b, 2, none⟩ v2).setCell ⟨b, 3, none⟩ v3).setCell ⟨b, 4, none⟩ v4).heap[b]? = some (.cells #[v0, v1, v2, v3, v4] t (0, 0)) := by
  simp [World.setCell, Array.getElem?_modify, h]
theorem upd5 (w2 : World) (b : Nat) (v0 v1 v2 v3 v4 : Value) : Upd (fun q => q = b) w2 (((((w2.setCell ⟨b, 0, none⟩ v0).setCell ⟨b, 1, none⟩ v1).setCell ⟨b, 2, none⟩ v2).setCell ⟨b, 3, none⟩ v3).setCell ⟨b, 4, none⟩ v4) := hpS (hpS (hpS (hpS (hpS (Upd.refl _ _) rfl) rfl) rfl) rfl) rfl
theorem heldR_inj {v u : Value} {ps : List MemPlace} (h : heldR v = some (.held u, ps)) : v = u := by
  simp [heldR] at h
  exact h.1
set_option maxRecDepth 100000 in
set_option maxHeartbeats 4000000 in
theorem mImage (h : Mc c w mb rb mp tb tv X M Ps I) : Calls Tryz.prog 32 #[.pointer (some ⟨mb, 0, none⟩), .int .i64 0] w fun e w' => ∃ v c', e = .returned v ∧ ImgK c' w' v I ∧ Ext T11 c w c' w' ∧ Mc c' w' mb rb mp tb tv X M Ps I := by
  obtain ⟨b0, b1, -, -, -, -, -⟩ := h.bx
  have hmb : mb < w.heap.size := (Array.getElem?_eq_some_iff.1 h.box).1
  obtain ⟨hcm, n, D, hown, hcase⟩ := h.map
  have H := Lib.hid h
  have HOWN := Lib.hid hown
  have hlt := hown.lt
  obtain ⟨P, hP1, hP2, hP3⟩ := h.one
  have HI := Lib.hid (fun (c2 : Nat → Nat) (u : World) (hu : RmI c2 u rb M Ps) => show Calls Tryz.prog 42 #[.pointer (some ⟨rb, 0, none⟩), .int .i64 0] u fun e w' => ∃ v, e = .returned (.tuple #[v, .bool true]) ∧ ImgK (paint c2 u 8) w' v I ∧ Upd (fun _ => False) u w' by
    have h1 := rImage hu (j := 0) (by rw [hP1]; simp) (by rw [hP1]; show ImgS P.1; rw [hP2]; exact hP3)
    have h2 : (Ps.getD 0 default).1 = I := by rw [hP1]; exact hP2
    rw [h2] at h1
    exact h1)
  have HCM := Lib.hid hcm
  clear h hown hP1 hP2 hP3 hcm
  obtain ⟨w1, hw1⟩ : ∃ w1, w1 = w.alloc (.cells #[.string { data := #[] }, .slice none 0 0, .slice none 0 0, .slice none 0 0, .slice none 0 0] 59) := ⟨_, rfl⟩
  have hu1 : Upd (fun _ => False) w w1 := by rw [hw1]; exact Upd.alloc _ _ _
  have hq1 : w1.heap[w.heap.size]? = some (.cells #[.string { data := #[] }, .slice none 0 0, .slice none 0 0, .slice none 0 0, .slice none 0 0] 59 (0, 0)) := by rw [hw1]; exact hpTop w _ _ rfl
  have hs1 : w1.heap.size = w.heap.size + 1 := by rw [hw1]; simp
  have HOW1 := Lib.hid (ownsMap_upd HOWN.out hu1 (fun h => h))
  have HU1 := Lib.hid hu1
  have HQ1 := Lib.hid hq1
  have HS1 := Lib.hid hs1
  have HW1 := Lib.hid hw1
  clear hu1 hq1 hs1
  go_enter Tryz.func32, Tryz.ntmps32
  rw [hw1] at HOW1
  go_wp2_with (at_lookup; refine wpList_lookup_own_ok _ rfl _ _ MpT rfl 3 59 keyed0 Tryz.underlying61 heldR (zeroImg _) (.held noImg) [] rfl mp n D rfl HOW1.out _ lit0 rfl key0 ?_)
  intro v ps hv
  rw [← hw1] at HOW1
  rcases hcase with ⟨rfl, hat⟩ | ⟨hn1, v0, hat, hik⟩
  · have hhas : Maps.has D lit0 = false := Maps.has_false_of_atKey hat
    rw [hat] at hv
    obtain rfl := heldR_inj hv
    rw [hhas]
    clear hv hhas
    simp only [noImg]
    go_wp2_with fail
    obtain ⟨w2, hw2⟩ : ∃ w2, w2 = w1.alloc (.cells #[.string { data := #[] }, .slice none 0 0, .slice none 0 0, .slice none 0 0, .slice none 0 0] 59) := ⟨_, rfl⟩
    have hu2 : Upd (fun _ => False) w1 w2 := by rw [hw2]; exact Upd.alloc _ _ _
    have hq2 : w2.heap[w.heap.size + 1]? = some (.cells #[.string { data := #[] }, .slice none 0 0, .slice none 0 0, .slice none 0 0, .slice none 0 0] 59 (0, 0)) := by rw [hw2]; exact hpTop w1 _ _ HS1.out.symm
    rw [← hw1, ← hw2]
    have hu02 := HU1.out.trans hu2 (fun _ h _ => h)
    have H2 := Lib.hid (H.out.ext (Ext.made None0 9 hu02) (fun _ _ h => h))
    have HQ2 := Lib.hid hq2
    have HQB2 := Lib.hid (hpBlk hu2 HQ1.out (fun h => h))
    have HU02 := Lib.hid hu02
    have hs2 : w2.heap.size = w.heap.size + 2 := by rw [hw2]; simp [HS1.out]
    have HS2 := Lib.hid hs2
    have HO2 := Lib.hid (ownsMap_upd HOWN.out hu02 (fun h => h))
    have HAT := Lib.hid hat
    clear hu2 hq2 hw2 hw1 hu02 hs2 hat HOW1
    refine (HI.out (paint c w 9) w2 H2.out.rm).mono ?_
    rintro e w3 ⟨v', rfl, hk, hu⟩
    obtain ⟨f', i', m', x', rfl, hf', hi', hm', hx', -⟩ := hk.now
    obtain ⟨fa', fc', rfl, -, -⟩ := hf'.slice
    obtain ⟨ja', jc', rfl, -, -⟩ := hi'.slice
    obtain ⟨ma', mc', rfl, -, -⟩ := hm'.slice
    obtain ⟨xa', xc', rfl, -, -⟩ := hx'.slice
    have H3 := Lib.hid (H2.out.ext (Ext.made None0 8 hu) (fun _ _ h => h))
    obtain ⟨c3, hc3⟩ : ∃ c3, c3 = paint (paint c w 9) w2 8 := ⟨_, rfl⟩
    rw [← hc3] at H3 hk
    have hc9 : c3 (w.heap.size + 1) = 9 ∧ c3 w.heap.size = 9 := by
      rw [hc3]
      exact ⟨by rw [paint_old _ _ _ (by rw [HS2.out]; omega), paint_new _ _ _ (by omega)], by rw [paint_old _ _ _ (by rw [HS2.out]; omega), paint_new _ _ _ (by omega)]⟩
    have HSM : Hid (∀ q, q < w.heap.size → c3 q = c q) := Lib.hid (fun q hq => by rw [hc3, paint_old _ _ _ (by rw [HS2.out]; omega), paint_old _ _ _ hq])
    have HC9 := Lib.hid hc9
    have HK3 := Lib.hid hk
    have HU3 := Lib.hid hu
    have HQ3 := Lib.hid (hpBlk hu HQ2.out (fun h => h))
    have HQB3 := Lib.hid (hpBlk hu HQB2.out (fun h => h))
    have HO3 := Lib.hid (ownsMap_upd HO2.out hu (fun h => h))
    obtain ⟨e0, e1, e2, e3, e4, ef⟩ := five HQ3.out
    have f0 := ef 0
    have f1 := ef 1
    have f2 := ef 2
    have f3 := ef 3
    have f4 := ef 4
    clear hk hu hc3 hc9 hf' hi' hm' hx' ef b0 b1
    go_upto_region 6 with fail
    clear e0 e1 e2 e3 e4 f0 f1 f2 f3 f4
    obtain ⟨w4, hw4⟩ : ∃ w4, w4 = ((((w3.setCell ⟨w.heap.size + 1, 0, none⟩ (.string I.name)).setCell ⟨w.heap.size + 1, 1, none⟩ (.slice fa' I.fields.length fc')).setCell ⟨w.heap.size + 1, 2, none⟩ (.slice ja' I.imports.length jc')).setCell ⟨w.heap.size + 1, 3, none⟩ (.slice ma' I.methods.length mc')).setCell ⟨w.heap.size + 1, 4, none⟩ (.slice xa' I.exports.length xc') := ⟨_, rfl⟩
    rw [← hw4]
    have hu4 : Upd (fun q => q = w.heap.size + 1) w3 w4 := by rw [hw4]; exact upd5 _ _ _ _ _ _ _
    have hq4 : w4.heap[w.heap.size + 1]? = some (.cells #[.string I.name, .slice fa' I.fields.length fc', .slice ja' I.imports.length jc', .slice ma' I.methods.length mc', .slice xa' I.exports.length xc'] 59 (0, 0)) := by rw [hw4]; exact held5 HQ3.out
    have E4 := own9 hu4 HC9.out.1
    have H4 := Lib.hid (H3.out.ext E4 (mc9 _))
    have HK4 := Lib.hid (HK3.out.ext E4 (show ¬ (8 = 9) by omega))
    have HQ4 := Lib.hid hq4
    have HQB4 := Lib.hid (hpBlk hu4 HQB3.out (by omega))
    have HO4 := Lib.hid (ownsMap_upd HO3.out hu4 (by omega))
    have HU4 := Lib.hid hu4
    clear hw4 hu4 hq4 E4
    have hHeld : (fun w' : World => w'.cell? ⟨mb, 1, none⟩ = some (.map (some mp)) ∧ w'.cell? ⟨w.heap.size + 1, 0, none⟩ = some (.string I.name) ∧ w'.cell? ⟨w.heap.size + 1, 1, none⟩ = some (.slice fa' I.fields.length fc') ∧ w'.cell? ⟨w.heap.size + 1, 2, none⟩ = some (.slice ja' I.imports.length jc') ∧ w'.cell? ⟨w.heap.size + 1, 3, none⟩ = some (.slice ma' I.methods.length mc') ∧ w'.cell? ⟨w.heap.size + 1, 4, none⟩ = some (.slice xa' I.exports.length xc')) w4.drew := by
      obtain ⟨e0, e1, e2, e3, e4, -⟩ := five HQ4.out
      exact ⟨H4.out.bx.2.1, e0, e1, e2, e3, e4⟩
    refine wp_region_last (S := (fun w' : World => w'.cell? ⟨mb, 1, none⟩ = some (.map (some mp)) ∧ w'.cell? ⟨w.heap.size + 1, 0, none⟩ = some (.string I.name) ∧ w'.cell? ⟨w.heap.size + 1, 1, none⟩ = some (.slice fa' I.fields.length fc') ∧ w'.cell? ⟨w.heap.size + 1, 2, none⟩ = some (.slice ja' I.imports.length jc') ∧ w'.cell? ⟨w.heap.size + 1, 3, none⟩ = some (.slice ma' I.methods.length mc') ∧ w'.cell? ⟨w.heap.size + 1, 4, none⟩ = some (.slice xa' I.exports.length xc'))) 6 _ (by kernel_rfl) (by kernel_rfl) rfl ?_
    change wpHL _ _ _ _ _ _ _ _ _ _ w4.drew
    refine wpHL_take (i := 0) (v := ?_) rfl (by kernel_rfl) (fun _ _ _ h => h) hHeld (Or.inl ⟨by rfl, ?_⟩) ?_
    rotate_left
    · (intro w hSw; obtain ⟨y0, y1, y2, y3, y4, y5⟩ := hSw; go_simp; try with_reducible rfl)
    try simp only [Act.put, List.getElem_toArray, List.getElem_cons_succ, List.getElem_cons_zero, List.setIfInBounds_toArray, List.set_cons_zero, List.set_cons_succ]
    refine wpHL_take (i := 1) (v := ?_) rfl (by kernel_rfl) (fun _ _ _ h => h) hHeld (Or.inl ⟨by rfl, ?_⟩) ?_
    rotate_left
    · (intro w hSw; obtain ⟨y0, y1, y2, y3, y4, y5⟩ := hSw; go_simp; try with_reducible rfl)
    try simp only [Act.put, List.getElem_toArray, List.getElem_cons_succ, List.getElem_cons_zero, List.setIfInBounds_toArray, List.set_cons_zero, List.set_cons_succ]
    refine wpHL_take (i := 2) (v := ?_) rfl (by kernel_rfl) (fun _ _ _ h => h) hHeld (Or.inl ⟨by rfl, ?_⟩) ?_
    rotate_left
    · (intro w hSw; obtain ⟨y0, y1, y2, y3, y4, y5⟩ := hSw; go_simp; try with_reducible rfl)
    try simp only [Act.put, List.getElem_toArray, List.getElem_cons_succ, List.getElem_cons_zero, List.setIfInBounds_toArray, List.set_cons_zero, List.set_cons_succ]
    refine wpHL_take (i := 3) (v := ?_) rfl (by kernel_rfl) (fun _ _ _ h => h) hHeld (Or.inl ⟨by rfl, ?_⟩) ?_
    rotate_left
    · (intro w hSw; obtain ⟨y0, y1, y2, y3, y4, y5⟩ := hSw; go_simp; try with_reducible rfl)
    try simp only [Act.put, List.getElem_toArray, List.getElem_cons_succ, List.getElem_cons_zero, List.setIfInBounds_toArray, List.set_cons_zero, List.set_cons_succ]
    refine wpHL_take (i := 4) (v := ?_) rfl (by kernel_rfl) (fun _ _ _ h => h) hHeld (Or.inl ⟨by rfl, ?_⟩) ?_
    rotate_left
    · (intro w hSw; obtain ⟨y0, y1, y2, y3, y4, y5⟩ := hSw; go_simp; try with_reducible rfl)
    try simp only [Act.put, List.getElem_toArray, List.getElem_cons_succ, List.getElem_cons_zero, List.setIfInBounds_toArray, List.set_cons_zero, List.set_cons_succ]
    refine wpHL_take (i := 5) (v := ?_) rfl (by kernel_rfl) (fun _ _ _ h => h) hHeld (Or.inl ⟨by rfl, ?_⟩) ?_
    rotate_left
    · (intro w hSw; obtain ⟨y0, y1, y2, y3, y4, y5⟩ := hSw; go_simp; try with_reducible rfl)
    try simp only [Act.put, List.getElem_toArray, List.getElem_cons_succ, List.getElem_cons_zero, List.setIfInBounds_toArray, List.set_cons_zero, List.set_cons_succ]
    refine wpHL_last (by kernel_rfl) ?_
    clear hHeld
    go_wp2_with (at_mapUpdate; refine wpList_mapUpdate_in _ rfl _ _ _ MpT rfl 3 59 keyed0 Tryz.underlying61 heldR mp 0 D rfl HO4.out (by decide) _ _ lit0 rfl rfl key0 _ _ rfl ?_)
    intro w5 ho5 ht5
    have hu5 := turned_upd ht5
    have hq5 := hpBlk hu5 HQ4.out (by omega)
    have hqb5 := hpBlk hu5 HQB4.out (by omega)
    obtain ⟨e0, e1, e2, e3, e4, -⟩ := five hq5
    obtain ⟨d0, d1, d2, d3, d4, df⟩ := five hqb5
    have f0 := df 0
    have f1 := df 1
    have f2 := df 2
    have f3 := df 3
    have f4 := df 4
    have HO5 := Lib.hid ho5
    have HU5 := Lib.hid hu5
    have HQB5 := Lib.hid hqb5
    clear ho5 ht5 hu5 hq5 hqb5 df
    go_wp2_with fail
    clear e0 e1 e2 e3 e4 d0 d1 d2 d3 d4 f0 f1 f2 f3 f4
    obtain ⟨w6, hw6⟩ : ∃ w6, w6 = ((((w5.setCell ⟨w.heap.size, 0, none⟩ (.string I.name)).setCell ⟨w.heap.size, 1, none⟩ (.slice fa' I.fields.length fc')).setCell ⟨w.heap.size, 2, none⟩ (.slice ja' I.imports.length jc')).setCell ⟨w.heap.size, 3, none⟩ (.slice ma' I.methods.length mc')).setCell ⟨w.heap.size, 4, none⟩ (.slice xa' I.exports.length xc') := ⟨_, rfl⟩
    have hu6 : Upd (fun q => q = w.heap.size) w5 w6 := by rw [hw6]; exact upd5 _ _ _ _ _ _ _
    have hq6 : w6.heap[w.heap.size]? = some (.cells #[.string I.name, .slice fa' I.fields.length fc', .slice ja' I.imports.length jc', .slice ma' I.methods.length mc', .slice xa' I.exports.length xc'] 59 (0, 0)) := by rw [hw6]; exact held5 HQB5.out
    rw [← hw6]
    obtain ⟨d0, d1, d2, d3, d4, -⟩ := five hq6
    clear hw6
    have hc11 := H4.out.map.1
    have hu5 : Upd (fun q => q = mp) w4 w5 := (Upd.drew (fun q => q = mp) w4).trans HU5.out (fun q hq _ => hq)
    have E5 : Ext T11 c3 w4 c3 w5 := ⟨fun _ _ => rfl, hu5.mono (fun q hq _ => by rw [hq]; exact hc11)⟩
    have hk5 := HK4.out.ext E5 (by simp only [T11]; omega)
    have h5 := H4.out.setMap E5 ⟨hc11, 0 + 1, _, HO5.out, .inr ⟨by omega, _, fun zd => Maps.atKey_put_same HOWN.out.isMap (by simp [WideAt.IsKeyLit, lit0]) _ zd, hk5⟩⟩
    have E6 := own9 hu6 HC9.out.2
    refine bodyPost_ret (v := img5 I.name (.slice fa' I.fields.length fc') (.slice ja' I.imports.length jc') (.slice ma' I.methods.length mc') (.slice xa' I.exports.length xc')) (by simp [results, Tryz.f32, go_sem, d0, d1, d2, d3, d4]) rfl ?_
    refine ⟨_, c3, rfl, hk5.ext E6 (show ¬ (8 = 9) by omega), ⟨HSM.out, ?_⟩, h5.ext E6 (mc9 _)⟩
    have k1 : Upd (fun _ => False) w w3 := HU02.out.trans HU3.out (fun _ h _ => h)
    have k2 : Upd (fun _ => False) w w4 := k1.trans HU4.out (fun q hq hl => by omega)
    exact ((k2.mono (T := fun q => T11 (c q)) (fun _ h _ => h.elim)).trans hu5 (fun q hq _ => by rw [hq]; exact HCM.out)).trans hu6 (fun q hq hl => by omega)
  · have hhas : Maps.has D lit0 = true := Maps.has_true_of_atKey hat
    rw [hat] at hv
    obtain rfl := heldR_inj hv
    rw [hhas]
    clear hv hhas
    obtain ⟨f', i', m', x', rfl, hf', hi', hm', hx', -⟩ := hik.now
    obtain ⟨fa', fc', rfl, -, -⟩ := hf'.slice
    obtain ⟨ja', jc', rfl, -, -⟩ := hi'.slice
    obtain ⟨ma', mc', rfl, -, -⟩ := hm'.slice
    obtain ⟨xa', xc', rfl, -, -⟩ := hx'.slice
    have HK := Lib.hid hik
    clear hat hik hf' hi' hm' hx'
    go_wp2_with fail
    obtain ⟨w6, hw6⟩ : ∃ w6, w6 = (w.alloc (.cells #[.string I.name, .slice fa' I.fields.length fc', .slice ja' I.imports.length jc', .slice ma' I.methods.length mc', .slice xa' I.exports.length xc'] 59)).alloc (.cells #[.string I.name, .slice fa' I.fields.length fc', .slice ja' I.imports.length jc', .slice ma' I.methods.length mc', .slice xa' I.exports.length xc'] 59) := ⟨_, rfl⟩
    have hu6 : Upd (fun _ => False) w w6 := by rw [hw6]; exact (Upd.alloc _ _ _).trans (Upd.alloc _ _ _) (fun _ h _ => h)
    have hq6 : w6.heap[w.heap.size]? = some (.cells #[.string I.name, .slice fa' I.fields.length fc', .slice ja' I.imports.length jc', .slice ma' I.methods.length mc', .slice xa' I.exports.length xc'] 59 (0, 0)) := by rw [hw6]; exact hpBlk (S := fun _ => False) (Upd.alloc _ _ _) (hpTop w _ _ rfl) (fun h => h)
    rw [← hw6]
    obtain ⟨d0, d1, d2, d3, d4, -⟩ := five hq6
    clear hw6
    refine bodyPost_ret (v := img5 I.name (.slice fa' I.fields.length fc') (.slice ja' I.imports.length jc') (.slice ma' I.methods.length mc') (.slice xa' I.exports.length xc')) (by simp [results, Tryz.f32, go_sem, d0, d1, d2, d3, d4]) rfl ?_
    exact ⟨_, paint c w 9, rfl, HK.out.ext (Ext.made None0 9 hu6) (fun h => h), Ext.made T11 9 hu6, H.out.ext (Ext.made None0 9 hu6) (fun _ _ h => h)⟩
end
end Go.Proofs.YtdmadfahgkikkaaGreat

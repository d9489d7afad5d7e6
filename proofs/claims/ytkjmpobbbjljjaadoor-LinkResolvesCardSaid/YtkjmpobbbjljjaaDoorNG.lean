/- LinkKnown, walked. -/
import Derived.Test.YtkjmpobbbjljjaaDoorNF
import Derived.Test.YtkjmpobbbjljjaaDoorBt
namespace Go.Proofs.YtkjmpobbbjljjaaDoor
open Go.RowKit Go.Lib
set_option linter.unusedVariables false
set_option linter.unusedSimpArgs false

theorem copy4 {w w6 : World} {e : TypeId} {v : Value} {n : Nat} {f : Nat → Nat → Value} (ho : w6.ownsRow 0 e 4 v (0 + n) ([] ++ cellsL 4 n f)) (hg : (w.alloc (.cells #[] e)).grownBy w6 (Value.slice (some ⟨w.heap.size, 0, none⟩) 0 0).ownBlock) (hf : Fresh (w.alloc (.cells #[] e)) (.slice (some ⟨w.heap.size, 0, none⟩) 0 0) v) (h0 : 0 < n) :
    ∃ gm cap, v = .slice (some ⟨gm, 0, none⟩) n cap ∧ n ≤ cap ∧ cap ≤ maxLen ∧ w.heap.size ≤ gm ∧ gm < w6.heap.size ∧ Upd (fun _ => False) w w6 ∧ Sl w6 (.slice (some ⟨gm, 0, none⟩) n cap) 4 n f ∧ ∀ q, w6.frozen? ⟨gm, q, none⟩ = false := by
  have hf3 := bnFresh (w := w) (g := w.heap.size) (w1 := w6) rfl (by show (w.heap.push _).size = _; simp) (fun k hk => by simp [Value.ownBlock] at hk; omega) hf
  have hu : Upd (fun _ => False) w w6 := (Upd.alloc (fun _ => False) w (.cells #[] e)).trans (Upd.grown (S := fun k => w.heap.size ≤ k) hg (fun k hk => .inl (by simp [Value.ownBlock] at hk; omega))) (fun k hk hl => by omega)
  rw [Nat.zero_add, List.nil_append] at ho
  obtain ⟨gm, cap, rfl, h1, h2, h3⟩ := row_head ho h0
  exact ⟨gm, cap, rfl, h1, h2, hf3 gm rfl, h3, hu, Sl.of_row ho, fun q => row_thaw ho q⟩
section
variable (N N' : Nat) (t t' u : ByteArray) (C0 C1 C2 D0 D1 D2 : List InsM) (v : Value)
/-- the second one's second method with another result -/
def bentP : PIm := (⟨nmOf 1, [1, 2, 3, 4], appImps u t', [⟨[], 0, [1, 2, 3, 4], D0⟩, ⟨[1, 2], 1, [1, 2, 3, 4], D1⟩, ⟨[4, 3], 3, [1, 2], D2⟩], [1, 2]⟩, .slice (some ⟨N' + 2, 0, none⟩) 4 4, .slice (some ⟨N' + 7, 0, none⟩) 2 2, v, .slice (some ⟨N' + 3, 0, none⟩) 2 2)
def two3 : List PIm := [appP N (nmOf 0) (nmOf (wrap64 (0 + 1))) t C0 C1 C2, bentP N' t' u D0 D1 D2 v]
theorem k_a : resP [appP N (nmOf 0) (nmOf (wrap64 (0 + 1))) t C0 C1 C2] 0 0 = (0, 0, false) := by
  have hto : rTo [appP N (nmOf 0) (nmOf (wrap64 (0 + 1))) t C0 C1 C2] 0 0 = -1 := by
    unfold rTo
    rw [findP_data]
    kernel_rfl
  have hm : (rMth [appP N (nmOf 0) (nmOf (wrap64 (0 + 1))) t C0 C1 C2] 0 0).2 = false := by
    unfold rMth
    rw [hto]
    rfl
  exact resP_no (by unfold rOk; rw [hm]; simp)
theorem k_b : resP (two2 N N' t t' u C0 C1 C2 D0 D1 D2) 5 0 = (0, 0, false) := by kernel_rfl
theorem k_c : resP (two2 N N' t t' u C0 C1 C2 D0 D1 D2) 0 (-1) = (0, 0, false) := by kernel_rfl
theorem k_d : resP (two3 N N' t t' u C0 C1 C2 D0 D1 D2 v) 0 0 = (0, 0, false) := by
  have hto : rTo (two3 N N' t t' u C0 C1 C2 D0 D1 D2 v) 0 0 = 1 := by
    unfold rTo
    rw [findP_data]
    kernel_rfl
  have hm : rFit (two3 N N' t t' u C0 C1 C2 D0 D1 D2 v) 0 0 = false := by
    unfold rFit rHas rMth
    rw [hto]
    rfl
  exact resP_no (by unfold rOk; rw [hm]; simp)
theorem k_f1 : findP { data := #[98, 195, 169, 116, 97] } (two3 N N' t t' u C0 C1 C2 D0 D1 D2 v) = 1 := by
  rw [findP_data]
  kernel_rfl
theorem k_f2 : findP { data := #[122, 122] } (two3 N N' t t' u C0 C1 C2 D0 D1 D2 v) = -1 := by
  rw [findP_data]
  kernel_rfl
theorem k_f3 : findP { data := #[] } [] = -1 := rfl
end
theorem imgs_one {w : World} {g c : Nat} {p q : PIm} (h : Imgs w (.slice (some ⟨g, 0, none⟩) 2 c) [p, q]) : Imgs w (.slice (some ⟨g, 0, none⟩) 1 c) [p] :=
  ⟨(Sl.cutR (k := 1) h.1 (by decide)).congr (fun i hi j hj => by
    obtain rfl : i = 0 := by omega
    rfl), fun r hr => h.2 r (by simp at hr; simp [hr])⟩

set_option maxRecDepth 100000 in
set_option maxHeartbeats 8000000 in
theorem linkKnown_walk (w : World) (hB : Bins ⟨w, fun _ => False⟩) : Calls Tryd.prog 3 #[] w fun e w' => e = .returned (.bool true) ∧ Upd (fun _ => False) w w' := by
  have HB := Lib.hid hB
  clear hB
  go_enter Tryd.func3, Tryd.ntmps3
  go_wp2_with fail
  refine (hAppletX _ 0 _ [] (raws_nil _) (by simp) HB.out).mono ?_
  rintro e w1 ⟨s, s1, s2, c0, c1, c2, C0, C1, C2, rfl, hA, -, rfl, rfl⟩
  have HA := Lib.hid hA
  have HB1 := Lib.hid (binsUpd HB.out hA.up)
  clear hA
  go_wp2_with fail
  refine (hAppletX _ 1 _ [] (raws_nil _) (by simp) HB1.out).mono ?_
  rintro e w2 ⟨z, z1, z2, d0, d1, d2, D0, D1, D2, rfl, hA, -, rfl, -⟩
  obtain ⟨W, hW⟩ : ∃ W, W = w2.alloc (.cells #[.string (nmOf 0), .slice (some ⟨w.heap.size + 2, 0, none⟩) 4 4, .slice (some ⟨w.heap.size + 7, 0, none⟩) 2 2, .slice (some ⟨w.heap.size + 10, 0, none⟩) 3 3, .slice (some ⟨w.heap.size + 3, 0, none⟩) 2 2,
    .string (nmOf 1), .slice (some ⟨w1.heap.size + 2, 0, none⟩) 4 4, .slice (some ⟨w1.heap.size + 7, 0, none⟩) 2 2, .slice (some ⟨w1.heap.size + 10, 0, none⟩) 3 3, .slice (some ⟨w1.heap.size + 3, 0, none⟩) 2 2] 26) := ⟨_, rfl⟩
  have hal := Upd.alloc (fun _ => False) w2 (.cells #[.string (nmOf 0), .slice (some ⟨w.heap.size + 2, 0, none⟩) 4 4, .slice (some ⟨w.heap.size + 7, 0, none⟩) 2 2, .slice (some ⟨w.heap.size + 10, 0, none⟩) 3 3, .slice (some ⟨w.heap.size + 3, 0, none⟩) 2 2,
    .string (nmOf 1), .slice (some ⟨w1.heap.size + 2, 0, none⟩) 4 4, .slice (some ⟨w1.heap.size + 7, 0, none⟩) 2 2, .slice (some ⟨w1.heap.size + 10, 0, none⟩) 3 3, .slice (some ⟨w1.heap.size + 3, 0, none⟩) 2 2] 26)
  have hbk : W.heap[w2.heap.size]? = some (.cells #[.string (nmOf 0), .slice (some ⟨w.heap.size + 2, 0, none⟩) 4 4, .slice (some ⟨w.heap.size + 7, 0, none⟩) 2 2, .slice (some ⟨w.heap.size + 10, 0, none⟩) 3 3, .slice (some ⟨w.heap.size + 3, 0, none⟩) 2 2,
    .string (nmOf 1), .slice (some ⟨w1.heap.size + 2, 0, none⟩) 4 4, .slice (some ⟨w1.heap.size + 7, 0, none⟩) 2 2, .slice (some ⟨w1.heap.size + 10, 0, none⟩) 3 3, .slice (some ⟨w1.heap.size + 3, 0, none⟩) 2 2] 26 (0, 0)) := by rw [hW]; exact blk_top' _ _ _ rfl
  have hil := imgs_lit2 (HA.out.keep hA.up).isP hA.isP 26
  change Imgs (w2.alloc (.cells #[.string (nmOf 0), .slice (some ⟨w.heap.size + 2, 0, none⟩) 4 4, .slice (some ⟨w.heap.size + 7, 0, none⟩) 2 2, .slice (some ⟨w.heap.size + 10, 0, none⟩) 3 3, .slice (some ⟨w.heap.size + 3, 0, none⟩) 2 2,
    .string (nmOf 1), .slice (some ⟨w1.heap.size + 2, 0, none⟩) 4 4, .slice (some ⟨w1.heap.size + 7, 0, none⟩) 2 2, .slice (some ⟨w1.heap.size + 10, 0, none⟩) 3 3, .slice (some ⟨w1.heap.size + 3, 0, none⟩) 2 2] 26)) _ (two2 w.heap.size w1.heap.size s2 z2 z1 C0 C1 C2 D0 D1 D2) at hil
  rw [← hW] at hil hal
  have HP0 := Lib.hid (HA.out.keep hA.up).isP
  have HP1 := Lib.hid hA.isP
  obtain ⟨p, q, r, hS, hR, hres⟩ := hA.mets
  have HS := Lib.hid hS
  have HR := Lib.hid hR
  have HRS := Lib.hid hres
  have HUB := Lib.hid hal
  clear hS hR hres
  have HL := Lib.hid hil
  have HL1 := Lib.hid (imgs_one (p := appP w.heap.size (nmOf 0) (nmOf (wrap64 (0 + 1))) s2 C0 C1 C2) (q := appP w1.heap.size (nmOf 1) z1 z2 D0 D1 D2) hil)
  have HU := Lib.hid ((HA.out.up.trans hA.up (fun _ h _ => h)).trans hal (fun _ h _ => h))
  have HU2 := Lib.hid (Nat.le_trans HA.out.up.size hA.up.size)
  have HBK := Lib.hid hbk
  have HBW := Lib.hid (binsUpd HB.out HU.out)
  have Ha := Lib.hid (k_a w.heap.size s2 C0 C1 C2)
  have Hb := Lib.hid (k_b w.heap.size w1.heap.size s2 z2 z1 C0 C1 C2 D0 D1 D2)
  have Hc := Lib.hid (k_c w.heap.size w1.heap.size s2 z2 z1 C0 C1 C2 D0 D1 D2)
  have HW := Lib.hid hW
  have hBlt : w2.heap.size < W.heap.size := (Array.getElem?_eq_some_iff.1 hbk).1
  clear hA hal hil hW hbk HA HB1
  generalize appP w.heap.size (nmOf 0) (nmOf (wrap64 (0 + 1))) s2 C0 C1 C2 = p0 at HL1 Ha
  go_wp2_with fail
  rw [← HW.out]
  refine (nResolve _ _ [p0] HL1.out 0 0).mono ?_
  rintro e w3 ⟨rfl, hu⟩
  rw [Ha.out]
  have HU3 := Lib.hid hu
  have HL3 := Lib.hid (HL.out.later (upd_below hu))
  clear hu HL HL1 Ha
  generalize hL2 : two2 w.heap.size w1.heap.size s2 z2 z1 C0 C1 C2 D0 D1 D2 = L2 at HL3 Hb Hc
  clear hL2
  unfold resV
  dsimp only
  go_wp2_with fail
  refine (nResolve _ _ L2 HL3.out 5 0).mono ?_
  rintro e w4 ⟨rfl, hu⟩
  rw [Hb.out]
  have HU4 := Lib.hid (HU3.out.trans hu (fun _ h _ => h))
  have HL4 := Lib.hid (HL3.out.later (upd_below hu))
  clear hu HL3 HU3 Hb
  unfold resV
  dsimp only
  go_wp2_with fail
  refine (nResolve _ _ L2 HL4.out 0 (-1)).mono ?_
  rintro e w5 ⟨rfl, hu⟩
  rw [Hc.out]
  have HU5 := Lib.hid (HU4.out.trans hu (fun _ h _ => h))
  clear hu HL4 HU4 Hc
  unfold resV
  dsimp only
  have hbk := (HU5.out.block w2.heap.size hBlt id).trans HBK.out
  have hBlt5 : w2.heap.size < w5.heap.size := Nat.lt_of_lt_of_le hBlt HU5.out.size
  have hme := Upd.alloc (fun _ => False) w5 (.cells #[] 33)
  have HSRC := Lib.hid ((Mets.src HS.out HR.out (by simp [appMets])).upd ((HUB.out.trans HU5.out (fun _ h _ => h)).trans hme (fun _ h _ => h)) (fun _ _ h => h))
  have HE : Hid ((w5.alloc (.cells #[] 33)).ownsRow 0 33 4 (.slice (some ⟨w5.heap.size, 0, none⟩) 0 0) 0 []) := Lib.hid (bnEmpty _ _ _ _ rfl)
  have k8 := cells_at ((hme.block w2.heap.size hBlt5 id).trans hbk) 8 _ rfl
  obtain ⟨i0, hi, hz0, hz1, hz2⟩ := info_parts infoMet
  have HBK5 := Lib.hid hbk
  have HUW := Lib.hid (HU.out.trans HU5.out (fun _ h _ => h))
  have HU25 := Lib.hid (HUB.out.trans HU5.out (fun _ h _ => h))
  have HB5 := Lib.hid (binsUpd HBW.out HU5.out)
  have HLT := Lib.hid hBlt5
  have HWB := Lib.hid (show w.heap.size ≤ w2.heap.size from HU2.out)
  clear hbk hme HBK HU5 hBlt hBlt5 HBW HU HW HUB HU2
  generalize hBe : w2.heap.size = B at *
  have HBE := Lib.hid hBe
  clear hBe
  go_wp2_with (at_builtin; go_loud (refine wpList_append_mine _ rfl _ _ 24 rfl 0 33 i0 (.agg #[.slice none 0 0, .int .i64 0, .slice none 0 0, .slice none 0 0]) 4 80 Tryd.underlying24 hi hz0 hz1 hz2 rfl (by decide) (.slice (some ⟨w5.heap.size, 0, none⟩) 0 0) 0 [] rfl HE.out 3 (cellsL 4 3 (metF (appMets D0 D1 D2) p q r)) HSRC.out (by unfold maxLen; omega) (by omega) (Nat.zero_le _) ?_))
  intro v6 w6 ho hg hf
  obtain ⟨gm, cap, rfl, e1, e2, e3, e4, hu6, hS6, hfz⟩ := copy4 (n := 3) (f := metF (appMets D0 D1 D2) p q r) ho hg hf (by decide)
  have hbk6 := (hu6.block B HLT.out id).trans HBK5.out
  have hne : gm ≠ B := by have := HLT.out; omega
  have k8 := cells_at hbk6 8 _ rfl
  have f8 := cells_fr hbk6 8
  have hs7 := setAt w6 B 8 (.slice (some ⟨gm, 0, none⟩) 3 cap)
  have hbk7 := set_blk (j := 8) (v := .slice (some ⟨gm, 0, none⟩) 3 cap) hbk6
  have hS7 : Sl (w6.setCell ⟨B, 8, none⟩ (.slice (some ⟨gm, 0, none⟩) 3 cap)) (.slice (some ⟨gm, 0, none⟩) 3 cap) 4 3 (metF (appMets D0 D1 D2) p q r) := hS6.upd hs7 (fun k hk e => hne (by simp [Value.ownBlock] at hk; omega))
  have m8 := cells_at hbk7 8 (.slice (some ⟨gm, 0, none⟩) 3 cap) rfl
  have hfz7 : (w6.setCell ⟨B, 8, none⟩ (.slice (some ⟨gm, 0, none⟩) 3 cap)).frozen? ⟨gm, 5, none⟩ = false := by
    rw [World.frozen?_of_block (w := w6) (hs7.block gm e4 hne)]
    exact hfz 5
  obtain ⟨g9, o9, he9, h9⟩ := hS7.at (k := 1) (by decide)
  simp only [Option.some.injEq, Addr.mk.injEq, and_true] at he9
  obtain ⟨rfl, rfl⟩ := he9
  have k9 : (w6.setCell ⟨B, 8, none⟩ (.slice (some ⟨gm, 0, none⟩) 3 cap)).cell? ⟨gm, 5, none⟩ = some (.int .i64 2) := h9 1 (by decide)
  have hs8 := setAt (w6.setCell ⟨B, 8, none⟩ (.slice (some ⟨gm, 0, none⟩) 3 cap)) gm 5 (.int .i64 1)
  have HS8 := Lib.hid (hS7.put (k := 1) (l := 1) (by decide) (by decide) (.int .i64 1))
  have HBK8 := Lib.hid (set_keep (p := ⟨gm, 5, none⟩) (v := .int .i64 1) hbk7 hne)
  have HU8 : Hid (Upd (fun k => k = B) w5 ((w6.setCell ⟨B, 8, none⟩ (.slice (some ⟨gm, 0, none⟩) 3 cap)).setCell ⟨gm, 5, none⟩ (.int .i64 1))) := Lib.hid (((hu6.mono (fun _ h _ => h.elim)).trans hs7 (fun _ h _ => h)).trans hs8 (fun k hk hl => by omega))
  have HFZ := Lib.hid hfz
  clear hs7 hbk7 hS7 hs8 h9 hS6 hbk6 hu6 ho hg hf hfz hne e3 e4 HSRC HE
  unfold maxLen at e2
  go_wp2_with fail
  have HN3 := Lib.hid (show Upd (fun k => w2.heap.size ≤ k) w2 _ from (HU25.out.mono (fun _ h _ => h.elim)).trans HU8.out (fun k hk _ => by have := HBE.out; omega))
  have HUF := Lib.hid (show Upd (fun _ => False) w _ from HUW.out.trans HU8.out (fun k hk hl => by have := HWB.out; omega))
  generalize (w6.setCell ⟨B, 8, none⟩ (.slice (some ⟨gm, 0, none⟩) 3 cap)).setCell ⟨gm, 5, none⟩ (.int .i64 1) = W8 at *
  have hbe : Below w2.heap.size w2 W8 := HN3.out.below (Nat.le_refl _) (fun k hk => hk)
  have HL8 : Hid (Imgs W8 (.slice (some ⟨B, 0, none⟩) 2 2) (two3 w.heap.size w1.heap.size s2 z2 z1 C0 C1 C2 D0 D1 D2 (.slice (some ⟨gm, 0, none⟩) 3 cap))) := Lib.hid (by
    refine ⟨(Sl.blk HBK8.out 5 2 2 (by simp) (by omega) (by decide)).congr fun i hi j hj => ?_, fun x hx => ?_⟩
    · have hi2 : i < 2 := hi
      rcases (by omega : i = 0 ∨ i = 1) with rfl | rfl <;> rcases (by omega : j = 0 ∨ j = 1 ∨ j = 2 ∨ j = 3 ∨ j = 4) with rfl | rfl | rfl | rfl | rfl <;> rfl
    · simp only [two3, List.mem_cons, List.not_mem_nil, or_false] at hx
      rcases hx with rfl | rfl
      · exact HP0.out.later hbe
      · have h1 := HP1.out.later hbe
        refine ⟨h1.1, h1.2.1, ⟨p, q, r, HS8.out.congr fun i hi j hj => ?_, fun i hi => ?_, fun x hx => ?_⟩, h1.2.2.2.1, h1.2.2.2.2⟩
        · rcases (by omega : i = 0 ∨ i = 1 ∨ i = 2) with rfl | rfl | rfl <;> rcases (by omega : j = 0 ∨ j = 1 ∨ j = 2 ∨ j = 3) with rfl | rfl | rfl | rfl <;> rfl
        · have hi3 : i < 3 := hi
          rcases (by omega : i = 0 ∨ i = 1 ∨ i = 2) with rfl | rfl | rfl
          · have := HR.out 0 (by simp [appMets]); exact ⟨this.1.later hbe, this.2.1.later hbe, this.2.2.later hbe⟩
          · have := HR.out 1 (by simp [appMets]); exact ⟨this.1.later hbe, this.2.1.later hbe, this.2.2.later hbe⟩
          · have := HR.out 2 (by simp [appMets]); exact ⟨this.1.later hbe, this.2.1.later hbe, this.2.2.later hbe⟩
        · simp [bentP] at hx
          rcases hx with rfl | rfl | rfl <;> simp [wi64])
  have Hd := Lib.hid (k_d w.heap.size w1.heap.size s2 z2 z1 C0 C1 C2 D0 D1 D2 (.slice (some ⟨gm, 0, none⟩) 3 cap))
  have Hf1 := Lib.hid (k_f1 w.heap.size w1.heap.size s2 z2 z1 C0 C1 C2 D0 D1 D2 (.slice (some ⟨gm, 0, none⟩) 3 cap))
  have Hf2 := Lib.hid (k_f2 w.heap.size w1.heap.size s2 z2 z1 C0 C1 C2 D0 D1 D2 (.slice (some ⟨gm, 0, none⟩) 3 cap))
  generalize two3 w.heap.size w1.heap.size s2 z2 z1 C0 C1 C2 D0 D1 D2 (.slice (some ⟨gm, 0, none⟩) 3 cap) = L3 at *
  have HB8 := Lib.hid (binsUpd HB.out HUF.out)
  clear hbe HS8 HBK8 HN3 HU8 k8 f8 m8 k9 hfz7
  refine (nResolve _ _ L3 HL8.out 0 0).mono ?_
  rintro e w9 ⟨rfl, hu⟩
  rw [Hd.out]
  have HU9 := Lib.hid (HUF.out.trans hu (fun _ h _ => h))
  have HL9 := Lib.hid (HL8.out.later (upd_below hu))
  have HB9 := Lib.hid (binsUpd HB8.out hu)
  clear hu HL8 HUF HB8 Hd
  unfold resV
  dsimp only
  go_wp2_with fail
  refine (lKnown _ HB9.out).mono ?_
  rintro e w10 ⟨rfl, hu⟩
  have HU10 := Lib.hid (HU9.out.trans hu (fun _ h _ => h))
  have HL10 := Lib.hid (HL9.out.later (upd_below hu))
  clear hu HL9 HU9 HB9
  go_wp2_with fail
  refine (nFind _ _ L3 HL10.out _).mono ?_
  rintro e w11 ⟨rfl, hu⟩
  rw [Hf1.out]
  have HU11 := Lib.hid (HU10.out.trans hu (fun _ h _ => h))
  have HL11 := Lib.hid (HL10.out.later (upd_below hu))
  clear hu HL10 HU10 Hf1
  go_wp2_with fail
  refine (nFind _ _ L3 HL11.out _).mono ?_
  rintro e w12 ⟨rfl, hu⟩
  rw [Hf2.out]
  have HU12 := Lib.hid (HU11.out.trans hu (fun _ h _ => h))
  clear hu HL11 HU11 Hf2
  go_wp2_with fail
  refine (nFind _ _ [] (imgs_nil _) _).mono ?_
  rintro e w13 ⟨rfl, hu⟩
  rw [k_f3]
  have HU13 := Lib.hid (HU12.out.trans hu (fun _ h _ => h))
  clear hu HU12
  go_wp2_with fail
  go_ret
  exact ⟨rfl, HU13.out⟩
end Go.Proofs.YtkjmpobbbjljjaaDoor

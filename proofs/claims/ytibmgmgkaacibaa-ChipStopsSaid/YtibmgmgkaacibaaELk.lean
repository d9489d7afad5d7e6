/- Stage 16: ChipStops. -/
import Derived.Test.YtibmgmgkaacibaaEKk
import Derived.Test.YtibmgmgkaacibaaEIk
namespace Go.Proofs.Ytibmgmgkaacibaa
open Go.RowKit Go.ChangeShapes Go.WideShapes Go.Deep Go.IntWalk
set_option linter.unusedVariables false
set_option linter.unusedSimpArgs false
def spL : List I6 := [⟨32, 0, 1, 0, 0, 0⟩, ⟨45, 0, 0, 0, 0, 0⟩]
def spM : Nat → Nat := loadM (fun _ => 0) 0 (encL spL)
theorem spOk : ∀ i ∈ spL, rightP i = true := by decide +kernel
theorem spR : readI spM 0 = ⟨32, 0, 1, 0, 0, 0⟩ ∧ readB spM 0 = true := by decide +kernel
def spX (n k : Nat) : Ch := (Ch.zero.withR 0 n).withR 1 k
def spS (n k : Nat) : Ws := ⟨spX n k, spM, none⟩
theorem spo_step (n k : Nat) (hk : k < 131072) : stepW (spS n k) = ⟨{ spX n k with st := 2 }, spM, none⟩ := by
  obtain ⟨r1, r2⟩ := spR
  have hok : okSw (k : Int) = false := by unfold okSw; exact decide_eq_false (by omega)
  obtain ⟨X, hX⟩ : ∃ X, doX1 32 (spX n k) = X := ⟨_, rfl⟩
  have hX0 : X.R 0 = n := by rw [← hX]; rfl
  have hX1 : X.R 1 = k := by rw [← hX]; rfl
  have ha : ansP 32 0 0 0 k 0 4 X spM = ⟨X.need false, (k : Int), 2, spM, 0⟩ := by
    rw [ansP_32, show (k + 0) % 4294967296 = k by omega, hok]
    unfold swM
    rw [hok]
    rfl
  have e : doOf ⟨32, 0, 1, 0, 0, 0⟩ (spX n k) spM = _ := doOf_eq 32 0 1 0 0 0 (spX n k) spM X hX k 0 4 hX1 rfl rfl _ ha
  have e2 : doOf ⟨32, 0, 1, 0, 0, 0⟩ (spX n k) spM = ⟨X.need false, (k : Int), 2, spM, 0⟩ := e.trans (by rw [stD_no rfl, sgP_no rfl])
  have h := stepW_run (s := spS n k) rfl (show readB spM 0 = true from r2) (q := ⟨X.need false, (k : Int), 2, spM, 0⟩) (by show doOf (readI spM 0) (spX n k) spM = _; rw [r1]; exact e2)
  rw [h, stepQ_2 _ _ rfl]
  rfl
theorem spo_run (n k : Nat) : runW 5 ⟨{ spX n k with st := 2 }, spM, none⟩ = ⟨{ spX n k with st := 2 }, spM, none⟩ := runW_stop (show (2 : Int) ≠ 0 by decide) 5
theorem spE : encP ⟨45, 0, 0, 0, 0, 0⟩ = [48896] := by decide +kernel
set_option maxRecDepth 20000 in
set_option maxHeartbeats 2000000 in
theorem chipStops_walk (w : World) (at_ : Int) (n : Nat) (hn : n < 4294967296) : Calls Try.prog 8 #[.int .i64 at_, .int .u32 (n : Int)] w fun e w' => e = .returned (.bool true) ∧ Upd (fun _ => False) w w' := by
  obtain ⟨p, hp⟩ : ∃ p : Nat, at_ % 32768 = (p : Int) := ⟨(at_ % 32768).toNat, by omega⟩
  have hp3 : p < 32768 := by omega
  have HP := Lib.hid hp
  obtain ⟨k, hk⟩ : ∃ k : Nat, 4 * (p : Int) = (k : Int) := ⟨4 * p, by omega⟩
  have q1 : IntKind.i64.wrap (4 * (p : Int)) = (k : Int) := by rw [hk]; exact i64_in _ (by omega)
  have q3 : (k : Int) % 4294967296 = (k : Int) := by omega
  have q8 : IntKind.i64.wrap (k : Int) = (k : Int) := i64_in _ (by omega)
  have HK := Lib.hid (show k < 131072 by omega)
  clear hp hk hp3
  have hL := isL_lit w spL 36 #[.int .i64 32, .int .i64 0, .int .i64 1, .int .i64 0, .int .i64 0, .int .i64 0, .int .i64 45, .int .i64 0, .int .i64 0, .int .i64 0, .int .i64 0, .int .i64 0] 2 rfl rfl (by omega)
  have HLD := Lib.hid (lLoad _ w.heap.size 2 spL hL (by simp) spOk (show 2 ≤ 100 by decide) 0 rfl (by omega))
  have HAL := Lib.hid (Upd.alloc (fun _ => False) w (.cells #[.int .i64 32, .int .i64 0, .int .i64 1, .int .i64 0, .int .i64 0, .int .i64 0, .int .i64 45, .int .i64 0, .int .i64 0, .int .i64 0, .int .i64 0, .int .i64 0] 36))
  have HG0 := Lib.hid (show w.heap.size ≤ (w.alloc (.cells #[.int .i64 32, .int .i64 0, .int .i64 1, .int .i64 0, .int .i64 0, .int .i64 0, .int .i64 45, .int .i64 0, .int .i64 0, .int .i64 0, .int .i64 0, .int .i64 0] 36)).heap.size by simp)
  clear hL
  go_enter Try.func8, Try.ntmps8
  go_wp2_with fail
  refine (hPick _ 32768 w (by decide) (by decide)).mono ?_
  rintro e w' ⟨rfl, rfl⟩
  rw [HP.out]
  go_wp2_with fail
  refine HLD.out.mono ?_
  rintro e w1 ⟨rfl, hm, hu⟩
  have HM1 := Lib.hid hm
  have HU1 := Lib.hid (HAL.out.trans hu (fun _ h _ => h))
  generalize (w.alloc (.cells #[.int .i64 32, .int .i64 0, .int .i64 1, .int .i64 0, .int .i64 0, .int .i64 0, .int .i64 45, .int .i64 0, .int .i64 0, .int .i64 0, .int .i64 0, .int .i64 0] 36)).heap.size = g at *
  generalize g + 1 = bm at *
  clear hm hu HLD HAL
  go_wp2_with fail
  refine (cNew _).mono ?_
  rintro e w2 ⟨rfl, hc, hu⟩
  have HM2 := Lib.hid (HM1.out.upd hu (fun h => h) (fun h => h))
  have HU2 := Lib.hid (HU1.out.trans hu (fun _ h _ => h))
  have HC2 := Lib.hid hc
  have HN1 := Lib.hid (show w1.heap.size ≠ bm by have := HM1.out.lt; omega)
  have HN2 := Lib.hid (show w1.heap.size ≠ g by have := HM1.out.lt; omega)
  have HCB := Lib.hid HU1.out.size
  generalize w1.heap.size = cb at *
  clear hc hu HM1 HU1
  go_wp2_with fail
  refine (known16 _).mono ?_
  rintro e w3 ⟨rfl, hu⟩
  have HM3 := Lib.hid (HM2.out.upd hu (fun h => h) (fun h => h))
  have HU3 := Lib.hid (HU2.out.trans hu (fun _ h _ => h))
  have HC3 := Lib.hid (HC2.out.upd hu (fun h => h))
  clear hu HM2 HU2 HC2
  go_wp2_with fail
  refine (mWord HM3.out (k : Int) (by unfold rng64; omega)).mono ?_
  rintro e w4 ⟨rfl, hu⟩
  have HM4 := Lib.hid (HM3.out.upd hu (fun h => h) (fun h => h))
  have HU4 := Lib.hid (HU3.out.trans hu (fun _ h _ => h))
  have HC4 := Lib.hid (HC3.out.upd hu (fun h => h))
  obtain ⟨wd, hwd⟩ : ∃ wd, wdP spM (k : Int) = wd := ⟨_, rfl⟩
  have HWD := Lib.hid hwd
  rw [show loadM (fun _ => 0) 0 (encL spL) = spM from rfl, hwd]
  clear hu HM3 HU3 HC3 hwd
  have c0 := HC4.out.c0
  have c1 := HC4.out.c1
  have f0 := HC4.out.fz 0
  have f1 := HC4.out.fz 1
  have HC5 := Lib.hid ((HC4.out.setR 0 (by decide) n hn).setR 1 (by decide) k (by have := HK.out; omega))
  have HU5 := Lib.hid ((Sp.setU w4 cb 0 (.int .u32 (n : Int))).putU 1 (.int .u32 (k : Int)))
  go_wp2_with fail
  have HW5 : Hid (Wd ((w4.setCell ⟨cb, 0, none⟩ (.int .u32 (n : Int))).setCell ⟨cb, 1, none⟩ (.int .u32 (k : Int))) cb bm g (.pointer none) (fun _ => False) (spS n k)) := Lib.hid ⟨HC5.out, HM4.out.upd HU5.out (fun e => HN1.out e.symm) (fun e => HN2.out e.symm), rfl, fun k hk => hk.elim, HN1.out, HN2.out⟩
  have HUW : Hid (Upd (fun _ => False) w ((w4.setCell ⟨cb, 0, none⟩ (.int .u32 (n : Int))).setCell ⟨cb, 1, none⟩ (.int .u32 (k : Int)))) := Lib.hid (HU4.out.trans HU5.out (fun k hk hl => by have := HCB.out; omega))
  generalize ((w4.setCell ⟨cb, 0, none⟩ (.int .u32 (n : Int))).setCell ⟨cb, 1, none⟩ (.int .u32 (k : Int))) = w5 at *
  clear HC5 HU5 HM4 HU4 HC4 c0 c1 f0 f1
  refine (cStep HW5.out (n := 0) ⟨(by show (0 : Int) ≤ 0; decide), (by show (0 : Int) + 1000 * ((0 + 1 : Nat) : Int) ≤ 1099511627776; decide), fun l hl => by simp [spS] at hl⟩).mono ?_
  rw [spo_step n k HK.out]
  rintro e w6 ⟨rfl, F6, hF6, hd, hu⟩
  have HUW6 : Hid (Upd (fun _ => False) w w6) := Lib.hid (HUW.out.trans hu (fun k hk hl => by
    have := HCB.out
    have := HG0.out
    rcases hk with e | e | e
    · omega
    · omega
    · exact e.elim))
  have HF6 : Hid (∀ j, F6 j → w.heap.size ≤ j) := Lib.hid (fun j hj => by
    rcases hF6 j hj with e | e
    · exact e.elim
    · have := HUW.out.size; omega)
  obtain ⟨x2, hx2⟩ : ∃ x2, { spX n k with st := 2 } = x2 := ⟨_, rfl⟩
  have HX2 := Lib.hid hx2
  rw [hx2] at hd
  have HD6 := Lib.hid hd
  have hb6 := hd.cp.box
  clear hd hu hF6 hx2 HW5 HUW
  dsimp only
  go_upto_region 10 with fail
  refine wp_region_lit ?_
  refine wpList_val (.pointer (some ⟨cb, 0, none⟩)) rfl (by kernel_rfl) ?_
  refine wpList_val (.pointer (some ⟨cb, 0, none⟩)) rfl (by kernel_rfl) ?_
  refine wpList_load_mid rfl 44 (.tmp 55) rfl cb 0 (by rfl) (chA x2).toList _ HD6.out.cp.range Try.underlying44 rfl (by kernel_rfl) ?_
  go_wp2_with (refine wpList_store_row rfl 44 (.tmp 11) (.tmp 56) rfl w6.heap.size (chA x2) (by rfl) (by rfl) 44 _ (eTop _ _ _ rfl) (by kernel_rfl) rfl (ch_one _) ?_)
  obtain ⟨wz, hwz⟩ : ∃ wz, wz = w6.alloc (.cells #[.int .u32 0, .int .u32 0, .int .u32 0, .int .u32 0, .int .u32 0, .int .u32 0, .int .u32 0, .int .u32 0, .int .u32 0, .int .u32 0, .int .u32 0, .int .u32 0, .int .u32 0, .int .u32 0, .int .u32 0, .int .u32 0, .bool false, .bool false, .bool false, .bool false, .int .i64 0, .int .i64 0, .int .i64 0] 44) := ⟨_, rfl⟩
  have huz : Upd (fun _ => False) w6 wz := by rw [hwz]; exact Upd.alloc _ _ _
  have hgz : wz.heap[w6.heap.size]? = some (.cells #[.int .u32 0, .int .u32 0, .int .u32 0, .int .u32 0, .int .u32 0, .int .u32 0, .int .u32 0, .int .u32 0, .int .u32 0, .int .u32 0, .int .u32 0, .int .u32 0, .int .u32 0, .int .u32 0, .int .u32 0, .int .u32 0, .bool false, .bool false, .bool false, .bool false, .int .i64 0, .int .i64 0, .int .i64 0] 44 (0, 0)) := by rw [hwz]; exact eTop _ _ _ rfl
  rw [← hwz]
  clear hwz
  obtain ⟨xb, hxb⟩ : ∃ xb, xb = w6.heap.size := ⟨_, rfl⟩
  rw [← hxb] at hgz ⊢
  have hur : Upd (fun q => q = xb) wz (wz.setRow xb (chA x2)) := ⟨rfl, rfl, rfl, by simp, fun q hq hne => setRow_other wz xb q _ hne⟩
  have hu7 : Upd (fun _ => False) w6 (wz.setRow xb (chA x2)) := huz.trans hur (fun q hq hl => by omega)
  have hcp7 : Cp (wz.setRow xb (chA x2)) xb x2 := ⟨setRow_heap wz xb _ _ _ _ hgz, HD6.out.cp.ok⟩
  obtain ⟨w7, hw7⟩ : ∃ w7, w7 = wz.setRow xb (chA x2) := ⟨_, rfl⟩
  rw [← hw7] at hu7 hcp7 ⊢
  have HD7 : Hid (Wd w7 cb bm g (.pointer none) F6 ⟨x2, spM, none⟩) := Lib.hid ⟨HD6.out.cp.upd hu7 (fun h => h), HD6.out.mm.upd hu7 (fun h => h) (fun h => h), HD6.out.tr, fun j hj => ⟨Nat.lt_of_lt_of_le (HD6.out.fr j hj).1 hu7.size, (HD6.out.fr j hj).2⟩, HN1.out, HN2.out⟩
  have HU7 := Lib.hid (HUW6.out.trans hu7 (fun _ h _ => h))
  have HXB := Lib.hid (show cb ≠ xb ∧ g ≠ xb from ⟨by have := HD6.out.cp.lt; omega, by have := HD6.out.mm.lt; omega⟩)
  have HF7 := Lib.hid (fun j hj => (show j < xb by rw [hxb]; exact (HD6.out.fr j hj).1))
  have HC7 := Lib.hid hcp7
  clear hcp7 hu7 hur huz hgz hw7 hxb HD6 HUW6 hb6
  go_wp2_with fail
  refine (cRun HD7.out 5 (by decide) ⟨(by rw [← HX2.out]; show (0 : Int) ≤ 0; decide), (by rw [← HX2.out]; show (0 : Int) + 1000 * ((5 + 1 : Nat) : Int) ≤ 1099511627776; decide), fun l hl => by simp at hl⟩).mono ?_
  rw [show runW 5 ⟨x2, spM, none⟩ = ⟨x2, spM, none⟩ by rw [← HX2.out]; exact spo_run n k]
  rintro e w8 ⟨rfl, F8, hF8, hd, hu⟩
  have HC8 := Lib.hid (HC7.out.upd hu (fun h => by
    rcases h with e | e | e
    · exact HXB.out.1 e.symm
    · exact HXB.out.2 e.symm
    · exact Nat.lt_irrefl _ (HF7.out _ e)))
  have HU8 : Hid (Upd (fun _ => False) w w8) := Lib.hid (HU7.out.trans hu (fun k hk hl => by
    have := HCB.out
    have := HG0.out
    rcases hk with e | e | e
    · omega
    · omega
    · have := HF6.out k e; omega))
  have HD8 := Lib.hid hd
  clear hF8 hd hu HD7 HC7 HU7 HF7
  dsimp only
  rw [show x2.st = 2 by rw [← HX2.out]]
  go_wp2_with fail
  refine (mWord HD8.out.mm (k : Int) (by have := HK.out; unfold rng64; omega)).mono ?_
  rintro e w9 ⟨rfl, hu⟩
  rw [show wdP spM (k : Int) = wd from HWD.out]
  have HC9 := Lib.hid (HC8.out.upd hu (fun h => h))
  have HA9 := Lib.hid (HD8.out.cp.upd hu (fun h => h))
  have HU9 := Lib.hid (HU8.out.trans hu (fun _ h _ => h))
  clear hu HC8 HD8 HU8
  go_upto_region 13 with fail
  have hHeld : (fun w' : World => Cp w' cb x2 ∧ Cp w' xb x2) w9.drew := ⟨HA9.out.upd (Upd.drew (fun _ => False) w9) (fun h => h), HC9.out.upd (Upd.drew (fun _ => False) w9) (fun h => h)⟩
  have HUD := Lib.hid (HU9.out.trans (Upd.drew (fun _ => False) w9) (fun _ h _ => h))
  have hR15 : x2.R 15 = 0 := by rw [← HX2.out]; rfl
  have hcyc : x2.cyc = 0 := by rw [← HX2.out]; rfl
  have HR := Lib.hid (And.intro hR15 hcyc)
  clear hR15 hcyc HC9 HA9 HU9
  refine wp_region_last (S := (fun w' : World => Cp w' cb x2 ∧ Cp w' xb x2)) 39 _ (by kernel_rfl) (by kernel_rfl) rfl ?_
  obtain ⟨V, hV⟩ : ∃ V, V = Value.agg (chA x2) := ⟨_, rfl⟩
  have HV := Lib.hid hV
  clear hV
  change wpHL _ _ _ _ _ _ _ _ _ _ w9.drew
  generalize w9.drew = w10 at *
  refine wpHL_take (i := 0) (v := ?_) rfl (by kernel_rfl) (fun _ _ _ h => h) hHeld (Or.inl ⟨by rfl, ?_⟩) ?_
  rotate_left
  · (intro w hSw; obtain ⟨y0, y1⟩ := hSw; go_simp; try with_reducible rfl)
  try simp only [Act.put, List.getElem_toArray, List.getElem_cons_succ, List.getElem_cons_zero, List.setIfInBounds_toArray, List.set_cons_zero, List.set_cons_succ]
  refine wpHL_take (i := 1) (v := ?_) rfl (by kernel_rfl) (fun _ _ _ h => h) hHeld (Or.inl ⟨by rfl, ?_⟩) ?_
  rotate_left
  · (intro w hSw; obtain ⟨y0, y1⟩ := hSw; go_simp; try with_reducible rfl)
  try simp only [Act.put, List.getElem_toArray, List.getElem_cons_succ, List.getElem_cons_zero, List.setIfInBounds_toArray, List.set_cons_zero, List.set_cons_succ]
  refine wpHL_take (i := 2) (v := ?_) rfl (by kernel_rfl) (fun _ _ _ h => h) hHeld (Or.inl ⟨by rfl, ?_⟩) ?_
  rotate_left
  · (intro w hSw; obtain ⟨y0, y1⟩ := hSw; go_simp; try with_reducible rfl)
  try simp only [Act.put, List.getElem_toArray, List.getElem_cons_succ, List.getElem_cons_zero, List.setIfInBounds_toArray, List.set_cons_zero, List.set_cons_succ]
  refine wpHL_take (i := 3) (v := ?_) rfl (by kernel_rfl) (fun _ _ _ h => h) hHeld (Or.inl ⟨by rfl, ?_⟩) ?_
  rotate_left
  · (intro w hSw; obtain ⟨y0, y1⟩ := hSw; go_simp; try with_reducible rfl)
  try simp only [Act.put, List.getElem_toArray, List.getElem_cons_succ, List.getElem_cons_zero, List.setIfInBounds_toArray, List.set_cons_zero, List.set_cons_succ]
  refine wpHL_take (i := 4) (v := ?_) rfl (by kernel_rfl) (fun _ _ _ h => h) hHeld (Or.inl ⟨by rfl, ?_⟩) ?_
  rotate_left
  · (intro w hSw; obtain ⟨y0, y1⟩ := hSw; go_simp; try with_reducible rfl)
  try simp only [Act.put, List.getElem_toArray, List.getElem_cons_succ, List.getElem_cons_zero, List.setIfInBounds_toArray, List.set_cons_zero, List.set_cons_succ]
  refine wpHL_take (i := 5) (v := ?_) rfl (by kernel_rfl) (fun _ _ _ h => h) hHeld (Or.inl ⟨by rfl, ?_⟩) ?_
  rotate_left
  · (intro w hSw; obtain ⟨y0, y1⟩ := hSw; go_simp; try with_reducible rfl)
  try simp only [Act.put, List.getElem_toArray, List.getElem_cons_succ, List.getElem_cons_zero, List.setIfInBounds_toArray, List.set_cons_zero, List.set_cons_succ]
  refine wpHL_take (i := 6) (v := ?_) rfl (by kernel_rfl) (fun _ _ _ h => h) hHeld (Or.inl ⟨by rfl, ?_⟩) ?_
  rotate_left
  · (intro w hSw; obtain ⟨y0, y1⟩ := hSw; go_simp; try with_reducible rfl)
  try simp only [Act.put, List.getElem_toArray, List.getElem_cons_succ, List.getElem_cons_zero, List.setIfInBounds_toArray, List.set_cons_zero, List.set_cons_succ]
  refine wpHL_take (i := 7) (v := ?_) rfl (by kernel_rfl) (fun _ _ _ h => h) hHeld (Or.inl ⟨by rfl, ?_⟩) ?_
  rotate_left
  · (intro w hSw; obtain ⟨y0, y1⟩ := hSw; go_simp; try with_reducible rfl)
  try simp only [Act.put, List.getElem_toArray, List.getElem_cons_succ, List.getElem_cons_zero, List.setIfInBounds_toArray, List.set_cons_zero, List.set_cons_succ]
  refine wpHL_take (i := 8) (v := ?_) rfl (by kernel_rfl) (fun _ _ _ h => h) hHeld (Or.inl ⟨by rfl, ?_⟩) ?_
  rotate_left
  · (intro w hSw; obtain ⟨y0, y1⟩ := hSw; go_simp; try with_reducible rfl)
  try simp only [Act.put, List.getElem_toArray, List.getElem_cons_succ, List.getElem_cons_zero, List.setIfInBounds_toArray, List.set_cons_zero, List.set_cons_succ]
  refine wpHL_take (i := 9) (v := V) rfl (by kernel_rfl) (fun _ _ _ h => h) hHeld (by rw [HV.out]; exact yieldsIf_load_mid (by rfl) 44 (.tmp 75) rfl cb 0 (by rfl) (chA x2).toList _ (fun u hS => hS.1.range) Try.underlying44 rfl (by kernel_rfl)) ?_
  try simp only [Act.put, List.getElem_toArray, List.getElem_cons_succ, List.getElem_cons_zero, List.setIfInBounds_toArray, List.set_cons_zero, List.set_cons_succ]
  refine wpHL_take (i := 10) (v := V) rfl (by kernel_rfl) (fun _ _ _ h => h) hHeld (by rw [HV.out]; exact yieldsIf_load_mid (by rfl) 44 (.tmp 11) rfl xb 0 (by rfl) (chA x2).toList _ (fun u hS => hS.2.range) Try.underlying44 rfl (by kernel_rfl)) ?_
  try simp only [Act.put, List.getElem_toArray, List.getElem_cons_succ, List.getElem_cons_zero, List.setIfInBounds_toArray, List.set_cons_zero, List.set_cons_succ]
  refine wpHL_take (i := 11) (v := .bool true) rfl (by kernel_rfl) (fun _ _ _ h => h) hHeld (Or.inl ⟨by rfl, fun u hS => by
    have hE := eql_chip u x2
    rw [← HV.out] at hE
    go_simp
    have hG : (eqGuard .eql 44 (.tmp 76) (.tmp 77) V V).run Try.prog u = .ok () u := by rw [HV.out]; exact run_eqGuard_agg u .eql _ _ _ (chA x2) (chA x2) (by kernel_rfl)
    rw [hG]
    simp only [Result.andThen_ok]
    rw [hE]; rfl⟩) ?_
  try simp only [Act.put, List.getElem_toArray, List.getElem_cons_succ, List.getElem_cons_zero, List.setIfInBounds_toArray, List.set_cons_zero, List.set_cons_succ]
  refine wpHL_take (i := 12) (v := ?_) rfl (by kernel_rfl) (fun _ _ _ h => h) hHeld (Or.inl ⟨by rfl, ?_⟩) ?_
  rotate_left
  · (intro w hSw; obtain ⟨y0, y1⟩ := hSw; go_simp; try with_reducible rfl)
  try simp only [Act.put, List.getElem_toArray, List.getElem_cons_succ, List.getElem_cons_zero, List.setIfInBounds_toArray, List.set_cons_zero, List.set_cons_succ]
  refine wpHL_take (i := 13) (v := ?_) rfl (by kernel_rfl) (fun _ _ _ h => h) hHeld (Or.inl ⟨by rfl, ?_⟩) ?_
  rotate_left
  · (intro w hSw; obtain ⟨y0, y1⟩ := hSw; go_simp; try with_reducible rfl)
  try simp only [Act.put, List.getElem_toArray, List.getElem_cons_succ, List.getElem_cons_zero, List.setIfInBounds_toArray, List.set_cons_zero, List.set_cons_succ]
  refine wpHL_take (i := 14) (v := ?_) rfl (by kernel_rfl) (fun _ _ _ h => h) hHeld (Or.inl ⟨by rfl, ?_⟩) ?_
  rotate_left
  · (intro w hSw; obtain ⟨y0, y1⟩ := hSw; go_simp; try with_reducible rfl)
  try simp only [Act.put, List.getElem_toArray, List.getElem_cons_succ, List.getElem_cons_zero, List.setIfInBounds_toArray, List.set_cons_zero, List.set_cons_succ]
  refine wpHL_take (i := 15) (v := ?_) rfl (by kernel_rfl) (fun _ _ _ h => h) hHeld (Or.inl ⟨by rfl, ?_⟩) ?_
  rotate_left
  · (intro w hSw; obtain ⟨y0, y1⟩ := hSw; go_simp; try with_reducible rfl)
  try simp only [Act.put, List.getElem_toArray, List.getElem_cons_succ, List.getElem_cons_zero, List.setIfInBounds_toArray, List.set_cons_zero, List.set_cons_succ]
  refine wpHL_take (i := 16) (v := ?_) rfl (by kernel_rfl) (fun _ _ _ h => h) hHeld (Or.inl ⟨by rfl, ?_⟩) ?_
  rotate_left
  · (intro w hSw; obtain ⟨y0, y1⟩ := hSw; go_simp; try with_reducible rfl)
  try simp only [Act.put, List.getElem_toArray, List.getElem_cons_succ, List.getElem_cons_zero, List.setIfInBounds_toArray, List.set_cons_zero, List.set_cons_succ]
  refine wpHL_take (i := 17) (v := ?_) rfl (by kernel_rfl) (fun _ _ _ h => h) hHeld (Or.inl ⟨by rfl, ?_⟩) ?_
  rotate_left
  · (intro w hSw; obtain ⟨y0, y1⟩ := hSw; go_simp; try with_reducible rfl)
  try simp only [Act.put, List.getElem_toArray, List.getElem_cons_succ, List.getElem_cons_zero, List.setIfInBounds_toArray, List.set_cons_zero, List.set_cons_succ]
  refine wpHL_take (i := 18) (v := ?_) rfl (by kernel_rfl) (fun _ _ _ h => h) hHeld (Or.inl ⟨by rfl, ?_⟩) ?_
  rotate_left
  · (intro w hSw; obtain ⟨y0, y1⟩ := hSw; have hc := y0.c15; rw [HR.out.1] at hc; go_simp; try with_reducible rfl)
  try simp only [Act.put, List.getElem_toArray, List.getElem_cons_succ, List.getElem_cons_zero, List.setIfInBounds_toArray, List.set_cons_zero, List.set_cons_succ]
  refine wpHL_take (i := 19) (v := ?_) rfl (by kernel_rfl) (fun _ _ _ h => h) hHeld (Or.inl ⟨by rfl, ?_⟩) ?_
  rotate_left
  · (intro w hSw; obtain ⟨y0, y1⟩ := hSw; go_simp; try with_reducible rfl)
  try simp only [Act.put, List.getElem_toArray, List.getElem_cons_succ, List.getElem_cons_zero, List.setIfInBounds_toArray, List.set_cons_zero, List.set_cons_succ]
  refine wpHL_take (i := 20) (v := ?_) rfl (by kernel_rfl) (fun _ _ _ h => h) hHeld (Or.inl ⟨by rfl, ?_⟩) ?_
  rotate_left
  · (intro w hSw; obtain ⟨y0, y1⟩ := hSw; go_simp; try with_reducible rfl)
  try simp only [Act.put, List.getElem_toArray, List.getElem_cons_succ, List.getElem_cons_zero, List.setIfInBounds_toArray, List.set_cons_zero, List.set_cons_succ]
  refine wpHL_take (i := 21) (v := ?_) rfl (by kernel_rfl) (fun _ _ _ h => h) hHeld (Or.inl ⟨by rfl, ?_⟩) ?_
  rotate_left
  · (intro w hSw; obtain ⟨y0, y1⟩ := hSw; go_simp; try with_reducible rfl)
  try simp only [Act.put, List.getElem_toArray, List.getElem_cons_succ, List.getElem_cons_zero, List.setIfInBounds_toArray, List.set_cons_zero, List.set_cons_succ]
  refine wpHL_take (i := 22) (v := ?_) rfl (by kernel_rfl) (fun _ _ _ h => h) hHeld (Or.inl ⟨by rfl, ?_⟩) ?_
  rotate_left
  · (intro w hSw; obtain ⟨y0, y1⟩ := hSw; go_simp; try with_reducible rfl)
  try simp only [Act.put, List.getElem_toArray, List.getElem_cons_succ, List.getElem_cons_zero, List.setIfInBounds_toArray, List.set_cons_zero, List.set_cons_succ]
  refine wpHL_take (i := 23) (v := ?_) rfl (by kernel_rfl) (fun _ _ _ h => h) hHeld (Or.inl ⟨by rfl, ?_⟩) ?_
  rotate_left
  · (intro w hSw; obtain ⟨y0, y1⟩ := hSw; go_simp; try with_reducible rfl)
  try simp only [Act.put, List.getElem_toArray, List.getElem_cons_succ, List.getElem_cons_zero, List.setIfInBounds_toArray, List.set_cons_zero, List.set_cons_succ]
  refine wpHL_take (i := 24) (v := ?_) rfl (by kernel_rfl) (fun _ _ _ h => h) hHeld (Or.inl ⟨by rfl, ?_⟩) ?_
  rotate_left
  · (intro w hSw; obtain ⟨y0, y1⟩ := hSw; go_simp; try with_reducible rfl)
  try simp only [Act.put, List.getElem_toArray, List.getElem_cons_succ, List.getElem_cons_zero, List.setIfInBounds_toArray, List.set_cons_zero, List.set_cons_succ]
  refine wpHL_take (i := 25) (v := ?_) rfl (by kernel_rfl) (fun _ _ _ h => h) hHeld (Or.inl ⟨by rfl, ?_⟩) ?_
  rotate_left
  · (intro w hSw; obtain ⟨y0, y1⟩ := hSw; have hc := y0.c22; rw [HR.out.2] at hc; go_simp; try with_reducible rfl)
  try simp only [Act.put, List.getElem_toArray, List.getElem_cons_succ, List.getElem_cons_zero, List.setIfInBounds_toArray, List.set_cons_zero, List.set_cons_succ]
  refine wpHL_take (i := 26) (v := ?_) rfl (by kernel_rfl) (fun _ _ _ h => h) hHeld (Or.inl ⟨by rfl, ?_⟩) ?_
  rotate_left
  · (intro w hSw; obtain ⟨y0, y1⟩ := hSw; go_simp; try with_reducible rfl)
  try simp only [Act.put, List.getElem_toArray, List.getElem_cons_succ, List.getElem_cons_zero, List.setIfInBounds_toArray, List.set_cons_zero, List.set_cons_succ]
  refine wpHL_take (i := 27) (v := ?_) rfl (by kernel_rfl) (fun _ _ _ h => h) hHeld (Or.inl ⟨by rfl, ?_⟩) ?_
  rotate_left
  · (intro w hSw; obtain ⟨y0, y1⟩ := hSw; go_simp; try with_reducible rfl)
  try simp only [Act.put, List.getElem_toArray, List.getElem_cons_succ, List.getElem_cons_zero, List.setIfInBounds_toArray, List.set_cons_zero, List.set_cons_succ]
  refine wpHL_take (i := 28) (v := ?_) rfl (by kernel_rfl) (fun _ _ _ h => h) hHeld (Or.inl ⟨by rfl, ?_⟩) ?_
  rotate_left
  · (intro w hSw; obtain ⟨y0, y1⟩ := hSw; go_simp; try with_reducible rfl)
  try simp only [Act.put, List.getElem_toArray, List.getElem_cons_succ, List.getElem_cons_zero, List.setIfInBounds_toArray, List.set_cons_zero, List.set_cons_succ]
  refine wpHL_take (i := 29) (v := ?_) rfl (by kernel_rfl) (fun _ _ _ h => h) hHeld (Or.inl ⟨by rfl, ?_⟩) ?_
  rotate_left
  · (intro w hSw; obtain ⟨y0, y1⟩ := hSw; go_simp; try with_reducible rfl)
  try simp only [Act.put, List.getElem_toArray, List.getElem_cons_succ, List.getElem_cons_zero, List.setIfInBounds_toArray, List.set_cons_zero, List.set_cons_succ]
  refine wpHL_take (i := 30) (v := ?_) rfl (by kernel_rfl) (fun _ _ _ h => h) hHeld (Or.inl ⟨by rfl, ?_⟩) ?_
  rotate_left
  · (intro w hSw; obtain ⟨y0, y1⟩ := hSw; go_simp; try with_reducible rfl)
  try simp only [Act.put, List.getElem_toArray, List.getElem_cons_succ, List.getElem_cons_zero, List.setIfInBounds_toArray, List.set_cons_zero, List.set_cons_succ]
  refine wpHL_take (i := 31) (v := ?_) rfl (by kernel_rfl) (fun _ _ _ h => h) hHeld (Or.inl ⟨by rfl, ?_⟩) ?_
  rotate_left
  · (intro w hSw; obtain ⟨y0, y1⟩ := hSw; go_simp; try with_reducible rfl)
  try simp only [Act.put, List.getElem_toArray, List.getElem_cons_succ, List.getElem_cons_zero, List.setIfInBounds_toArray, List.set_cons_zero, List.set_cons_succ]
  refine wpHL_take (i := 32) (v := ?_) rfl (by kernel_rfl) (fun _ _ _ h => h) hHeld (Or.inl ⟨by rfl, ?_⟩) ?_
  rotate_left
  · (intro w hSw; obtain ⟨y0, y1⟩ := hSw; go_simp; try with_reducible rfl)
  try simp only [Act.put, List.getElem_toArray, List.getElem_cons_succ, List.getElem_cons_zero, List.setIfInBounds_toArray, List.set_cons_zero, List.set_cons_succ]
  refine wpHL_take (i := 33) (v := ?_) rfl (by kernel_rfl) (fun _ _ _ h => h) hHeld (Or.inl ⟨by rfl, ?_⟩) ?_
  rotate_left
  · (intro w hSw; obtain ⟨y0, y1⟩ := hSw; go_simp; try with_reducible rfl)
  try simp only [Act.put, List.getElem_toArray, List.getElem_cons_succ, List.getElem_cons_zero, List.setIfInBounds_toArray, List.set_cons_zero, List.set_cons_succ]
  refine wpHL_take (i := 34) (v := ?_) rfl (by kernel_rfl) (fun _ _ _ h => h) hHeld (Or.inl ⟨by rfl, ?_⟩) ?_
  rotate_left
  · (intro w hSw; obtain ⟨y0, y1⟩ := hSw; go_simp; try with_reducible rfl)
  try simp only [Act.put, List.getElem_toArray, List.getElem_cons_succ, List.getElem_cons_zero, List.setIfInBounds_toArray, List.set_cons_zero, List.set_cons_succ]
  refine wpHL_step (i := 35) rfl (by kernel_rfl) (by decide) (fun K hK => ?_)
  have HKK := Lib.hid hK
  clear hK
  go_simp
  refine (qEncode ⟨45, 0, 0, 0, 0, 0⟩ (by decide +kernel) w10).mono ?_
  rintro e w11 ⟨⟨v11, rfl, hv⟩, hu⟩
  rw [spE] at hv
  obtain ⟨ea, ec, rfl, -, -⟩ := hv.slice
  have hHeld : (fun w' : World => Cp w' cb x2 ∧ Cp w' xb x2) w11 := ⟨hHeld.1.upd hu (fun h => h), hHeld.2.upd hu (fun h => h)⟩
  have HU11 := Lib.hid (HUD.out.trans hu (fun _ h _ => h))
  clear hv hu HUD
  go_simp
  refine HKK.out _ _ hHeld ?_
  clear HKK
  try simp only [Act.put, List.getElem_toArray, List.getElem_cons_succ, List.getElem_cons_zero, List.setIfInBounds_toArray, List.set_cons_zero, List.set_cons_succ]
  refine wpHL_take (i := 36) (v := ?_) rfl (by kernel_rfl) (fun _ _ _ h => h) hHeld (Or.inl ⟨by rfl, ?_⟩) ?_
  rotate_left
  · (intro w hSw; obtain ⟨y0, y1⟩ := hSw; go_simp; try with_reducible rfl)
  try simp only [Act.put, List.getElem_toArray, List.getElem_cons_succ, List.getElem_cons_zero, List.setIfInBounds_toArray, List.set_cons_zero, List.set_cons_succ]
  refine wpHL_take (i := 37) (v := ?_) rfl (by kernel_rfl) (fun _ _ _ h => h) hHeld (Or.inl ⟨by rfl, ?_⟩) ?_
  rotate_left
  · (intro w hSw; obtain ⟨y0, y1⟩ := hSw; go_simp; try with_reducible rfl)
  try simp only [Act.put, List.getElem_toArray, List.getElem_cons_succ, List.getElem_cons_zero, List.setIfInBounds_toArray, List.set_cons_zero, List.set_cons_succ]
  refine wpHL_take (i := 38) (v := ?_) rfl (by kernel_rfl) (fun _ _ _ h => h) hHeld (Or.inl ⟨by rfl, ?_⟩) ?_
  rotate_left
  · (intro w hSw; obtain ⟨y0, y1⟩ := hSw; go_simp; try with_reducible rfl)
  try simp only [Act.put, List.getElem_toArray, List.getElem_cons_succ, List.getElem_cons_zero, List.setIfInBounds_toArray, List.set_cons_zero, List.set_cons_succ]
  refine wpHL_last (by kernel_rfl) ?_
  go_wp2_with fail
  go_ret
  exact ⟨rfl, HU11.out⟩
theorem chipStops_below (w : World) (at_ : Int) (n : Nat) (hn : n < 4294967296) : Calls Try.prog 8 #[.int .i64 at_, .int .u32 (n : Int)] w fun e w' => e = .returned (.bool true) ∧ Below w.heap.size w w' := (chipStops_walk w at_ n hn).mono fun _ _ h => ⟨h.1, h.2.below (Nat.le_refl _) (fun _ h => h.elim)⟩
end Go.Proofs.Ytibmgmgkaacibaa

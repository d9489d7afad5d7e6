/- Package chip: one step, done. -/
import Derived.Test.YtibmgmgkaacibaaEuk
import Derived.Deep.MidRow
import Derived.Laws.Tables
import Derived.Test.YtibmgmgkaacibaaZe
namespace Go.Proofs.Ytibmgmgkaacibaa
open Go.RowKit Go.ChangeShapes Go.WideShapes Go.Deep Go.IntWalk
set_option linter.unusedVariables false
set_option linter.unusedSimpArgs false
section
variable {w w' : World} {cb bm g : Nat} {x : Ch} {M : Nat → Nat} {F : Nat → Prop}
theorem row_range {u : World} {b : Nat} {A : Array Value} {T : TypeId} (h : u.heap[b]? = some (.cells A T (0, 0))) : u.rangeAt b 0 A.toList := fun j v hv => by
  unfold World.cell?
  rw [h, Nat.zero_add]
  simpa using hv
theorem sp_one (x : Ch) (p : Option Addr) (i : I6) (t c : Int) : (spA x (.pointer p) i t c).all (·.oneCell') = true := by simp [Value.oneCell']
theorem ch_one (x : Ch) : (chA x).all (·.oneCell') = true := by simp [Value.oneCell']
theorem Sp.range {u : World} {b : Nat} {x : Ch} {mp : Value} {i : I6} {t c : Int} (h : Sp u b mp i x t c) : u.rangeAt b 0 (chA x).toList := fun j v hv => by
  have h2 := row_range h.box j v
  apply h2
  have hj : j < 23 := by have := (List.getElem?_eq_some_iff.1 hv).1; simpa using this
  rcases (by omega : j = 0 ∨ j = 1 ∨ j = 2 ∨ j = 3 ∨ j = 4 ∨ j = 5 ∨ j = 6 ∨ j = 7 ∨ j = 8 ∨ j = 9 ∨ j = 10 ∨ j = 11 ∨ j = 12 ∨ j = 13 ∨ j = 14 ∨ j = 15 ∨ j = 16 ∨ j = 17 ∨ j = 18 ∨ j = 19 ∨ j = 20 ∨ j = 21 ∨ j = 22) with rfl | rfl | rfl | rfl | rfl | rfl | rfl | rfl | rfl | rfl | rfl | rfl | rfl | rfl | rfl | rfl | rfl | rfl | rfl | rfl | rfl | rfl | rfl <;> simpa using hv
theorem Cp.range {u : World} {b : Nat} {x : Ch} (h : Cp u b x) : u.rangeAt b 0 (chA x).toList := row_range h.box
set_option maxRecDepth 20000 in
set_option maxHeartbeats 4000000 in
theorem cStepRun (h : Cp w cb x) (hm : Mm 72 w bm g M) (hst : x.st = 0) (hr : readB M (x.R 15) = true) (tv : Value) (L : Option (List EvM)) (ht : TrA F w tv L) (hF : ∀ k, F k → k < w.heap.size ∧ k ≠ cb ∧ k ≠ bm ∧ k ≠ g) (hcm : cb ≠ bm) (hcg : cb ≠ g) (hcy : 0 ≤ x.cyc ∧ x.cyc ≤ 1099511627776) (q : Rs) (hq : doOf (readI M (x.R 15)) x M = q) :
    Calls Try.prog 19 #[.pointer (some ⟨cb, 0, none⟩), .pointer (some ⟨bm, 0, none⟩), tv] w fun e w' => e = .returned (.int .i64 q.x.st) ∧ Mm 72 w' bm g q.M ∧
      (q.x.st = 2 → Cp w' cb { x with st := 2 } ∧ TrB F w' tv L) ∧ (q.x.st ≠ 2 → Cp w' cb { q.x with cyc := x.cyc + q.c } ∧ ∃ F', (∀ k, F' k → F k ∨ w.heap.size ≤ k) ∧ TrB F' w' tv (L.map (· ++ [evS (x.R 15) q.t q.c]))) ∧ Upd (CG cb g F) w w' := by
  have c20 := h.c20
  have c15 := h.c15
  rw [hst] at c20
  have HR := Lib.hid (cRead hm (x.R 15) (h.ok 15))
  rw [hr] at HR
  obtain ⟨hok, hop, him⟩ := right_inok (read_right hm.ok hr)
  obtain ⟨i, hi⟩ : ∃ i, readI M (x.R 15) = i := ⟨_, rfl⟩
  rw [hi] at HR hok hop him hq
  have HOK := Lib.hid hok
  have HOP := Lib.hid hop
  have HIM := Lib.hid him
  have hqc := doP_c i.op.toNat i.d.toNat i.n.toNat i.m.toNat i.cond.toNat hop hok.opl i.imm x M
  have hqe : doP i.op.toNat i.d.toNat i.n.toNat i.m.toNat i.cond.toNat i.imm x M = q := hq
  rw [hqe] at hqc
  have HQ := Lib.hid hqe
  have HST := Lib.hid hst
  have H0 := Lib.hid h
  have HM0 := Lib.hid hm
  have HT0 := Lib.hid ht
  have HF := Lib.hid hF
  have HC1 := Lib.hid hcm
  have HC2 := Lib.hid hcg
  have HCY := Lib.hid hcy
  have HQC := Lib.hid hqc
  have hcbl := h.lt
  have HMLT := Lib.hid hm.lt
  clear h hm hst hr hok hop him hi hq hqe ht hF hcm hcg hqc
  go_enter Try.func19, Try.ntmps19
  go_wp2_with fail
  refine HR.out.mono ?_
  rintro e w1 ⟨rfl, hu⟩
  have H1 := Lib.hid (H0.out.upd hu (fun h => h))
  have HM1 := Lib.hid (HM0.out.upd hu (fun h => h) (fun h => h))
  have HT1 := Lib.hid (HT0.out.upd hu (fun _ _ h => h))
  have HU1 := Lib.hid hu
  have hsz := hu.size
  clear hu HR c20 c15 H0 HM0 HT0
  obtain ⟨wa, hwa⟩ : ∃ wa, wa = w1.alloc (.cells #[.int .i64 i.op, .int .i64 i.d, .int .i64 i.n, .int .i64 i.m, .int .i64 i.imm, .int .i64 i.cond] 36) := ⟨_, rfl⟩
  obtain ⟨ib, hib⟩ : ∃ ib, ib = w1.heap.size := ⟨_, rfl⟩
  have hal : Upd (fun _ => False) w1 wa := by rw [hwa]; exact Upd.alloc _ _ _
  have HA := Lib.hid (H1.out.upd hal (fun h => h))
  have HMA := Lib.hid (HM1.out.upd hal (fun h => h) (fun h => h))
  have HTA := Lib.hid (HT1.out.upd hal (fun _ _ h => h))
  have HUA : Hid (Upd (fun _ => False) w wa) := Lib.hid (HU1.out.trans hal (fun _ h _ => h))
  have HIA : Hid (wa.heap[ib]? = some (.cells #[.int .i64 i.op, .int .i64 i.d, .int .i64 i.n, .int .i64 i.m, .int .i64 i.imm, .int .i64 i.cond] 36 (0, 0))) := Lib.hid (by rw [hwa, hib]; exact heap_alloc_last w1 _)
  have hil : ib < wa.heap.size := (Array.getElem?_eq_some_iff.1 HIA.out).1
  go_wp2_with fail
  rw [← hwa, ← hib]
  clear hwa hib hal H1 HM1 HT1 HU1
  obtain ⟨V38, hV38⟩ : ∃ V, V = Value.agg (chA x) := ⟨_, rfl⟩
  obtain ⟨V40, hV40⟩ : ∃ V, V = i.val := ⟨_, rfl⟩
  obtain ⟨V41, hV41⟩ : ∃ V, V = Value.agg (spA x (.pointer (some ⟨bm, 0, none⟩)) i (-1) 1) := ⟨_, rfl⟩
  have HV38 := Lib.hid hV38
  have HV40 := Lib.hid hV40
  have HV41 := Lib.hid hV41
  clear hV38 hV40 hV41
  have hHeld : Cp wa.drew cb x ∧ wa.drew.heap[ib]? = some (.cells #[.int .i64 i.op, .int .i64 i.d, .int .i64 i.n, .int .i64 i.m, .int .i64 i.imm, .int .i64 i.cond] 36 (0, 0)) := ⟨HA.out.upd (Upd.drew (fun _ => False) wa) (fun h => h), HIA.out⟩
  refine wp_region_last (S := fun u => Cp u cb x ∧ u.heap[ib]? = some (.cells #[.int .i64 i.op, .int .i64 i.d, .int .i64 i.n, .int .i64 i.m, .int .i64 i.imm, .int .i64 i.cond] 36 (0, 0))) 7 _ (by kernel_rfl) (by kernel_rfl) rfl ?_
  change wpHL _ _ _ _ _ _ _ _ _ _ wa.drew
  refine wpHL_take (i := 0) (v := ?_) rfl (by kernel_rfl) (fun _ _ _ h => h) hHeld (Or.inl ⟨by rfl, ?_⟩) ?_
  rotate_left
  · (intro u hSw; obtain ⟨y0, y1⟩ := hSw; go_simp; try with_reducible rfl)
  try simp only [Act.put, List.getElem_toArray, List.getElem_cons_succ, List.getElem_cons_zero, List.setIfInBounds_toArray, List.set_cons_zero, List.set_cons_succ]
  refine wpHL_take (i := 1) (v := ?_) rfl (by kernel_rfl) (fun _ _ _ h => h) hHeld (Or.inl ⟨by rfl, ?_⟩) ?_
  rotate_left
  · (intro u hSw; obtain ⟨y0, y1⟩ := hSw; go_simp; try with_reducible rfl)
  try simp only [Act.put, List.getElem_toArray, List.getElem_cons_succ, List.getElem_cons_zero, List.setIfInBounds_toArray, List.set_cons_zero, List.set_cons_succ]
  refine wpHL_take (i := 2) (v := V38) rfl (by kernel_rfl) (fun _ _ _ h => h) hHeld (by rw [HV38.out]; exact yieldsIf_load_mid (by rfl) 44 (.tmp 37) rfl cb 0 (by rfl) (chA x).toList _ (fun u hS => hS.1.range) Try.underlying44 rfl (by kernel_rfl)) ?_
  try simp only [Act.put, List.getElem_toArray, List.getElem_cons_succ, List.getElem_cons_zero, List.setIfInBounds_toArray, List.set_cons_zero, List.set_cons_succ]
  refine wpHL_take (i := 3) (v := ?_) rfl (by kernel_rfl) (fun _ _ _ h => h) hHeld (Or.inl ⟨by rfl, ?_⟩) ?_
  rotate_left
  · (intro u hSw; obtain ⟨y0, y1⟩ := hSw; go_simp; try with_reducible rfl)
  try simp only [Act.put, List.getElem_toArray, List.getElem_cons_succ, List.getElem_cons_zero, List.setIfInBounds_toArray, List.set_cons_zero, List.set_cons_succ]
  refine wpHL_take (i := 4) (v := V40) rfl (by kernel_rfl) (fun _ _ _ h => h) hHeld (by rw [HV40.out]; exact yieldsIf_load_mid (by rfl) 36 (.tmp 7) rfl ib 0 (by rfl) (#[.int .i64 i.op, .int .i64 i.d, .int .i64 i.n, .int .i64 i.m, .int .i64 i.imm, .int .i64 i.cond] : Array Value).toList _ (fun u hS => row_range hS.2) Try.underlying36 rfl (by kernel_rfl)) ?_
  try simp only [Act.put, List.getElem_toArray, List.getElem_cons_succ, List.getElem_cons_zero, List.setIfInBounds_toArray, List.set_cons_zero, List.set_cons_succ]
  refine wpHL_take (i := 5) (v := V41) rfl (by kernel_rfl) (fun _ _ _ h => h) hHeld (Or.inl ⟨by rfl, fun u hS => by rw [HV38.out, HV40.out, HV41.out]; go_simp⟩) ?_
  try simp only [Act.put, List.getElem_toArray, List.getElem_cons_succ, List.getElem_cons_zero, List.setIfInBounds_toArray, List.set_cons_zero, List.set_cons_succ]
  refine wpHL_step (i := 6) rfl (by kernel_rfl) (by decide) (fun K hK => ?_)
  have HKK := Lib.hid hK
  clear hK hHeld
  go_simp
  obtain ⟨w2, hw2⟩ : ∃ w2, w2 = (wa.alloc (.cells #[.int .u32 0, .int .u32 0, .int .u32 0, .int .u32 0, .int .u32 0, .int .u32 0, .int .u32 0, .int .u32 0, .int .u32 0, .int .u32 0, .int .u32 0, .int .u32 0, .int .u32 0, .int .u32 0, .int .u32 0, .int .u32 0, .bool false, .bool false, .bool false, .bool false, .int .i64 0, .int .i64 0, .int .i64 0, .pointer none, .int .i64 0, .int .i64 0, .int .i64 0, .int .i64 0, .int .i64 0, .int .i64 0, .int .i64 0, .int .i64 0] 85)).drew := ⟨_, rfl⟩
  obtain ⟨sb, hsb⟩ : ∃ sb, sb = wa.heap.size := ⟨_, rfl⟩
  have hal : Upd (fun _ => False) wa w2 := by rw [hw2]; exact (Upd.alloc _ _ _).trans (Upd.drew (fun _ => False) _) (fun _ h _ => h)
  have HG2 : Hid (w2.heap[sb]? = some (.cells #[.int .u32 0, .int .u32 0, .int .u32 0, .int .u32 0, .int .u32 0, .int .u32 0, .int .u32 0, .int .u32 0, .int .u32 0, .int .u32 0, .int .u32 0, .int .u32 0, .int .u32 0, .int .u32 0, .int .u32 0, .int .u32 0, .bool false, .bool false, .bool false, .bool false, .int .i64 0, .int .i64 0, .int .i64 0, .pointer none, .int .i64 0, .int .i64 0, .int .i64 0, .int .i64 0, .int .i64 0, .int .i64 0, .int .i64 0, .int .i64 0] 85 (0, 0))) := Lib.hid (by rw [hw2, hsb]; exact heap_alloc_last wa _)
  have HC2' := Lib.hid (HA.out.upd hal (fun h => h))
  have HM2 := Lib.hid (HMA.out.upd hal (fun h => h) (fun h => h))
  have HT2 := Lib.hid (HTA.out.upd hal (fun _ _ h => h))
  have HU2 : Hid (Upd (fun _ => False) w w2) := Lib.hid (HUA.out.trans hal (fun _ h _ => h))
  have HI2 : w2.heap[ib]? = some (.cells #[.int .i64 i.op, .int .i64 i.d, .int .i64 i.n, .int .i64 i.m, .int .i64 i.imm, .int .i64 i.cond] 36 (0, 0)) := (hal.block ib hil (fun h => h)).trans HIA.out
  have HSB := Lib.hid (show w.heap.size ≤ sb by have := HUA.out.size; omega)
  rw [← hw2, ← hsb]
  refine HKK.out _ _ ⟨HC2'.out, HI2⟩ ?_
  try simp only [Act.put, List.getElem_toArray, List.getElem_cons_succ, List.getElem_cons_zero, List.setIfInBounds_toArray, List.set_cons_zero, List.set_cons_succ]
  clear HKK hw2 hsb hal HA HMA HTA HUA HIA hil HI2
  refine wpHL_last (by kernel_rfl) ?_
  refine wpList_store_row rfl 85 (.tmp 9) (.tmp 41) rfl sb (spA x (.pointer (some ⟨bm, 0, none⟩)) i (-1) 1) (by rfl) (by show V41 = _; exact HV41.out) 85 _ HG2.out (by kernel_rfl) rfl (sp_one _ _ _ _ _) ?_
  have hur : Upd (fun q => q = sb) w2 (w2.setRow sb (spA x (.pointer (some ⟨bm, 0, none⟩)) i (-1) 1)) := ⟨rfl, rfl, rfl, by simp, fun q hq hne => setRow_other w2 sb q _ hne⟩
  have hcbl' : cb ≠ sb := by have := HSB.out; omega
  have HSP : Hid (Sp (w2.setRow sb (spA x (.pointer (some ⟨bm, 0, none⟩)) i (-1) 1)) sb (.pointer (some ⟨bm, 0, none⟩)) i x (-1) 1) := Lib.hid ⟨setRow_heap w2 sb _ _ _ _ HG2.out, HC2'.out.ok⟩
  have HML := Lib.hid HMLT.out
  have HCP := Lib.hid (HC2'.out.upd hur hcbl')
  have HMM := Lib.hid (HM2.out.upd hur (fun e => by have := HSB.out; have := HML.out.1; omega) (fun e => by have := HSB.out; have := HML.out.2; omega))
  have HTT := Lib.hid (HT2.out.upd hur (fun k hk e => by have := HSB.out; have := (HF.out k hk).1; omega))
  have HUU : Hid (Upd (fun _ => False) w (w2.setRow sb (spA x (.pointer (some ⟨bm, 0, none⟩)) i (-1) 1))) := Lib.hid (HU2.out.trans hur (fun k hk hl => by have := HSB.out; omega))
  obtain ⟨w3, hw3⟩ : ∃ w3, w3 = w2.setRow sb (spA x (.pointer (some ⟨bm, 0, none⟩)) i (-1) 1) := ⟨_, rfl⟩
  rw [← hw3] at HSP HCP HMM HTT HUU ⊢
  have HSTP : Hid (Stp w3 sb bm g i x (-1) 1 M) := Lib.hid ⟨HSP.out, HMM.out, (by have := HSB.out; have := HML.out.1; omega), (by have := HSB.out; have := HML.out.2; omega)⟩
  clear hw3 hur HC2' HM2 HT2 HU2 HSP HMM HG2 HV38 HV40 HV41
  try simp only [Act.put, List.getElem_toArray, List.getElem_cons_succ, List.getElem_cons_zero, List.setIfInBounds_toArray, List.set_cons_zero, List.set_cons_succ]
  go_wp2_with fail
  refine (sDo HSTP.out i.op.toNat i.d.toNat i.n.toNat i.m.toNat i.cond.toNat HOK.out HOP.out HIM.out HST.out).mono ?_
  rintro e w4 ⟨a, ha, hol, rfl, hs, hu⟩
  have HS4 : Hid (Stp w4 sb bm g i q.x q.t q.c q.M) := Lib.hid (by rw [← HQ.out]; rw [ha] at hs; exact hs)
  have HC4 := Lib.hid (HCP.out.upd hu (fun e => by
    rcases e with e | e
    · exact hcbl' e
    · exact HC2.out e))
  have HT4 := Lib.hid (HTT.out.upd hu (fun k hk e => by
    have h1 := HF.out k hk
    have h2 := HSB.out
    rcases e with e | e
    · omega
    · exact h1.2.2.2 e))
  have HU4 : Hid (Upd (CG cb g F) w w4) := Lib.hid ((HUU.out.mono (fun _ h _ => h.elim)).trans hu (fun k hk hl => by
    rcases hk with e | e
    · have := HSB.out; omega
    · exact .inr (.inl e)))
  have HSZ := Lib.hid HUU.out.size
  have HSZ4 := Lib.hid hu.size
  clear hs hu ha hol HCP HTT HUU HSTP
  have c20s := HS4.out.sp.c20
  by_cases h2 : q.x.st = 2
  · have HQ2 := Lib.hid h2
    rw [h2] at c20s
    have c20 := HC4.out.c20
    have f20 := HC4.out.fz 20
    have HE := Lib.hid (HC4.out.set_st 2)
    clear h2
    go_wp2_with fail
    go_ret
    rw [HQ2.out]
    have huc : Upd (fun q => q = cb) w4 (w4.setCell ⟨cb, 20, none⟩ (.int .i64 2)) := Upd.setCell (S := fun q => q = cb) _ (.inl rfl) _
    exact ⟨rfl, HS4.out.mm.upd huc (fun e => HC1.out e.symm) (fun e => HC2.out e.symm), fun _ => ⟨HE.out, (HT4.out.b).upd huc (fun k hk e => (HF.out k hk).2.1 e)⟩, fun h => absurd rfl h, HU4.out.trans huc (fun k hk _ => .inl hk)⟩
  · have HQ2 := Lib.hid h2
    have hb2 : (q.x.st == 2) = false := by simpa using h2
    have c15 := HC4.out.c15
    clear h2
    go_wp2_with fail
    refine (sShow HS4.out.sp tv L HT4.out (fun h => by have := (HF.out sb h).1; have := HSB.out; omega) (x.R 15) (HC4.out.ok 15) (by rw [HQC.out.2.2]; exact HCY.out) ⟨HQC.out.1, HQC.out.2.1⟩).mono ?_
    rintro e w5 ⟨rfl, hs, F', hF', ht', hu⟩
    have HS5 := Lib.hid hs
    have HCC : Hid (Cp w5 cb x) := Lib.hid (HC4.out.upd hu (fun e => by
      rcases e with e | e
      · exact hcbl' e
      · exact (HF.out cb e).2.1 rfl))
    have HM5 := Lib.hid (HS4.out.mm.upd hu (fun e => by
      rcases e with e | e
      · exact HS4.out.n1 e.symm
      · exact (HF.out bm e).2.2.1 rfl) (fun e => by
      rcases e with e | e
      · exact HS4.out.n2 e.symm
      · exact (HF.out g e).2.2.2 rfl))
    have HT5 := Lib.hid ht'
    have HF5 := Lib.hid hF'
    have HU5 : Hid (Upd (CG cb g F) w w5) := Lib.hid (HU4.out.trans hu (fun k hk hl => by
      rcases hk with e | e
      · have := HSB.out; omega
      · exact .inr (.inr e)))
    clear hs ht' hF' hu c20s c15 hb2
    go_upto_region 15 with fail
    refine wp_region_lit ?_
    refine wpList_val (.pointer (some ⟨cb, 0, none⟩)) rfl (by kernel_rfl) ?_
    refine wpList_val (.pointer (some ⟨sb, 0, none⟩)) rfl (by kernel_rfl) ?_
    refine wpList_load_mid rfl 44 (.tmp 58) rfl sb 0 (by rfl) (chA { q.x with cyc := q.x.cyc + q.c }).toList _ HS5.out.range Try.underlying44 rfl (by kernel_rfl) ?_
    refine wpList_val (.pointer (some ⟨cb, 0, none⟩)) rfl (by kernel_rfl) ?_
    refine wpList_store_row rfl 44 (.tmp 60) (.tmp 59) rfl cb (chA { q.x with cyc := q.x.cyc + q.c }) (by rfl) (by rfl) 44 _ HCC.out.box (by kernel_rfl) rfl (ch_one _) ?_
    have hur : Upd (fun k => k = cb) w5 (w5.setRow cb (chA { q.x with cyc := q.x.cyc + q.c })) := ⟨rfl, rfl, rfl, by simp, fun k hk hne => setRow_other w5 cb k _ hne⟩
    have HC6 : Hid (Cp (w5.setRow cb (chA { q.x with cyc := q.x.cyc + q.c })) cb { q.x with cyc := q.x.cyc + q.c }) := Lib.hid ⟨setRow_heap w5 cb _ _ _ _ HCC.out.box, HS5.out.ok⟩
    have HM6 := Lib.hid (HM5.out.upd hur (fun e => HC1.out e.symm) (fun e => HC2.out e.symm))
    have HT6 := Lib.hid (HT5.out.upd hur (fun k hk e => by
      rcases HF5.out k hk with h | h
      · exact (HF.out k h).2.1 e
      · have := HSZ4.out; have := HSZ.out; omega))
    have HU6 : Hid (Upd (CG cb g F) w (w5.setRow cb (chA { q.x with cyc := q.x.cyc + q.c }))) := Lib.hid (HU5.out.trans hur (fun k hk _ => .inl hk))
    obtain ⟨w6, hw6⟩ : ∃ w6, w6 = w5.setRow cb (chA { q.x with cyc := q.x.cyc + q.c }) := ⟨_, rfl⟩
    rw [← hw6] at HC6 HM6 HT6 HU6 ⊢
    clear hw6 hur
    have c20 := HC6.out.c20
    try simp only [Act.put, List.getElem_toArray, List.getElem_cons_succ, List.getElem_cons_zero, List.setIfInBounds_toArray, List.set_cons_zero, List.set_cons_succ]
    go_wp2_with fail
    go_ret
    have e := HQC.out.2.2
    rw [e] at HC6
    exact ⟨rfl, HM6.out, fun h => absurd h HQ2.out, fun _ => ⟨HC6.out, F', fun k hk => (HF5.out k hk).imp id (fun h => by have := HSZ4.out; have := HSZ.out; omega), HT6.out⟩, HU6.out⟩
end
end Go.Proofs.Ytibmgmgkaacibaa

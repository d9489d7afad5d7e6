/- Stage 16: ChipKnown. -/
import Derived.Test.YtppniogpokmhiaaEAk
namespace Go.Proofs.Ytppniogpokmhiaa
open Go.RowKit Go.ChangeShapes Go.WideShapes Go.Deep Go.IntWalk
set_option linter.unusedVariables false
set_option linter.unusedSimpArgs false
def knL : List I6 := [⟨39, 0, 0, 0, 259, 0⟩, ⟨40, 0, 0, 0, 260, 0⟩, ⟨44, 0, 0, 0, 9, 0⟩]
def knX : Ch := ((((Ch.zero.withR 0 7).withR 1 8).withR 13 262144).withR 14 13).withR 15 8
def knS : Ws := ⟨knX, loadM (fun _ => 0) 8 (encL knL), some []⟩
def knT : Ws := stepW (stepW knS)
def knU : Ws := runW 9 ⟨knT.x.withR 15 12, knT.M, knT.L⟩
def knD : Ws := stepW ⟨Ch.zero.withR 15 131072, knU.M, knU.L⟩
theorem knT_is : knT.x.st = 0 ∧ knT.x.R 2 = 7 ∧ knT.x.R 13 = 262140 ∧ knT.x.R 15 = 8 ∧ knT.x.cyc = 10 ∧ knT.L = some [⟨4, 8, 262132, 4⟩, ⟨4, 10, 262132, 6⟩] := by decide +kernel
theorem knU_is : knU.x.st = 1 ∧ knU.x.num = 9 ∧ knU.x.R 15 = 14 ∧ knU.L.map List.length = some 3 := by decide +kernel
theorem knD_is : knD.x.st = 2 ∧ knD.x.R 15 = 131072 := by decide +kernel
theorem knOk : (∀ i ∈ knL, rightP i = true) := by decide +kernel
theorem room_knS : Room knS 2 := ⟨by decide, by decide, fun l hl => by simp [knS] at hl; subst hl; simp⟩
set_option maxRecDepth 20000 in
set_option maxHeartbeats 4000000 in
theorem chipKnown_walk (w : World) : Calls Try.prog 3 #[] w fun e w' => e = .returned (.bool true) ∧ Upd (fun _ => False) w w' := by
  have hL := isL_lit w knL 25 #[.int .i64 39, .int .i64 0, .int .i64 0, .int .i64 0, .int .i64 259, .int .i64 0, .int .i64 40, .int .i64 0, .int .i64 0, .int .i64 0, .int .i64 260, .int .i64 0, .int .i64 44, .int .i64 0, .int .i64 0, .int .i64 0, .int .i64 9, .int .i64 0] 3 rfl rfl (by omega)
  have HLD := Lib.hid (lLoad _ w.heap.size 3 knL hL (by simp) knOk (by decide) 8 rfl (by omega))
  have HAL := Lib.hid (Upd.alloc (fun _ => False) w (.cells #[.int .i64 39, .int .i64 0, .int .i64 0, .int .i64 0, .int .i64 259, .int .i64 0, .int .i64 40, .int .i64 0, .int .i64 0, .int .i64 0, .int .i64 260, .int .i64 0, .int .i64 44, .int .i64 0, .int .i64 0, .int .i64 0, .int .i64 9, .int .i64 0] 25))
  have HG0 := Lib.hid (show w.heap.size ≤ (w.alloc (.cells #[.int .i64 39, .int .i64 0, .int .i64 0, .int .i64 0, .int .i64 259, .int .i64 0, .int .i64 40, .int .i64 0, .int .i64 0, .int .i64 0, .int .i64 260, .int .i64 0, .int .i64 44, .int .i64 0, .int .i64 0, .int .i64 0, .int .i64 9, .int .i64 0] 25)).heap.size by simp)
  clear hL
  go_enter Try.func3, Try.ntmps3
  go_wp2_with fail
  refine HLD.out.mono ?_
  rintro e w1 ⟨rfl, hm, hu⟩
  have HM1 := Lib.hid hm
  have HU1 := Lib.hid (HAL.out.trans hu (fun _ h _ => h))
  generalize (w.alloc (.cells #[.int .i64 39, .int .i64 0, .int .i64 0, .int .i64 0, .int .i64 259, .int .i64 0, .int .i64 40, .int .i64 0, .int .i64 0, .int .i64 0, .int .i64 260, .int .i64 0, .int .i64 44, .int .i64 0, .int .i64 0, .int .i64 0, .int .i64 9, .int .i64 0] 25)).heap.size = g at *
  generalize g + 1 = bm at *
  clear hm hu HLD HAL
  go_wp2_with fail
  refine (cNew _).mono ?_
  rintro e w2 ⟨rfl, hc, hu⟩
  have HM2 := Lib.hid (HM1.out.upd hu (fun h => h) (fun h => h))
  have HU2 := Lib.hid (HU1.out.trans hu (fun _ h _ => h))
  have HC2 := Lib.hid hc
  have HN1 := Lib.hid (show w1.heap.size ≠ bm by have := HM1.out.lt; omega)
  have HN2 := Lib.hid (show w1.heap.size ≠ g by have := HM1.out.lt; omega)
  have HCB := Lib.hid HU1.out.size
  generalize w1.heap.size = cb at *
  clear hc hu HM1 HU1
  go_wp2_with fail
  refine (tNew _).mono ?_
  rintro e w3 ⟨tb, rfl, ht, hu⟩
  have HU3 := Lib.hid (HU2.out.trans hu (fun _ h _ => h))
  have HM3 := Lib.hid (HM2.out.upd hu (fun h => h) (fun h => h))
  have HC3 := Lib.hid (HC2.out.upd hu (fun h => h))
  have HT3 := Lib.hid ht
  have HFR := Lib.hid (fun k (hk : ESince w2 w3 k) => (show k < w3.heap.size ∧ k ≠ cb ∧ k ≠ bm ∧ k ≠ g ∧ w.heap.size ≤ k from ⟨hk.2, by have := HC2.out.lt; have := HM2.out.lt; have := hk.1; have := HU2.out.size; omega⟩))
  obtain ⟨F, hF⟩ : ∃ F, F = ESince w2 w3 := ⟨_, rfl⟩
  rw [← hF] at HT3 HFR
  clear ht hu HM2 HU2 HC2 hF
  go_wp2_with fail
  refine (known16 _).mono ?_
  rintro e w4 ⟨rfl, hu⟩
  have HM4 := Lib.hid (HM3.out.upd hu (fun h => h) (fun h => h))
  have HU4 := Lib.hid (HU3.out.trans hu (fun _ h _ => h))
  have HC4 := Lib.hid (HC3.out.upd hu (fun h => h))
  have HT4 := Lib.hid (HT3.out.upd hu (fun _ _ h => h))
  have HSZ4 := Lib.hid hu.size
  clear hu HM3 HU3 HC3 HT3
  have c0 := HC4.out.c0
  have c1 := HC4.out.c1
  have c13 := HC4.out.c13
  have c14 := HC4.out.c14
  have c15 := HC4.out.c15
  have f0 := HC4.out.fz 0
  have f1 := HC4.out.fz 1
  have f13 := HC4.out.fz 13
  have f14 := HC4.out.fz 14
  have f15 := HC4.out.fz 15
  have HC5 := Lib.hid (((((HC4.out.setR 0 (by decide) 7 (by decide)).setR 1 (by decide) 8 (by decide)).setR 13 (by decide) 262144 (by decide)).setR 14 (by decide) 13 (by decide)).setR 15 (by decide) 8 (by decide))
  have HU5 := Lib.hid (((((Sp.setU w4 cb 0 (.int .u32 ((7 : Nat) : Int))).putU 1 (.int .u32 ((8 : Nat) : Int))).putU 13 (.int .u32 ((262144 : Nat) : Int))).putU 14 (.int .u32 ((13 : Nat) : Int))).putU 15 (.int .u32 ((8 : Nat) : Int)))
  go_wp2_with fail
  have HW5 : Hid (Wd (((((w4.setCell ⟨cb, 0, none⟩ (.int .u32 7)).setCell ⟨cb, 1, none⟩ (.int .u32 8)).setCell ⟨cb, 13, none⟩ (.int .u32 262144)).setCell ⟨cb, 14, none⟩ (.int .u32 13)).setCell ⟨cb, 15, none⟩ (.int .u32 8)) cb bm g (.pointer (some ⟨tb, 0, none⟩)) F knS) := Lib.hid ⟨HC5.out, HM4.out.upd HU5.out (fun e => HN1.out e.symm) (fun e => HN2.out e.symm), ⟨tb, rfl, HT4.out.upd HU5.out (fun k hk e => (HFR.out k hk).2.1 e)⟩, fun k hk => ⟨Nat.lt_of_lt_of_le (HFR.out k hk).1 (Nat.le_trans HSZ4.out HU5.out.size), (HFR.out k hk).2.1, (HFR.out k hk).2.2.1, (HFR.out k hk).2.2.2.1⟩, HN1.out, HN2.out⟩
  have HUW : Hid (Upd (fun _ => False) w (((((w4.setCell ⟨cb, 0, none⟩ (.int .u32 7)).setCell ⟨cb, 1, none⟩ (.int .u32 8)).setCell ⟨cb, 13, none⟩ (.int .u32 262144)).setCell ⟨cb, 14, none⟩ (.int .u32 13)).setCell ⟨cb, 15, none⟩ (.int .u32 8))) := Lib.hid (HU4.out.trans HU5.out (fun k hk hl => by have := HCB.out; omega))
  generalize (((((w4.setCell ⟨cb, 0, none⟩ (.int .u32 7)).setCell ⟨cb, 1, none⟩ (.int .u32 8)).setCell ⟨cb, 13, none⟩ (.int .u32 262144)).setCell ⟨cb, 14, none⟩ (.int .u32 13)).setCell ⟨cb, 15, none⟩ (.int .u32 8)) = w5 at *
  have HFW : Hid (∀ k, F k → w.heap.size ≤ k) := Lib.hid (fun k hk => (HFR.out k hk).2.2.2.2)
  clear HC5 HU5 HM4 HU4 HC4 HT4 HFR c0 c1 c13 c14 c15 f0 f1 f13 f14 f15 HSZ4
  refine (cStep HW5.out (n := 1) room_knS).mono ?_
  rintro e w6 ⟨rfl, F6, hF6, hd, hu⟩
  have HR1 : Hid (Room (stepW knS) 1) := Lib.hid (room_step HW5.out.mm.ok room_knS)
  have HFW6 : Hid (∀ k, F6 k → w.heap.size ≤ k) := Lib.hid (fun k hk => by
    rcases hF6 k hk with h | h
    · exact HFW.out k h
    · have := HUW.out.size; omega)
  have HUW6 : Hid (Upd (fun _ => False) w w6) := Lib.hid (HUW.out.trans hu (fun k hk hl => by
    have := HCB.out
    have := HG0.out
    rcases hk with e | e | e
    · omega
    · omega
    · have := HFW.out k e; omega))
  have HD6 := Lib.hid hd
  clear hF6 hd hu HW5 HUW HFW
  go_wp2_with fail
  refine (cStep HD6.out (n := 0) HR1.out).mono ?_
  rintro e w7 ⟨rfl, F7, hF7, hd, hu⟩
  have HFW7 : Hid (∀ k, F7 k → w.heap.size ≤ k) := Lib.hid (fun k hk => by
    rcases hF7 k hk with h | h
    · exact HFW6.out k h
    · have := HUW6.out.size; omega)
  have HUW7 : Hid (Upd (fun _ => False) w w7) := Lib.hid (HUW6.out.trans hu (fun k hk hl => by
    have := HCB.out
    have := HG0.out
    rcases hk with e | e | e
    · omega
    · omega
    · have := HFW6.out k e; omega))
  have HD7 : Hid (Wd w7 cb bm g (.pointer (some ⟨tb, 0, none⟩)) F7 knT) := Lib.hid hd
  clear hF7 hd hu HD6 HUW6 HFW6 HR1
  obtain ⟨t1, t2, t3, t4, t5, t6⟩ := knT_is
  have HTL : Hid (Trc F7 w7 tb [⟨4, 8, 262132, 4⟩, ⟨4, 10, 262132, 6⟩]) := Lib.hid (by
    have ht := HD7.out.tr
    rw [t6] at ht
    obtain ⟨tb', e, h⟩ := ht
    simp at e
    subst e
    exact h)
  have HT5 := Lib.hid t5
  have HT6 := Lib.hid t6
  have HT1 := Lib.hid t1
  have k2 := HD7.out.cp.c2
  have k13 := HD7.out.cp.c13
  have k15 := HD7.out.cp.c15
  rw [t2] at k2
  rw [t3] at k13
  rw [t4] at k15
  rw [show (stepW (stepW knS)).x.st = 0 from t1]
  clear t1 t2 t3 t4 t5 t6
  have hz : EvM.mk 4 8 262132 4 = EvM.mk 4 8 262132 4 := rfl
  clear hz
  go_wp2_with fail
  refine (tAt HTL.out 0 (by simp) (by simp)).mono ?_
  rintro e w8 ⟨he, hu⟩
  have he2 : e = .returned (.tuple #[.agg #[.int .i64 4, .int .i64 8, .int .i64 262132, .int .i64 4], .bool true]) := he
  subst he2
  clear he
  have HD8 : Hid (Wd w8 cb bm g (.pointer (some ⟨tb, 0, none⟩)) F7 knT) := Lib.hid ⟨HD7.out.cp.upd hu (fun h => h), HD7.out.mm.upd hu (fun h => h) (fun h => h), HD7.out.tr.upd hu (fun _ _ h => h), fun k hk => ⟨Nat.lt_of_lt_of_le (HD7.out.fr k hk).1 hu.size, (HD7.out.fr k hk).2⟩, HN1.out, HN2.out⟩
  have HUW8 := Lib.hid (HUW7.out.trans hu (fun _ h _ => h))
  have HTL8 := Lib.hid ((HTL.out.upd hu (fun _ _ h => h)).upd (Upd.alloc (fun _ => False) w8 (.cells #[.int .i64 4, .int .i64 8, .int .i64 262132, .int .i64 4] 37)) (fun _ _ h => h))
  clear hu HD7 HUW7 HTL k2 k13 k15
  go_wp2_with fail
  refine (tAt HTL8.out 1 (by simp) (by simp)).mono ?_
  rintro e w9 ⟨he, hu⟩
  have he2 : e = .returned (.tuple #[.agg #[.int .i64 4, .int .i64 10, .int .i64 262132, .int .i64 6], .bool true]) := he
  subst he2
  clear he
  have HE8 : Hid ((w8.alloc (.cells #[.int .i64 4, .int .i64 8, .int .i64 262132, .int .i64 4] 37)).heap[w8.heap.size]? = some (.cells #[.int .i64 4, .int .i64 8, .int .i64 262132, .int .i64 4] 37 (0, 0))) := Lib.hid (heap_alloc_last w8 _)
  have hal8 := Upd.alloc (fun _ => False) w8 (.cells #[.int .i64 4, .int .i64 8, .int .i64 262132, .int .i64 4] 37)
  have hu9 := hal8.trans hu (fun _ h _ => h)
  have HD9 : Hid (Wd w9 cb bm g (.pointer (some ⟨tb, 0, none⟩)) F7 knT) := Lib.hid ⟨HD8.out.cp.upd hu9 (fun h => h), HD8.out.mm.upd hu9 (fun h => h) (fun h => h), HD8.out.tr.upd hu9 (fun _ _ h => h), fun k hk => ⟨Nat.lt_of_lt_of_le (HD8.out.fr k hk).1 hu9.size, (HD8.out.fr k hk).2⟩, HN1.out, HN2.out⟩
  have HUW9 := Lib.hid (HUW8.out.trans hu9 (fun _ h _ => h))
  obtain ⟨eb, heb⟩ : ∃ eb, eb = w8.heap.size := ⟨_, rfl⟩
  rw [← heb] at HE8 ⊢
  have HE9 : Hid (w9.heap[eb]? = some (.cells #[.int .i64 4, .int .i64 8, .int .i64 262132, .int .i64 4] 37 (0, 0))) := Lib.hid (by rw [hu.block eb (Array.getElem?_eq_some_iff.1 HE8.out).1 (fun h => h)]; exact HE8.out)
  have HEL := Lib.hid (show w.heap.size ≤ eb by have := HUW8.out.size; omega)
  have hecb : eb ≠ cb ∧ eb ≠ g ∧ ¬ F7 eb := ⟨by have := HD8.out.cp.lt; omega, by have := HD8.out.mm.lt.2; omega, fun h => by have := (HD8.out.fr eb h).1; omega⟩
  have HEC := Lib.hid hecb
  clear hecb hu hal8 hu9 heb HE8 HD8 HUW8 HTL8
  obtain ⟨t1, t2, t3, t4, t5, t6⟩ := knT_is
  have k2 := HD9.out.cp.c2
  have k13 := HD9.out.cp.c13
  have k15 := HD9.out.cp.c15
  have k15f := HD9.out.cp.fz 15
  rw [t2] at k2
  rw [t3] at k13
  rw [t4] at k15
  clear t1 t2 t3 t4 t5 t6
  obtain ⟨wf, hwf⟩ : ∃ wf, wf = w9.alloc (.cells #[.int .i64 4, .int .i64 10, .int .i64 262132, .int .i64 6] 37) := ⟨_, rfl⟩
  obtain ⟨fb, hfb⟩ : ∃ fb, fb = w9.heap.size := ⟨_, rfl⟩
  have hal : Upd (fun _ => False) w9 wf := by rw [hwf]; exact Upd.alloc _ _ _
  have HF10 : Hid (wf.heap[fb]? = some (.cells #[.int .i64 4, .int .i64 10, .int .i64 262132, .int .i64 6] 37 (0, 0))) := Lib.hid (by rw [hwf, hfb]; exact heap_alloc_last w9 _)
  have HE10 : Hid (wf.heap[eb]? = some (.cells #[.int .i64 4, .int .i64 8, .int .i64 262132, .int .i64 4] 37 (0, 0))) := Lib.hid (by rw [hal.block eb (Array.getElem?_eq_some_iff.1 HE9.out).1 (fun h => h)]; exact HE9.out)
  have HD10 : Hid (Wd wf cb bm g (.pointer (some ⟨tb, 0, none⟩)) F7 knT) := Lib.hid ⟨HD9.out.cp.upd hal (fun h => h), HD9.out.mm.upd hal (fun h => h) (fun h => h), HD9.out.tr.upd hal (fun _ _ h => h), fun k hk => ⟨Nat.lt_of_lt_of_le (HD9.out.fr k hk).1 hal.size, (HD9.out.fr k hk).2⟩, HN1.out, HN2.out⟩
  have HUW10 := Lib.hid (HUW9.out.trans hal (fun _ h _ => h))
  have HFL := Lib.hid (show w.heap.size ≤ fb by have := HUW9.out.size; omega)
  have HFC : Hid (fb ≠ cb ∧ fb ≠ g ∧ ¬ F7 fb) := Lib.hid ⟨by have := HD9.out.cp.lt; omega, by have := HD9.out.mm.lt.2; omega, fun h => by have := (HD9.out.fr fb h).1; omega⟩
  have m2 : (w9.alloc (.cells #[.int .i64 4, .int .i64 10, .int .i64 262132, .int .i64 6] 37)).cell? ⟨cb, 2, none⟩ = some (.int .u32 7) := by rw [← hwf]; have := HD10.out.cp.c2; rw [knT_is.2.1] at this; exact this
  have m13 : (w9.alloc (.cells #[.int .i64 4, .int .i64 10, .int .i64 262132, .int .i64 6] 37)).cell? ⟨cb, 13, none⟩ = some (.int .u32 262140) := by rw [← hwf]; have := HD10.out.cp.c13; rw [knT_is.2.2.1] at this; exact this
  have m15 : (w9.alloc (.cells #[.int .i64 4, .int .i64 10, .int .i64 262132, .int .i64 6] 37)).cell? ⟨cb, 15, none⟩ = some (.int .u32 8) := by rw [← hwf]; have := HD10.out.cp.c15; rw [knT_is.2.2.2.1] at this; exact this
  have m15f : (w9.alloc (.cells #[.int .i64 4, .int .i64 10, .int .i64 262132, .int .i64 6] 37)).frozen? ⟨cb, 15, none⟩ = false := by rw [← hwf]; exact HD10.out.cp.fz 15
  have HE := Lib.hid (HD10.out.cp.setR 15 (by decide) 12 (by decide))
  have HWF := Lib.hid hwf
  have HFB := Lib.hid hfb
  clear hal k2 k13 k15 k15f hwf hfb
  go_wp2_with fail
  rw [← HWF.out, ← HFB.out]
  have hus := Sp.setU wf cb 15 (.int .u32 12)
  have HW11 : Hid (Wd (wf.setCell ⟨cb, 15, none⟩ (.int .u32 12)) cb bm g (.pointer (some ⟨tb, 0, none⟩)) F7 ⟨knT.x.withR 15 12, knT.M, knT.L⟩) := Lib.hid ⟨HE.out, HD10.out.mm.upd hus (fun e => HN1.out e.symm) (fun e => HN2.out e.symm), HD10.out.tr.upd hus (fun k hk e => (HD10.out.fr k hk).2.1 e), fun k hk => ⟨Nat.lt_of_lt_of_le (HD10.out.fr k hk).1 hus.size, (HD10.out.fr k hk).2⟩, HN1.out, HN2.out⟩
  have HUW11 := Lib.hid (HUW10.out.trans hus (fun k hk hl => by have := HCB.out; omega))
  have HE11 : Hid ((wf.setCell ⟨cb, 15, none⟩ (.int .u32 12)).heap[eb]? = some (.cells #[.int .i64 4, .int .i64 8, .int .i64 262132, .int .i64 4] 37 (0, 0))) := Lib.hid (by rw [hus.block eb (Array.getElem?_eq_some_iff.1 HE10.out).1 (fun e => HEC.out.1 e)]; exact HE10.out)
  have HF11 : Hid ((wf.setCell ⟨cb, 15, none⟩ (.int .u32 12)).heap[fb]? = some (.cells #[.int .i64 4, .int .i64 10, .int .i64 262132, .int .i64 6] 37 (0, 0))) := Lib.hid (by rw [hus.block fb (Array.getElem?_eq_some_iff.1 HF10.out).1 (fun e => HFC.out.1 e)]; exact HF10.out)
  generalize wf.setCell ⟨cb, 15, none⟩ (.int .u32 12) = w11 at *
  clear hus m2 m13 m15 m15f HE HWF HD10 HUW10 HE10 HF10 HE9 HD9 HUW9 HT1 HT5 HT6 HFB
  refine (cRun HW11.out 9 (by decide) ⟨by show (0 : Int) ≤ knT.x.cyc; rw [knT_is.2.2.2.2.1]; decide, by show knT.x.cyc + 1000 * ((9 + 1 : Nat) : Int) ≤ 1099511627776; rw [knT_is.2.2.2.2.1]; decide, fun l hl => by have hl : knT.L = some l := hl; rw [knT_is.2.2.2.2.2] at hl; simp at hl; subst hl; simp⟩).mono ?_
  rintro e w12 ⟨rfl, F12, hF12, hd, hu⟩
  have HD12 : Hid (Wd w12 cb bm g (.pointer (some ⟨tb, 0, none⟩)) F12 knU) := Lib.hid hd
  have HFW12 : Hid (∀ k, F12 k → w.heap.size ≤ k) := Lib.hid (fun k hk => by
    rcases hF12 k hk with h | h
    · exact HFW7.out k h
    · have := HUW11.out.size; omega)
  have HUW12 : Hid (Upd (fun _ => False) w w12) := Lib.hid (HUW11.out.trans hu (fun k hk hl => by
    have := HCB.out
    have := HG0.out
    rcases hk with e | e | e
    · omega
    · omega
    · have := HFW7.out k e; omega))
  have HE12 : Hid (w12.heap[eb]? = some (.cells #[.int .i64 4, .int .i64 8, .int .i64 262132, .int .i64 4] 37 (0, 0))) := Lib.hid (by rw [hu.block eb (Array.getElem?_eq_some_iff.1 HE11.out).1 (fun e => by rcases e with e | e | e; exact HEC.out.1 e; exact HEC.out.2.1 e; exact HEC.out.2.2 e)]; exact HE11.out)
  have HF12' : Hid (w12.heap[fb]? = some (.cells #[.int .i64 4, .int .i64 10, .int .i64 262132, .int .i64 6] 37 (0, 0))) := Lib.hid (by rw [hu.block fb (Array.getElem?_eq_some_iff.1 HF11.out).1 (fun e => by rcases e with e | e | e; exact HFC.out.1 e; exact HFC.out.2.1 e; exact HFC.out.2.2 e)]; exact HF11.out)
  have HFN : Hid (¬ F12 eb ∧ ¬ F12 fb) := Lib.hid ⟨fun h => by
    rcases hF12 eb h with h | h
    · exact HEC.out.2.2 h
    · have := (Array.getElem?_eq_some_iff.1 HE11.out).1; omega, fun h => by
    rcases hF12 fb h with h | h
    · exact HFC.out.2.2 h
    · have := (Array.getElem?_eq_some_iff.1 HF11.out).1; omega⟩
  clear hF12 hd hu HW11 HUW11 HE11 HF11 HFW7
  rw [show (runW 9 ⟨knT.x.withR 15 12, knT.M, knT.L⟩).x.st = 1 from knU_is.1]
  go_wp2_with fail
  refine (cNew _).mono ?_
  rintro e w13 ⟨rfl, hc, hu⟩
  have hlt := HD12.out.cp.lt
  have hltm := HD12.out.mm.lt
  have hle := (Array.getElem?_eq_some_iff.1 HE12.out).1
  have hlf := (Array.getElem?_eq_some_iff.1 HF12'.out).1
  have HDB := Lib.hid (show w.heap.size ≤ w12.heap.size ∧ w12.heap.size ≠ cb ∧ w12.heap.size ≠ bm ∧ w12.heap.size ≠ g ∧ w12.heap.size ≠ eb ∧ w12.heap.size ≠ fb ∧ ¬ F12 w12.heap.size from ⟨HUW12.out.size, by omega, by omega, by omega, by omega, by omega, fun h => by have := (HD12.out.fr _ h).1; omega⟩)
  have HC13 := Lib.hid hc
  have HD13 : Hid (Wd w13 cb bm g (.pointer (some ⟨tb, 0, none⟩)) F12 knU) := Lib.hid ⟨HD12.out.cp.upd hu (fun h => h), HD12.out.mm.upd hu (fun h => h) (fun h => h), HD12.out.tr.upd hu (fun _ _ h => h), fun k hk => ⟨Nat.lt_of_lt_of_le (HD12.out.fr k hk).1 hu.size, (HD12.out.fr k hk).2⟩, HN1.out, HN2.out⟩
  have HUW13 := Lib.hid (HUW12.out.trans hu (fun _ h _ => h))
  have HE13 : Hid (w13.heap[eb]? = some (.cells #[.int .i64 4, .int .i64 8, .int .i64 262132, .int .i64 4] 37 (0, 0))) := Lib.hid (by rw [hu.block eb hle (fun h => h)]; exact HE12.out)
  have HF13 : Hid (w13.heap[fb]? = some (.cells #[.int .i64 4, .int .i64 10, .int .i64 262132, .int .i64 6] 37 (0, 0))) := Lib.hid (by rw [hu.block fb hlf (fun h => h)]; exact HF12'.out)
  generalize w12.heap.size = db at *
  clear hc hu hlt hltm hle hlf HD12 HUW12 HE12 HF12'
  have d15 := HC13.out.c15
  have d15f := HC13.out.fz 15
  have HCE := Lib.hid (HC13.out.setR 15 (by decide) 131072 (by decide))
  go_wp2_with fail
  have hus := Sp.setU w13 db 15 (.int .u32 131072)
  have HW14 : Hid (Wd (w13.setCell ⟨db, 15, none⟩ (.int .u32 131072)) db bm g (.pointer (some ⟨tb, 0, none⟩)) F12 ⟨Ch.zero.withR 15 131072, knU.M, knU.L⟩) := Lib.hid ⟨HCE.out, HD13.out.mm.upd hus (fun e => HDB.out.2.2.1 e.symm) (fun e => HDB.out.2.2.2.1 e.symm), HD13.out.tr.upd hus (fun k hk e => HDB.out.2.2.2.2.2.2 (e ▸ hk)), fun k hk => ⟨Nat.lt_of_lt_of_le (HD13.out.fr k hk).1 hus.size, fun e => HDB.out.2.2.2.2.2.2 (e ▸ hk), (HD13.out.fr k hk).2.2⟩, HDB.out.2.2.1, HDB.out.2.2.2.1⟩
  have HUW14 := Lib.hid (HUW13.out.trans hus (fun k hk hl => by have := HDB.out.1; omega))
  have HC14 := Lib.hid (HD13.out.cp.upd hus (fun e => HDB.out.2.1 e.symm))
  have HE14 : Hid ((w13.setCell ⟨db, 15, none⟩ (.int .u32 131072)).heap[eb]? = some (.cells #[.int .i64 4, .int .i64 8, .int .i64 262132, .int .i64 4] 37 (0, 0))) := Lib.hid (by rw [hus.block eb (Array.getElem?_eq_some_iff.1 HE13.out).1 (fun e => HDB.out.2.2.2.2.1 e.symm)]; exact HE13.out)
  have HF14 : Hid ((w13.setCell ⟨db, 15, none⟩ (.int .u32 131072)).heap[fb]? = some (.cells #[.int .i64 4, .int .i64 10, .int .i64 262132, .int .i64 6] 37 (0, 0))) := Lib.hid (by rw [hus.block fb (Array.getElem?_eq_some_iff.1 HF13.out).1 (fun e => HDB.out.2.2.2.2.2.1 e.symm)]; exact HF13.out)
  have HFC14 := Lib.hid (fun h : F12 cb => (HD13.out.fr cb h).2.1 rfl)
  generalize w13.setCell ⟨db, 15, none⟩ (.int .u32 131072) = w14 at *
  clear hus d15 d15f HCE HD13 HUW13 HE13 HF13 HC13
  have hln : ∀ l, knU.L = some l → l.length = 3 := fun l hl => by
    have := knU_is.2.2.2
    rw [hl] at this
    simpa using this
  refine (cStep HW14.out (n := 0) ⟨by show (0 : Int) ≤ 0; decide, by show (0 : Int) + 1000 * ((0 + 1 : Nat) : Int) ≤ 1099511627776; decide, fun l hl => by have := hln l hl; omega⟩).mono ?_
  rintro e w15 ⟨rfl, F15, hF15, hd, hu⟩
  have HD15 : Hid (Wd w15 db bm g (.pointer (some ⟨tb, 0, none⟩)) F15 knD) := Lib.hid hd
  have HUW15 : Hid (Upd (fun _ => False) w w15) := Lib.hid (HUW14.out.trans hu (fun k hk hl => by
    have := HDB.out.1
    have := HG0.out
    rcases hk with e | e | e
    · omega
    · omega
    · have := HFW12.out k e; omega))
  have HC15 := Lib.hid (HC14.out.upd hu (fun e => by
    rcases e with e | e | e
    · exact HDB.out.2.1 e.symm
    · exact HN2.out e
    · exact HFC14.out e))
  have HE15 : w15.heap[eb]? = some (.cells #[.int .i64 4, .int .i64 8, .int .i64 262132, .int .i64 4] 37 (0, 0)) := by rw [hu.block eb (Array.getElem?_eq_some_iff.1 HE14.out).1 (fun e => by rcases e with e | e | e; exact HDB.out.2.2.2.2.1 e.symm; exact HEC.out.2.1 e; exact HFN.out.1 e)]; exact HE14.out
  have HF15 : w15.heap[fb]? = some (.cells #[.int .i64 4, .int .i64 10, .int .i64 262132, .int .i64 6] 37 (0, 0)) := by rw [hu.block fb (Array.getElem?_eq_some_iff.1 HF14.out).1 (fun e => by rcases e with e | e | e; exact HDB.out.2.2.2.2.2.1 e.symm; exact HFC.out.2.1 e; exact HFN.out.2 e)]; exact HF14.out
  obtain ⟨e0, e1, e2, e3, -⟩ := four HE15
  obtain ⟨f0, f1, f2, f3, -⟩ := four HF15
  have q21 := HC15.out.c21
  have q15 := HC15.out.c15
  have z15 := HD15.out.cp.c15
  rw [knU_is.2.1] at q21
  rw [knU_is.2.2.1] at q15
  rw [knD_is.2] at z15
  have HOFF := Lib.hid (cStepOff HD15.out.cp (by rw [knD_is.1]; decide) (.pointer (some ⟨bm, 0, none⟩)) (.pointer (some ⟨tb, 0, none⟩)))
  rw [knD_is.1] at HOFF
  rw [show (stepW ⟨Ch.zero.withR 15 131072, knU.M, knU.L⟩).x.st = 2 from knD_is.1]
  have hev1 := evEql w15 ⟨4, 8, 262132, 4⟩ ⟨4, 8, 262132, 4⟩
  have hev2 := evEql w15 ⟨4, 10, 262132, 6⟩ ⟨4, 10, 262132, 6⟩
  rw [evEq_self] at hev1 hev2
  clear hF15 hd hu hln HE15 HF15
  go_wp2_with (with_reducible refine HOFF.out.mono ?_; rintro e _ ⟨rfl, rfl⟩)
  go_ret
  exact ⟨rfl, HUW15.out⟩
theorem chipKnown_below (w : World) : Calls Try.prog 3 #[] w fun e w' => e = .returned (.bool true) ∧ Below w.heap.size w w' := (chipKnown_walk w).mono fun _ _ h => ⟨h.1, h.2.below (Nat.le_refl _) (fun _ h => h.elim)⟩
end Go.Proofs.Ytppniogpokmhiaa

/- Package text: an instruction's line. Made by mkti.py. -/
import Derived.Test.YtiadkidhfhkokaaDoorTh
namespace Go.Proofs.YtiadkidhfhkokaaDoor
open Go.RowKit Go.Lib
set_option linter.unusedVariables false
set_option linter.unusedSimpArgs false

def insBad (op : Int) (x : Ws) : Ws := (x.1, x.2 || !(op != 0))
def insW (op : Int) (x : Ws) : InsM × Ws := match decide (0 < opsB op) with
  | false => (⟨op, 0, 0⟩, insBad op x)
  | true => match decide (1 < opsB op) with
    | false => (⟨op, (numW (insBad op x)).1, 0⟩, (numW (insBad op x)).2)
    | true => (⟨op, (numW (insBad op x)).1, (numW (numW (insBad op x)).2).1⟩, (numW (numW (insBad op x)).2).2)
section
variable {w : World} {b : Nat} {l : By} {bad : Bool}
set_option maxHeartbeats 4000000 in
theorem tInstr0 (hw : Wb w b l bad) (hl : l.length ≤ maxLen) (op : Int) (hop : opsB op = 0) : Calls Tryd.prog 84 #[.pointer (some ⟨b, 0, none⟩), .int .i64 op] w fun e w' => e = .returned (.agg #[.int .i64 (insW op (l, bad)).1.op, .int .i64 (insW op (l, bad)).1.a, .int .i64 (insW op (l, bad)).1.b]) ∧ Wb w' b (insW op (l, bad)).2.1 (insW op (l, bad)).2.2 ∧ Upd (fun k => k = b) w w' := by
  have hbl : b < w.heap.size := hw.lt
  obtain ⟨w1, hw1⟩ : ∃ w1, w1 = w.alloc (.cells #[.int .i64 0, .int .i64 0, .int .i64 0] 70) := ⟨_, rfl⟩
  have hu1 : Upd (fun _ => False) w w1 := by rw [hw1]; exact Upd.alloc _ _ _
  have HX1 : Hid (w1.heap[w.heap.size]? = some (.cells #[.int .i64 0, .int .i64 0, .int .i64 0] 70 (0, 0))) := Lib.hid (by rw [hw1]; exact tTop _ _ _ rfl)
  have HW1 := Lib.hid hw1
  have HU1 := Lib.hid (hu1.mono (T := fun k => k = b ∨ w.heap.size ≤ k) (fun _ h _ => h.elim))
  have HSZ1 : Hid (w1.heap.size = w.heap.size + 1) := Lib.hid (by rw [hw1]; simp)
  have HB1 := Lib.hid (hw.upd hu1 (fun h => h))
  obtain ⟨bad2, hbad2⟩ : ∃ q, q = (bad || !(op != 0)) := ⟨_, rfl⟩
  have HBD := Lib.hid hbad2
  have HL0 : Hid ((l, bad2).1.length ≤ maxLen) := Lib.hid hl
  have HOP := Lib.hid (fun w => cOperands op w)
  rw [hop] at HOP
  obtain ⟨R, hR⟩ : ∃ R, R = insW op (l, bad) := ⟨_, rfl⟩
  have hib : insBad op (l, bad) = (l, bad2) := by unfold insBad; rw [hbad2]
  have HR : Hid (R = ((⟨op, 0, 0⟩ : InsM), (l, bad2))) := Lib.hid (by
    rw [hR]
    unfold insW
    rw [show decide (0 < opsB op) = false by rw [hop]; rfl, show decide (1 < opsB op) = false by rw [hop]; rfl, hib])
  rw [← hR]
  clear hw hl hu1 hw1 hR hib hop
  go_enter Tryd.func84, Tryd.ntmps84
  go_wp2_with fail
  rw [← HW1.out]
  refine (tNeed l bad (op != 0) b w1 HB1.out).mono ?_
  rw [← HBD.out]
  rintro e w2 ⟨rfl, hwb, hu⟩
  have HX2 := Lib.hid (tBlk hu HX1.out (by omega))
  have hS2 : w.heap.size + 1 ≤ w2.heap.size := by have := hu.size; have := HSZ1.out; omega
  obtain ⟨Y, hY⟩ : ∃ Y, Y = w2.heap.size := ⟨_, rfl⟩
  obtain ⟨w3, hw3⟩ : ∃ w3, w3 = w2.alloc (.cells #[.int .i64 op, .int .i64 0, .int .i64 0] 70) := ⟨_, rfl⟩
  have hu3 : Upd (fun _ => False) w2 w3 := by rw [hw3]; exact Upd.alloc _ _ _
  have HX3 := Lib.hid (tBlk hu3 HX2.out (fun h => h))
  have HY3 : Hid (w3.heap[Y]? = some (.cells #[.int .i64 op, .int .i64 0, .int .i64 0] 70 (0, 0))) := Lib.hid (by rw [hw3]; exact tTop _ _ _ hY)
  have HB3 := Lib.hid (hwb.upd hu3 (fun h => h))
  have HU3 := Lib.hid ((HU1.out.trans (hu.mono (T := fun k => k = b ∨ w.heap.size ≤ k) (fun _ h _ => .inl h)) (fun _ h _ => h)).trans (hu3.mono (T := fun k => k = b ∨ w.heap.size ≤ k) (fun _ h _ => h.elim)) (fun _ h _ => h))
  have hYb : w.heap.size < Y := by omega
  have HW3 := Lib.hid hw3
  have HYE := Lib.hid hY
  clear hwb hu hu3 hw3 hY hS2
  go_wp2_with fail
  rw [← HW3.out, ← HYE.out]
  refine (HOP.out w3).mono ?_
  rintro e wq ⟨rfl, hq⟩
  subst wq
  obtain ⟨y0, g0⟩ := tCell HY3.out 0
  obtain ⟨y1, g1⟩ := tCell HY3.out 1
  obtain ⟨y2, g2⟩ := tCell HY3.out 2
  obtain ⟨x0, f0⟩ := tCell HX3.out 0
  obtain ⟨x1, f1⟩ := tCell HX3.out 1
  obtain ⟨x2, f2⟩ := tCell HX3.out 2
  simp at y0 y1 y2 x0 x1 x2
  go_wp2_with fail
  refine bodyPost_ret (v := .agg #[.int .i64 op, .int .i64 0, .int .i64 0]) (by simp only [results, Tryd.f84]; simp [go_sem, x0, x1, x2, f0, f1, f2, y0, y1, y2, g0, g1, g2]) rfl ?_
  clear x0 x1 x2 f0 f1 f2 y0 y1 y2 g0 g1 g2
  rw [HR.out]
  refine ⟨rfl, ?_⟩
  
  obtain ⟨wz, hwz, huz⟩ : ∃ wz, wz = ((w3.setCell ⟨w.heap.size, 0, none⟩ (.int .i64 op)).setCell ⟨w.heap.size, 1, none⟩ (.int .i64 0)).setCell ⟨w.heap.size, 2, none⟩ (.int .i64 0) ∧ Upd (fun k => k = w.heap.size) w3 wz := by
    refine ⟨_, rfl, ?_⟩
    iterate 3 refine tSet ?_ (by simp)
    exact Upd.refl _ _
  rw [← hwz]
  exact ⟨HB3.out.upd huz (by omega), Upd.olds (HU3.out.trans (huz.mono (T := fun k => k = b ∨ w.heap.size ≤ k) (fun k h _ => .inr (by omega))) (fun _ h _ => h))⟩
set_option maxHeartbeats 4000000 in
theorem tInstr1 (hw : Wb w b l bad) (hl : l.length ≤ maxLen) (op : Int) (hop : opsB op = 1) : Calls Tryd.prog 84 #[.pointer (some ⟨b, 0, none⟩), .int .i64 op] w fun e w' => e = .returned (.agg #[.int .i64 (insW op (l, bad)).1.op, .int .i64 (insW op (l, bad)).1.a, .int .i64 (insW op (l, bad)).1.b]) ∧ Wb w' b (insW op (l, bad)).2.1 (insW op (l, bad)).2.2 ∧ Upd (fun k => k = b) w w' := by
  have hbl : b < w.heap.size := hw.lt
  obtain ⟨w1, hw1⟩ : ∃ w1, w1 = w.alloc (.cells #[.int .i64 0, .int .i64 0, .int .i64 0] 70) := ⟨_, rfl⟩
  have hu1 : Upd (fun _ => False) w w1 := by rw [hw1]; exact Upd.alloc _ _ _
  have HX1 : Hid (w1.heap[w.heap.size]? = some (.cells #[.int .i64 0, .int .i64 0, .int .i64 0] 70 (0, 0))) := Lib.hid (by rw [hw1]; exact tTop _ _ _ rfl)
  have HW1 := Lib.hid hw1
  have HU1 := Lib.hid (hu1.mono (T := fun k => k = b ∨ w.heap.size ≤ k) (fun _ h _ => h.elim))
  have HSZ1 : Hid (w1.heap.size = w.heap.size + 1) := Lib.hid (by rw [hw1]; simp)
  have HB1 := Lib.hid (hw.upd hu1 (fun h => h))
  obtain ⟨bad2, hbad2⟩ : ∃ q, q = (bad || !(op != 0)) := ⟨_, rfl⟩
  have HBD := Lib.hid hbad2
  have HL0 : Hid ((l, bad2).1.length ≤ maxLen) := Lib.hid hl
  have HOP := Lib.hid (fun w => cOperands op w)
  rw [hop] at HOP
  obtain ⟨R, hR⟩ : ∃ R, R = insW op (l, bad) := ⟨_, rfl⟩
  have hib : insBad op (l, bad) = (l, bad2) := by unfold insBad; rw [hbad2]
  obtain ⟨A, hA⟩ : ∃ A, A = numW (l, bad2) := ⟨_, rfl⟩
  have HA := Lib.hid hA
  have HLA : Hid (A.2.1.length ≤ maxLen) := Lib.hid (by have h1 := numW_len (l, bad2); rw [← hA] at h1; exact Nat.le_trans h1 hl)
  have HR : Hid (R = ((⟨op, A.1, 0⟩ : InsM), A.2)) := Lib.hid (by
    rw [hR]
    unfold insW
    rw [show decide (0 < opsB op) = true by rw [hop]; rfl, show decide (1 < opsB op) = false by rw [hop]; rfl, hib, ← hA])
  rw [← hR]
  clear hw hl hu1 hw1 hR hib hop hA
  go_enter Tryd.func84, Tryd.ntmps84
  go_wp2_with fail
  rw [← HW1.out]
  refine (tNeed l bad (op != 0) b w1 HB1.out).mono ?_
  rw [← HBD.out]
  rintro e w2 ⟨rfl, hwb, hu⟩
  have HX2 := Lib.hid (tBlk hu HX1.out (by omega))
  have hS2 : w.heap.size + 1 ≤ w2.heap.size := by have := hu.size; have := HSZ1.out; omega
  obtain ⟨Y, hY⟩ : ∃ Y, Y = w2.heap.size := ⟨_, rfl⟩
  obtain ⟨w3, hw3⟩ : ∃ w3, w3 = w2.alloc (.cells #[.int .i64 op, .int .i64 0, .int .i64 0] 70) := ⟨_, rfl⟩
  have hu3 : Upd (fun _ => False) w2 w3 := by rw [hw3]; exact Upd.alloc _ _ _
  have HX3 := Lib.hid (tBlk hu3 HX2.out (fun h => h))
  have HY3 : Hid (w3.heap[Y]? = some (.cells #[.int .i64 op, .int .i64 0, .int .i64 0] 70 (0, 0))) := Lib.hid (by rw [hw3]; exact tTop _ _ _ hY)
  have HB3 := Lib.hid (hwb.upd hu3 (fun h => h))
  have HU3 := Lib.hid ((HU1.out.trans (hu.mono (T := fun k => k = b ∨ w.heap.size ≤ k) (fun _ h _ => .inl h)) (fun _ h _ => h)).trans (hu3.mono (T := fun k => k = b ∨ w.heap.size ≤ k) (fun _ h _ => h.elim)) (fun _ h _ => h))
  have hYb : w.heap.size < Y := by omega
  have HW3 := Lib.hid hw3
  have HYE := Lib.hid hY
  clear hwb hu hu3 hw3 hY hS2
  go_wp2_with fail
  rw [← HW3.out, ← HYE.out]
  refine (HOP.out w3).mono ?_
  rintro e wq ⟨rfl, hq⟩
  subst wq
  go_wp2_with fail
  
  refine (tNum HB3.out HL0.out).mono ?_
  rw [← HA.out]
  rintro e w4 ⟨rfl, hwb, hu⟩
  have HB4 := Lib.hid hwb
  have HY4 := Lib.hid (tBlk hu HY3.out (by omega))
  have HX4 := Lib.hid (tBlk hu HX3.out (by omega))
  have HU4 := Lib.hid (HU3.out.trans (hu.mono (T := fun k => k = b ∨ w.heap.size ≤ k) (fun _ h _ => .inl h)) (fun _ h _ => h))
  obtain ⟨y0, f0⟩ := tCell HY4.out 1
  simp at y0
  obtain ⟨w5, hw5⟩ : ∃ w5, w5 = w4.setCell ⟨Y, 1, none⟩ (.int .i64 A.1) := ⟨_, rfl⟩
  have hus : Upd (fun k => k = Y) w4 w5 := by rw [hw5]; exact Upd.setCell (S := fun k => k = Y) w4 (p := ⟨Y, 1, none⟩) (.inl rfl) _
  have HB5 := Lib.hid (HB4.out.upd hus (by omega))
  have HY5 : Hid (w5.heap[Y]? = some (.cells #[.int .i64 op, .int .i64 A.1, .int .i64 0] 70 (0, 0))) := Lib.hid (by rw [hw5]; exact tPut HY4.out 1 _)
  have HX5 := Lib.hid (tBlk hus HX4.out (by omega))
  have HU5 := Lib.hid (HU4.out.trans (hus.mono (T := fun k => k = b ∨ w.heap.size ≤ k) (fun k h _ => .inr (by omega))) (fun _ h _ => h))
  have HW5 := Lib.hid hw5
  clear hwb hu hus hw5
  clear y0 f0
  obtain ⟨y0, g0⟩ := tCell HY4.out 0
  obtain ⟨y1, g1⟩ := tCell HY4.out 1
  obtain ⟨y2, g2⟩ := tCell HY4.out 2
  obtain ⟨x0, f0⟩ := tCell HX4.out 0
  obtain ⟨x1, f1⟩ := tCell HX4.out 1
  obtain ⟨x2, f2⟩ := tCell HX4.out 2
  simp at y0 y1 y2 x0 x1 x2
  go_wp2_with fail
  refine bodyPost_ret (v := .agg #[.int .i64 op, .int .i64 A.1, .int .i64 0]) (by simp only [results, Tryd.f84]; simp [go_sem, x0, x1, x2, f0, f1, f2, y0, y1, y2, g0, g1, g2]) rfl ?_
  clear x0 x1 x2 f0 f1 f2 y0 y1 y2 g0 g1 g2
  rw [HR.out]
  refine ⟨rfl, ?_⟩
  rw [← HW5.out]
  obtain ⟨wz, hwz, huz⟩ : ∃ wz, wz = ((w5.setCell ⟨w.heap.size, 0, none⟩ (.int .i64 op)).setCell ⟨w.heap.size, 1, none⟩ (.int .i64 A.1)).setCell ⟨w.heap.size, 2, none⟩ (.int .i64 0) ∧ Upd (fun k => k = w.heap.size) w5 wz := by
    refine ⟨_, rfl, ?_⟩
    iterate 3 refine tSet ?_ (by simp)
    exact Upd.refl _ _
  rw [← hwz]
  exact ⟨HB5.out.upd huz (by omega), Upd.olds (HU5.out.trans (huz.mono (T := fun k => k = b ∨ w.heap.size ≤ k) (fun k h _ => .inr (by omega))) (fun _ h _ => h))⟩
set_option maxHeartbeats 4000000 in
theorem tInstr2 (hw : Wb w b l bad) (hl : l.length ≤ maxLen) (op : Int) (hop : opsB op = 2) : Calls Tryd.prog 84 #[.pointer (some ⟨b, 0, none⟩), .int .i64 op] w fun e w' => e = .returned (.agg #[.int .i64 (insW op (l, bad)).1.op, .int .i64 (insW op (l, bad)).1.a, .int .i64 (insW op (l, bad)).1.b]) ∧ Wb w' b (insW op (l, bad)).2.1 (insW op (l, bad)).2.2 ∧ Upd (fun k => k = b) w w' := by
  have hbl : b < w.heap.size := hw.lt
  obtain ⟨w1, hw1⟩ : ∃ w1, w1 = w.alloc (.cells #[.int .i64 0, .int .i64 0, .int .i64 0] 70) := ⟨_, rfl⟩
  have hu1 : Upd (fun _ => False) w w1 := by rw [hw1]; exact Upd.alloc _ _ _
  have HX1 : Hid (w1.heap[w.heap.size]? = some (.cells #[.int .i64 0, .int .i64 0, .int .i64 0] 70 (0, 0))) := Lib.hid (by rw [hw1]; exact tTop _ _ _ rfl)
  have HW1 := Lib.hid hw1
  have HU1 := Lib.hid (hu1.mono (T := fun k => k = b ∨ w.heap.size ≤ k) (fun _ h _ => h.elim))
  have HSZ1 : Hid (w1.heap.size = w.heap.size + 1) := Lib.hid (by rw [hw1]; simp)
  have HB1 := Lib.hid (hw.upd hu1 (fun h => h))
  obtain ⟨bad2, hbad2⟩ : ∃ q, q = (bad || !(op != 0)) := ⟨_, rfl⟩
  have HBD := Lib.hid hbad2
  have HL0 : Hid ((l, bad2).1.length ≤ maxLen) := Lib.hid hl
  have HOP := Lib.hid (fun w => cOperands op w)
  rw [hop] at HOP
  obtain ⟨R, hR⟩ : ∃ R, R = insW op (l, bad) := ⟨_, rfl⟩
  have hib : insBad op (l, bad) = (l, bad2) := by unfold insBad; rw [hbad2]
  obtain ⟨A, hA⟩ : ∃ A, A = numW (l, bad2) := ⟨_, rfl⟩
  have HA := Lib.hid hA
  have HLA : Hid (A.2.1.length ≤ maxLen) := Lib.hid (by have h1 := numW_len (l, bad2); rw [← hA] at h1; exact Nat.le_trans h1 hl)
  obtain ⟨C, hC⟩ : ∃ C, C = numW A.2 := ⟨_, rfl⟩
  have HC := Lib.hid hC
  have HLC : Hid (C.2.1.length ≤ maxLen) := Lib.hid (by have h1 := numW_len A.2; rw [← hC] at h1; exact Nat.le_trans h1 HLA.out)
  have HR : Hid (R = ((⟨op, A.1, C.1⟩ : InsM), C.2)) := Lib.hid (by
    rw [hR]
    unfold insW
    rw [show decide (0 < opsB op) = true by rw [hop]; rfl, show decide (1 < opsB op) = true by rw [hop]; rfl, hib, ← hA, ← hC])
  rw [← hR]
  clear hw hl hu1 hw1 hR hib hop hA hC
  go_enter Tryd.func84, Tryd.ntmps84
  go_wp2_with fail
  rw [← HW1.out]
  refine (tNeed l bad (op != 0) b w1 HB1.out).mono ?_
  rw [← HBD.out]
  rintro e w2 ⟨rfl, hwb, hu⟩
  have HX2 := Lib.hid (tBlk hu HX1.out (by omega))
  have hS2 : w.heap.size + 1 ≤ w2.heap.size := by have := hu.size; have := HSZ1.out; omega
  obtain ⟨Y, hY⟩ : ∃ Y, Y = w2.heap.size := ⟨_, rfl⟩
  obtain ⟨w3, hw3⟩ : ∃ w3, w3 = w2.alloc (.cells #[.int .i64 op, .int .i64 0, .int .i64 0] 70) := ⟨_, rfl⟩
  have hu3 : Upd (fun _ => False) w2 w3 := by rw [hw3]; exact Upd.alloc _ _ _
  have HX3 := Lib.hid (tBlk hu3 HX2.out (fun h => h))
  have HY3 : Hid (w3.heap[Y]? = some (.cells #[.int .i64 op, .int .i64 0, .int .i64 0] 70 (0, 0))) := Lib.hid (by rw [hw3]; exact tTop _ _ _ hY)
  have HB3 := Lib.hid (hwb.upd hu3 (fun h => h))
  have HU3 := Lib.hid ((HU1.out.trans (hu.mono (T := fun k => k = b ∨ w.heap.size ≤ k) (fun _ h _ => .inl h)) (fun _ h _ => h)).trans (hu3.mono (T := fun k => k = b ∨ w.heap.size ≤ k) (fun _ h _ => h.elim)) (fun _ h _ => h))
  have hYb : w.heap.size < Y := by omega
  have HW3 := Lib.hid hw3
  have HYE := Lib.hid hY
  clear hwb hu hu3 hw3 hY hS2
  go_wp2_with fail
  rw [← HW3.out, ← HYE.out]
  refine (HOP.out w3).mono ?_
  rintro e wq ⟨rfl, hq⟩
  subst wq
  go_wp2_with fail
  
  refine (tNum HB3.out HL0.out).mono ?_
  rw [← HA.out]
  rintro e w4 ⟨rfl, hwb, hu⟩
  have HB4 := Lib.hid hwb
  have HY4 := Lib.hid (tBlk hu HY3.out (by omega))
  have HX4 := Lib.hid (tBlk hu HX3.out (by omega))
  have HU4 := Lib.hid (HU3.out.trans (hu.mono (T := fun k => k = b ∨ w.heap.size ≤ k) (fun _ h _ => .inl h)) (fun _ h _ => h))
  obtain ⟨y0, f0⟩ := tCell HY4.out 1
  simp at y0
  obtain ⟨w5, hw5⟩ : ∃ w5, w5 = w4.setCell ⟨Y, 1, none⟩ (.int .i64 A.1) := ⟨_, rfl⟩
  have hus : Upd (fun k => k = Y) w4 w5 := by rw [hw5]; exact Upd.setCell (S := fun k => k = Y) w4 (p := ⟨Y, 1, none⟩) (.inl rfl) _
  have HB5 := Lib.hid (HB4.out.upd hus (by omega))
  have HY5 : Hid (w5.heap[Y]? = some (.cells #[.int .i64 op, .int .i64 A.1, .int .i64 0] 70 (0, 0))) := Lib.hid (by rw [hw5]; exact tPut HY4.out 1 _)
  have HX5 := Lib.hid (tBlk hus HX4.out (by omega))
  have HU5 := Lib.hid (HU4.out.trans (hus.mono (T := fun k => k = b ∨ w.heap.size ≤ k) (fun k h _ => .inr (by omega))) (fun _ h _ => h))
  have HW5 := Lib.hid hw5
  clear hwb hu hus hw5
  go_wp2_with fail
  rw [← HW5.out]
  refine (tNum HB5.out HLA.out).mono ?_
  rw [← HC.out]
  rintro e w6 ⟨rfl, hwb, hu⟩
  have HB6 := Lib.hid hwb
  have HY6 := Lib.hid (tBlk hu HY5.out (by omega))
  have HX6 := Lib.hid (tBlk hu HX5.out (by omega))
  have HU6 := Lib.hid (HU5.out.trans (hu.mono (T := fun k => k = b ∨ w.heap.size ≤ k) (fun _ h _ => .inl h)) (fun _ h _ => h))
  obtain ⟨y0, f0⟩ := tCell HY6.out 2
  simp at y0
  obtain ⟨w7, hw7⟩ : ∃ w7, w7 = w6.setCell ⟨Y, 2, none⟩ (.int .i64 C.1) := ⟨_, rfl⟩
  have hus : Upd (fun k => k = Y) w6 w7 := by rw [hw7]; exact Upd.setCell (S := fun k => k = Y) w6 (p := ⟨Y, 2, none⟩) (.inl rfl) _
  have HB7 := Lib.hid (HB6.out.upd hus (by omega))
  have HY7 : Hid (w7.heap[Y]? = some (.cells #[.int .i64 op, .int .i64 A.1, .int .i64 C.1] 70 (0, 0))) := Lib.hid (by rw [hw7]; exact tPut HY6.out 2 _)
  have HX7 := Lib.hid (tBlk hus HX6.out (by omega))
  have HU7 := Lib.hid (HU6.out.trans (hus.mono (T := fun k => k = b ∨ w.heap.size ≤ k) (fun k h _ => .inr (by omega))) (fun _ h _ => h))
  have HW7 := Lib.hid hw7
  clear hwb hu hus hw7
  clear y0 f0
  obtain ⟨y0, g0⟩ := tCell HY6.out 0
  obtain ⟨y1, g1⟩ := tCell HY6.out 1
  obtain ⟨y2, g2⟩ := tCell HY6.out 2
  obtain ⟨x0, f0⟩ := tCell HX6.out 0
  obtain ⟨x1, f1⟩ := tCell HX6.out 1
  obtain ⟨x2, f2⟩ := tCell HX6.out 2
  simp at y0 y1 y2 x0 x1 x2
  go_wp2_with fail
  refine bodyPost_ret (v := .agg #[.int .i64 op, .int .i64 A.1, .int .i64 C.1]) (by simp only [results, Tryd.f84]; simp [go_sem, x0, x1, x2, f0, f1, f2, y0, y1, y2, g0, g1, g2]) rfl ?_
  clear x0 x1 x2 f0 f1 f2 y0 y1 y2 g0 g1 g2
  rw [HR.out]
  refine ⟨rfl, ?_⟩
  rw [← HW7.out]
  obtain ⟨wz, hwz, huz⟩ : ∃ wz, wz = ((w7.setCell ⟨w.heap.size, 0, none⟩ (.int .i64 op)).setCell ⟨w.heap.size, 1, none⟩ (.int .i64 A.1)).setCell ⟨w.heap.size, 2, none⟩ (.int .i64 C.1) ∧ Upd (fun k => k = w.heap.size) w7 wz := by
    refine ⟨_, rfl, ?_⟩
    iterate 3 refine tSet ?_ (by simp)
    exact Upd.refl _ _
  rw [← hwz]
  exact ⟨HB7.out.upd huz (by omega), Upd.olds (HU7.out.trans (huz.mono (T := fun k => k = b ∨ w.heap.size ≤ k) (fun k h _ => .inr (by omega))) (fun _ h _ => h))⟩
theorem tInstr (hw : Wb w b l bad) (hl : l.length ≤ maxLen) (op : Int) : Calls Tryd.prog 84 #[.pointer (some ⟨b, 0, none⟩), .int .i64 op] w fun e w' => e = .returned (.agg #[.int .i64 (insW op (l, bad)).1.op, .int .i64 (insW op (l, bad)).1.a, .int .i64 (insW op (l, bad)).1.b]) ∧ Wb w' b (insW op (l, bad)).2.1 (insW op (l, bad)).2.2 ∧ Upd (fun k => k = b) w w' := by
  rcases ops3 op with h | h | h
  · exact tInstr0 hw hl op h
  · exact tInstr1 hw hl op h
  · exact tInstr2 hw hl op h
end
end Go.Proofs.YtiadkidhfhkokaaDoor

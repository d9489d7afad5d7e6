/- Stage 16: what known asks. -/
import Derived.Test.YtibmgmgkaacibaaEzk
namespace Go.Proofs.Ytibmgmgkaacibaa
open Go.RowKit Go.ChangeShapes Go.WideShapes Go.Deep Go.IntWalk
set_option linter.unusedVariables false
set_option linter.unusedSimpArgs false
set_option maxRecDepth 20000 in
set_option maxHeartbeats 2000000 in
theorem known16 (w : World) : Calls Try.prog 12 #[] w fun e w' => e = .returned (.bool true) ∧ Upd (fun _ => False) w w' := by
  have hL := isL_lit w kL 36 #[.int .i64 8, .int .i64 0, .int .i64 0, .int .i64 0, .int .i64 5, .int .i64 0, .int .i64 11, .int .i64 0, .int .i64 0, .int .i64 0, .int .i64 6, .int .i64 0] 2 rfl rfl (by omega)
  have HLD := Lib.hid (lLoad _ w.heap.size 2 kL hL (by simp) (by decide +kernel) (by decide) 0 rfl (by omega))
  have HAL := Lib.hid (Upd.alloc (fun _ => False) w (.cells #[.int .i64 8, .int .i64 0, .int .i64 0, .int .i64 0, .int .i64 5, .int .i64 0, .int .i64 11, .int .i64 0, .int .i64 0, .int .i64 0, .int .i64 6, .int .i64 0] 36))
  clear hL
  go_enter Try.func12, Try.ntmps12
  go_wp2_with fail
  refine HLD.out.mono ?_
  rintro e w1 ⟨rfl, hm, hu⟩
  have HM1 := Lib.hid hm
  have HU1 := Lib.hid (HAL.out.trans hu (fun _ h _ => h))
  have HG0 := Lib.hid (show w.heap.size ≤ (w.alloc (.cells #[.int .i64 8, .int .i64 0, .int .i64 0, .int .i64 0, .int .i64 5, .int .i64 0, .int .i64 11, .int .i64 0, .int .i64 0, .int .i64 0, .int .i64 6, .int .i64 0] 36)).heap.size by simp)
  generalize (w.alloc (.cells #[.int .i64 8, .int .i64 0, .int .i64 0, .int .i64 0, .int .i64 5, .int .i64 0, .int .i64 11, .int .i64 0, .int .i64 0, .int .i64 0, .int .i64 6, .int .i64 0] 36)).heap.size = g at *
  generalize g + 1 = bm at *
  clear hm hu HLD HAL
  go_wp2_with fail
  refine (cNew _).mono ?_
  rintro e w2 ⟨rfl, hc, hu⟩
  have HM2 := Lib.hid (HM1.out.upd hu (fun h => h) (fun h => h))
  have HU2 := Lib.hid (HU1.out.trans hu (fun _ h _ => h))
  have HC2 := Lib.hid hc
  have HN1 := Lib.hid (show w1.heap.size ≠ bm by have := HM1.out.lt; omega)
  have HN2 := Lib.hid (show w1.heap.size ≠ g by have := HM1.out.lt; omega)
  have HCB := Lib.hid HU1.out.size
  generalize w1.heap.size = cb at *
  clear hc hu HM1 HU1
  go_wp2_with fail
  refine (tNew _).mono ?_
  rintro e w3 ⟨tb, rfl, ht, hu⟩
  have HU3 := Lib.hid (HU2.out.trans hu (fun _ h _ => h))
  have HW3 : Hid (Wd w3 cb bm g (.pointer (some ⟨tb, 0, none⟩)) (ESince w2 w3) kS) := Lib.hid ⟨HC2.out.upd hu (fun h => h), HM2.out.upd hu (fun h => h) (fun h => h), ⟨tb, rfl, ht⟩, fun k hk => ⟨hk.2, by have := HC2.out.lt; have := HM2.out.lt; have := hk.1; omega⟩, HN1.out, HN2.out⟩
  have HU2s := Lib.hid (show w.heap.size ≤ w2.heap.size from HU2.out.size)
  clear ht hu HM2 HU2 HC2
  go_wp2_with fail
  refine (cStep HW3.out (n := 1) ⟨by decide, by decide, fun l hl => by simp [kS] at hl; subst hl; simp⟩).mono ?_
  rintro e w4 ⟨rfl, F4, hF4, hd, hu⟩
  have HR1 : Hid (Room (stepW kS) 1) := Lib.hid (room_step HW3.out.mm.ok ⟨by decide, by decide, fun l hl => by simp [kS] at hl; subst hl; simp⟩)
  have HF4 : Hid (∀ k, F4 k → w.heap.size ≤ k) := Lib.hid (fun k hk => by
    have := HU2s.out
    rcases hF4 k hk with h | h
    · have := h.1; omega
    · have := HU3.out.size; omega)
  have HU4 : Hid (Upd (fun _ => False) w w4) := Lib.hid (HU3.out.trans hu (fun k hk hl => by
    have := HCB.out
    have := HG0.out
    have h2 := HU2s.out
    rcases hk with e | e | e
    · omega
    · omega
    · have := e.1; omega))
  have HD4 := Lib.hid hd
  clear hF4 hd hu HW3 HU3
  go_wp2_with fail
  refine (cStep HD4.out (n := 0) HR1.out).mono ?_
  rintro e w5 ⟨rfl, F5, hF5, hd, hu⟩
  have HU5 : Hid (Upd (fun _ => False) w w5) := Lib.hid (HU4.out.trans hu (fun k hk hl => by
    have := HCB.out
    have := HG0.out
    rcases hk with e | e | e
    · omega
    · omega
    · have := HF4.out k e; omega))
  have HD5 := Lib.hid hd
  obtain ⟨k1, k2, k3, k4, k5, k6, k7, k8⟩ := kS2
  have q0 := HD5.out.cp.c0
  have q15 := HD5.out.cp.c15
  have q16 := HD5.out.cp.c16
  have q17 := HD5.out.cp.c17
  have q18 := HD5.out.cp.c18
  have q22 := HD5.out.cp.c22
  rw [k2] at q0
  rw [k6] at q15
  rw [k3] at q16
  rw [k5] at q17
  rw [k4] at q18
  rw [k7] at q22
  have HTL : Hid (∃ l, Trc F5 w5 tb l ∧ l.length = 2) := Lib.hid (by
    have ht := HD5.out.tr
    cases hL : (stepW (stepW kS)).L with
    | none => rw [hL] at k8; simp at k8
    | some l =>
      rw [hL] at k8 ht
      obtain ⟨tb', e, h⟩ := ht
      simp at e
      subst e
      exact ⟨l, h, by simpa using k8⟩)
  rw [k1]
  obtain ⟨l, hl, hll⟩ := HTL.out
  have HLN := Lib.hid (tLen hl)
  rw [hll] at HLN
  clear hF5 hd hu k1 k2 k3 k4 k5 k6 k7 k8 hl hll HTL
  go_wp2_with (with_reducible refine HLN.out.mono ?_; rintro e _ ⟨rfl, rfl⟩)
  go_ret
  exact ⟨rfl, HU5.out⟩
end Go.Proofs.Ytibmgmgkaacibaa

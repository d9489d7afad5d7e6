/- Package room: Serve, op by op: Send. -/
import Derived.Test.YtmfiamoeagnmmaaQl
namespace Go.Proofs.Ytmfiamoeagnmmaa
open Go.RowKit Go.Lib Go.ChangeShapes Go.WideShapes Go.Deep
set_option linter.unusedVariables false
set_option linter.unusedSimpArgs false

section
variable {c : Nat → Nat} {w : World} {rb : Nat} {M : RmM} {tv : Value} {o : Option (List EvM)}
set_option maxRecDepth 100000 in
set_option maxHeartbeats 4000000 in
theorem sv36p (h : Rm c w rb M) (ht : TrO c w tv o) (ap a b : Int) (v : Value) (x0 x1 x2 : Int) (hx : I32 w v [x0, x1, x2]) (hv : ∀ k, v.ownBlock = some k → ¬ TR (c k)) (hcond : a = 1) :
    Calls Try.prog 12 #[.pointer (some ⟨rb, 0, none⟩), tv, .int .i64 ap, .int .i64 36, .int .i64 a, .int .i64 b, v] w fun e w' => Served c w rb tv ⟨0, sendS M ap a ⟨x0, x1, x2⟩, sendM M ap a ⟨x0, x1, x2⟩⟩ (tchs o [⟨x0, x1, x2⟩]) e w' := by
  have HN : Hid (Calls Try.prog 22 #[v] w fun e w' => e = .returned (.agg #[.int .i64 x0, .int .i64 x1, .int .i64 x2, .int .i64 0, .int .i64 0]) ∧ Upd (fun _ => False) w w') := Lib.hid (rNumbers w v [x0, x1, x2] hx (by simp))
  have HX := Lib.hid hx
  have HV := Lib.hid hv
  have H := Lib.hid h
  have HT := Lib.hid ht
  have hrg := hx.1
  obtain ⟨p, rfl⟩ := ht.ptr
  obtain ⟨va, vc, rfl, -, -⟩ : ∃ va vc, v = .slice va 3 vc ∧ 3 ≤ vc ∧ vc ≤ maxLen := by
    obtain ⟨-, a, c, e, h1, h2, -⟩ := hx
    exact ⟨a, c, e, h1, h2⟩
  clear h ht hx hv
  have HC := Lib.hid hcond
  clear hcond
  go_enter Try.func12, Try.ntmps12
  go_wp2_with fail
  refine (rServes 36 w).mono ?_
  rintro e w' ⟨rfl, rfl⟩
  rw [show servesP 36 = 3 from rfl]
  go_wp2_with fail
  refine HN.out.mono ?_
  rintro e w2 ⟨rfl, hu⟩
  have HU2 := Lib.hid hu
  clear hu HN
  obtain ⟨wt, hwt⟩ : ∃ wt, wt = ((w2.alloc (.cells #[.int .i64 x0, .int .i64 x1, .int .i64 x2, .int .i64 0, .int .i64 0] 65)).alloc (.cells #[.int .i64 x0, .int .i64 x1, .int .i64 x2] 74)).alloc (.cells #[.int .i64 x0, .int .i64 x1, .int .i64 x2] 74) := ⟨_, rfl⟩
  have hut : Upd (fun _ => False) w wt := by rw [hwt]; exact HU2.out.trans (((Upd.alloc _ _ _).trans (Upd.alloc _ _ _) (fun _ h _ => h)).trans (Upd.alloc _ _ _) (fun _ h _ => h)) (fun _ h _ => h)
  have hqt : wt.heap[w2.heap.size + 1]? = some (.cells #[.int .i64 x0, .int .i64 x1, .int .i64 x2] 74 (0, 0)) := by rw [hwt]; exact hpBlk (S := fun _ => False) (Upd.alloc _ _ _) (hpTop _ _ _ (by simp)) (fun h => h)
  have HSP : Hid (Sps wt (.slice (some ⟨w2.heap.size + 2, 0, none⟩) 1 1) [⟨x0, x1, x2⟩]) := Lib.hid (by rw [hwt]; exact sps1 (s := ⟨x0, x1, x2⟩) (t := 74) (hpTop _ _ _ (by simp)))
  have hs2 := HU2.out.size
  have HB : Hid (∀ u, Upd (fun k => TR (paint c w 9 k)) wt u → u.cell? ⟨w2.heap.size + 1, 0, none⟩ = some (.int .i64 x0) ∧ u.cell? ⟨w2.heap.size + 1, 1, none⟩ = some (.int .i64 x1) ∧ u.cell? ⟨w2.heap.size + 1, 2, none⟩ = some (.int .i64 x2)) := Lib.hid (fun u hu => by
    obtain ⟨e0, e1, e2, -⟩ := three (keep9 (by omega) hqt hu)
    exact ⟨e0, e1, e2⟩)
  have HA := Lib.hid (aside3 H.out HT.out HX.out HV.out hut)
  have HWT := Lib.hid hwt
  have hrg1 : -2147483648 ≤ x1 ∧ x1 ≤ 2147483647 := hrg x1 (by simp)
  clear hwt hut hqt hrg
  go_wp2_with fail
  rw [← HWT.out]
  refine (rTouch HA.out.2.2.1 _ _ HSP.out (fun k hk => by simp [Value.ownBlock] at hk; rw [← hk, paint_new c w 9 (by omega)]; omega) (by simp)).mono ?_
  rintro e w3 ⟨rfl, c3, hx3, ht3⟩
  obtain ⟨b0, b1, b2⟩ := HB.out _ (hx3.upd.mono (fun k hk _ => TR7 hk))
  have HX3 := Lib.hid hx3
  have HT3 := Lib.hid ht3
  clear hs2
  have HSND : Hid (Calls Try.prog 34 #[.pointer (some ⟨rb, 0, none⟩), .int .i64 ap, .int .i64 a, .agg #[.int .i64 x0, .int .i64 x1, .int .i64 x2]] w3 fun e w' => e = .returned (.int .i64 (sendS M ap a ⟨x0, x1, x2⟩)) ∧ ∃ c', Ext TP c3 w3 c' w' ∧ Rm c' w' rb (sendM M ap a ⟨x0, x1, x2⟩)) :=
    Lib.hid (rSendP (HA.out.2.1.ext hx3 (fun _ h => n17 h)) ap a ⟨x0, x1, x2⟩ (show x1 ≤ 9223372036854775807 by have := hrg1.2; omega) HC.out)
  clear hx3 ht3
  go_wp2_with fail
  refine HSND.out.mono ?_
  rintro e w4 ⟨rfl, c4, hx4, hr4⟩
  have HX4 := Lib.hid hx4
  have HR4 := Lib.hid hr4
  clear hx4 hr4
  go_wp2_with fail
  refine bodyPost_ret (v := .tuple #[.int .i32 (0), .int .i64 (sendS M ap a ⟨x0, x1, x2⟩)]) (by simp only [results, Try.f12]; simp [go_sem]) rfl ?_
  exact ⟨rfl, c4, (HA.out.1.trans HX3.out (fun _ h => TR7 h)).trans HX4.out (fun _ h => TRP h), HR4.out, HT3.out.ext HX4.out TP7⟩
set_option maxRecDepth 100000 in
set_option maxHeartbeats 4000000 in
theorem sv36q (h : Rm c w rb M) (ht : TrO c w tv o) (ap a b : Int) (v : Value) (x0 x1 x2 : Int) (hx : I32 w v [x0, x1, x2]) (hv : ∀ k, v.ownBlock = some k → ¬ TR (c k)) (hcond : ¬ a = 1) :
    Calls Try.prog 12 #[.pointer (some ⟨rb, 0, none⟩), tv, .int .i64 ap, .int .i64 36, .int .i64 a, .int .i64 b, v] w fun e w' => Served c w rb tv ⟨0, sendS M ap a ⟨x0, x1, x2⟩, sendM M ap a ⟨x0, x1, x2⟩⟩ (tchs o [⟨x0, x1, x2⟩]) e w' := by
  have HN : Hid (Calls Try.prog 22 #[v] w fun e w' => e = .returned (.agg #[.int .i64 x0, .int .i64 x1, .int .i64 x2, .int .i64 0, .int .i64 0]) ∧ Upd (fun _ => False) w w') := Lib.hid (rNumbers w v [x0, x1, x2] hx (by simp))
  have HX := Lib.hid hx
  have HV := Lib.hid hv
  have H := Lib.hid h
  have HT := Lib.hid ht
  have hrg := hx.1
  obtain ⟨p, rfl⟩ := ht.ptr
  obtain ⟨va, vc, rfl, -, -⟩ : ∃ va vc, v = .slice va 3 vc ∧ 3 ≤ vc ∧ vc ≤ maxLen := by
    obtain ⟨-, a, c, e, h1, h2, -⟩ := hx
    exact ⟨a, c, e, h1, h2⟩
  clear h ht hx hv
  have HC := Lib.hid hcond
  clear hcond
  go_enter Try.func12, Try.ntmps12
  go_wp2_with fail
  refine (rServes 36 w).mono ?_
  rintro e w' ⟨rfl, rfl⟩
  rw [show servesP 36 = 3 from rfl]
  go_wp2_with fail
  refine HN.out.mono ?_
  rintro e w2 ⟨rfl, hu⟩
  have HU2 := Lib.hid hu
  clear hu HN
  obtain ⟨wt, hwt⟩ : ∃ wt, wt = ((w2.alloc (.cells #[.int .i64 x0, .int .i64 x1, .int .i64 x2, .int .i64 0, .int .i64 0] 65)).alloc (.cells #[.int .i64 x0, .int .i64 x1, .int .i64 x2] 74)).alloc (.cells #[.int .i64 x0, .int .i64 x1, .int .i64 x2] 74) := ⟨_, rfl⟩
  have hut : Upd (fun _ => False) w wt := by rw [hwt]; exact HU2.out.trans (((Upd.alloc _ _ _).trans (Upd.alloc _ _ _) (fun _ h _ => h)).trans (Upd.alloc _ _ _) (fun _ h _ => h)) (fun _ h _ => h)
  have hqt : wt.heap[w2.heap.size + 1]? = some (.cells #[.int .i64 x0, .int .i64 x1, .int .i64 x2] 74 (0, 0)) := by rw [hwt]; exact hpBlk (S := fun _ => False) (Upd.alloc _ _ _) (hpTop _ _ _ (by simp)) (fun h => h)
  have HSP : Hid (Sps wt (.slice (some ⟨w2.heap.size + 2, 0, none⟩) 1 1) [⟨x0, x1, x2⟩]) := Lib.hid (by rw [hwt]; exact sps1 (s := ⟨x0, x1, x2⟩) (t := 74) (hpTop _ _ _ (by simp)))
  have hs2 := HU2.out.size
  have HB : Hid (∀ u, Upd (fun k => TR (paint c w 9 k)) wt u → u.cell? ⟨w2.heap.size + 1, 0, none⟩ = some (.int .i64 x0) ∧ u.cell? ⟨w2.heap.size + 1, 1, none⟩ = some (.int .i64 x1) ∧ u.cell? ⟨w2.heap.size + 1, 2, none⟩ = some (.int .i64 x2)) := Lib.hid (fun u hu => by
    obtain ⟨e0, e1, e2, -⟩ := three (keep9 (by omega) hqt hu)
    exact ⟨e0, e1, e2⟩)
  have HA := Lib.hid (aside3 H.out HT.out HX.out HV.out hut)
  have HWT := Lib.hid hwt
  have hrg1 : -2147483648 ≤ x1 ∧ x1 ≤ 2147483647 := hrg x1 (by simp)
  clear hwt hut hqt hrg
  go_wp2_with fail
  rw [← HWT.out]
  refine (rTouch HA.out.2.2.1 _ _ HSP.out (fun k hk => by simp [Value.ownBlock] at hk; rw [← hk, paint_new c w 9 (by omega)]; omega) (by simp)).mono ?_
  rintro e w3 ⟨rfl, c3, hx3, ht3⟩
  obtain ⟨b0, b1, b2⟩ := HB.out _ (hx3.upd.mono (fun k hk _ => TR7 hk))
  have HX3 := Lib.hid hx3
  have HT3 := Lib.hid ht3
  clear hs2
  have HSND : Hid (Calls Try.prog 34 #[.pointer (some ⟨rb, 0, none⟩), .int .i64 ap, .int .i64 a, .agg #[.int .i64 x0, .int .i64 x1, .int .i64 x2]] w3 fun e w' => e = .returned (.int .i64 (sendS M ap a ⟨x0, x1, x2⟩)) ∧ ∃ c', Ext TQ c3 w3 c' w' ∧ Rm c' w' rb (sendM M ap a ⟨x0, x1, x2⟩)) :=
    Lib.hid (rSendQ (HA.out.2.1.ext hx3 (fun _ h => n17 h)) ap a ⟨x0, x1, x2⟩ (show x1 ≤ 9223372036854775807 by have := hrg1.2; omega) HC.out)
  clear hx3 ht3
  go_wp2_with fail
  refine HSND.out.mono ?_
  rintro e w4 ⟨rfl, c4, hx4, hr4⟩
  have HX4 := Lib.hid hx4
  have HR4 := Lib.hid hr4
  clear hx4 hr4
  go_wp2_with fail
  refine bodyPost_ret (v := .tuple #[.int .i32 (0), .int .i64 (sendS M ap a ⟨x0, x1, x2⟩)]) (by simp only [results, Try.f12]; simp [go_sem]) rfl ?_
  exact ⟨rfl, c4, (HA.out.1.trans HX3.out (fun _ h => TR7 h)).trans HX4.out (fun _ h => TRQ h), HR4.out, HT3.out.ext HX4.out TQ7⟩
end
end Go.Proofs.Ytmfiamoeagnmmaa

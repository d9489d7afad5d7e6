/- Package room: Serve, op by op: Get, Put. -/
import Derived.Test.YtmfiamoeagnmmaaQl
namespace Go.Proofs.Ytmfiamoeagnmmaa
open Go.RowKit Go.Lib Go.ChangeShapes Go.WideShapes Go.Deep
set_option linter.unusedVariables false
set_option linter.unusedSimpArgs false

section
variable {c : Nat → Nat} {w : World} {rb : Nat} {M : RmM} {tv : Value} {o : Option (List EvM)}
set_option maxRecDepth 100000 in
set_option maxHeartbeats 4000000 in
theorem sv29 (h : Rm c w rb M) (ht : TrO c w tv o) (ap a b : Int) (v : Value) (x0 x1 : Int) (hx : I32 w v [x0, x1]) (hv : ∀ k, v.ownBlock = some k → ¬ TR (c k)) :
    Calls Try.prog 12 #[.pointer (some ⟨rb, 0, none⟩), tv, .int .i64 ap, .int .i64 29, .int .i64 a, .int .i64 b, v] w fun e w' => Served c w rb tv ⟨getP M.hp.arrs x0 x1 ap, rngP M.hp.arrs x0 x1 1 ap, M⟩ (tchs o [⟨x0, x1, 1⟩]) e w' := by
  have HN : Hid (Calls Try.prog 22 #[v] w fun e w' => e = .returned (.agg #[.int .i64 x0, .int .i64 x1, .int .i64 0, .int .i64 0, .int .i64 0]) ∧ Upd (fun _ => False) w w') := Lib.hid (rNumbers w v [x0, x1] hx (by simp))
  have HX := Lib.hid hx
  have HV := Lib.hid hv
  have H := Lib.hid h
  have HT := Lib.hid ht
  have hrg := hx.1
  obtain ⟨p, rfl⟩ := ht.ptr
  obtain ⟨va, vc, rfl, -, -⟩ : ∃ va vc, v = .slice va 2 vc ∧ 2 ≤ vc ∧ vc ≤ maxLen := by
    obtain ⟨-, a, c, e, h1, h2, -⟩ := hx
    exact ⟨a, c, e, h1, h2⟩
  clear h ht hx hv
  go_enter Try.func12, Try.ntmps12
  go_wp2_with fail
  refine (rServes 29 w).mono ?_
  rintro e w' ⟨rfl, rfl⟩
  rw [show servesP 29 = 2 from rfl]
  go_wp2_with fail
  refine HN.out.mono ?_
  rintro e w2 ⟨rfl, hu⟩
  have HU2 := Lib.hid hu
  clear hu HN
  obtain ⟨wt, hwt⟩ : ∃ wt, wt = ((w2.alloc (.cells #[.int .i64 x0, .int .i64 x1, .int .i64 0, .int .i64 0, .int .i64 0] 65)).alloc (.cells #[.int .i64 x0, .int .i64 x1, .int .i64 1] 74)).alloc (.cells #[.int .i64 x0, .int .i64 x1, .int .i64 1] 74) := ⟨_, rfl⟩
  have hut : Upd (fun _ => False) w wt := by rw [hwt]; exact HU2.out.trans (((Upd.alloc _ _ _).trans (Upd.alloc _ _ _) (fun _ h _ => h)).trans (Upd.alloc _ _ _) (fun _ h _ => h)) (fun _ h _ => h)
  have hqt : wt.heap[w2.heap.size + 1]? = some (.cells #[.int .i64 x0, .int .i64 x1, .int .i64 1] 74 (0, 0)) := by rw [hwt]; exact hpBlk (S := fun _ => False) (Upd.alloc _ _ _) (hpTop _ _ _ (by simp)) (fun h => h)
  have HSP : Hid (Sps wt (.slice (some ⟨w2.heap.size + 2, 0, none⟩) 1 1) [⟨x0, x1, 1⟩]) := Lib.hid (by rw [hwt]; exact sps1 (s := ⟨x0, x1, 1⟩) (t := 74) (hpTop _ _ _ (by simp)))
  have hs2 := HU2.out.size
  have HB : Hid (∀ u, Upd (fun k => TR (paint c w 9 k)) wt u → u.cell? ⟨w2.heap.size + 1, 0, none⟩ = some (.int .i64 x0) ∧ u.cell? ⟨w2.heap.size + 1, 1, none⟩ = some (.int .i64 x1) ∧ u.cell? ⟨w2.heap.size + 1, 2, none⟩ = some (.int .i64 1)) := Lib.hid (fun u hu => by
    obtain ⟨e0, e1, e2, -⟩ := three (keep9 (by omega) hqt hu)
    exact ⟨e0, e1, e2⟩)
  have HA := Lib.hid (aside3 H.out HT.out HX.out HV.out hut)
  have HWT := Lib.hid hwt
  have hrg1 : -2147483648 ≤ x1 ∧ x1 ≤ 2147483647 := hrg x1 (by simp)
  clear hwt hut hqt hrg
  go_wp2_with fail
  rw [← HWT.out]
  refine (rTouch HA.out.2.2.1 _ _ HSP.out (fun k hk => by simp [Value.ownBlock] at hk; rw [← hk, paint_new c w 9 (by omega)]; omega) (by simp)).mono ?_
  rintro e w3 ⟨rfl, c3, hx3, ht3⟩
  obtain ⟨b0, b1, b2⟩ := HB.out _ (hx3.upd.mono (fun k hk _ => TR7 hk))
  have HX3 := Lib.hid hx3
  have HT3 := Lib.hid ht3
  clear hs2
  clear hx3 ht3
  go_wp2_with fail
  refine (rGet (HA.out.2.1.ext HX3.out (fun _ h => n17 h)) ap x0 x1 (by have := hrg1.2; omega)).mono ?_
  rintro e w4 ⟨rfl, hu4⟩
  have HX4 := Lib.hid (Ext.quietT None0 c3 hu4)
  clear hu4
  go_wp2_with fail
  refine bodyPost_ret (v := .tuple #[.int .i32 (getP M.hp.arrs x0 x1 ap), .int .i64 (rngP M.hp.arrs x0 x1 1 ap)]) (by simp only [results, Try.f12]; simp [go_sem]) rfl ?_
  exact ⟨rfl, c3, (HA.out.1.trans HX3.out (fun _ h => TR7 h)).trans HX4.out (fun _ h => h.elim), ((HA.out.2.1.ext HX3.out (fun _ h => n17 h)).ext HX4.out (fun _ _ h => h)), HT3.out.ext HX4.out (fun h => h)⟩
set_option maxRecDepth 100000 in
set_option maxHeartbeats 4000000 in
theorem sv30 (h : Rm c w rb M) (ht : TrO c w tv o) (ap a b : Int) (v : Value) (x0 x1 x2 : Int) (hx : I32 w v [x0, x1, x2]) (hv : ∀ k, v.ownBlock = some k → ¬ TR (c k)) :
    Calls Try.prog 12 #[.pointer (some ⟨rb, 0, none⟩), tv, .int .i64 ap, .int .i64 30, .int .i64 a, .int .i64 b, v] w fun e w' => Served c w rb tv ⟨0, rngP M.hp.arrs x0 x1 1 ap, putM M ap x0 x1 (x2 % 256)⟩ (tchs o [⟨x0, x1, 1⟩]) e w' := by
  have HN : Hid (Calls Try.prog 22 #[v] w fun e w' => e = .returned (.agg #[.int .i64 x0, .int .i64 x1, .int .i64 x2, .int .i64 0, .int .i64 0]) ∧ Upd (fun _ => False) w w') := Lib.hid (rNumbers w v [x0, x1, x2] hx (by simp))
  have HX := Lib.hid hx
  have HV := Lib.hid hv
  have H := Lib.hid h
  have HT := Lib.hid ht
  have hrg := hx.1
  obtain ⟨p, rfl⟩ := ht.ptr
  obtain ⟨va, vc, rfl, -, -⟩ : ∃ va vc, v = .slice va 3 vc ∧ 3 ≤ vc ∧ vc ≤ maxLen := by
    obtain ⟨-, a, c, e, h1, h2, -⟩ := hx
    exact ⟨a, c, e, h1, h2⟩
  clear h ht hx hv
  go_enter Try.func12, Try.ntmps12
  go_wp2_with fail
  refine (rServes 30 w).mono ?_
  rintro e w' ⟨rfl, rfl⟩
  rw [show servesP 30 = 3 from rfl]
  go_wp2_with fail
  refine HN.out.mono ?_
  rintro e w2 ⟨rfl, hu⟩
  have HU2 := Lib.hid hu
  clear hu HN
  obtain ⟨wt, hwt⟩ : ∃ wt, wt = ((w2.alloc (.cells #[.int .i64 x0, .int .i64 x1, .int .i64 x2, .int .i64 0, .int .i64 0] 65)).alloc (.cells #[.int .i64 x0, .int .i64 x1, .int .i64 1] 74)).alloc (.cells #[.int .i64 x0, .int .i64 x1, .int .i64 1] 74) := ⟨_, rfl⟩
  have hut : Upd (fun _ => False) w wt := by rw [hwt]; exact HU2.out.trans (((Upd.alloc _ _ _).trans (Upd.alloc _ _ _) (fun _ h _ => h)).trans (Upd.alloc _ _ _) (fun _ h _ => h)) (fun _ h _ => h)
  have hqt : wt.heap[w2.heap.size + 1]? = some (.cells #[.int .i64 x0, .int .i64 x1, .int .i64 1] 74 (0, 0)) := by rw [hwt]; exact hpBlk (S := fun _ => False) (Upd.alloc _ _ _) (hpTop _ _ _ (by simp)) (fun h => h)
  have HSP : Hid (Sps wt (.slice (some ⟨w2.heap.size + 2, 0, none⟩) 1 1) [⟨x0, x1, 1⟩]) := Lib.hid (by rw [hwt]; exact sps1 (s := ⟨x0, x1, 1⟩) (t := 74) (hpTop _ _ _ (by simp)))
  have hs2 := HU2.out.size
  have HB : Hid (∀ u, Upd (fun k => TR (paint c w 9 k)) wt u → u.cell? ⟨w2.heap.size + 1, 0, none⟩ = some (.int .i64 x0) ∧ u.cell? ⟨w2.heap.size + 1, 1, none⟩ = some (.int .i64 x1) ∧ u.cell? ⟨w2.heap.size + 1, 2, none⟩ = some (.int .i64 1)) := Lib.hid (fun u hu => by
    obtain ⟨e0, e1, e2, -⟩ := three (keep9 (by omega) hqt hu)
    exact ⟨e0, e1, e2⟩)
  have HA := Lib.hid (aside3 H.out HT.out HX.out HV.out hut)
  have HWT := Lib.hid hwt
  have hrg1 : -2147483648 ≤ x1 ∧ x1 ≤ 2147483647 := hrg x1 (by simp)
  clear hwt hut hqt hrg
  go_wp2_with fail
  rw [← HWT.out]
  refine (rTouch HA.out.2.2.1 _ _ HSP.out (fun k hk => by simp [Value.ownBlock] at hk; rw [← hk, paint_new c w 9 (by omega)]; omega) (by simp)).mono ?_
  rintro e w3 ⟨rfl, c3, hx3, ht3⟩
  obtain ⟨b0, b1, b2⟩ := HB.out _ (hx3.upd.mono (fun k hk _ => TR7 hk))
  have HX3 := Lib.hid hx3
  have HT3 := Lib.hid ht3
  clear hs2
  obtain ⟨ag, aoff, hae, -, hac⟩ := (I32.keep HX.out HV.out HA.out.2.2.2 (hx3.upd.mono (fun k hk _ => TR7 hk))).at (k := 2) (by simp)
  simp only [List.getD_cons_succ, List.getD_cons_zero] at hac
  subst hae
  have hw8 : IntKind.u8.wrap x2 = x2 % 256 := IntKind.wrap_u8 x2
  have HU33 : Hid (Upd (fun k => TR (paint c w 9 k)) wt w3.drew) := Lib.hid ((hx3.upd.mono (fun k hk _ => TR7 hk)).trans (Upd.drew (fun k => TR (paint c w 9 k)) w3) (fun _ h _ => h))
  have HAG : Hid (∀ u, Upd (fun k => TR (paint c w 9 k)) wt u → u.cell? ⟨ag, aoff + 2, none⟩ = some (.int .i32 x2)) := Lib.hid (fun u hu => by
    obtain ⟨g, off, he, -, hc⟩ := (I32.keep HX.out HV.out HA.out.2.2.2 hu).at (k := 2) (by simp)
    simp at he
    obtain ⟨rfl, rfl⟩ := he
    simpa using hc)
  have HP1 := Lib.hid (rPut1 ((HA.out.2.1.ext hx3 (fun _ h => n17 h)).quiet (Upd.drew (fun _ => False) w3)) ap x0 x1 (x2 % 256) (by have := hrg1.2; omega) (by omega))
  clear hx3 ht3 hac
  go_wp2_with fail
  go_region_held3 (fun w' => (w'.cell? ⟨w2.heap.size + 1, 0, none⟩ = some (.int .i64 x0) ∧ w'.cell? ⟨w2.heap.size + 1, 1, none⟩ = some (.int .i64 x1) ∧ w'.cell? ⟨w2.heap.size + 1, 2, none⟩ = some (.int .i64 1)) ∧ w'.cell? ⟨ag, aoff + 2, none⟩ = some (.int .i32 x2)) (first
    | with_reducible exact ⟨HB.out _ HU33.out, HAG.out _ HU33.out⟩
    | with_reducible exact ⟨HB.out _ HU44.out, HAG.out _ HU44.out⟩) (first
    | (go_at_call 31; (with_reducible refine (HP1.out).mono ?_); rintro e w4 ⟨rfl, c4, hx4, hr4⟩; have HX4 := Lib.hid ((Ext.quietT T1 c3 (Upd.drew (fun _ => False) w3)).trans hx4 (fun _ h => h)); have HR4 := Lib.hid hr4; have HU44 : Hid (Upd (fun k => TR (paint c w 9 k)) wt w4) := Lib.hid (HU33.out.trans hx4.upd (fun k hk hl => by rw [HX3.out.same k hl] at hk; exact TR1 hk)); clear hx4 hr4))
  go_wp2_with fail
  refine bodyPost_ret (v := .tuple #[.int .i32 (0), .int .i64 (rngP M.hp.arrs x0 x1 1 ap)]) (by simp only [results, Try.f12]; simp [go_sem]) rfl ?_
  exact ⟨rfl, c4, (HA.out.1.trans HX3.out (fun _ h => TR7 h)).trans HX4.out (fun _ h => TR1 h), HR4.out, HT3.out.ext HX4.out T17⟩
end
end Go.Proofs.Ytmfiamoeagnmmaa

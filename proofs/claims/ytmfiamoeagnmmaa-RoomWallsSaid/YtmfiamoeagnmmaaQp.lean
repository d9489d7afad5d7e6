/- Package room: Serve, op by op: Copy, Same. -/
import Derived.Test.YtmfiamoeagnmmaaQl
namespace Go.Proofs.Ytmfiamoeagnmmaa
open Go.RowKit Go.Lib Go.ChangeShapes Go.WideShapes Go.Deep
set_option linter.unusedVariables false
set_option linter.unusedSimpArgs false

theorem upd_alloc {S : Nat → Prop} {w x : World} {o : Obj} (h : Upd S w x) : Upd S w (x.alloc o) := h.trans (Upd.alloc S x o) (fun _ h _ => h)
theorem upd_drew {S : Nat → Prop} {w x : World} (h : Upd S w x) : Upd S w x.drew := h.trans (Upd.drew S x) (fun _ h _ => h)
theorem upd_set {S : Nat → Prop} {w x : World} {p : Addr} {u : Value} (h : Upd S w x) (hp : w.heap.size ≤ p.block) : Upd S w (x.setCell p u) := ⟨h.os, h.tape, h.output, by simpa [World.setCell] using h.size, fun k hk hS => (Below.heap_setCell _ _ _ _ (by omega)).trans (h.block k hk hS)⟩
section
variable {c : Nat → Nat} {w : World} {rb : Nat} {M : RmM} {tv : Value} {o : Option (List EvM)}
set_option maxRecDepth 100000 in
set_option maxHeartbeats 4000000 in
theorem sv31 (h : Rm c w rb M) (ht : TrO c w tv o) (ap a b : Int) (v : Value) (x0 x1 x2 x3 x4 : Int) (hx : I32 w v [x0, x1, x2, x3, x4]) (hv : ∀ k, v.ownBlock = some k → ¬ TR (c k)) :
    Calls Try.prog 12 #[.pointer (some ⟨rb, 0, none⟩), tv, .int .i64 ap, .int .i64 31, .int .i64 a, .int .i64 b, v] w fun e w' => Served c w rb tv ⟨0, reachP M.hp.arrs ap [⟨x0, x1, x4⟩, ⟨x2, x3, x4⟩], copyM M ap ⟨x0, x1, x4⟩ ⟨x2, x3, x4⟩⟩ (tchs o [⟨x0, x1, x4⟩, ⟨x2, x3, x4⟩]) e w' := by
  have HN : Hid (Calls Try.prog 22 #[v] w fun e w' => e = .returned (.agg #[.int .i64 x0, .int .i64 x1, .int .i64 x2, .int .i64 x3, .int .i64 x4]) ∧ Upd (fun _ => False) w w') := Lib.hid (rNumbers w v [x0, x1, x2, x3, x4] hx (by simp))
  have HX := Lib.hid hx
  have HV := Lib.hid hv
  have H := Lib.hid h
  have HT := Lib.hid ht
  have hrg := hx.1
  obtain ⟨p, rfl⟩ := ht.ptr
  obtain ⟨va, vc, rfl, -, -⟩ : ∃ va vc, v = .slice va 5 vc ∧ 5 ≤ vc ∧ vc ≤ maxLen := by
    obtain ⟨-, a, c, e, h1, h2, -⟩ := hx
    exact ⟨a, c, e, h1, h2⟩
  clear h ht hx hv
  go_enter Try.func12, Try.ntmps12
  go_wp2_with fail
  refine (rServes 31 w).mono ?_
  rintro e w' ⟨rfl, rfl⟩
  rw [show servesP 31 = 5 from rfl]
  go_wp2_with fail
  refine HN.out.mono ?_
  rintro e w2 ⟨rfl, hu⟩
  have HU2 := Lib.hid hu
  clear hu HN
  obtain ⟨wt, hwt⟩ : ∃ wt, wt = w2.alloc (.cells #[.int .i64 x0, .int .i64 x1, .int .i64 x2, .int .i64 x3, .int .i64 x4] 65) := ⟨_, rfl⟩
  have hut : Upd (fun _ => False) w wt := by rw [hwt]; exact HU2.out.trans (Upd.alloc _ _ _) (fun _ h _ => h)
  have hqt : wt.heap[w2.heap.size]? = some (.cells #[.int .i64 x0, .int .i64 x1, .int .i64 x2, .int .i64 x3, .int .i64 x4] 65 (0, 0)) := by rw [hwt]; exact hpTop _ _ _ rfl
  have HB : Hid (∀ u, Upd (fun _ => False) wt u → u.cell? ⟨w2.heap.size, 0, none⟩ = some (.int .i64 x0) ∧ u.cell? ⟨w2.heap.size, 1, none⟩ = some (.int .i64 x1) ∧ u.cell? ⟨w2.heap.size, 2, none⟩ = some (.int .i64 x2) ∧ u.cell? ⟨w2.heap.size, 3, none⟩ = some (.int .i64 x3) ∧ u.cell? ⟨w2.heap.size, 4, none⟩ = some (.int .i64 x4)) := Lib.hid (fun u hu => by
    obtain ⟨e0, e1, e2, e3, e4, -⟩ := five (hpBlk hu hqt (fun h => h))
    exact ⟨e0, e1, e2, e3, e4⟩)
  have HWT := Lib.hid hwt
  have HUT := Lib.hid hut
  clear hwt hut hqt
  have hrg1 : -2147483648 ≤ x1 ∧ x1 ≤ 2147483647 := hrg x1 (by simp)
  have hrg3 : -2147483648 ≤ x3 ∧ x3 ≤ 2147483647 := hrg x3 (by simp)
  clear hrg
  go_wp2_with fail
  rw [← HWT.out]
  go_region_held3 (fun w' => w'.cell? ⟨w2.heap.size, 0, none⟩ = some (.int .i64 x0) ∧ w'.cell? ⟨w2.heap.size, 1, none⟩ = some (.int .i64 x1) ∧ w'.cell? ⟨w2.heap.size, 2, none⟩ = some (.int .i64 x2) ∧ w'.cell? ⟨w2.heap.size, 3, none⟩ = some (.int .i64 x3) ∧ w'.cell? ⟨w2.heap.size, 4, none⟩ = some (.int .i64 x4)) (first
    | (refine HB.out _ ?_; repeat (first | exact Upd.refl _ _ | exact Upd.drew _ _ | refine upd_alloc ?_ | refine upd_drew ?_ | refine upd_set ?_ (by simp)))) (fail)
  · clear HB
    obtain ⟨u, hu⟩ : ∃ u, u = ((wt.alloc (.cells #[.int .i64 x0, .int .i64 x1, .int .i64 x4] 74)).alloc (.cells #[.int .i64 x2, .int .i64 x3, .int .i64 x4] 74)).drew := ⟨_, rfl⟩
    have huu : Upd (fun _ => False) wt u := by rw [hu]; exact upd_drew (upd_alloc (Upd.alloc _ _ _))
    have hP : u.heap[wt.heap.size]? = some (.cells #[.int .i64 x0, .int .i64 x1, .int .i64 x4] 74 (0, 0)) := by
      rw [hu]; show ((wt.alloc _).alloc _).heap[wt.heap.size]? = _
      exact hpBlk (S := fun _ => False) (Upd.alloc _ _ _) (hpTop wt _ _ rfl) (fun h => h)
    have hQ : u.heap[wt.heap.size + 1]? = some (.cells #[.int .i64 x2, .int .i64 x3, .int .i64 x4] 74 (0, 0)) := by
      rw [hu]; show ((wt.alloc _).alloc _).heap[wt.heap.size + 1]? = _
      exact hpTop _ _ _ (by simp)
    have hus : wt.heap.size + 2 ≤ u.heap.size := by rw [hu]; simp
    obtain ⟨z, hz⟩ : ∃ z, z = u.alloc (.cells #[.int .i64 x0, .int .i64 x1, .int .i64 x4, .int .i64 x2, .int .i64 x3, .int .i64 x4] 74) := ⟨_, rfl⟩
    have hzu : Upd (fun _ => False) u z := by rw [hz]; exact Upd.alloc _ _ _
    have HSP : Hid (Sps z (.slice (some ⟨u.heap.size, 0, none⟩) 2 2) [⟨x0, x1, x4⟩, ⟨x2, x3, x4⟩]) := Lib.hid (by rw [hz]; exact sps2 (s := ⟨x0, x1, x4⟩) (u := ⟨x2, x3, x4⟩) (t := 74) (hpTop _ _ _ rfl))
    have HUZ := Lib.hid (HUT.out.trans (huu.trans hzu (fun _ h _ => h)) (fun _ h _ => h))
    have hws : w.heap.size ≤ wt.heap.size := HUT.out.size
    have hzP := hpBlk hzu hP (fun h => h)
    have hzQ := hpBlk hzu hQ (fun h => h)
    have HB : Hid (∀ v, Upd (fun k => TR (paint c w 9 k)) z v → (v.cell? ⟨wt.heap.size, 0, none⟩ = some (.int .i64 x0) ∧ v.cell? ⟨wt.heap.size, 1, none⟩ = some (.int .i64 x1) ∧ v.cell? ⟨wt.heap.size, 2, none⟩ = some (.int .i64 x4)) ∧ (v.cell? ⟨wt.heap.size + 1, 0, none⟩ = some (.int .i64 x2) ∧ v.cell? ⟨wt.heap.size + 1, 1, none⟩ = some (.int .i64 x3) ∧ v.cell? ⟨wt.heap.size + 1, 2, none⟩ = some (.int .i64 x4))) := Lib.hid (fun v hv => by
      obtain ⟨e0, e1, e2, -⟩ := three (keep9 (by omega) hzP hv)
      obtain ⟨d0, d1, d2, -⟩ := three (keep9 (by omega) hzQ hv)
      exact ⟨⟨e0, e1, e2⟩, d0, d1, d2⟩)
    have HUS : Hid (w.heap.size ≤ u.heap.size) := Lib.hid (by omega)
    obtain ⟨⟨b0, b1, b2⟩, d0, d1, d2⟩ : (u.cell? ⟨wt.heap.size, 0, none⟩ = some (.int .i64 x0) ∧ u.cell? ⟨wt.heap.size, 1, none⟩ = some (.int .i64 x1) ∧ u.cell? ⟨wt.heap.size, 2, none⟩ = some (.int .i64 x4)) ∧ (u.cell? ⟨wt.heap.size + 1, 0, none⟩ = some (.int .i64 x2) ∧ u.cell? ⟨wt.heap.size + 1, 1, none⟩ = some (.int .i64 x3) ∧ u.cell? ⟨wt.heap.size + 1, 2, none⟩ = some (.int .i64 x4)) := by
      obtain ⟨e0, e1, e2, -⟩ := three hP
      obtain ⟨d0, d1, d2, -⟩ := three hQ
      exact ⟨⟨e0, e1, e2⟩, d0, d1, d2⟩
    have HA := Lib.hid (aside3 H.out HT.out HX.out HV.out HUZ.out)
    have HWZ := Lib.hid hz
    rw [← hu]
    clear hu huu hP hQ hus hz hzu hws hzP hzQ
    go_wp2_with fail
    rw [← HWZ.out]
    refine (rTouch HA.out.2.2.1 _ _ HSP.out (fun k hk => by simp [Value.ownBlock] at hk; rw [← hk, paint_new c w 9 HUS.out]; omega) (by simp)).mono ?_
    rintro e w3 ⟨rfl, c3, hx3, ht3⟩
    clear b0 b1 b2 d0 d1 d2
    obtain ⟨⟨b0, b1, b2⟩, d0, d1, d2⟩ := HB.out _ (hx3.upd.mono (fun k hk _ => TR7 hk))
    have HX3 := Lib.hid hx3
    have HT3 := Lib.hid ht3
    clear hx3 ht3
    have HC : Hid (Calls Try.prog 32 #[.pointer (some ⟨rb, 0, none⟩), .int .i64 ap, .agg #[.int .i64 x0, .int .i64 x1, .int .i64 x4], .agg #[.int .i64 x2, .int .i64 x3, .int .i64 x4]] w3 fun e w' => e = .returned (.int .i64 (reachP M.hp.arrs ap [⟨x0, x1, x4⟩, ⟨x2, x3, x4⟩])) ∧ ∃ c', Ext T1 c3 w3 c' w' ∧ Rm c' w' rb (copyM M ap ⟨x0, x1, x4⟩ ⟨x2, x3, x4⟩)) :=
      Lib.hid (rCopy (HA.out.2.1.ext HX3.out (fun _ h => n17 h)) ap ⟨x0, x1, x4⟩ ⟨x2, x3, x4⟩ (show x1 ≤ 9223372036854775807 by omega) (show x3 ≤ 9223372036854775807 by omega) rfl)
    go_wp2_with fail
    refine HC.out.mono ?_
    rintro e w4 ⟨rfl, c4, hx4, hr4⟩
    have HX4 := Lib.hid hx4
    have HR4 := Lib.hid hr4
    clear hx4 hr4
    go_wp2_with fail
    refine bodyPost_ret (v := .tuple #[.int .i32 0, .int .i64 (reachP M.hp.arrs ap [⟨x0, x1, x4⟩, ⟨x2, x3, x4⟩])]) (by simp only [results, Try.f12]; simp [go_sem]) rfl ?_
    exact ⟨rfl, c4, (HA.out.1.trans HX3.out (fun _ h => TR7 h)).trans HX4.out (fun _ h => TR1 h), HR4.out, HT3.out.ext HX4.out T17⟩
  · clear HB
    obtain ⟨u, hu⟩ : ∃ u, u = ((wt.alloc (.cells #[.int .i64 x2, .int .i64 x3, .int .i64 x4] 74)).alloc (.cells #[.int .i64 x0, .int .i64 x1, .int .i64 x4] 74)).drew := ⟨_, rfl⟩
    have huu : Upd (fun _ => False) wt u := by rw [hu]; exact upd_drew (upd_alloc (Upd.alloc _ _ _))
    have hQ : u.heap[wt.heap.size]? = some (.cells #[.int .i64 x2, .int .i64 x3, .int .i64 x4] 74 (0, 0)) := by
      rw [hu]; show ((wt.alloc _).alloc _).heap[wt.heap.size]? = _
      exact hpBlk (S := fun _ => False) (Upd.alloc _ _ _) (hpTop wt _ _ rfl) (fun h => h)
    have hP : u.heap[wt.heap.size + 1]? = some (.cells #[.int .i64 x0, .int .i64 x1, .int .i64 x4] 74 (0, 0)) := by
      rw [hu]; show ((wt.alloc _).alloc _).heap[wt.heap.size + 1]? = _
      exact hpTop _ _ _ (by simp)
    have hus : wt.heap.size + 2 ≤ u.heap.size := by rw [hu]; simp
    obtain ⟨z, hz⟩ : ∃ z, z = u.alloc (.cells #[.int .i64 x0, .int .i64 x1, .int .i64 x4, .int .i64 x2, .int .i64 x3, .int .i64 x4] 74) := ⟨_, rfl⟩
    have hzu : Upd (fun _ => False) u z := by rw [hz]; exact Upd.alloc _ _ _
    have HSP : Hid (Sps z (.slice (some ⟨u.heap.size, 0, none⟩) 2 2) [⟨x0, x1, x4⟩, ⟨x2, x3, x4⟩]) := Lib.hid (by rw [hz]; exact sps2 (s := ⟨x0, x1, x4⟩) (u := ⟨x2, x3, x4⟩) (t := 74) (hpTop _ _ _ rfl))
    have HUZ := Lib.hid (HUT.out.trans (huu.trans hzu (fun _ h _ => h)) (fun _ h _ => h))
    have hws : w.heap.size ≤ wt.heap.size := HUT.out.size
    have hzP := hpBlk hzu hP (fun h => h)
    have hzQ := hpBlk hzu hQ (fun h => h)
    have HB : Hid (∀ v, Upd (fun k => TR (paint c w 9 k)) z v → (v.cell? ⟨wt.heap.size + 1, 0, none⟩ = some (.int .i64 x0) ∧ v.cell? ⟨wt.heap.size + 1, 1, none⟩ = some (.int .i64 x1) ∧ v.cell? ⟨wt.heap.size + 1, 2, none⟩ = some (.int .i64 x4)) ∧ (v.cell? ⟨wt.heap.size, 0, none⟩ = some (.int .i64 x2) ∧ v.cell? ⟨wt.heap.size, 1, none⟩ = some (.int .i64 x3) ∧ v.cell? ⟨wt.heap.size, 2, none⟩ = some (.int .i64 x4))) := Lib.hid (fun v hv => by
      obtain ⟨e0, e1, e2, -⟩ := three (keep9 (by omega) hzP hv)
      obtain ⟨d0, d1, d2, -⟩ := three (keep9 (by omega) hzQ hv)
      exact ⟨⟨e0, e1, e2⟩, d0, d1, d2⟩)
    have HUS : Hid (w.heap.size ≤ u.heap.size) := Lib.hid (by omega)
    obtain ⟨⟨b0, b1, b2⟩, d0, d1, d2⟩ : (u.cell? ⟨wt.heap.size + 1, 0, none⟩ = some (.int .i64 x0) ∧ u.cell? ⟨wt.heap.size + 1, 1, none⟩ = some (.int .i64 x1) ∧ u.cell? ⟨wt.heap.size + 1, 2, none⟩ = some (.int .i64 x4)) ∧ (u.cell? ⟨wt.heap.size, 0, none⟩ = some (.int .i64 x2) ∧ u.cell? ⟨wt.heap.size, 1, none⟩ = some (.int .i64 x3) ∧ u.cell? ⟨wt.heap.size, 2, none⟩ = some (.int .i64 x4)) := by
      obtain ⟨e0, e1, e2, -⟩ := three hP
      obtain ⟨d0, d1, d2, -⟩ := three hQ
      exact ⟨⟨e0, e1, e2⟩, d0, d1, d2⟩
    have HA := Lib.hid (aside3 H.out HT.out HX.out HV.out HUZ.out)
    have HWZ := Lib.hid hz
    rw [← hu]
    clear hu huu hP hQ hus hz hzu hws hzP hzQ
    go_wp2_with fail
    rw [← HWZ.out]
    refine (rTouch HA.out.2.2.1 _ _ HSP.out (fun k hk => by simp [Value.ownBlock] at hk; rw [← hk, paint_new c w 9 HUS.out]; omega) (by simp)).mono ?_
    rintro e w3 ⟨rfl, c3, hx3, ht3⟩
    clear b0 b1 b2 d0 d1 d2
    obtain ⟨⟨b0, b1, b2⟩, d0, d1, d2⟩ := HB.out _ (hx3.upd.mono (fun k hk _ => TR7 hk))
    have HX3 := Lib.hid hx3
    have HT3 := Lib.hid ht3
    clear hx3 ht3
    have HC : Hid (Calls Try.prog 32 #[.pointer (some ⟨rb, 0, none⟩), .int .i64 ap, .agg #[.int .i64 x0, .int .i64 x1, .int .i64 x4], .agg #[.int .i64 x2, .int .i64 x3, .int .i64 x4]] w3 fun e w' => e = .returned (.int .i64 (reachP M.hp.arrs ap [⟨x0, x1, x4⟩, ⟨x2, x3, x4⟩])) ∧ ∃ c', Ext T1 c3 w3 c' w' ∧ Rm c' w' rb (copyM M ap ⟨x0, x1, x4⟩ ⟨x2, x3, x4⟩)) :=
      Lib.hid (rCopy (HA.out.2.1.ext HX3.out (fun _ h => n17 h)) ap ⟨x0, x1, x4⟩ ⟨x2, x3, x4⟩ (show x1 ≤ 9223372036854775807 by omega) (show x3 ≤ 9223372036854775807 by omega) rfl)
    go_wp2_with fail
    refine HC.out.mono ?_
    rintro e w4 ⟨rfl, c4, hx4, hr4⟩
    have HX4 := Lib.hid hx4
    have HR4 := Lib.hid hr4
    clear hx4 hr4
    go_wp2_with fail
    refine bodyPost_ret (v := .tuple #[.int .i32 0, .int .i64 (reachP M.hp.arrs ap [⟨x0, x1, x4⟩, ⟨x2, x3, x4⟩])]) (by simp only [results, Try.f12]; simp [go_sem]) rfl ?_
    exact ⟨rfl, c4, (HA.out.1.trans HX3.out (fun _ h => TR7 h)).trans HX4.out (fun _ h => TR1 h), HR4.out, HT3.out.ext HX4.out T17⟩
set_option maxRecDepth 100000 in
set_option maxHeartbeats 4000000 in
theorem sv32 (h : Rm c w rb M) (ht : TrO c w tv o) (ap a b : Int) (v : Value) (x0 x1 x2 x3 x4 : Int) (hx : I32 w v [x0, x1, x2, x3, x4]) (hv : ∀ k, v.ownBlock = some k → ¬ TR (c k)) :
    Calls Try.prog 12 #[.pointer (some ⟨rb, 0, none⟩), tv, .int .i64 ap, .int .i64 32, .int .i64 a, .int .i64 b, v] w fun e w' => Served c w rb tv ⟨sameP M.hp.arrs ap ⟨x0, x1, x4⟩ ⟨x2, x3, x4⟩, reachP M.hp.arrs ap [⟨x0, x1, x4⟩, ⟨x2, x3, x4⟩], M⟩ (tchs o [⟨x0, x1, x4⟩, ⟨x2, x3, x4⟩]) e w' := by
  have HN : Hid (Calls Try.prog 22 #[v] w fun e w' => e = .returned (.agg #[.int .i64 x0, .int .i64 x1, .int .i64 x2, .int .i64 x3, .int .i64 x4]) ∧ Upd (fun _ => False) w w') := Lib.hid (rNumbers w v [x0, x1, x2, x3, x4] hx (by simp))
  have HX := Lib.hid hx
  have HV := Lib.hid hv
  have H := Lib.hid h
  have HT := Lib.hid ht
  have hrg := hx.1
  obtain ⟨p, rfl⟩ := ht.ptr
  obtain ⟨va, vc, rfl, -, -⟩ : ∃ va vc, v = .slice va 5 vc ∧ 5 ≤ vc ∧ vc ≤ maxLen := by
    obtain ⟨-, a, c, e, h1, h2, -⟩ := hx
    exact ⟨a, c, e, h1, h2⟩
  clear h ht hx hv
  go_enter Try.func12, Try.ntmps12
  go_wp2_with fail
  refine (rServes 32 w).mono ?_
  rintro e w' ⟨rfl, rfl⟩
  rw [show servesP 32 = 5 from rfl]
  go_wp2_with fail
  refine HN.out.mono ?_
  rintro e w2 ⟨rfl, hu⟩
  have HU2 := Lib.hid hu
  clear hu HN
  obtain ⟨wt, hwt⟩ : ∃ wt, wt = w2.alloc (.cells #[.int .i64 x0, .int .i64 x1, .int .i64 x2, .int .i64 x3, .int .i64 x4] 65) := ⟨_, rfl⟩
  have hut : Upd (fun _ => False) w wt := by rw [hwt]; exact HU2.out.trans (Upd.alloc _ _ _) (fun _ h _ => h)
  have hqt : wt.heap[w2.heap.size]? = some (.cells #[.int .i64 x0, .int .i64 x1, .int .i64 x2, .int .i64 x3, .int .i64 x4] 65 (0, 0)) := by rw [hwt]; exact hpTop _ _ _ rfl
  have HB : Hid (∀ u, Upd (fun _ => False) wt u → u.cell? ⟨w2.heap.size, 0, none⟩ = some (.int .i64 x0) ∧ u.cell? ⟨w2.heap.size, 1, none⟩ = some (.int .i64 x1) ∧ u.cell? ⟨w2.heap.size, 2, none⟩ = some (.int .i64 x2) ∧ u.cell? ⟨w2.heap.size, 3, none⟩ = some (.int .i64 x3) ∧ u.cell? ⟨w2.heap.size, 4, none⟩ = some (.int .i64 x4)) := Lib.hid (fun u hu => by
    obtain ⟨e0, e1, e2, e3, e4, -⟩ := five (hpBlk hu hqt (fun h => h))
    exact ⟨e0, e1, e2, e3, e4⟩)
  have HWT := Lib.hid hwt
  have HUT := Lib.hid hut
  clear hwt hut hqt
  have hrg1 : -2147483648 ≤ x1 ∧ x1 ≤ 2147483647 := hrg x1 (by simp)
  have hrg3 : -2147483648 ≤ x3 ∧ x3 ≤ 2147483647 := hrg x3 (by simp)
  clear hrg
  go_wp2_with fail
  rw [← HWT.out]
  go_region_held3 (fun w' => w'.cell? ⟨w2.heap.size, 0, none⟩ = some (.int .i64 x0) ∧ w'.cell? ⟨w2.heap.size, 1, none⟩ = some (.int .i64 x1) ∧ w'.cell? ⟨w2.heap.size, 2, none⟩ = some (.int .i64 x2) ∧ w'.cell? ⟨w2.heap.size, 3, none⟩ = some (.int .i64 x3) ∧ w'.cell? ⟨w2.heap.size, 4, none⟩ = some (.int .i64 x4)) (first
    | (refine HB.out _ ?_; repeat (first | exact Upd.refl _ _ | exact Upd.drew _ _ | refine upd_alloc ?_ | refine upd_drew ?_ | refine upd_set ?_ (by simp)))) (fail)
  · clear HB
    obtain ⟨u, hu⟩ : ∃ u, u = ((wt.alloc (.cells #[.int .i64 x0, .int .i64 x1, .int .i64 x4] 74)).alloc (.cells #[.int .i64 x2, .int .i64 x3, .int .i64 x4] 74)).drew := ⟨_, rfl⟩
    have huu : Upd (fun _ => False) wt u := by rw [hu]; exact upd_drew (upd_alloc (Upd.alloc _ _ _))
    have hP : u.heap[wt.heap.size]? = some (.cells #[.int .i64 x0, .int .i64 x1, .int .i64 x4] 74 (0, 0)) := by
      rw [hu]; show ((wt.alloc _).alloc _).heap[wt.heap.size]? = _
      exact hpBlk (S := fun _ => False) (Upd.alloc _ _ _) (hpTop wt _ _ rfl) (fun h => h)
    have hQ : u.heap[wt.heap.size + 1]? = some (.cells #[.int .i64 x2, .int .i64 x3, .int .i64 x4] 74 (0, 0)) := by
      rw [hu]; show ((wt.alloc _).alloc _).heap[wt.heap.size + 1]? = _
      exact hpTop _ _ _ (by simp)
    have hus : wt.heap.size + 2 ≤ u.heap.size := by rw [hu]; simp
    obtain ⟨z, hz⟩ : ∃ z, z = u.alloc (.cells #[.int .i64 x0, .int .i64 x1, .int .i64 x4, .int .i64 x2, .int .i64 x3, .int .i64 x4] 74) := ⟨_, rfl⟩
    have hzu : Upd (fun _ => False) u z := by rw [hz]; exact Upd.alloc _ _ _
    have HSP : Hid (Sps z (.slice (some ⟨u.heap.size, 0, none⟩) 2 2) [⟨x0, x1, x4⟩, ⟨x2, x3, x4⟩]) := Lib.hid (by rw [hz]; exact sps2 (s := ⟨x0, x1, x4⟩) (u := ⟨x2, x3, x4⟩) (t := 74) (hpTop _ _ _ rfl))
    have HUZ := Lib.hid (HUT.out.trans (huu.trans hzu (fun _ h _ => h)) (fun _ h _ => h))
    have hws : w.heap.size ≤ wt.heap.size := HUT.out.size
    have hzP := hpBlk hzu hP (fun h => h)
    have hzQ := hpBlk hzu hQ (fun h => h)
    have HB : Hid (∀ v, Upd (fun k => TR (paint c w 9 k)) z v → (v.cell? ⟨wt.heap.size, 0, none⟩ = some (.int .i64 x0) ∧ v.cell? ⟨wt.heap.size, 1, none⟩ = some (.int .i64 x1) ∧ v.cell? ⟨wt.heap.size, 2, none⟩ = some (.int .i64 x4)) ∧ (v.cell? ⟨wt.heap.size + 1, 0, none⟩ = some (.int .i64 x2) ∧ v.cell? ⟨wt.heap.size + 1, 1, none⟩ = some (.int .i64 x3) ∧ v.cell? ⟨wt.heap.size + 1, 2, none⟩ = some (.int .i64 x4))) := Lib.hid (fun v hv => by
      obtain ⟨e0, e1, e2, -⟩ := three (keep9 (by omega) hzP hv)
      obtain ⟨d0, d1, d2, -⟩ := three (keep9 (by omega) hzQ hv)
      exact ⟨⟨e0, e1, e2⟩, d0, d1, d2⟩)
    have HUS : Hid (w.heap.size ≤ u.heap.size) := Lib.hid (by omega)
    obtain ⟨⟨b0, b1, b2⟩, d0, d1, d2⟩ : (u.cell? ⟨wt.heap.size, 0, none⟩ = some (.int .i64 x0) ∧ u.cell? ⟨wt.heap.size, 1, none⟩ = some (.int .i64 x1) ∧ u.cell? ⟨wt.heap.size, 2, none⟩ = some (.int .i64 x4)) ∧ (u.cell? ⟨wt.heap.size + 1, 0, none⟩ = some (.int .i64 x2) ∧ u.cell? ⟨wt.heap.size + 1, 1, none⟩ = some (.int .i64 x3) ∧ u.cell? ⟨wt.heap.size + 1, 2, none⟩ = some (.int .i64 x4)) := by
      obtain ⟨e0, e1, e2, -⟩ := three hP
      obtain ⟨d0, d1, d2, -⟩ := three hQ
      exact ⟨⟨e0, e1, e2⟩, d0, d1, d2⟩
    have HA := Lib.hid (aside3 H.out HT.out HX.out HV.out HUZ.out)
    have HWZ := Lib.hid hz
    rw [← hu]
    clear hu huu hP hQ hus hz hzu hws hzP hzQ
    go_wp2_with fail
    rw [← HWZ.out]
    refine (rTouch HA.out.2.2.1 _ _ HSP.out (fun k hk => by simp [Value.ownBlock] at hk; rw [← hk, paint_new c w 9 HUS.out]; omega) (by simp)).mono ?_
    rintro e w3 ⟨rfl, c3, hx3, ht3⟩
    clear b0 b1 b2 d0 d1 d2
    obtain ⟨⟨b0, b1, b2⟩, d0, d1, d2⟩ := HB.out _ (hx3.upd.mono (fun k hk _ => TR7 hk))
    have HX3 := Lib.hid hx3
    have HT3 := Lib.hid ht3
    clear hx3 ht3
    have HC : Hid (Calls Try.prog 33 #[.pointer (some ⟨rb, 0, none⟩), .int .i64 ap, .agg #[.int .i64 x0, .int .i64 x1, .int .i64 x4], .agg #[.int .i64 x2, .int .i64 x3, .int .i64 x4]] w3 fun e w' => e = .returned (.tuple #[.int .i32 (sameP M.hp.arrs ap ⟨x0, x1, x4⟩ ⟨x2, x3, x4⟩), .int .i64 (reachP M.hp.arrs ap [⟨x0, x1, x4⟩, ⟨x2, x3, x4⟩])]) ∧ Upd (fun _ => False) w3 w') :=
      Lib.hid (rSameS (HA.out.2.1.ext HX3.out (fun _ h => n17 h)) ap ⟨x0, x1, x4⟩ ⟨x2, x3, x4⟩ (show x1 ≤ 9223372036854775807 by omega) (show x3 ≤ 9223372036854775807 by omega))
    go_wp2_with fail
    refine HC.out.mono ?_
    rintro e w4 ⟨rfl, hu4⟩
    have HX4 := Lib.hid (Ext.quietT None0 c3 hu4)
    clear hu4
    go_wp2_with fail
    refine bodyPost_ret (v := .tuple #[.int .i32 (sameP M.hp.arrs ap ⟨x0, x1, x4⟩ ⟨x2, x3, x4⟩), .int .i64 (reachP M.hp.arrs ap [⟨x0, x1, x4⟩, ⟨x2, x3, x4⟩])]) (by simp only [results, Try.f12]; simp [go_sem]) rfl ?_
    exact ⟨rfl, c3, (HA.out.1.trans HX3.out (fun _ h => TR7 h)).trans HX4.out (fun _ h => h.elim), ((HA.out.2.1.ext HX3.out (fun _ h => n17 h)).ext HX4.out (fun _ _ h => h)), HT3.out.ext HX4.out (fun h => h)⟩
  · clear HB
    obtain ⟨u, hu⟩ : ∃ u, u = ((wt.alloc (.cells #[.int .i64 x2, .int .i64 x3, .int .i64 x4] 74)).alloc (.cells #[.int .i64 x0, .int .i64 x1, .int .i64 x4] 74)).drew := ⟨_, rfl⟩
    have huu : Upd (fun _ => False) wt u := by rw [hu]; exact upd_drew (upd_alloc (Upd.alloc _ _ _))
    have hQ : u.heap[wt.heap.size]? = some (.cells #[.int .i64 x2, .int .i64 x3, .int .i64 x4] 74 (0, 0)) := by
      rw [hu]; show ((wt.alloc _).alloc _).heap[wt.heap.size]? = _
      exact hpBlk (S := fun _ => False) (Upd.alloc _ _ _) (hpTop wt _ _ rfl) (fun h => h)
    have hP : u.heap[wt.heap.size + 1]? = some (.cells #[.int .i64 x0, .int .i64 x1, .int .i64 x4] 74 (0, 0)) := by
      rw [hu]; show ((wt.alloc _).alloc _).heap[wt.heap.size + 1]? = _
      exact hpTop _ _ _ (by simp)
    have hus : wt.heap.size + 2 ≤ u.heap.size := by rw [hu]; simp
    obtain ⟨z, hz⟩ : ∃ z, z = u.alloc (.cells #[.int .i64 x0, .int .i64 x1, .int .i64 x4, .int .i64 x2, .int .i64 x3, .int .i64 x4] 74) := ⟨_, rfl⟩
    have hzu : Upd (fun _ => False) u z := by rw [hz]; exact Upd.alloc _ _ _
    have HSP : Hid (Sps z (.slice (some ⟨u.heap.size, 0, none⟩) 2 2) [⟨x0, x1, x4⟩, ⟨x2, x3, x4⟩]) := Lib.hid (by rw [hz]; exact sps2 (s := ⟨x0, x1, x4⟩) (u := ⟨x2, x3, x4⟩) (t := 74) (hpTop _ _ _ rfl))
    have HUZ := Lib.hid (HUT.out.trans (huu.trans hzu (fun _ h _ => h)) (fun _ h _ => h))
    have hws : w.heap.size ≤ wt.heap.size := HUT.out.size
    have hzP := hpBlk hzu hP (fun h => h)
    have hzQ := hpBlk hzu hQ (fun h => h)
    have HB : Hid (∀ v, Upd (fun k => TR (paint c w 9 k)) z v → (v.cell? ⟨wt.heap.size + 1, 0, none⟩ = some (.int .i64 x0) ∧ v.cell? ⟨wt.heap.size + 1, 1, none⟩ = some (.int .i64 x1) ∧ v.cell? ⟨wt.heap.size + 1, 2, none⟩ = some (.int .i64 x4)) ∧ (v.cell? ⟨wt.heap.size, 0, none⟩ = some (.int .i64 x2) ∧ v.cell? ⟨wt.heap.size, 1, none⟩ = some (.int .i64 x3) ∧ v.cell? ⟨wt.heap.size, 2, none⟩ = some (.int .i64 x4))) := Lib.hid (fun v hv => by
      obtain ⟨e0, e1, e2, -⟩ := three (keep9 (by omega) hzP hv)
      obtain ⟨d0, d1, d2, -⟩ := three (keep9 (by omega) hzQ hv)
      exact ⟨⟨e0, e1, e2⟩, d0, d1, d2⟩)
    have HUS : Hid (w.heap.size ≤ u.heap.size) := Lib.hid (by omega)
    obtain ⟨⟨b0, b1, b2⟩, d0, d1, d2⟩ : (u.cell? ⟨wt.heap.size + 1, 0, none⟩ = some (.int .i64 x0) ∧ u.cell? ⟨wt.heap.size + 1, 1, none⟩ = some (.int .i64 x1) ∧ u.cell? ⟨wt.heap.size + 1, 2, none⟩ = some (.int .i64 x4)) ∧ (u.cell? ⟨wt.heap.size, 0, none⟩ = some (.int .i64 x2) ∧ u.cell? ⟨wt.heap.size, 1, none⟩ = some (.int .i64 x3) ∧ u.cell? ⟨wt.heap.size, 2, none⟩ = some (.int .i64 x4)) := by
      obtain ⟨e0, e1, e2, -⟩ := three hP
      obtain ⟨d0, d1, d2, -⟩ := three hQ
      exact ⟨⟨e0, e1, e2⟩, d0, d1, d2⟩
    have HA := Lib.hid (aside3 H.out HT.out HX.out HV.out HUZ.out)
    have HWZ := Lib.hid hz
    rw [← hu]
    clear hu huu hP hQ hus hz hzu hws hzP hzQ
    go_wp2_with fail
    rw [← HWZ.out]
    refine (rTouch HA.out.2.2.1 _ _ HSP.out (fun k hk => by simp [Value.ownBlock] at hk; rw [← hk, paint_new c w 9 HUS.out]; omega) (by simp)).mono ?_
    rintro e w3 ⟨rfl, c3, hx3, ht3⟩
    clear b0 b1 b2 d0 d1 d2
    obtain ⟨⟨b0, b1, b2⟩, d0, d1, d2⟩ := HB.out _ (hx3.upd.mono (fun k hk _ => TR7 hk))
    have HX3 := Lib.hid hx3
    have HT3 := Lib.hid ht3
    clear hx3 ht3
    have HC : Hid (Calls Try.prog 33 #[.pointer (some ⟨rb, 0, none⟩), .int .i64 ap, .agg #[.int .i64 x0, .int .i64 x1, .int .i64 x4], .agg #[.int .i64 x2, .int .i64 x3, .int .i64 x4]] w3 fun e w' => e = .returned (.tuple #[.int .i32 (sameP M.hp.arrs ap ⟨x0, x1, x4⟩ ⟨x2, x3, x4⟩), .int .i64 (reachP M.hp.arrs ap [⟨x0, x1, x4⟩, ⟨x2, x3, x4⟩])]) ∧ Upd (fun _ => False) w3 w') :=
      Lib.hid (rSameS (HA.out.2.1.ext HX3.out (fun _ h => n17 h)) ap ⟨x0, x1, x4⟩ ⟨x2, x3, x4⟩ (show x1 ≤ 9223372036854775807 by omega) (show x3 ≤ 9223372036854775807 by omega))
    go_wp2_with fail
    refine HC.out.mono ?_
    rintro e w4 ⟨rfl, hu4⟩
    have HX4 := Lib.hid (Ext.quietT None0 c3 hu4)
    clear hu4
    go_wp2_with fail
    refine bodyPost_ret (v := .tuple #[.int .i32 (sameP M.hp.arrs ap ⟨x0, x1, x4⟩ ⟨x2, x3, x4⟩), .int .i64 (reachP M.hp.arrs ap [⟨x0, x1, x4⟩, ⟨x2, x3, x4⟩])]) (by simp only [results, Try.f12]; simp [go_sem]) rfl ?_
    exact ⟨rfl, c3, (HA.out.1.trans HX3.out (fun _ h => TR7 h)).trans HX4.out (fun _ h => h.elim), ((HA.out.2.1.ext HX3.out (fun _ h => n17 h)).ext HX4.out (fun _ _ h => h)), HT3.out.ext HX4.out (fun h => h)⟩
end
end Go.Proofs.Ytmfiamoeagnmmaa

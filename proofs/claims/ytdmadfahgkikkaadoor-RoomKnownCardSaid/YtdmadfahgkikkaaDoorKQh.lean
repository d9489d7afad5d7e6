/- Several texts in one. -/
import Derived.Test.YtdmadfahgkikkaaDoorKQe
import Derived.Test.YtdmadfahgkikkaaDoorRl
import Derived.Deep.QuietTactic
import Derived.Deep.RegionHeld3
import Derived.Test.YtdmadfahgkikkaaDoorHand
/- Package room: what is sent. -/
namespace Go.Proofs.YtdmadfahgkikkaaDoor
open Go.RowKit Go.Lib Go.ChangeShapes Go.WideShapes Go.Deep
set_option linter.unusedVariables false
set_option linter.unusedSimpArgs false

def TP (i : Nat) : Prop := i = 2 ∨ i = 5
def TQ (i : Nat) : Prop := i = 2 ∨ i = 6
theorem RmAt.tellPub {c : Nat → Nat} {w w1 : World} {rb hb : Nat} {iv fv pv sv v' : Value} {ivs fvs : List Value} {M : RmM} {xs : List Int} (h : RmAt c w rb hb iv fv pv sv ivs fvs M)
    (ho : w1.ownsRow 0 5 1 v' (M.pub.length + xs.length) (bv M.pub ++ bv xs)) (hg : w.grownBy w1 pv.ownBlock) (hf : Fresh w pv v') (hx : ∀ y ∈ xs, 0 ≤ y ∧ y ≤ 255) (hl : M.pub.length + xs.length ≤ 128) :
    Ext TP c w (paint c w 5) (w1.setCell ⟨rb, 3, none⟩ v') ∧ RmAt (paint c w 5) (w1.setCell ⟨rb, 3, none⟩ v') rb hb iv fv v' sv ivs fvs (M.withPub (M.pub ++ xs)) := by
  have hu1 : Upd (fun k => pv.ownBlock = some k) w w1 := Upd.grown (S := fun k => pv.ownBlock = some k) hg (fun k hk => .inl hk)
  have hrb : rb < w.heap.size := (Array.getElem?_eq_some_iff.1 h.box).1
  have hcol0 : ∀ k, v'.ownBlock = some k → paint c w 5 k = 5 := fun k hk => by
    rcases hf k hk with h1 | h1
    · rw [paint_old c w 5 (hpRowLt h.pub k h1)]; exact h.cp k h1
    · exact paint_new c w 5 h1
  have hne : ∀ k, v'.ownBlock = some k → ¬ k = rb := fun k hk e => by
    have h1 := hcol0 k hk
    rw [e, paint_old c w 5 hrb, h.cb] at h1
    omega
  have hb1 : w1.heap[rb]? = some (.cells #[iv, fv, .pointer (some ⟨hb, 0, none⟩), pv, sv] 87 (0, 0)) := hpBlk hu1 h.box (fun e => by
    have h1 := h.cp rb e
    rw [h.cb] at h1
    omega)
  have hu2 : Upd (fun k => k = rb) w1 (w1.setCell ⟨rb, 3, none⟩ v') := Upd.setCell (S := fun k => k = rb) w1 (.inl rfl) _
  have E : Ext TP c w (paint c w 5) (w1.setCell ⟨rb, 3, none⟩ v') := ⟨fun k hk => paint_old c w 5 hk, (hu1.mono (T := fun k => TP (c k)) (fun k hk _ => by rw [h.cp k hk]; simp [TP])).trans (hu2.mono (T := fun k => TP (c k)) (fun k hk _ => by rw [hk, h.cb]; simp [TP])) (fun k hk _ => hk)⟩
  have hrow : w1.ownsRow 0 5 1 v' (M.pub ++ xs).length (bv (M.pub ++ xs)) := by rw [List.length_append, bv_append]; exact ho
  have hrow2 := ownsRow_upd hrow hu2 hne
  have hby : ∀ y ∈ M.pub ++ xs, 0 ≤ y ∧ y ≤ 255 := fun y hy => by
    rcases List.mem_append.1 hy with h1 | h1
    · exact h.pb.2 y h1
    · exact hx y h1
  have hcol : ∀ k, v'.ownBlock = some k → paint c w 5 k = 5 := hcol0
  refine ⟨E, ?_⟩
  exact ⟨by simp [World.setCell, Array.getElem?_modify, hb1], E.hep h.hp (by simp [TP]), h.ok, E.row h.imgs (fun k hk => by rw [h.ci k hk]; simp [TP]), E.row h.flds (fun k hk => by rw [h.cf k hk]; simp [TP]),
    fun i hi => E.row (h.fld i hi) (fun k hk => by rw [h.cx i k hi hk]; simp [TP]; omega), hrow2, E.row h.sec (fun k hk => by rw [h.cs k hk]; simp [TP]), ⟨by show (M.pub ++ xs).length ≤ 128; simpa using hl, hby⟩, h.sb, h.i1, h.f1,
    E.col hrb h.cb, fun k hk => E.col (hpRowLt h.imgs k hk) (h.ci k hk), fun k hk => E.col (hpRowLt h.flds k hk) (h.cf k hk), hcol, fun k hk => E.col (hpRowLt h.sec k hk) (h.cs k hk),
    fun i k hi hk => E.col (hpRowLt (h.fld i hi) k hk) (h.cx i k hi hk), h.fl, h.es⟩
theorem RmAt.tellSec {c : Nat → Nat} {w w1 : World} {rb hb : Nat} {iv fv pv sv v' : Value} {ivs fvs : List Value} {M : RmM} {xs : List Int} (h : RmAt c w rb hb iv fv pv sv ivs fvs M)
    (ho : w1.ownsRow 0 5 1 v' (M.sec.length + xs.length) (bv M.sec ++ bv xs)) (hg : w.grownBy w1 sv.ownBlock) (hf : Fresh w sv v') (hx : ∀ y ∈ xs, 0 ≤ y ∧ y ≤ 255) (hl : M.sec.length + xs.length ≤ 128) :
    Ext TQ c w (paint c w 6) (w1.setCell ⟨rb, 4, none⟩ v') ∧ RmAt (paint c w 6) (w1.setCell ⟨rb, 4, none⟩ v') rb hb iv fv pv v' ivs fvs (M.withSec (M.sec ++ xs)) := by
  have hu1 : Upd (fun k => sv.ownBlock = some k) w w1 := Upd.grown (S := fun k => sv.ownBlock = some k) hg (fun k hk => .inl hk)
  have hrb : rb < w.heap.size := (Array.getElem?_eq_some_iff.1 h.box).1
  have hcol0 : ∀ k, v'.ownBlock = some k → paint c w 6 k = 6 := fun k hk => by
    rcases hf k hk with h1 | h1
    · rw [paint_old c w 6 (hpRowLt h.sec k h1)]; exact h.cs k h1
    · exact paint_new c w 6 h1
  have hne : ∀ k, v'.ownBlock = some k → ¬ k = rb := fun k hk e => by
    have h1 := hcol0 k hk
    rw [e, paint_old c w 6 hrb, h.cb] at h1
    omega
  have hb1 : w1.heap[rb]? = some (.cells #[iv, fv, .pointer (some ⟨hb, 0, none⟩), pv, sv] 87 (0, 0)) := hpBlk hu1 h.box (fun e => by
    have h1 := h.cs rb e
    rw [h.cb] at h1
    omega)
  have hu2 : Upd (fun k => k = rb) w1 (w1.setCell ⟨rb, 4, none⟩ v') := Upd.setCell (S := fun k => k = rb) w1 (.inl rfl) _
  have E : Ext TQ c w (paint c w 6) (w1.setCell ⟨rb, 4, none⟩ v') := ⟨fun k hk => paint_old c w 6 hk, (hu1.mono (T := fun k => TQ (c k)) (fun k hk _ => by rw [h.cs k hk]; simp [TQ])).trans (hu2.mono (T := fun k => TQ (c k)) (fun k hk _ => by rw [hk, h.cb]; simp [TQ])) (fun k hk _ => hk)⟩
  have hrow : w1.ownsRow 0 5 1 v' (M.sec ++ xs).length (bv (M.sec ++ xs)) := by rw [List.length_append, bv_append]; exact ho
  have hrow2 := ownsRow_upd hrow hu2 hne
  have hby : ∀ y ∈ M.sec ++ xs, 0 ≤ y ∧ y ≤ 255 := fun y hy => by
    rcases List.mem_append.1 hy with h1 | h1
    · exact h.sb.2 y h1
    · exact hx y h1
  have hcol : ∀ k, v'.ownBlock = some k → paint c w 6 k = 6 := hcol0
  refine ⟨E, ?_⟩
  exact ⟨by simp [World.setCell, Array.getElem?_modify, hb1], E.hep h.hp (by simp [TQ]), h.ok, E.row h.imgs (fun k hk => by rw [h.ci k hk]; simp [TQ]), E.row h.flds (fun k hk => by rw [h.cf k hk]; simp [TQ]),
    fun i hi => E.row (h.fld i hi) (fun k hk => by rw [h.cx i k hi hk]; simp [TQ]; omega), E.row h.pub (fun k hk => by rw [h.cp k hk]; simp [TQ]), hrow2, h.pb, ⟨by show (M.sec ++ xs).length ≤ 128; simpa using hl, hby⟩, h.i1, h.f1,
    E.col hrb h.cb, fun k hk => E.col (hpRowLt h.imgs k hk) (h.ci k hk), fun k hk => E.col (hpRowLt h.flds k hk) (h.cf k hk), fun k hk => E.col (hpRowLt h.pub k hk) (h.cp k hk), hcol,
    fun i k hi hk => E.col (hpRowLt (h.fld i hi) k hk) (h.cx i k hi hk), h.fl, h.es⟩
def toldP (M : RmM) (a : Int) : List Int := if a = 1 then M.pub else M.sec
def sendS (M : RmM) (ap a : Int) (s : SpM) : Int := if rngP M.hp.arrs s.ref s.at_ s.n ap = 36864 then (if 128 < ((toldP M a).length : Int) + s.n then 28425 else 36864) else rngP M.hp.arrs s.ref s.at_ s.n ap
def sendM (M : RmM) (ap a : Int) (s : SpM) : RmM := if sendS M ap a s = 36864 then (if a = 1 then M.withPub (M.pub ++ cutP M.hp.arrs s.ref s.at_ s.n) else M.withSec (M.sec ++ cutP M.hp.arrs s.ref s.at_ s.n)) else M
section
variable {c : Nat → Nat} {w : World} {rb : Nat} {M : RmM}
set_option maxRecDepth 100000 in
set_option maxHeartbeats 4000000 in
theorem rSendP (h : Rm c w rb M) (ap a : Int) (s : SpM) (ha : s.at_ ≤ 9223372036854775807) (hA : a = 1) :
    Calls Tryd.prog 49 #[.pointer (some ⟨rb, 0, none⟩), .int .i64 ap, .int .i64 a, .agg #[.int .i64 s.ref, .int .i64 s.at_, .int .i64 s.n]] w fun e w' => e = .returned (.int .i64 (sendS M ap a s)) ∧ ∃ c', Ext TP c w c' w' ∧ Rm c' w' rb (sendM M ap a s) := by
  obtain ⟨w1, hw1⟩ : ∃ w1, w1 = (w.alloc (.cells #[.int .i64 s.ref, .int .i64 s.at_, .int .i64 s.n] 110)).alloc (.cells #[.int .i64 s.ref, .int .i64 s.at_, .int .i64 s.n] 110) := ⟨_, rfl⟩
  obtain ⟨hu1, hx1, hs1⟩ := box1 (s := s) hw1
  have HR := Lib.hid (rReach (h.quiet hu1) ap _ _ hs1 (by simp) (by simpa using ha))
  rw [reach1] at HR
  have HX := Lib.hid hx1
  have HU1 := Lib.hid hu1
  have HW1 := Lib.hid hw1
  have H := Lib.hid h
  have HA := Lib.hid hA
  obtain ⟨hb, iv, fv, pv, sv, ivs, fvs, h⟩ := h
  have hml := h.pb.1
  have HH := Lib.hid h
  obtain ⟨va, vc, hve⟩ := ownsRow_slice h.pub
  have HVE := Lib.hid hve
  have hbq : (a == 1) = true := by simpa using hA
  have HG := Lib.hid (show sendS M ap a s = if rngP M.hp.arrs s.ref s.at_ s.n ap = 36864 then (if 128 < ((toldP M a).length : Int) + s.n then 28425 else 36864) else rngP M.hp.arrs s.ref s.at_ s.n ap from rfl)
  have HM := Lib.hid (show sendM M ap a s = if sendS M ap a s = 36864 then (if a = 1 then M.withPub (M.pub ++ cutP M.hp.arrs s.ref s.at_ s.n) else M.withSec (M.sec ++ cutP M.hp.arrs s.ref s.at_ s.n)) else M from rfl)
  have HT : Hid (toldP M a = M.pub) := Lib.hid (by unfold toldP; rw [if_pos hA])
  have HB : Hid (∀ v, Upd (fun k => paint c w 9 k = 5) w1 v → v.cell? ⟨rb, 3, none⟩ = some pv ∧ v.cell? ⟨w.heap.size, 0, none⟩ = some (.int .i64 s.ref) ∧ v.cell? ⟨w.heap.size, 1, none⟩ = some (.int .i64 s.at_) ∧ v.cell? ⟨w.heap.size, 2, none⟩ = some (.int .i64 s.n)) :=
    Lib.hid (fun v hu => by
      obtain ⟨e0, e1, e2, -⟩ := three (hpBlk hu HX.out (by rw [paint_new c w 9 (Nat.le_refl _)]; omega))
      have hr := (h.aside HU1.out).box
      have hc := (h.aside HU1.out).cb
      have h5 := five (hpBlk hu hr (by rw [hc]; omega))
      exact ⟨h5.2.2.2.1, e0, e1, e2⟩)
  have HFR : Hid (∀ v, Upd (fun k => paint c w 9 k = 5) w1 v → v.frozen? ⟨rb, 3, none⟩ = false) :=
    Lib.hid (fun v hu => by
      have hr := (h.aside HU1.out).box
      have hc := (h.aside HU1.out).cb
      exact (five (hpBlk hu hr (by rw [hc]; omega))).2.2.2.2.2 3)
  rw [HT.out] at HG
  rw [hve] at HB
  clear hu1 hx1 hs1 hw1 hA h hve HT
  generalize hS : sendS M ap a s = S0 at *
  have HS0 := Lib.hid hS
  clear hS
  generalize sendM M ap a s = g at *
  rcases fine_or (rngP M.hp.arrs s.ref s.at_ s.n ap) with e | ⟨e1, e2⟩
  · obtain ⟨ref, at_, n⟩ := s
    simp only at e HG HM HR HX HB HW1 ha ⊢
    obtain ⟨i, a', k, hi, rfl, rfl, rfl, hak, -⟩ := rng_fine e
    have hdl := hep_dl HH.out.hp hi
    have hcut : cutP M.hp.arrs ((i : Int) + 1) a' k = ((M.hp.arrs.getD i default).data.drop a').take k := by unfold cutP; rw [show ((i : Int) + 1 - 1).toNat = i by omega]; rfl
    have HCT := Lib.hid hcut
    have HRD := Lib.hid (fun v (hu : Upd (fun _ => False) w v) => rRead (H.out.quiet hu) hi hak)
    obtain ⟨xs, hxs⟩ : ∃ xs, xs = ((M.hp.arrs.getD i default).data.drop a').take k := ⟨_, rfl⟩
    have hxl : xs.length = k := by rw [hxs, List.length_take, List.length_drop]; omega
    rw [← hxs] at HRD HCT
    clear hcut hxs
    have HXL := Lib.hid hxl
    rw [if_pos e] at HG
    rw [e] at HR
    have hwk : IntKind.i64.wrap ((M.pub.length : Int) + (k : Int)) = (M.pub.length : Int) + (k : Int) := IntWalk.i64_in _ (by omega)
    have hk64 : k ≤ 64 := by omega
    clear e ha hak hdl hxl
    by_cases hfull : 128 < (M.pub.length : Int) + (k : Int)
    · have hs0 : S0 = 28425 := by rw [HG.out, if_pos hfull]
      subst hs0
      have hg : g = M := by rw [HM.out, if_neg (by decide)]
      subst hg
      clear HG HM HRD
      go_enter Tryd.func49, Tryd.ntmps49
      go_wp2_with fail
      rw [← HW1.out]
      refine HR.out.mono ?_
      rintro e w2 ⟨rfl, hu⟩
      have HX2 := Lib.hid hu
      have HD : Hid (Upd (fun k => paint c w 9 k = 5) w1 w2.drew) := Lib.hid ((hu.trans (Upd.drew (fun _ => False) w2) (fun _ h _ => h)).mono (fun _ h _ => h.elim))
      obtain ⟨b0, b1, b2, b3⟩ := HB.out _ (hu.mono (T := fun k => paint c w 9 k = 5) (fun _ h _ => h.elim))
      clear hu
      go_wp2_with fail
      go_quiet (fail)
      go_wp2_with fail
      go_ret
      exact ⟨rfl, c, Ext.quietT _ c (HU1.out.trans (HX2.out.trans (hpDrewN (fun _ => False) w2 nq) (fun _ h _ => h)) (fun _ h _ => h)), H.out.quiet (HU1.out.trans (HX2.out.trans (hpDrewN (fun _ => False) w2 nq) (fun _ h _ => h)) (fun _ h _ => h))⟩
    · have hs0 : S0 = 36864 := by rw [HG.out, if_neg hfull]
      subst hs0
      have hg : g = M.withPub (M.pub ++ xs) := by rw [HM.out, if_pos rfl, if_pos HA.out, HCT.out]
      have HGG := Lib.hid hg
      clear HG HM hg HCT HA
      obtain ⟨i0, hi0, hz0, hz1, hz2⟩ := info_parts info5
      go_enter Tryd.func49, Tryd.ntmps49
      go_wp2_with fail
      rw [← HW1.out]
      refine HR.out.mono ?_
      rintro e w2 ⟨rfl, hu⟩
      have HX2 := Lib.hid hu
      have HD : Hid (Upd (fun k => paint c w 9 k = 5) w1 w2.drew) := Lib.hid ((hu.trans (Upd.drew (fun _ => False) w2) (fun _ h _ => h)).mono (fun _ h _ => h.elim))
      obtain ⟨b0, b1, b2, b3⟩ := HB.out _ (hu.mono (T := fun k => paint c w 9 k = 5) (fun _ h _ => h.elim))
      clear hu
      go_wp2_with fail
      go_quiet (fail)
      clear b0 b1 b2 b3
      go_upto_region 9 with fail
      have HZ : Hid (Upd (fun _ => False) w2 (w2.drewN nq).drew) := Lib.hid ((hpDrewN (fun _ => False) w2 nq).trans (Upd.drew _ _) (fun _ h _ => h))
      have HD : Hid (Upd (fun k => paint c w 9 k = 5) w1 (w2.drewN nq).drew) := Lib.hid ((HX2.out.trans HZ.out (fun _ h _ => h)).mono (fun _ h _ => h.elim))
      have HUD : Hid (Upd (fun _ => False) w (w2.drewN nq).drew) := Lib.hid (HU1.out.trans (HX2.out.trans HZ.out (fun _ h _ => h)) (fun _ h _ => h))
      have hHeld : (fun w' : World => w'.cell? ⟨rb, 3, none⟩ = some (.slice va M.pub.length vc) ∧ w'.cell? ⟨w.heap.size, 0, none⟩ = some (.int .i64 ((i : Int) + 1)) ∧ w'.cell? ⟨w.heap.size, 1, none⟩ = some (.int .i64 a') ∧ w'.cell? ⟨w.heap.size, 2, none⟩ = some (.int .i64 k)) (w2.drewN nq).drew := HB.out _ HD.out
      refine wp_region_last (S := fun w' => w'.cell? ⟨rb, 3, none⟩ = some (.slice va M.pub.length vc) ∧ w'.cell? ⟨w.heap.size, 0, none⟩ = some (.int .i64 ((i : Int) + 1)) ∧ w'.cell? ⟨w.heap.size, 1, none⟩ = some (.int .i64 a') ∧ w'.cell? ⟨w.heap.size, 2, none⟩ = some (.int .i64 k)) 9 _ (by kernel_rfl) (by kernel_rfl) rfl ?_
      change wpHL _ _ _ _ _ _ _ _ _ _ (w2.drewN nq).drew
      refine wpHL_take (i := 0) (v := ?_) rfl (by kernel_rfl) (fun _ _ _ h => h) hHeld (Or.inl ⟨by rfl, ?_⟩) ?_
      rotate_left
      · (intro w hSw; obtain ⟨y0, y1, y2, y3⟩ := hSw; go_simp; try with_reducible rfl)
      try simp only [Act.put, List.getElem_toArray, List.getElem_cons_succ, List.getElem_cons_zero, List.setIfInBounds_toArray, List.set_cons_zero, List.set_cons_succ]
      refine wpHL_take (i := 1) (v := ?_) rfl (by kernel_rfl) (fun _ _ _ h => h) hHeld (Or.inl ⟨by rfl, ?_⟩) ?_
      rotate_left
      · (intro w hSw; obtain ⟨y0, y1, y2, y3⟩ := hSw; go_simp; try with_reducible rfl)
      try simp only [Act.put, List.getElem_toArray, List.getElem_cons_succ, List.getElem_cons_zero, List.setIfInBounds_toArray, List.set_cons_zero, List.set_cons_succ]
      refine wpHL_take (i := 2) (v := ?_) rfl (by kernel_rfl) (fun _ _ _ h => h) hHeld (Or.inl ⟨by rfl, ?_⟩) ?_
      rotate_left
      · (intro w hSw; obtain ⟨y0, y1, y2, y3⟩ := hSw; go_simp; try with_reducible rfl)
      try simp only [Act.put, List.getElem_toArray, List.getElem_cons_succ, List.getElem_cons_zero, List.setIfInBounds_toArray, List.set_cons_zero, List.set_cons_succ]
      refine wpHL_take (i := 3) (v := ?_) rfl (by kernel_rfl) (fun _ _ _ h => h) hHeld (Or.inl ⟨by rfl, ?_⟩) ?_
      rotate_left
      · (intro w hSw; obtain ⟨y0, y1, y2, y3⟩ := hSw; go_simp; try with_reducible rfl)
      try simp only [Act.put, List.getElem_toArray, List.getElem_cons_succ, List.getElem_cons_zero, List.setIfInBounds_toArray, List.set_cons_zero, List.set_cons_succ]
      refine wpHL_take (i := 4) (v := ?_) rfl (by kernel_rfl) (fun _ _ _ h => h) hHeld (Or.inl ⟨by rfl, ?_⟩) ?_
      rotate_left
      · (intro w hSw; obtain ⟨y0, y1, y2, y3⟩ := hSw; go_simp; try with_reducible rfl)
      try simp only [Act.put, List.getElem_toArray, List.getElem_cons_succ, List.getElem_cons_zero, List.setIfInBounds_toArray, List.set_cons_zero, List.set_cons_succ]
      refine wpHL_take (i := 5) (v := ?_) rfl (by kernel_rfl) (fun _ _ _ h => h) hHeld (Or.inl ⟨by rfl, ?_⟩) ?_
      rotate_left
      · (intro w hSw; obtain ⟨y0, y1, y2, y3⟩ := hSw; go_simp; try with_reducible rfl)
      try simp only [Act.put, List.getElem_toArray, List.getElem_cons_succ, List.getElem_cons_zero, List.setIfInBounds_toArray, List.set_cons_zero, List.set_cons_succ]
      refine wpHL_step (i := 6) rfl (by kernel_rfl) (by decide) (fun K hK => ?_)
      have HKK := Lib.hid hK
      clear hK hHeld
      go_simp
      refine (HRD.out _ HUD.out).mono ?_
      rintro e w3 ⟨x3, rfl, hv, hu, hnb⟩
      obtain ⟨xa, xc, rfl, -, -⟩ := hv.slice
      have HUD3 := Lib.hid (HUD.out.trans hu (fun _ h _ => h))
      have HD3 : Hid (Upd (fun k => paint c w 9 k = 5) w1 w3) := Lib.hid (HD.out.trans (hu.mono (T := fun k => paint c w 9 k = 5) (fun _ h _ => h.elim)) (fun _ h _ => h))
      have H3 := Lib.hid (HH.out.aside HUD3.out)
      have HROW := Lib.hid H3.out.pub
      rw [HVE.out] at HROW
      have HSRC := Lib.hid hv.src
      have HBY := Lib.hid hv.1
      clear hv hu hnb
      go_simp
      have hHeld := HB.out _ HD3.out
      refine HKK.out _ _ hHeld ?_
      clear HKK hHeld
      try simp only [Act.put, List.getElem_toArray, List.getElem_cons_succ, List.getElem_cons_zero, List.setIfInBounds_toArray, List.set_cons_zero, List.set_cons_succ]
      refine wpHL_step (i := 7) rfl (by kernel_rfl) (by decide) (fun K hK => ?_)
      have HKK := Lib.hid hK
      clear hK
      have hx64 : xs.length ≤ 64 := by rw [HXL.out]; omega
      refine hpStep rfl (.tmp 40) (.tmp 43) 41 rfl 0 5 i0 (.int .u8 0) 1 1 Tryd.underlying41 hi0 hz0 hz1 hz2 rfl (by decide) (.slice va M.pub.length vc) M.pub.length (bv M.pub) rfl HROW.out xs.length (bv xs) HSRC.out (by unfold maxLen; omega) (by omega) (Nat.zero_le _) ?_
      intro v4 w4 ho hg hf
      obtain ⟨va4, vc4, rfl⟩ := ownsRow_slice ho
      have HTL := Lib.hid (RmAt.tellPub H3.out ho (by rw [HVE.out]; exact hg) (by rw [HVE.out]; exact hf) HBY.out (by rw [HXL.out]; omega))
      have hu4 : Upd (fun k => paint c w 9 k = 5) w3 w4 := (Upd.grown (S := fun k => (Value.slice va M.pub.length vc).ownBlock = some k) hg (fun k hk => .inl hk)).mono (fun k hk _ => H3.out.cp k (by rw [HVE.out]; exact hk))
      have HD4 := Lib.hid (HD3.out.trans hu4 (fun _ h _ => h))
      have f4 := HFR.out _ HD4.out
      have hHeld := HB.out _ HD4.out
      clear ho hg hf hu4
      refine HKK.out _ _ hHeld ?_
      clear HKK
      try simp only [Act.put, List.getElem_toArray, List.getElem_cons_succ, List.getElem_cons_zero, List.setIfInBounds_toArray, List.set_cons_zero, List.set_cons_succ]
      refine wpHL_take (i := 8) (v := ?_) rfl (by kernel_rfl) (fun _ _ _ h => h) hHeld (Or.inl ⟨by rfl, ?_⟩) ?_
      rotate_left
      · (intro w hSw; obtain ⟨y0, y1, y2, y3⟩ := hSw; go_simp; try with_reducible rfl)
      try simp only [Act.put, List.getElem_toArray, List.getElem_cons_succ, List.getElem_cons_zero, List.setIfInBounds_toArray, List.set_cons_zero, List.set_cons_succ]
      obtain ⟨b0, b1, b2, b3⟩ := hHeld
      refine wpHL_last (by kernel_rfl) ?_
      go_wp2_with fail
      go_ret
      rw [HGG.out]
      exact ⟨rfl, _, (Ext.made TP 9 HUD3.out).trans HTL.out.1 (fun _ h => h), _, _, _, _, _, _, _, HTL.out.2⟩
  · have hs0 : S0 = rngP M.hp.arrs s.ref s.at_ s.n ap := by rw [HG.out, if_neg e2]
    have hg : g = M := by rw [HM.out, if_neg (by rw [hs0]; exact e2)]
    subst hg
    rw [← hs0] at HR e1
    clear HG HM e2 HX hs0 HS0
    go_enter Tryd.func49, Tryd.ntmps49
    go_wp2_with fail
    rw [← HW1.out]
    refine HR.out.mono ?_
    rintro e w2 ⟨rfl, hu⟩
    have HX2 := Lib.hid (HU1.out.trans hu (fun _ h _ => h))
    clear hu
    go_wp2_with fail
    go_ret
    exact ⟨rfl, c, Ext.quietT _ c HX2.out, H.out.quiet HX2.out⟩
set_option maxRecDepth 100000 in
set_option maxHeartbeats 4000000 in
theorem rSendQ (h : Rm c w rb M) (ap a : Int) (s : SpM) (ha : s.at_ ≤ 9223372036854775807) (hA : ¬ a = 1) :
    Calls Tryd.prog 49 #[.pointer (some ⟨rb, 0, none⟩), .int .i64 ap, .int .i64 a, .agg #[.int .i64 s.ref, .int .i64 s.at_, .int .i64 s.n]] w fun e w' => e = .returned (.int .i64 (sendS M ap a s)) ∧ ∃ c', Ext TQ c w c' w' ∧ Rm c' w' rb (sendM M ap a s) := by
  obtain ⟨w1, hw1⟩ : ∃ w1, w1 = (w.alloc (.cells #[.int .i64 s.ref, .int .i64 s.at_, .int .i64 s.n] 110)).alloc (.cells #[.int .i64 s.ref, .int .i64 s.at_, .int .i64 s.n] 110) := ⟨_, rfl⟩
  obtain ⟨hu1, hx1, hs1⟩ := box1 (s := s) hw1
  have HR := Lib.hid (rReach (h.quiet hu1) ap _ _ hs1 (by simp) (by simpa using ha))
  rw [reach1] at HR
  have HX := Lib.hid hx1
  have HU1 := Lib.hid hu1
  have HW1 := Lib.hid hw1
  have H := Lib.hid h
  have HA := Lib.hid hA
  obtain ⟨hb, iv, fv, pv, sv, ivs, fvs, h⟩ := h
  have hml := h.sb.1
  have HH := Lib.hid h
  obtain ⟨va, vc, hve⟩ := ownsRow_slice h.sec
  have HVE := Lib.hid hve
  have hbq : (a == 1) = false := by simpa using hA
  have HG := Lib.hid (show sendS M ap a s = if rngP M.hp.arrs s.ref s.at_ s.n ap = 36864 then (if 128 < ((toldP M a).length : Int) + s.n then 28425 else 36864) else rngP M.hp.arrs s.ref s.at_ s.n ap from rfl)
  have HM := Lib.hid (show sendM M ap a s = if sendS M ap a s = 36864 then (if a = 1 then M.withPub (M.pub ++ cutP M.hp.arrs s.ref s.at_ s.n) else M.withSec (M.sec ++ cutP M.hp.arrs s.ref s.at_ s.n)) else M from rfl)
  have HT : Hid (toldP M a = M.sec) := Lib.hid (by unfold toldP; rw [if_neg hA])
  have HB : Hid (∀ v, Upd (fun k => paint c w 9 k = 6) w1 v → v.cell? ⟨rb, 4, none⟩ = some sv ∧ v.cell? ⟨w.heap.size, 0, none⟩ = some (.int .i64 s.ref) ∧ v.cell? ⟨w.heap.size, 1, none⟩ = some (.int .i64 s.at_) ∧ v.cell? ⟨w.heap.size, 2, none⟩ = some (.int .i64 s.n)) :=
    Lib.hid (fun v hu => by
      obtain ⟨e0, e1, e2, -⟩ := three (hpBlk hu HX.out (by rw [paint_new c w 9 (Nat.le_refl _)]; omega))
      have hr := (h.aside HU1.out).box
      have hc := (h.aside HU1.out).cb
      have h5 := five (hpBlk hu hr (by rw [hc]; omega))
      exact ⟨h5.2.2.2.2.1, e0, e1, e2⟩)
  have HFR : Hid (∀ v, Upd (fun k => paint c w 9 k = 6) w1 v → v.frozen? ⟨rb, 4, none⟩ = false) :=
    Lib.hid (fun v hu => by
      have hr := (h.aside HU1.out).box
      have hc := (h.aside HU1.out).cb
      exact (five (hpBlk hu hr (by rw [hc]; omega))).2.2.2.2.2 4)
  rw [HT.out] at HG
  rw [hve] at HB
  clear hu1 hx1 hs1 hw1 hA h hve HT
  generalize hS : sendS M ap a s = S0 at *
  have HS0 := Lib.hid hS
  clear hS
  generalize sendM M ap a s = g at *
  rcases fine_or (rngP M.hp.arrs s.ref s.at_ s.n ap) with e | ⟨e1, e2⟩
  · obtain ⟨ref, at_, n⟩ := s
    simp only at e HG HM HR HX HB HW1 ha ⊢
    obtain ⟨i, a', k, hi, rfl, rfl, rfl, hak, -⟩ := rng_fine e
    have hdl := hep_dl HH.out.hp hi
    have hcut : cutP M.hp.arrs ((i : Int) + 1) a' k = ((M.hp.arrs.getD i default).data.drop a').take k := by unfold cutP; rw [show ((i : Int) + 1 - 1).toNat = i by omega]; rfl
    have HCT := Lib.hid hcut
    have HRD := Lib.hid (fun v (hu : Upd (fun _ => False) w v) => rRead (H.out.quiet hu) hi hak)
    obtain ⟨xs, hxs⟩ : ∃ xs, xs = ((M.hp.arrs.getD i default).data.drop a').take k := ⟨_, rfl⟩
    have hxl : xs.length = k := by rw [hxs, List.length_take, List.length_drop]; omega
    rw [← hxs] at HRD HCT
    clear hcut hxs
    have HXL := Lib.hid hxl
    rw [if_pos e] at HG
    rw [e] at HR
    have hwk : IntKind.i64.wrap ((M.sec.length : Int) + (k : Int)) = (M.sec.length : Int) + (k : Int) := IntWalk.i64_in _ (by omega)
    have hk64 : k ≤ 64 := by omega
    clear e ha hak hdl hxl
    by_cases hfull : 128 < (M.sec.length : Int) + (k : Int)
    · have hs0 : S0 = 28425 := by rw [HG.out, if_pos hfull]
      subst hs0
      have hg : g = M := by rw [HM.out, if_neg (by decide)]
      subst hg
      clear HG HM HRD
      go_enter Tryd.func49, Tryd.ntmps49
      go_wp2_with fail
      rw [← HW1.out]
      refine HR.out.mono ?_
      rintro e w2 ⟨rfl, hu⟩
      have HX2 := Lib.hid hu
      have HD : Hid (Upd (fun k => paint c w 9 k = 6) w1 w2.drew) := Lib.hid ((hu.trans (Upd.drew (fun _ => False) w2) (fun _ h _ => h)).mono (fun _ h _ => h.elim))
      obtain ⟨b0, b1, b2, b3⟩ := HB.out _ (hu.mono (T := fun k => paint c w 9 k = 6) (fun _ h _ => h.elim))
      clear hu
      go_wp2_with fail
      go_quiet (fail)
      go_wp2_with fail
      go_ret
      exact ⟨rfl, c, Ext.quietT _ c (HU1.out.trans (HX2.out.trans (hpDrewN (fun _ => False) w2 nq) (fun _ h _ => h)) (fun _ h _ => h)), H.out.quiet (HU1.out.trans (HX2.out.trans (hpDrewN (fun _ => False) w2 nq) (fun _ h _ => h)) (fun _ h _ => h))⟩
    · have hs0 : S0 = 36864 := by rw [HG.out, if_neg hfull]
      subst hs0
      have hg : g = M.withSec (M.sec ++ xs) := by rw [HM.out, if_pos rfl, if_neg HA.out, HCT.out]
      have HGG := Lib.hid hg
      clear HG HM hg HCT HA
      obtain ⟨i0, hi0, hz0, hz1, hz2⟩ := info_parts info5
      go_enter Tryd.func49, Tryd.ntmps49
      go_wp2_with fail
      rw [← HW1.out]
      refine HR.out.mono ?_
      rintro e w2 ⟨rfl, hu⟩
      have HX2 := Lib.hid hu
      have HD : Hid (Upd (fun k => paint c w 9 k = 6) w1 w2.drew) := Lib.hid ((hu.trans (Upd.drew (fun _ => False) w2) (fun _ h _ => h)).mono (fun _ h _ => h.elim))
      obtain ⟨b0, b1, b2, b3⟩ := HB.out _ (hu.mono (T := fun k => paint c w 9 k = 6) (fun _ h _ => h.elim))
      clear hu
      go_wp2_with fail
      go_quiet (fail)
      clear b0 b1 b2 b3
      go_upto_region 9 with fail
      have HZ : Hid (Upd (fun _ => False) w2 (w2.drewN nq).drew) := Lib.hid ((hpDrewN (fun _ => False) w2 nq).trans (Upd.drew _ _) (fun _ h _ => h))
      have HD : Hid (Upd (fun k => paint c w 9 k = 6) w1 (w2.drewN nq).drew) := Lib.hid ((HX2.out.trans HZ.out (fun _ h _ => h)).mono (fun _ h _ => h.elim))
      have HUD : Hid (Upd (fun _ => False) w (w2.drewN nq).drew) := Lib.hid (HU1.out.trans (HX2.out.trans HZ.out (fun _ h _ => h)) (fun _ h _ => h))
      have hHeld : (fun w' : World => w'.cell? ⟨rb, 4, none⟩ = some (.slice va M.sec.length vc) ∧ w'.cell? ⟨w.heap.size, 0, none⟩ = some (.int .i64 ((i : Int) + 1)) ∧ w'.cell? ⟨w.heap.size, 1, none⟩ = some (.int .i64 a') ∧ w'.cell? ⟨w.heap.size, 2, none⟩ = some (.int .i64 k)) (w2.drewN nq).drew := HB.out _ HD.out
      refine wp_region_last (S := fun w' => w'.cell? ⟨rb, 4, none⟩ = some (.slice va M.sec.length vc) ∧ w'.cell? ⟨w.heap.size, 0, none⟩ = some (.int .i64 ((i : Int) + 1)) ∧ w'.cell? ⟨w.heap.size, 1, none⟩ = some (.int .i64 a') ∧ w'.cell? ⟨w.heap.size, 2, none⟩ = some (.int .i64 k)) 9 _ (by kernel_rfl) (by kernel_rfl) rfl ?_
      change wpHL _ _ _ _ _ _ _ _ _ _ (w2.drewN nq).drew
      refine wpHL_take (i := 0) (v := ?_) rfl (by kernel_rfl) (fun _ _ _ h => h) hHeld (Or.inl ⟨by rfl, ?_⟩) ?_
      rotate_left
      · (intro w hSw; obtain ⟨y0, y1, y2, y3⟩ := hSw; go_simp; try with_reducible rfl)
      try simp only [Act.put, List.getElem_toArray, List.getElem_cons_succ, List.getElem_cons_zero, List.setIfInBounds_toArray, List.set_cons_zero, List.set_cons_succ]
      refine wpHL_take (i := 1) (v := ?_) rfl (by kernel_rfl) (fun _ _ _ h => h) hHeld (Or.inl ⟨by rfl, ?_⟩) ?_
      rotate_left
      · (intro w hSw; obtain ⟨y0, y1, y2, y3⟩ := hSw; go_simp; try with_reducible rfl)
      try simp only [Act.put, List.getElem_toArray, List.getElem_cons_succ, List.getElem_cons_zero, List.setIfInBounds_toArray, List.set_cons_zero, List.set_cons_succ]
      refine wpHL_take (i := 2) (v := ?_) rfl (by kernel_rfl) (fun _ _ _ h => h) hHeld (Or.inl ⟨by rfl, ?_⟩) ?_
      rotate_left
      · (intro w hSw; obtain ⟨y0, y1, y2, y3⟩ := hSw; go_simp; try with_reducible rfl)
      try simp only [Act.put, List.getElem_toArray, List.getElem_cons_succ, List.getElem_cons_zero, List.setIfInBounds_toArray, List.set_cons_zero, List.set_cons_succ]
      refine wpHL_take (i := 3) (v := ?_) rfl (by kernel_rfl) (fun _ _ _ h => h) hHeld (Or.inl ⟨by rfl, ?_⟩) ?_
      rotate_left
      · (intro w hSw; obtain ⟨y0, y1, y2, y3⟩ := hSw; go_simp; try with_reducible rfl)
      try simp only [Act.put, List.getElem_toArray, List.getElem_cons_succ, List.getElem_cons_zero, List.setIfInBounds_toArray, List.set_cons_zero, List.set_cons_succ]
      refine wpHL_take (i := 4) (v := ?_) rfl (by kernel_rfl) (fun _ _ _ h => h) hHeld (Or.inl ⟨by rfl, ?_⟩) ?_
      rotate_left
      · (intro w hSw; obtain ⟨y0, y1, y2, y3⟩ := hSw; go_simp; try with_reducible rfl)
      try simp only [Act.put, List.getElem_toArray, List.getElem_cons_succ, List.getElem_cons_zero, List.setIfInBounds_toArray, List.set_cons_zero, List.set_cons_succ]
      refine wpHL_take (i := 5) (v := ?_) rfl (by kernel_rfl) (fun _ _ _ h => h) hHeld (Or.inl ⟨by rfl, ?_⟩) ?_
      rotate_left
      · (intro w hSw; obtain ⟨y0, y1, y2, y3⟩ := hSw; go_simp; try with_reducible rfl)
      try simp only [Act.put, List.getElem_toArray, List.getElem_cons_succ, List.getElem_cons_zero, List.setIfInBounds_toArray, List.set_cons_zero, List.set_cons_succ]
      refine wpHL_step (i := 6) rfl (by kernel_rfl) (by decide) (fun K hK => ?_)
      have HKK := Lib.hid hK
      clear hK hHeld
      go_simp
      refine (HRD.out _ HUD.out).mono ?_
      rintro e w3 ⟨x3, rfl, hv, hu, hnb⟩
      obtain ⟨xa, xc, rfl, -, -⟩ := hv.slice
      have HUD3 := Lib.hid (HUD.out.trans hu (fun _ h _ => h))
      have HD3 : Hid (Upd (fun k => paint c w 9 k = 6) w1 w3) := Lib.hid (HD.out.trans (hu.mono (T := fun k => paint c w 9 k = 6) (fun _ h _ => h.elim)) (fun _ h _ => h))
      have H3 := Lib.hid (HH.out.aside HUD3.out)
      have HROW := Lib.hid H3.out.sec
      rw [HVE.out] at HROW
      have HSRC := Lib.hid hv.src
      have HBY := Lib.hid hv.1
      clear hv hu hnb
      go_simp
      have hHeld := HB.out _ HD3.out
      refine HKK.out _ _ hHeld ?_
      clear HKK hHeld
      try simp only [Act.put, List.getElem_toArray, List.getElem_cons_succ, List.getElem_cons_zero, List.setIfInBounds_toArray, List.set_cons_zero, List.set_cons_succ]
      refine wpHL_step (i := 7) rfl (by kernel_rfl) (by decide) (fun K hK => ?_)
      have HKK := Lib.hid hK
      clear hK
      have hx64 : xs.length ≤ 64 := by rw [HXL.out]; omega
      refine hpStep rfl (.tmp 40) (.tmp 43) 41 rfl 0 5 i0 (.int .u8 0) 1 1 Tryd.underlying41 hi0 hz0 hz1 hz2 rfl (by decide) (.slice va M.sec.length vc) M.sec.length (bv M.sec) rfl HROW.out xs.length (bv xs) HSRC.out (by unfold maxLen; omega) (by omega) (Nat.zero_le _) ?_
      intro v4 w4 ho hg hf
      obtain ⟨va4, vc4, rfl⟩ := ownsRow_slice ho
      have HTL := Lib.hid (RmAt.tellSec H3.out ho (by rw [HVE.out]; exact hg) (by rw [HVE.out]; exact hf) HBY.out (by rw [HXL.out]; omega))
      have hu4 : Upd (fun k => paint c w 9 k = 6) w3 w4 := (Upd.grown (S := fun k => (Value.slice va M.sec.length vc).ownBlock = some k) hg (fun k hk => .inl hk)).mono (fun k hk _ => H3.out.cs k (by rw [HVE.out]; exact hk))
      have HD4 := Lib.hid (HD3.out.trans hu4 (fun _ h _ => h))
      have f4 := HFR.out _ HD4.out
      have hHeld := HB.out _ HD4.out
      clear ho hg hf hu4
      refine HKK.out _ _ hHeld ?_
      clear HKK
      try simp only [Act.put, List.getElem_toArray, List.getElem_cons_succ, List.getElem_cons_zero, List.setIfInBounds_toArray, List.set_cons_zero, List.set_cons_succ]
      refine wpHL_take (i := 8) (v := ?_) rfl (by kernel_rfl) (fun _ _ _ h => h) hHeld (Or.inl ⟨by rfl, ?_⟩) ?_
      rotate_left
      · (intro w hSw; obtain ⟨y0, y1, y2, y3⟩ := hSw; go_simp; try with_reducible rfl)
      try simp only [Act.put, List.getElem_toArray, List.getElem_cons_succ, List.getElem_cons_zero, List.setIfInBounds_toArray, List.set_cons_zero, List.set_cons_succ]
      obtain ⟨b0, b1, b2, b3⟩ := hHeld
      refine wpHL_last (by kernel_rfl) ?_
      go_wp2_with fail
      go_ret
      rw [HGG.out]
      exact ⟨rfl, _, (Ext.made TQ 9 HUD3.out).trans HTL.out.1 (fun _ h => h), _, _, _, _, _, _, _, HTL.out.2⟩
  · have hs0 : S0 = rngP M.hp.arrs s.ref s.at_ s.n ap := by rw [HG.out, if_neg e2]
    have hg : g = M := by rw [HM.out, if_neg (by rw [hs0]; exact e2)]
    subst hg
    rw [← hs0] at HR e1
    clear HG HM e2 HX hs0 HS0
    go_enter Tryd.func49, Tryd.ntmps49
    go_wp2_with fail
    rw [← HW1.out]
    refine HR.out.mono ?_
    rintro e w2 ⟨rfl, hu⟩
    have HX2 := Lib.hid (HU1.out.trans hu (fun _ h _ => h))
    clear hu
    go_wp2_with fail
    go_ret
    exact ⟨rfl, c, Ext.quietT _ c HX2.out, H.out.quiet HX2.out⟩
end
end Go.Proofs.YtdmadfahgkikkaaDoor
/- Package room: Serve, op by op. -/
namespace Go.Proofs.YtdmadfahgkikkaaDoor
open Go.RowKit Go.Lib Go.ChangeShapes Go.WideShapes Go.Deep
set_option linter.unusedVariables false
set_option linter.unusedSimpArgs false

/-- what Serve may turn: the room, and the trace -/
def TR (i : Nat) : Prop := 1 ≤ i ∧ i ≤ 7
structure SvA where
  n : Int
  s : Int
  M : RmM
def Served (c : Nat → Nat) (w : World) (rb : Nat) (tv : Value) (r : SvA) (o' : Option (List EvM)) (e : Ending) (w' : World) : Prop :=
  e = .returned (.tuple #[.int .i32 r.n, .int .i64 r.s]) ∧ ∃ c', Ext TR c w c' w' ∧ Rm c' w' rb r.M ∧ TrO c' w' tv o'
theorem TR1 {i : Nat} (h : i = 1) : TR i := by subst h; simp [TR]
theorem TR7 {i : Nat} (h : i = 7) : TR i := by subst h; simp [TR]
theorem TRP {i : Nat} (h : TP i) : TR i := by rcases h with rfl | rfl <;> simp [TR]
theorem TRQ {i : Nat} (h : TQ i) : TR i := by rcases h with rfl | rfl <;> simp [TR]
theorem n17 {i : Nat} (h : RmC i) : ¬ T7 i := by intro e; have e : i = 7 := e; subst e; simp [RmC] at h
theorem T17 : ¬ T1 7 := by intro e; have e : 7 = 1 := e; omega
theorem TP7 : ¬ TP 7 := by simp [TP]
theorem TQ7 : ¬ TQ 7 := by simp [TQ]
theorem nR9 : ¬ TR 9 := by simp [TR]
/-- what is new since w belongs to nobody; the room, the trace, the args later -/
theorem aside3 {c : Nat → Nat} {w u : World} {rb : Nat} {M : RmM} {tv v : Value} {o : Option (List EvM)} {xs : List Int} (h : Rm c w rb M) (ht : TrO c w tv o) (hx : I32 w v xs) (hv : ∀ k, v.ownBlock = some k → ¬ TR (c k)) (hu : Upd (fun _ => False) w u) :
    Ext TR c w (paint c w 9) u ∧ Rm (paint c w 9) u rb M ∧ TrO (paint c w 9) u tv o ∧ I32 u v xs :=
  ⟨Ext.made TR 9 hu, h.ext (Ext.made None0 9 hu) (fun _ _ h => h), ht.ext (Ext.made None0 9 hu) (fun h => h), hx.upd hu (fun _ _ h => h)⟩
/-- cells of a new block, as long as the room and the trace alone turn -/
theorem keep9 {c : Nat → Nat} {w u v : World} {g : Nat} {ob : Obj} (hg : w.heap.size ≤ g) (h : u.heap[g]? = some ob) (hu : Upd (fun k => TR (paint c w 9 k)) u v) : v.heap[g]? = some ob :=
  hpBlk hu h (by rw [paint_new c w 9 hg]; exact nR9)
theorem I32.keep {c : Nat → Nat} {w u u' : World} {v : Value} {xs : List Int} (h0 : I32 w v xs) (hv : ∀ k, v.ownBlock = some k → ¬ TR (c k)) (h : I32 u v xs) (hu : Upd (fun k => TR (paint c w 9 k)) u u') : I32 u' v xs := by
  cases xs with
  | nil =>
    obtain ⟨h1, a, cc, e, h2, h3, -⟩ := h
    exact ⟨h1, a, cc, e, h2, h3, .inl rfl⟩
  | cons x xs =>
    refine h.upd hu (fun k hk => ?_)
    obtain ⟨-, a, cc, rfl, -, -, -⟩ := id h0
    obtain ⟨g, off, rfl, -, hc⟩ := h0.at (k := 0) (by simp)
    have hk' := hk
    simp [Value.ownBlock] at hk
    subst hk
    rw [paint_old c w 9 (World.block_lt_of_cell? w _ hc)]
    exact hv _ hk'
section
variable {c : Nat → Nat} {w : World} {rb : Nat} {M : RmM} {tv : Value} {o : Option (List EvM)}
set_option maxRecDepth 100000 in
set_option maxHeartbeats 4000000 in
theorem sv27 (h : Rm c w rb M) (ht : TrO c w tv o) (ap a b : Int) (v : Value) (x0 : Int) (hx : I32 w v [x0]) (hv : ∀ k, v.ownBlock = some k → ¬ TR (c k)) (hb : 0 ≤ b ∧ b ≤ 7) :
    Calls Tryd.prog 14 #[.pointer (some ⟨rb, 0, none⟩), tv, .int .i64 ap, .int .i64 27, .int .i64 a, .int .i64 b, v] w fun e w' => Served c w rb tv ⟨newN M a b x0, newS M a b x0, newM M ap a b x0⟩ (addO o ⟨3, a, b, x0⟩) e w' := by
  have HN : Hid (Calls Tryd.prog 37 #[v] w fun e w' => e = .returned (.agg #[.int .i64 x0, .int .i64 0, .int .i64 0, .int .i64 0, .int .i64 0]) ∧ Upd (fun _ => False) w w') := Lib.hid (rNumbers w v [x0] hx (by simp))
  have HX := Lib.hid hx
  have HV := Lib.hid hv
  have H := Lib.hid h
  have HT := Lib.hid ht
  have hrg := hx.1
  obtain ⟨p, rfl⟩ := ht.ptr
  obtain ⟨va, vc, rfl, -, -⟩ : ∃ va vc, v = .slice va 1 vc ∧ 1 ≤ vc ∧ vc ≤ maxLen := by
    obtain ⟨-, a, c, e, h1, h2, -⟩ := hx
    exact ⟨a, c, e, h1, h2⟩
  clear h ht hx hv
  go_enter Tryd.func14, Tryd.ntmps14
  go_wp2_with fail
  refine (rServes 27 w).mono ?_
  rintro e w' ⟨rfl, rfl⟩
  rw [show servesP 27 = 1 from rfl]
  go_wp2_with fail
  refine HN.out.mono ?_
  rintro e w2 ⟨rfl, hu⟩
  have HU2 := Lib.hid hu
  clear hu HN
  obtain ⟨wt, hwt⟩ : ∃ wt, wt = w2.alloc (.cells #[.int .i64 x0, .int .i64 0, .int .i64 0, .int .i64 0, .int .i64 0] 102) := ⟨_, rfl⟩
  have hut : Upd (fun _ => False) w wt := by rw [hwt]; exact HU2.out.trans (Upd.alloc _ _ _) (fun _ h _ => h)
  have hqt : wt.heap[w2.heap.size]? = some (.cells #[.int .i64 x0, .int .i64 0, .int .i64 0, .int .i64 0, .int .i64 0] 102 (0, 0)) := by rw [hwt]; exact hpTop _ _ _ rfl
  have HB : Hid (∀ u, Upd (fun k => TR (paint c w 9 k)) wt u → u.cell? ⟨w2.heap.size, 0, none⟩ = some (.int .i64 x0)) := Lib.hid (fun u hu => (five (keep9 HU2.out.size hqt hu)).1)
  have HA := Lib.hid (aside3 H.out HT.out HX.out HV.out hut)
  have HWT := Lib.hid hwt
  clear hwt hut hqt hrg
  go_wp2_with fail
  rw [← HWT.out]
  refine (rShow HA.out.2.2.1 3 a b x0).mono ?_
  rintro e w3 ⟨rfl, c3, hx3, ht3⟩
  have b0 := HB.out _ (hx3.upd.mono (fun k hk _ => TR7 hk))
  have HX3 := Lib.hid hx3
  have HT3 := Lib.hid ht3
  clear hx3 ht3
  go_wp2_with fail
  refine (rAlloc (HA.out.2.1.ext HX3.out (fun _ h => n17 h)) ap a b x0 hb).mono ?_
  rintro e w4 ⟨rfl, c4, hx4, hr4⟩
  have HX4 := Lib.hid hx4
  have HR4 := Lib.hid hr4
  clear hx4 hr4
  go_wp2_with fail
  refine bodyPost_ret (v := .tuple #[.int .i32 (newN M a b x0), .int .i64 (newS M a b x0)]) (by simp only [results, Tryd.f14]; simp [go_sem]) rfl ?_
  exact ⟨rfl, c4, (HA.out.1.trans HX3.out (fun _ h => TR7 h)).trans HX4.out (fun _ h => TR1 h), HR4.out, HT3.out.ext HX4.out T17⟩
set_option maxRecDepth 100000 in
set_option maxHeartbeats 4000000 in
theorem sv28 (h : Rm c w rb M) (ht : TrO c w tv o) (ap a b : Int) (v : Value) (x0 : Int) (hx : I32 w v [x0]) (hv : ∀ k, v.ownBlock = some k → ¬ TR (c k)) :
    Calls Tryd.prog 14 #[.pointer (some ⟨rb, 0, none⟩), tv, .int .i64 ap, .int .i64 28, .int .i64 a, .int .i64 b, v] w fun e w' => Served c w rb tv ⟨longP M.hp.arrs x0 ap, chkP M.hp.arrs x0 ap, M⟩ (tchs o [⟨x0, 0, 0⟩]) e w' := by
  have HN : Hid (Calls Tryd.prog 37 #[v] w fun e w' => e = .returned (.agg #[.int .i64 x0, .int .i64 0, .int .i64 0, .int .i64 0, .int .i64 0]) ∧ Upd (fun _ => False) w w') := Lib.hid (rNumbers w v [x0] hx (by simp))
  have HX := Lib.hid hx
  have HV := Lib.hid hv
  have H := Lib.hid h
  have HT := Lib.hid ht
  have hrg := hx.1
  obtain ⟨p, rfl⟩ := ht.ptr
  obtain ⟨va, vc, rfl, -, -⟩ : ∃ va vc, v = .slice va 1 vc ∧ 1 ≤ vc ∧ vc ≤ maxLen := by
    obtain ⟨-, a, c, e, h1, h2, -⟩ := hx
    exact ⟨a, c, e, h1, h2⟩
  clear h ht hx hv
  go_enter Tryd.func14, Tryd.ntmps14
  go_wp2_with fail
  refine (rServes 28 w).mono ?_
  rintro e w' ⟨rfl, rfl⟩
  rw [show servesP 28 = 1 from rfl]
  go_wp2_with fail
  refine HN.out.mono ?_
  rintro e w2 ⟨rfl, hu⟩
  have HU2 := Lib.hid hu
  clear hu HN
  obtain ⟨wt, hwt⟩ : ∃ wt, wt = (w2.alloc (.cells #[.int .i64 x0, .int .i64 0, .int .i64 0, .int .i64 0, .int .i64 0] 102)).alloc (.cells #[.int .i64 x0, .int .i64 0, .int .i64 0] 110) := ⟨_, rfl⟩
  have hut : Upd (fun _ => False) w wt := by rw [hwt]; exact HU2.out.trans ((Upd.alloc _ _ _).trans (Upd.alloc _ _ _) (fun _ h _ => h)) (fun _ h _ => h)
  have hqt : wt.heap[w2.heap.size]? = some (.cells #[.int .i64 x0, .int .i64 0, .int .i64 0, .int .i64 0, .int .i64 0] 102 (0, 0)) := by rw [hwt]; exact hpBlk (S := fun _ => False) (Upd.alloc _ _ _) (hpTop w2 _ _ rfl) (fun h => h)
  have HSP : Hid (Sps wt (.slice (some ⟨w2.heap.size + 1, 0, none⟩) 1 1) [⟨x0, 0, 0⟩]) := Lib.hid (by rw [hwt]; exact sps1 (s := ⟨x0, 0, 0⟩) (t := 110) (hpTop _ _ _ (by simp)))
  have HB : Hid (∀ u, Upd (fun k => TR (paint c w 9 k)) wt u → u.cell? ⟨w2.heap.size, 0, none⟩ = some (.int .i64 x0)) := Lib.hid (fun u hu => (five (keep9 HU2.out.size hqt hu)).1)
  have HA := Lib.hid (aside3 H.out HT.out HX.out HV.out hut)
  have HWT := Lib.hid hwt
  have hs2 := HU2.out.size
  clear hwt hut hqt hrg
  go_wp2_with fail
  rw [← HWT.out]
  refine (rTouch HA.out.2.2.1 _ _ HSP.out (fun k hk => by simp [Value.ownBlock] at hk; rw [← hk, paint_new c w 9 (by omega)]; omega) (by simp)).mono ?_
  rintro e w3 ⟨rfl, c3, hx3, ht3⟩
  have b0 := HB.out _ (hx3.upd.mono (fun k hk _ => TR7 hk))
  have HX3 := Lib.hid hx3
  have HT3 := Lib.hid ht3
  clear hx3 ht3 hs2
  go_wp2_with fail
  refine (rLength (HA.out.2.1.ext HX3.out (fun _ h => n17 h)) ap x0).mono ?_
  rintro e w4 ⟨rfl, hu4⟩
  have HX4 := Lib.hid (Ext.quietT None0 c3 hu4)
  clear hu4
  go_wp2_with fail
  refine bodyPost_ret (v := .tuple #[.int .i32 (longP M.hp.arrs x0 ap), .int .i64 (chkP M.hp.arrs x0 ap)]) (by simp only [results, Tryd.f14]; simp [go_sem]) rfl ?_
  exact ⟨rfl, c3, (HA.out.1.trans HX3.out (fun _ h => TR7 h)).trans HX4.out (fun _ h => h.elim), ((HA.out.2.1.ext HX3.out (fun _ h => n17 h)).ext HX4.out (fun _ _ h => h)), HT3.out.ext HX4.out (fun h => h)⟩
end
end Go.Proofs.YtdmadfahgkikkaaDoor
/- Package room: Serve, op by op: Get, Put. -/
namespace Go.Proofs.YtdmadfahgkikkaaDoor
open Go.RowKit Go.Lib Go.ChangeShapes Go.WideShapes Go.Deep
set_option linter.unusedVariables false
set_option linter.unusedSimpArgs false

section
variable {c : Nat → Nat} {w : World} {rb : Nat} {M : RmM} {tv : Value} {o : Option (List EvM)}
set_option maxRecDepth 100000 in
set_option maxHeartbeats 4000000 in
theorem sv29 (h : Rm c w rb M) (ht : TrO c w tv o) (ap a b : Int) (v : Value) (x0 x1 : Int) (hx : I32 w v [x0, x1]) (hv : ∀ k, v.ownBlock = some k → ¬ TR (c k)) :
    Calls Tryd.prog 14 #[.pointer (some ⟨rb, 0, none⟩), tv, .int .i64 ap, .int .i64 29, .int .i64 a, .int .i64 b, v] w fun e w' => Served c w rb tv ⟨getP M.hp.arrs x0 x1 ap, rngP M.hp.arrs x0 x1 1 ap, M⟩ (tchs o [⟨x0, x1, 1⟩]) e w' := by
  have HN : Hid (Calls Tryd.prog 37 #[v] w fun e w' => e = .returned (.agg #[.int .i64 x0, .int .i64 x1, .int .i64 0, .int .i64 0, .int .i64 0]) ∧ Upd (fun _ => False) w w') := Lib.hid (rNumbers w v [x0, x1] hx (by simp))
  have HX := Lib.hid hx
  have HV := Lib.hid hv
  have H := Lib.hid h
  have HT := Lib.hid ht
  have hrg := hx.1
  obtain ⟨p, rfl⟩ := ht.ptr
  obtain ⟨va, vc, rfl, -, -⟩ : ∃ va vc, v = .slice va 2 vc ∧ 2 ≤ vc ∧ vc ≤ maxLen := by
    obtain ⟨-, a, c, e, h1, h2, -⟩ := hx
    exact ⟨a, c, e, h1, h2⟩
  clear h ht hx hv
  go_enter Tryd.func14, Tryd.ntmps14
  go_wp2_with fail
  refine (rServes 29 w).mono ?_
  rintro e w' ⟨rfl, rfl⟩
  rw [show servesP 29 = 2 from rfl]
  go_wp2_with fail
  refine HN.out.mono ?_
  rintro e w2 ⟨rfl, hu⟩
  have HU2 := Lib.hid hu
  clear hu HN
  obtain ⟨wt, hwt⟩ : ∃ wt, wt = ((w2.alloc (.cells #[.int .i64 x0, .int .i64 x1, .int .i64 0, .int .i64 0, .int .i64 0] 102)).alloc (.cells #[.int .i64 x0, .int .i64 x1, .int .i64 1] 110)).alloc (.cells #[.int .i64 x0, .int .i64 x1, .int .i64 1] 110) := ⟨_, rfl⟩
  have hut : Upd (fun _ => False) w wt := by rw [hwt]; exact HU2.out.trans (((Upd.alloc _ _ _).trans (Upd.alloc _ _ _) (fun _ h _ => h)).trans (Upd.alloc _ _ _) (fun _ h _ => h)) (fun _ h _ => h)
  have hqt : wt.heap[w2.heap.size + 1]? = some (.cells #[.int .i64 x0, .int .i64 x1, .int .i64 1] 110 (0, 0)) := by rw [hwt]; exact hpBlk (S := fun _ => False) (Upd.alloc _ _ _) (hpTop _ _ _ (by simp)) (fun h => h)
  have HSP : Hid (Sps wt (.slice (some ⟨w2.heap.size + 2, 0, none⟩) 1 1) [⟨x0, x1, 1⟩]) := Lib.hid (by rw [hwt]; exact sps1 (s := ⟨x0, x1, 1⟩) (t := 110) (hpTop _ _ _ (by simp)))
  have hs2 := HU2.out.size
  have HB : Hid (∀ u, Upd (fun k => TR (paint c w 9 k)) wt u → u.cell? ⟨w2.heap.size + 1, 0, none⟩ = some (.int .i64 x0) ∧ u.cell? ⟨w2.heap.size + 1, 1, none⟩ = some (.int .i64 x1) ∧ u.cell? ⟨w2.heap.size + 1, 2, none⟩ = some (.int .i64 1)) := Lib.hid (fun u hu => by
    obtain ⟨e0, e1, e2, -⟩ := three (keep9 (by omega) hqt hu)
    exact ⟨e0, e1, e2⟩)
  have HA := Lib.hid (aside3 H.out HT.out HX.out HV.out hut)
  have HWT := Lib.hid hwt
  have hrg1 : -2147483648 ≤ x1 ∧ x1 ≤ 2147483647 := hrg x1 (by simp)
  clear hwt hut hqt hrg
  go_wp2_with fail
  rw [← HWT.out]
  refine (rTouch HA.out.2.2.1 _ _ HSP.out (fun k hk => by simp [Value.ownBlock] at hk; rw [← hk, paint_new c w 9 (by omega)]; omega) (by simp)).mono ?_
  rintro e w3 ⟨rfl, c3, hx3, ht3⟩
  obtain ⟨b0, b1, b2⟩ := HB.out _ (hx3.upd.mono (fun k hk _ => TR7 hk))
  have HX3 := Lib.hid hx3
  have HT3 := Lib.hid ht3
  clear hs2
  clear hx3 ht3
  go_wp2_with fail
  refine (rGet (HA.out.2.1.ext HX3.out (fun _ h => n17 h)) ap x0 x1 (by have := hrg1.2; omega)).mono ?_
  rintro e w4 ⟨rfl, hu4⟩
  have HX4 := Lib.hid (Ext.quietT None0 c3 hu4)
  clear hu4
  go_wp2_with fail
  refine bodyPost_ret (v := .tuple #[.int .i32 (getP M.hp.arrs x0 x1 ap), .int .i64 (rngP M.hp.arrs x0 x1 1 ap)]) (by simp only [results, Tryd.f14]; simp [go_sem]) rfl ?_
  exact ⟨rfl, c3, (HA.out.1.trans HX3.out (fun _ h => TR7 h)).trans HX4.out (fun _ h => h.elim), ((HA.out.2.1.ext HX3.out (fun _ h => n17 h)).ext HX4.out (fun _ _ h => h)), HT3.out.ext HX4.out (fun h => h)⟩
set_option maxRecDepth 100000 in
set_option maxHeartbeats 4000000 in
theorem sv30 (h : Rm c w rb M) (ht : TrO c w tv o) (ap a b : Int) (v : Value) (x0 x1 x2 : Int) (hx : I32 w v [x0, x1, x2]) (hv : ∀ k, v.ownBlock = some k → ¬ TR (c k)) :
    Calls Tryd.prog 14 #[.pointer (some ⟨rb, 0, none⟩), tv, .int .i64 ap, .int .i64 30, .int .i64 a, .int .i64 b, v] w fun e w' => Served c w rb tv ⟨0, rngP M.hp.arrs x0 x1 1 ap, putM M ap x0 x1 (x2 % 256)⟩ (tchs o [⟨x0, x1, 1⟩]) e w' := by
  have HN : Hid (Calls Tryd.prog 37 #[v] w fun e w' => e = .returned (.agg #[.int .i64 x0, .int .i64 x1, .int .i64 x2, .int .i64 0, .int .i64 0]) ∧ Upd (fun _ => False) w w') := Lib.hid (rNumbers w v [x0, x1, x2] hx (by simp))
  have HX := Lib.hid hx
  have HV := Lib.hid hv
  have H := Lib.hid h
  have HT := Lib.hid ht
  have hrg := hx.1
  obtain ⟨p, rfl⟩ := ht.ptr
  obtain ⟨va, vc, rfl, -, -⟩ : ∃ va vc, v = .slice va 3 vc ∧ 3 ≤ vc ∧ vc ≤ maxLen := by
    obtain ⟨-, a, c, e, h1, h2, -⟩ := hx
    exact ⟨a, c, e, h1, h2⟩
  clear h ht hx hv
  go_enter Tryd.func14, Tryd.ntmps14
  go_wp2_with fail
  refine (rServes 30 w).mono ?_
  rintro e w' ⟨rfl, rfl⟩
  rw [show servesP 30 = 3 from rfl]
  go_wp2_with fail
  refine HN.out.mono ?_
  rintro e w2 ⟨rfl, hu⟩
  have HU2 := Lib.hid hu
  clear hu HN
  obtain ⟨wt, hwt⟩ : ∃ wt, wt = ((w2.alloc (.cells #[.int .i64 x0, .int .i64 x1, .int .i64 x2, .int .i64 0, .int .i64 0] 102)).alloc (.cells #[.int .i64 x0, .int .i64 x1, .int .i64 1] 110)).alloc (.cells #[.int .i64 x0, .int .i64 x1, .int .i64 1] 110) := ⟨_, rfl⟩
  have hut : Upd (fun _ => False) w wt := by rw [hwt]; exact HU2.out.trans (((Upd.alloc _ _ _).trans (Upd.alloc _ _ _) (fun _ h _ => h)).trans (Upd.alloc _ _ _) (fun _ h _ => h)) (fun _ h _ => h)
  have hqt : wt.heap[w2.heap.size + 1]? = some (.cells #[.int .i64 x0, .int .i64 x1, .int .i64 1] 110 (0, 0)) := by rw [hwt]; exact hpBlk (S := fun _ => False) (Upd.alloc _ _ _) (hpTop _ _ _ (by simp)) (fun h => h)
  have HSP : Hid (Sps wt (.slice (some ⟨w2.heap.size + 2, 0, none⟩) 1 1) [⟨x0, x1, 1⟩]) := Lib.hid (by rw [hwt]; exact sps1 (s := ⟨x0, x1, 1⟩) (t := 110) (hpTop _ _ _ (by simp)))
  have hs2 := HU2.out.size
  have HB : Hid (∀ u, Upd (fun k => TR (paint c w 9 k)) wt u → u.cell? ⟨w2.heap.size + 1, 0, none⟩ = some (.int .i64 x0) ∧ u.cell? ⟨w2.heap.size + 1, 1, none⟩ = some (.int .i64 x1) ∧ u.cell? ⟨w2.heap.size + 1, 2, none⟩ = some (.int .i64 1)) := Lib.hid (fun u hu => by
    obtain ⟨e0, e1, e2, -⟩ := three (keep9 (by omega) hqt hu)
    exact ⟨e0, e1, e2⟩)
  have HA := Lib.hid (aside3 H.out HT.out HX.out HV.out hut)
  have HWT := Lib.hid hwt
  have hrg1 : -2147483648 ≤ x1 ∧ x1 ≤ 2147483647 := hrg x1 (by simp)
  clear hwt hut hqt hrg
  go_wp2_with fail
  rw [← HWT.out]
  refine (rTouch HA.out.2.2.1 _ _ HSP.out (fun k hk => by simp [Value.ownBlock] at hk; rw [← hk, paint_new c w 9 (by omega)]; omega) (by simp)).mono ?_
  rintro e w3 ⟨rfl, c3, hx3, ht3⟩
  obtain ⟨b0, b1, b2⟩ := HB.out _ (hx3.upd.mono (fun k hk _ => TR7 hk))
  have HX3 := Lib.hid hx3
  have HT3 := Lib.hid ht3
  clear hs2
  obtain ⟨ag, aoff, hae, -, hac⟩ := (I32.keep HX.out HV.out HA.out.2.2.2 (hx3.upd.mono (fun k hk _ => TR7 hk))).at (k := 2) (by simp)
  simp only [List.getD_cons_succ, List.getD_cons_zero] at hac
  subst hae
  have hw8 : IntKind.u8.wrap x2 = x2 % 256 := IntKind.wrap_u8 x2
  have HU33 : Hid (Upd (fun k => TR (paint c w 9 k)) wt w3.drew) := Lib.hid ((hx3.upd.mono (fun k hk _ => TR7 hk)).trans (Upd.drew (fun k => TR (paint c w 9 k)) w3) (fun _ h _ => h))
  have HAG : Hid (∀ u, Upd (fun k => TR (paint c w 9 k)) wt u → u.cell? ⟨ag, aoff + 2, none⟩ = some (.int .i32 x2)) := Lib.hid (fun u hu => by
    obtain ⟨g, off, he, -, hc⟩ := (I32.keep HX.out HV.out HA.out.2.2.2 hu).at (k := 2) (by simp)
    simp at he
    obtain ⟨rfl, rfl⟩ := he
    simpa using hc)
  have HP1 := Lib.hid (rPut1 ((HA.out.2.1.ext hx3 (fun _ h => n17 h)).quiet (Upd.drew (fun _ => False) w3)) ap x0 x1 (x2 % 256) (by have := hrg1.2; omega) (by omega))
  clear hx3 ht3 hac
  go_wp2_with fail
  go_region_held3 (fun w' => (w'.cell? ⟨w2.heap.size + 1, 0, none⟩ = some (.int .i64 x0) ∧ w'.cell? ⟨w2.heap.size + 1, 1, none⟩ = some (.int .i64 x1) ∧ w'.cell? ⟨w2.heap.size + 1, 2, none⟩ = some (.int .i64 1)) ∧ w'.cell? ⟨ag, aoff + 2, none⟩ = some (.int .i32 x2)) (first
    | with_reducible exact ⟨HB.out _ HU33.out, HAG.out _ HU33.out⟩
    | with_reducible exact ⟨HB.out _ HU44.out, HAG.out _ HU44.out⟩) (first
    | (go_at_call 46; (with_reducible refine (HP1.out).mono ?_); rintro e w4 ⟨rfl, c4, hx4, hr4⟩; have HX4 := Lib.hid ((Ext.quietT T1 c3 (Upd.drew (fun _ => False) w3)).trans hx4 (fun _ h => h)); have HR4 := Lib.hid hr4; have HU44 : Hid (Upd (fun k => TR (paint c w 9 k)) wt w4) := Lib.hid (HU33.out.trans hx4.upd (fun k hk hl => by rw [HX3.out.same k hl] at hk; exact TR1 hk)); clear hx4 hr4))
  go_wp2_with fail
  refine bodyPost_ret (v := .tuple #[.int .i32 (0), .int .i64 (rngP M.hp.arrs x0 x1 1 ap)]) (by simp only [results, Tryd.f14]; simp [go_sem]) rfl ?_
  exact ⟨rfl, c4, (HA.out.1.trans HX3.out (fun _ h => TR7 h)).trans HX4.out (fun _ h => TR1 h), HR4.out, HT3.out.ext HX4.out T17⟩
end
end Go.Proofs.YtdmadfahgkikkaaDoor
/- Package room: Serve, op by op: Send. -/
namespace Go.Proofs.YtdmadfahgkikkaaDoor
open Go.RowKit Go.Lib Go.ChangeShapes Go.WideShapes Go.Deep
set_option linter.unusedVariables false
set_option linter.unusedSimpArgs false

section
variable {c : Nat → Nat} {w : World} {rb : Nat} {M : RmM} {tv : Value} {o : Option (List EvM)}
set_option maxRecDepth 100000 in
set_option maxHeartbeats 4000000 in
theorem sv36p (h : Rm c w rb M) (ht : TrO c w tv o) (ap a b : Int) (v : Value) (x0 x1 x2 : Int) (hx : I32 w v [x0, x1, x2]) (hv : ∀ k, v.ownBlock = some k → ¬ TR (c k)) (hcond : a = 1) :
    Calls Tryd.prog 14 #[.pointer (some ⟨rb, 0, none⟩), tv, .int .i64 ap, .int .i64 36, .int .i64 a, .int .i64 b, v] w fun e w' => Served c w rb tv ⟨0, sendS M ap a ⟨x0, x1, x2⟩, sendM M ap a ⟨x0, x1, x2⟩⟩ (tchs o [⟨x0, x1, x2⟩]) e w' := by
  have HN : Hid (Calls Tryd.prog 37 #[v] w fun e w' => e = .returned (.agg #[.int .i64 x0, .int .i64 x1, .int .i64 x2, .int .i64 0, .int .i64 0]) ∧ Upd (fun _ => False) w w') := Lib.hid (rNumbers w v [x0, x1, x2] hx (by simp))
  have HX := Lib.hid hx
  have HV := Lib.hid hv
  have H := Lib.hid h
  have HT := Lib.hid ht
  have hrg := hx.1
  obtain ⟨p, rfl⟩ := ht.ptr
  obtain ⟨va, vc, rfl, -, -⟩ : ∃ va vc, v = .slice va 3 vc ∧ 3 ≤ vc ∧ vc ≤ maxLen := by
    obtain ⟨-, a, c, e, h1, h2, -⟩ := hx
    exact ⟨a, c, e, h1, h2⟩
  clear h ht hx hv
  have HC := Lib.hid hcond
  clear hcond
  go_enter Tryd.func14, Tryd.ntmps14
  go_wp2_with fail
  refine (rServes 36 w).mono ?_
  rintro e w' ⟨rfl, rfl⟩
  rw [show servesP 36 = 3 from rfl]
  go_wp2_with fail
  refine HN.out.mono ?_
  rintro e w2 ⟨rfl, hu⟩
  have HU2 := Lib.hid hu
  clear hu HN
  obtain ⟨wt, hwt⟩ : ∃ wt, wt = ((w2.alloc (.cells #[.int .i64 x0, .int .i64 x1, .int .i64 x2, .int .i64 0, .int .i64 0] 102)).alloc (.cells #[.int .i64 x0, .int .i64 x1, .int .i64 x2] 110)).alloc (.cells #[.int .i64 x0, .int .i64 x1, .int .i64 x2] 110) := ⟨_, rfl⟩
  have hut : Upd (fun _ => False) w wt := by rw [hwt]; exact HU2.out.trans (((Upd.alloc _ _ _).trans (Upd.alloc _ _ _) (fun _ h _ => h)).trans (Upd.alloc _ _ _) (fun _ h _ => h)) (fun _ h _ => h)
  have hqt : wt.heap[w2.heap.size + 1]? = some (.cells #[.int .i64 x0, .int .i64 x1, .int .i64 x2] 110 (0, 0)) := by rw [hwt]; exact hpBlk (S := fun _ => False) (Upd.alloc _ _ _) (hpTop _ _ _ (by simp)) (fun h => h)
  have HSP : Hid (Sps wt (.slice (some ⟨w2.heap.size + 2, 0, none⟩) 1 1) [⟨x0, x1, x2⟩]) := Lib.hid (by rw [hwt]; exact sps1 (s := ⟨x0, x1, x2⟩) (t := 110) (hpTop _ _ _ (by simp)))
  have hs2 := HU2.out.size
  have HB : Hid (∀ u, Upd (fun k => TR (paint c w 9 k)) wt u → u.cell? ⟨w2.heap.size + 1, 0, none⟩ = some (.int .i64 x0) ∧ u.cell? ⟨w2.heap.size + 1, 1, none⟩ = some (.int .i64 x1) ∧ u.cell? ⟨w2.heap.size + 1, 2, none⟩ = some (.int .i64 x2)) := Lib.hid (fun u hu => by
    obtain ⟨e0, e1, e2, -⟩ := three (keep9 (by omega) hqt hu)
    exact ⟨e0, e1, e2⟩)
  have HA := Lib.hid (aside3 H.out HT.out HX.out HV.out hut)
  have HWT := Lib.hid hwt
  have hrg1 : -2147483648 ≤ x1 ∧ x1 ≤ 2147483647 := hrg x1 (by simp)
  clear hwt hut hqt hrg
  go_wp2_with fail
  rw [← HWT.out]
  refine (rTouch HA.out.2.2.1 _ _ HSP.out (fun k hk => by simp [Value.ownBlock] at hk; rw [← hk, paint_new c w 9 (by omega)]; omega) (by simp)).mono ?_
  rintro e w3 ⟨rfl, c3, hx3, ht3⟩
  obtain ⟨b0, b1, b2⟩ := HB.out _ (hx3.upd.mono (fun k hk _ => TR7 hk))
  have HX3 := Lib.hid hx3
  have HT3 := Lib.hid ht3
  clear hs2
  have HSND : Hid (Calls Tryd.prog 49 #[.pointer (some ⟨rb, 0, none⟩), .int .i64 ap, .int .i64 a, .agg #[.int .i64 x0, .int .i64 x1, .int .i64 x2]] w3 fun e w' => e = .returned (.int .i64 (sendS M ap a ⟨x0, x1, x2⟩)) ∧ ∃ c', Ext TP c3 w3 c' w' ∧ Rm c' w' rb (sendM M ap a ⟨x0, x1, x2⟩)) :=
    Lib.hid (rSendP (HA.out.2.1.ext hx3 (fun _ h => n17 h)) ap a ⟨x0, x1, x2⟩ (show x1 ≤ 9223372036854775807 by have := hrg1.2; omega) HC.out)
  clear hx3 ht3
  go_wp2_with fail
  refine HSND.out.mono ?_
  rintro e w4 ⟨rfl, c4, hx4, hr4⟩
  have HX4 := Lib.hid hx4
  have HR4 := Lib.hid hr4
  clear hx4 hr4
  go_wp2_with fail
  refine bodyPost_ret (v := .tuple #[.int .i32 (0), .int .i64 (sendS M ap a ⟨x0, x1, x2⟩)]) (by simp only [results, Tryd.f14]; simp [go_sem]) rfl ?_
  exact ⟨rfl, c4, (HA.out.1.trans HX3.out (fun _ h => TR7 h)).trans HX4.out (fun _ h => TRP h), HR4.out, HT3.out.ext HX4.out TP7⟩
set_option maxRecDepth 100000 in
set_option maxHeartbeats 4000000 in
theorem sv36q (h : Rm c w rb M) (ht : TrO c w tv o) (ap a b : Int) (v : Value) (x0 x1 x2 : Int) (hx : I32 w v [x0, x1, x2]) (hv : ∀ k, v.ownBlock = some k → ¬ TR (c k)) (hcond : ¬ a = 1) :
    Calls Tryd.prog 14 #[.pointer (some ⟨rb, 0, none⟩), tv, .int .i64 ap, .int .i64 36, .int .i64 a, .int .i64 b, v] w fun e w' => Served c w rb tv ⟨0, sendS M ap a ⟨x0, x1, x2⟩, sendM M ap a ⟨x0, x1, x2⟩⟩ (tchs o [⟨x0, x1, x2⟩]) e w' := by
  have HN : Hid (Calls Tryd.prog 37 #[v] w fun e w' => e = .returned (.agg #[.int .i64 x0, .int .i64 x1, .int .i64 x2, .int .i64 0, .int .i64 0]) ∧ Upd (fun _ => False) w w') := Lib.hid (rNumbers w v [x0, x1, x2] hx (by simp))
  have HX := Lib.hid hx
  have HV := Lib.hid hv
  have H := Lib.hid h
  have HT := Lib.hid ht
  have hrg := hx.1
  obtain ⟨p, rfl⟩ := ht.ptr
  obtain ⟨va, vc, rfl, -, -⟩ : ∃ va vc, v = .slice va 3 vc ∧ 3 ≤ vc ∧ vc ≤ maxLen := by
    obtain ⟨-, a, c, e, h1, h2, -⟩ := hx
    exact ⟨a, c, e, h1, h2⟩
  clear h ht hx hv
  have HC := Lib.hid hcond
  clear hcond
  go_enter Tryd.func14, Tryd.ntmps14
  go_wp2_with fail
  refine (rServes 36 w).mono ?_
  rintro e w' ⟨rfl, rfl⟩
  rw [show servesP 36 = 3 from rfl]
  go_wp2_with fail
  refine HN.out.mono ?_
  rintro e w2 ⟨rfl, hu⟩
  have HU2 := Lib.hid hu
  clear hu HN
  obtain ⟨wt, hwt⟩ : ∃ wt, wt = ((w2.alloc (.cells #[.int .i64 x0, .int .i64 x1, .int .i64 x2, .int .i64 0, .int .i64 0] 102)).alloc (.cells #[.int .i64 x0, .int .i64 x1, .int .i64 x2] 110)).alloc (.cells #[.int .i64 x0, .int .i64 x1, .int .i64 x2] 110) := ⟨_, rfl⟩
  have hut : Upd (fun _ => False) w wt := by rw [hwt]; exact HU2.out.trans (((Upd.alloc _ _ _).trans (Upd.alloc _ _ _) (fun _ h _ => h)).trans (Upd.alloc _ _ _) (fun _ h _ => h)) (fun _ h _ => h)
  have hqt : wt.heap[w2.heap.size + 1]? = some (.cells #[.int .i64 x0, .int .i64 x1, .int .i64 x2] 110 (0, 0)) := by rw [hwt]; exact hpBlk (S := fun _ => False) (Upd.alloc _ _ _) (hpTop _ _ _ (by simp)) (fun h => h)
  have HSP : Hid (Sps wt (.slice (some ⟨w2.heap.size + 2, 0, none⟩) 1 1) [⟨x0, x1, x2⟩]) := Lib.hid (by rw [hwt]; exact sps1 (s := ⟨x0, x1, x2⟩) (t := 110) (hpTop _ _ _ (by simp)))
  have hs2 := HU2.out.size
  have HB : Hid (∀ u, Upd (fun k => TR (paint c w 9 k)) wt u → u.cell? ⟨w2.heap.size + 1, 0, none⟩ = some (.int .i64 x0) ∧ u.cell? ⟨w2.heap.size + 1, 1, none⟩ = some (.int .i64 x1) ∧ u.cell? ⟨w2.heap.size + 1, 2, none⟩ = some (.int .i64 x2)) := Lib.hid (fun u hu => by
    obtain ⟨e0, e1, e2, -⟩ := three (keep9 (by omega) hqt hu)
    exact ⟨e0, e1, e2⟩)
  have HA := Lib.hid (aside3 H.out HT.out HX.out HV.out hut)
  have HWT := Lib.hid hwt
  have hrg1 : -2147483648 ≤ x1 ∧ x1 ≤ 2147483647 := hrg x1 (by simp)
  clear hwt hut hqt hrg
  go_wp2_with fail
  rw [← HWT.out]
  refine (rTouch HA.out.2.2.1 _ _ HSP.out (fun k hk => by simp [Value.ownBlock] at hk; rw [← hk, paint_new c w 9 (by omega)]; omega) (by simp)).mono ?_
  rintro e w3 ⟨rfl, c3, hx3, ht3⟩
  obtain ⟨b0, b1, b2⟩ := HB.out _ (hx3.upd.mono (fun k hk _ => TR7 hk))
  have HX3 := Lib.hid hx3
  have HT3 := Lib.hid ht3
  clear hs2
  have HSND : Hid (Calls Tryd.prog 49 #[.pointer (some ⟨rb, 0, none⟩), .int .i64 ap, .int .i64 a, .agg #[.int .i64 x0, .int .i64 x1, .int .i64 x2]] w3 fun e w' => e = .returned (.int .i64 (sendS M ap a ⟨x0, x1, x2⟩)) ∧ ∃ c', Ext TQ c3 w3 c' w' ∧ Rm c' w' rb (sendM M ap a ⟨x0, x1, x2⟩)) :=
    Lib.hid (rSendQ (HA.out.2.1.ext hx3 (fun _ h => n17 h)) ap a ⟨x0, x1, x2⟩ (show x1 ≤ 9223372036854775807 by have := hrg1.2; omega) HC.out)
  clear hx3 ht3
  go_wp2_with fail
  refine HSND.out.mono ?_
  rintro e w4 ⟨rfl, c4, hx4, hr4⟩
  have HX4 := Lib.hid hx4
  have HR4 := Lib.hid hr4
  clear hx4 hr4
  go_wp2_with fail
  refine bodyPost_ret (v := .tuple #[.int .i32 (0), .int .i64 (sendS M ap a ⟨x0, x1, x2⟩)]) (by simp only [results, Tryd.f14]; simp [go_sem]) rfl ?_
  exact ⟨rfl, c4, (HA.out.1.trans HX3.out (fun _ h => TR7 h)).trans HX4.out (fun _ h => TRQ h), HR4.out, HT3.out.ext HX4.out TQ7⟩
end
end Go.Proofs.YtdmadfahgkikkaaDoor
/- Package room: Serve, op by op: Div, Rem. -/
namespace Go.Proofs.YtdmadfahgkikkaaDoor
open Go.RowKit Go.Lib Go.ChangeShapes Go.WideShapes Go.Deep
set_option linter.unusedVariables false
set_option linter.unusedSimpArgs false

section
variable {c : Nat → Nat} {w : World} {rb : Nat} {M : RmM} {tv : Value} {o : Option (List EvM)}
set_option maxRecDepth 100000 in
set_option maxHeartbeats 4000000 in
theorem sv17y (h : Rm c w rb M) (ht : TrO c w tv o) (ap a b : Int) (v : Value) (x0 x1 : BitVec 32) (hx : I32 w v [si x0, si x1]) (hz : bZero x1 = true) (hv : ∀ k, v.ownBlock = some k → ¬ TR (c k)) :
    Calls Tryd.prog 14 #[.pointer (some ⟨rb, 0, none⟩), tv, .int .i64 ap, .int .i64 17, .int .i64 a, .int .i64 b, v] w fun e w' => Served c w rb tv ⟨si (bDiv x0 x1), 36864, M⟩ o e w' := by
  have HN : Hid (Calls Tryd.prog 37 #[v] w fun e w' => e = .returned (.agg #[.int .i64 (si x0), .int .i64 (si x1), .int .i64 0, .int .i64 0, .int .i64 0]) ∧ Upd (fun _ => False) w w') := Lib.hid (rNumbers w v [si x0, si x1] hx (by simp))
  have HX := Lib.hid hx
  have HV := Lib.hid hv
  have H := Lib.hid h
  have HT := Lib.hid ht
  have hrg := hx.1
  obtain ⟨p, rfl⟩ := ht.ptr
  obtain ⟨va, vc, rfl, -, -⟩ : ∃ va vc, v = .slice va 2 vc ∧ 2 ≤ vc ∧ vc ≤ maxLen := by
    obtain ⟨-, a, c, e, h1, h2, -⟩ := hx
    exact ⟨a, c, e, h1, h2⟩
  have HZ := Lib.hid hz
  clear h ht hx hv hz
  go_enter Tryd.func14, Tryd.ntmps14
  go_wp2_with fail
  refine (rServes 17 w).mono ?_
  rintro e w' ⟨rfl, rfl⟩
  rw [show servesP 17 = 2 from rfl]
  go_wp2_with fail
  refine HN.out.mono ?_
  rintro e w2 ⟨rfl, hu⟩
  have HU2 := Lib.hid hu
  clear hu HN
  obtain ⟨wt, hwt⟩ : ∃ wt, wt = w2.alloc (.cells #[.int .i64 (si x0), .int .i64 (si x1), .int .i64 0, .int .i64 0, .int .i64 0] 102) := ⟨_, rfl⟩
  have hut : Upd (fun _ => False) w wt := by rw [hwt]; exact HU2.out.trans (Upd.alloc _ _ _) (fun _ h _ => h)
  obtain ⟨ag, aoff, hae, -, -⟩ := HX.out.at (k := 0) (by simp)
  subst hae
  have HAG : Hid (∀ u, Upd (fun _ => False) w u → u.cell? ⟨ag, aoff, none⟩ = some (.int .i32 (si x0)) ∧ u.cell? ⟨ag, aoff + 1, none⟩ = some (.int .i32 (si x1))) := Lib.hid (fun u hu => by
    obtain ⟨g, off, he, -, hc⟩ := (HX.out.upd hu (fun _ _ h => h)).at (k := 0) (by simp)
    obtain ⟨g', off', he', -, hc'⟩ := (HX.out.upd hu (fun _ _ h => h)).at (k := 1) (by simp)
    simp at he he'
    obtain ⟨rfl, rfl⟩ := he
    obtain ⟨rfl, rfl⟩ := he'
    exact ⟨by simpa using hc, by simpa using hc'⟩)
  have HUD := Lib.hid (hut.trans (Upd.drew (fun _ => False) wt) (fun _ h _ => h))
  have HA := Lib.hid (aside3 H.out HT.out HX.out HV.out HUD.out)
  have HWT := Lib.hid hwt
  have HDV := Lib.hid (wDiv x0 x1 wt.drew)
  rw [HZ.out] at HDV
  clear hwt hut hrg
  go_wp2_with fail
  rw [← HWT.out]
  go_region_held3 (fun w' => w'.cell? ⟨ag, aoff, none⟩ = some (.int .i32 (si x0)) ∧ w'.cell? ⟨ag, aoff + 1, none⟩ = some (.int .i32 (si x1))) (first
    | with_reducible exact HAG.out _ HUD.out) (first
    | (go_at_call 39; (with_reducible refine (HDV.out).mono ?_); rintro e w4 ⟨rfl, rfl⟩)
    | (go_at_call 38; (with_reducible refine (rDivided _ _).mono ?_); rintro e w5 ⟨rfl, rfl⟩))
  all_goals
    go_wp2_with fail
    refine bodyPost_ret (v := .tuple #[.int .i32 (si (bDiv x0 x1)), .int .i64 36864]) (by simp only [results, Tryd.f14]; simp [go_sem]) rfl ?_
    exact ⟨rfl, _, HA.out.1, HA.out.2.1, HA.out.2.2.1⟩
set_option maxRecDepth 100000 in
set_option maxHeartbeats 4000000 in
theorem sv17n (h : Rm c w rb M) (ht : TrO c w tv o) (ap a b : Int) (v : Value) (x0 x1 : BitVec 32) (hx : I32 w v [si x0, si x1]) (hz : bZero x1 = false) (hv : ∀ k, v.ownBlock = some k → ¬ TR (c k)) :
    Calls Tryd.prog 14 #[.pointer (some ⟨rb, 0, none⟩), tv, .int .i64 ap, .int .i64 17, .int .i64 a, .int .i64 b, v] w fun e w' => Served c w rb tv ⟨0, 28419, M⟩ o e w' := by
  have HN : Hid (Calls Tryd.prog 37 #[v] w fun e w' => e = .returned (.agg #[.int .i64 (si x0), .int .i64 (si x1), .int .i64 0, .int .i64 0, .int .i64 0]) ∧ Upd (fun _ => False) w w') := Lib.hid (rNumbers w v [si x0, si x1] hx (by simp))
  have HX := Lib.hid hx
  have HV := Lib.hid hv
  have H := Lib.hid h
  have HT := Lib.hid ht
  have hrg := hx.1
  obtain ⟨p, rfl⟩ := ht.ptr
  obtain ⟨va, vc, rfl, -, -⟩ : ∃ va vc, v = .slice va 2 vc ∧ 2 ≤ vc ∧ vc ≤ maxLen := by
    obtain ⟨-, a, c, e, h1, h2, -⟩ := hx
    exact ⟨a, c, e, h1, h2⟩
  have HZ := Lib.hid hz
  clear h ht hx hv hz
  go_enter Tryd.func14, Tryd.ntmps14
  go_wp2_with fail
  refine (rServes 17 w).mono ?_
  rintro e w' ⟨rfl, rfl⟩
  rw [show servesP 17 = 2 from rfl]
  go_wp2_with fail
  refine HN.out.mono ?_
  rintro e w2 ⟨rfl, hu⟩
  have HU2 := Lib.hid hu
  clear hu HN
  obtain ⟨wt, hwt⟩ : ∃ wt, wt = w2.alloc (.cells #[.int .i64 (si x0), .int .i64 (si x1), .int .i64 0, .int .i64 0, .int .i64 0] 102) := ⟨_, rfl⟩
  have hut : Upd (fun _ => False) w wt := by rw [hwt]; exact HU2.out.trans (Upd.alloc _ _ _) (fun _ h _ => h)
  obtain ⟨ag, aoff, hae, -, -⟩ := HX.out.at (k := 0) (by simp)
  subst hae
  have HAG : Hid (∀ u, Upd (fun _ => False) w u → u.cell? ⟨ag, aoff, none⟩ = some (.int .i32 (si x0)) ∧ u.cell? ⟨ag, aoff + 1, none⟩ = some (.int .i32 (si x1))) := Lib.hid (fun u hu => by
    obtain ⟨g, off, he, -, hc⟩ := (HX.out.upd hu (fun _ _ h => h)).at (k := 0) (by simp)
    obtain ⟨g', off', he', -, hc'⟩ := (HX.out.upd hu (fun _ _ h => h)).at (k := 1) (by simp)
    simp at he he'
    obtain ⟨rfl, rfl⟩ := he
    obtain ⟨rfl, rfl⟩ := he'
    exact ⟨by simpa using hc, by simpa using hc'⟩)
  have HUD := Lib.hid (hut.trans (Upd.drew (fun _ => False) wt) (fun _ h _ => h))
  have HA := Lib.hid (aside3 H.out HT.out HX.out HV.out HUD.out)
  have HWT := Lib.hid hwt
  have HDV := Lib.hid (wDiv x0 x1 wt.drew)
  rw [HZ.out] at HDV
  clear hwt hut hrg
  go_wp2_with fail
  rw [← HWT.out]
  go_region_held3 (fun w' => w'.cell? ⟨ag, aoff, none⟩ = some (.int .i32 (si x0)) ∧ w'.cell? ⟨ag, aoff + 1, none⟩ = some (.int .i32 (si x1))) (first
    | with_reducible exact HAG.out _ HUD.out) (first
    | (go_at_call 39; (with_reducible refine (HDV.out).mono ?_); rintro e w4 ⟨rfl, rfl⟩)
    | (go_at_call 38; (with_reducible refine (rDivided_no _ _).mono ?_); rintro e w5 ⟨rfl, rfl⟩))
  all_goals
    go_wp2_with fail
    refine bodyPost_ret (v := .tuple #[.int .i32 (0), .int .i64 28419]) (by simp only [results, Tryd.f14]; simp [go_sem]) rfl ?_
    exact ⟨rfl, _, HA.out.1, HA.out.2.1, HA.out.2.2.1⟩
set_option maxRecDepth 100000 in
set_option maxHeartbeats 4000000 in
theorem sv18y (h : Rm c w rb M) (ht : TrO c w tv o) (ap a b : Int) (v : Value) (x0 x1 : BitVec 32) (hx : I32 w v [si x0, si x1]) (hz : bZero x1 = true) (hv : ∀ k, v.ownBlock = some k → ¬ TR (c k)) :
    Calls Tryd.prog 14 #[.pointer (some ⟨rb, 0, none⟩), tv, .int .i64 ap, .int .i64 18, .int .i64 a, .int .i64 b, v] w fun e w' => Served c w rb tv ⟨si (bRem x0 x1), 36864, M⟩ o e w' := by
  have HN : Hid (Calls Tryd.prog 37 #[v] w fun e w' => e = .returned (.agg #[.int .i64 (si x0), .int .i64 (si x1), .int .i64 0, .int .i64 0, .int .i64 0]) ∧ Upd (fun _ => False) w w') := Lib.hid (rNumbers w v [si x0, si x1] hx (by simp))
  have HX := Lib.hid hx
  have HV := Lib.hid hv
  have H := Lib.hid h
  have HT := Lib.hid ht
  have hrg := hx.1
  obtain ⟨p, rfl⟩ := ht.ptr
  obtain ⟨va, vc, rfl, -, -⟩ : ∃ va vc, v = .slice va 2 vc ∧ 2 ≤ vc ∧ vc ≤ maxLen := by
    obtain ⟨-, a, c, e, h1, h2, -⟩ := hx
    exact ⟨a, c, e, h1, h2⟩
  have HZ := Lib.hid hz
  clear h ht hx hv hz
  go_enter Tryd.func14, Tryd.ntmps14
  go_wp2_with fail
  refine (rServes 18 w).mono ?_
  rintro e w' ⟨rfl, rfl⟩
  rw [show servesP 18 = 2 from rfl]
  go_wp2_with fail
  refine HN.out.mono ?_
  rintro e w2 ⟨rfl, hu⟩
  have HU2 := Lib.hid hu
  clear hu HN
  obtain ⟨wt, hwt⟩ : ∃ wt, wt = w2.alloc (.cells #[.int .i64 (si x0), .int .i64 (si x1), .int .i64 0, .int .i64 0, .int .i64 0] 102) := ⟨_, rfl⟩
  have hut : Upd (fun _ => False) w wt := by rw [hwt]; exact HU2.out.trans (Upd.alloc _ _ _) (fun _ h _ => h)
  obtain ⟨ag, aoff, hae, -, -⟩ := HX.out.at (k := 0) (by simp)
  subst hae
  have HAG : Hid (∀ u, Upd (fun _ => False) w u → u.cell? ⟨ag, aoff, none⟩ = some (.int .i32 (si x0)) ∧ u.cell? ⟨ag, aoff + 1, none⟩ = some (.int .i32 (si x1))) := Lib.hid (fun u hu => by
    obtain ⟨g, off, he, -, hc⟩ := (HX.out.upd hu (fun _ _ h => h)).at (k := 0) (by simp)
    obtain ⟨g', off', he', -, hc'⟩ := (HX.out.upd hu (fun _ _ h => h)).at (k := 1) (by simp)
    simp at he he'
    obtain ⟨rfl, rfl⟩ := he
    obtain ⟨rfl, rfl⟩ := he'
    exact ⟨by simpa using hc, by simpa using hc'⟩)
  have HUD := Lib.hid (hut.trans (Upd.drew (fun _ => False) wt) (fun _ h _ => h))
  have HA := Lib.hid (aside3 H.out HT.out HX.out HV.out HUD.out)
  have HWT := Lib.hid hwt
  have HDV := Lib.hid (wRem x0 x1 wt.drew)
  rw [HZ.out] at HDV
  clear hwt hut hrg
  go_wp2_with fail
  rw [← HWT.out]
  go_region_held3 (fun w' => w'.cell? ⟨ag, aoff, none⟩ = some (.int .i32 (si x0)) ∧ w'.cell? ⟨ag, aoff + 1, none⟩ = some (.int .i32 (si x1))) (first
    | with_reducible exact HAG.out _ HUD.out) (first
    | (go_at_call 40; (with_reducible refine (HDV.out).mono ?_); rintro e w4 ⟨rfl, rfl⟩)
    | (go_at_call 38; (with_reducible refine (rDivided _ _).mono ?_); rintro e w5 ⟨rfl, rfl⟩))
  all_goals
    go_wp2_with fail
    refine bodyPost_ret (v := .tuple #[.int .i32 (si (bRem x0 x1)), .int .i64 36864]) (by simp only [results, Tryd.f14]; simp [go_sem]) rfl ?_
    exact ⟨rfl, _, HA.out.1, HA.out.2.1, HA.out.2.2.1⟩
set_option maxRecDepth 100000 in
set_option maxHeartbeats 4000000 in
theorem sv18n (h : Rm c w rb M) (ht : TrO c w tv o) (ap a b : Int) (v : Value) (x0 x1 : BitVec 32) (hx : I32 w v [si x0, si x1]) (hz : bZero x1 = false) (hv : ∀ k, v.ownBlock = some k → ¬ TR (c k)) :
    Calls Tryd.prog 14 #[.pointer (some ⟨rb, 0, none⟩), tv, .int .i64 ap, .int .i64 18, .int .i64 a, .int .i64 b, v] w fun e w' => Served c w rb tv ⟨0, 28419, M⟩ o e w' := by
  have HN : Hid (Calls Tryd.prog 37 #[v] w fun e w' => e = .returned (.agg #[.int .i64 (si x0), .int .i64 (si x1), .int .i64 0, .int .i64 0, .int .i64 0]) ∧ Upd (fun _ => False) w w') := Lib.hid (rNumbers w v [si x0, si x1] hx (by simp))
  have HX := Lib.hid hx
  have HV := Lib.hid hv
  have H := Lib.hid h
  have HT := Lib.hid ht
  have hrg := hx.1
  obtain ⟨p, rfl⟩ := ht.ptr
  obtain ⟨va, vc, rfl, -, -⟩ : ∃ va vc, v = .slice va 2 vc ∧ 2 ≤ vc ∧ vc ≤ maxLen := by
    obtain ⟨-, a, c, e, h1, h2, -⟩ := hx
    exact ⟨a, c, e, h1, h2⟩
  have HZ := Lib.hid hz
  clear h ht hx hv hz
  go_enter Tryd.func14, Tryd.ntmps14
  go_wp2_with fail
  refine (rServes 18 w).mono ?_
  rintro e w' ⟨rfl, rfl⟩
  rw [show servesP 18 = 2 from rfl]
  go_wp2_with fail
  refine HN.out.mono ?_
  rintro e w2 ⟨rfl, hu⟩
  have HU2 := Lib.hid hu
  clear hu HN
  obtain ⟨wt, hwt⟩ : ∃ wt, wt = w2.alloc (.cells #[.int .i64 (si x0), .int .i64 (si x1), .int .i64 0, .int .i64 0, .int .i64 0] 102) := ⟨_, rfl⟩
  have hut : Upd (fun _ => False) w wt := by rw [hwt]; exact HU2.out.trans (Upd.alloc _ _ _) (fun _ h _ => h)
  obtain ⟨ag, aoff, hae, -, -⟩ := HX.out.at (k := 0) (by simp)
  subst hae
  have HAG : Hid (∀ u, Upd (fun _ => False) w u → u.cell? ⟨ag, aoff, none⟩ = some (.int .i32 (si x0)) ∧ u.cell? ⟨ag, aoff + 1, none⟩ = some (.int .i32 (si x1))) := Lib.hid (fun u hu => by
    obtain ⟨g, off, he, -, hc⟩ := (HX.out.upd hu (fun _ _ h => h)).at (k := 0) (by simp)
    obtain ⟨g', off', he', -, hc'⟩ := (HX.out.upd hu (fun _ _ h => h)).at (k := 1) (by simp)
    simp at he he'
    obtain ⟨rfl, rfl⟩ := he
    obtain ⟨rfl, rfl⟩ := he'
    exact ⟨by simpa using hc, by simpa using hc'⟩)
  have HUD := Lib.hid (hut.trans (Upd.drew (fun _ => False) wt) (fun _ h _ => h))
  have HA := Lib.hid (aside3 H.out HT.out HX.out HV.out HUD.out)
  have HWT := Lib.hid hwt
  have HDV := Lib.hid (wRem x0 x1 wt.drew)
  rw [HZ.out] at HDV
  clear hwt hut hrg
  go_wp2_with fail
  rw [← HWT.out]
  go_region_held3 (fun w' => w'.cell? ⟨ag, aoff, none⟩ = some (.int .i32 (si x0)) ∧ w'.cell? ⟨ag, aoff + 1, none⟩ = some (.int .i32 (si x1))) (first
    | with_reducible exact HAG.out _ HUD.out) (first
    | (go_at_call 40; (with_reducible refine (HDV.out).mono ?_); rintro e w4 ⟨rfl, rfl⟩)
    | (go_at_call 38; (with_reducible refine (rDivided_no _ _).mono ?_); rintro e w5 ⟨rfl, rfl⟩))
  all_goals
    go_wp2_with fail
    refine bodyPost_ret (v := .tuple #[.int .i32 (0), .int .i64 28419]) (by simp only [results, Tryd.f14]; simp [go_sem]) rfl ?_
    exact ⟨rfl, _, HA.out.1, HA.out.2.1, HA.out.2.2.1⟩
end
end Go.Proofs.YtdmadfahgkikkaaDoor
/- Package room: Serve, op by op: Copy, Same. -/
namespace Go.Proofs.YtdmadfahgkikkaaDoor
open Go.RowKit Go.Lib Go.ChangeShapes Go.WideShapes Go.Deep
set_option linter.unusedVariables false
set_option linter.unusedSimpArgs false

theorem upd_alloc {S : Nat → Prop} {w x : World} {o : Obj} (h : Upd S w x) : Upd S w (x.alloc o) := h.trans (Upd.alloc S x o) (fun _ h _ => h)
theorem upd_drew {S : Nat → Prop} {w x : World} (h : Upd S w x) : Upd S w x.drew := h.trans (Upd.drew S x) (fun _ h _ => h)
theorem upd_set {S : Nat → Prop} {w x : World} {p : Addr} {u : Value} (h : Upd S w x) (hp : w.heap.size ≤ p.block) : Upd S w (x.setCell p u) := ⟨h.os, h.tape, h.output, by simpa [World.setCell] using h.size, fun k hk hS => (Below.heap_setCell _ _ _ _ (by omega)).trans (h.block k hk hS)⟩
section
variable {c : Nat → Nat} {w : World} {rb : Nat} {M : RmM} {tv : Value} {o : Option (List EvM)}
set_option maxRecDepth 100000 in
set_option maxHeartbeats 4000000 in
theorem sv31 (h : Rm c w rb M) (ht : TrO c w tv o) (ap a b : Int) (v : Value) (x0 x1 x2 x3 x4 : Int) (hx : I32 w v [x0, x1, x2, x3, x4]) (hv : ∀ k, v.ownBlock = some k → ¬ TR (c k)) :
    Calls Tryd.prog 14 #[.pointer (some ⟨rb, 0, none⟩), tv, .int .i64 ap, .int .i64 31, .int .i64 a, .int .i64 b, v] w fun e w' => Served c w rb tv ⟨0, reachP M.hp.arrs ap [⟨x0, x1, x4⟩, ⟨x2, x3, x4⟩], copyM M ap ⟨x0, x1, x4⟩ ⟨x2, x3, x4⟩⟩ (tchs o [⟨x0, x1, x4⟩, ⟨x2, x3, x4⟩]) e w' := by
  have HN : Hid (Calls Tryd.prog 37 #[v] w fun e w' => e = .returned (.agg #[.int .i64 x0, .int .i64 x1, .int .i64 x2, .int .i64 x3, .int .i64 x4]) ∧ Upd (fun _ => False) w w') := Lib.hid (rNumbers w v [x0, x1, x2, x3, x4] hx (by simp))
  have HX := Lib.hid hx
  have HV := Lib.hid hv
  have H := Lib.hid h
  have HT := Lib.hid ht
  have hrg := hx.1
  obtain ⟨p, rfl⟩ := ht.ptr
  obtain ⟨va, vc, rfl, -, -⟩ : ∃ va vc, v = .slice va 5 vc ∧ 5 ≤ vc ∧ vc ≤ maxLen := by
    obtain ⟨-, a, c, e, h1, h2, -⟩ := hx
    exact ⟨a, c, e, h1, h2⟩
  clear h ht hx hv
  go_enter Tryd.func14, Tryd.ntmps14
  go_wp2_with fail
  refine (rServes 31 w).mono ?_
  rintro e w' ⟨rfl, rfl⟩
  rw [show servesP 31 = 5 from rfl]
  go_wp2_with fail
  refine HN.out.mono ?_
  rintro e w2 ⟨rfl, hu⟩
  have HU2 := Lib.hid hu
  clear hu HN
  obtain ⟨wt, hwt⟩ : ∃ wt, wt = w2.alloc (.cells #[.int .i64 x0, .int .i64 x1, .int .i64 x2, .int .i64 x3, .int .i64 x4] 102) := ⟨_, rfl⟩
  have hut : Upd (fun _ => False) w wt := by rw [hwt]; exact HU2.out.trans (Upd.alloc _ _ _) (fun _ h _ => h)
  have hqt : wt.heap[w2.heap.size]? = some (.cells #[.int .i64 x0, .int .i64 x1, .int .i64 x2, .int .i64 x3, .int .i64 x4] 102 (0, 0)) := by rw [hwt]; exact hpTop _ _ _ rfl
  have HB : Hid (∀ u, Upd (fun _ => False) wt u → u.cell? ⟨w2.heap.size, 0, none⟩ = some (.int .i64 x0) ∧ u.cell? ⟨w2.heap.size, 1, none⟩ = some (.int .i64 x1) ∧ u.cell? ⟨w2.heap.size, 2, none⟩ = some (.int .i64 x2) ∧ u.cell? ⟨w2.heap.size, 3, none⟩ = some (.int .i64 x3) ∧ u.cell? ⟨w2.heap.size, 4, none⟩ = some (.int .i64 x4)) := Lib.hid (fun u hu => by
    obtain ⟨e0, e1, e2, e3, e4, -⟩ := five (hpBlk hu hqt (fun h => h))
    exact ⟨e0, e1, e2, e3, e4⟩)
  have HWT := Lib.hid hwt
  have HUT := Lib.hid hut
  clear hwt hut hqt
  have hrg1 : -2147483648 ≤ x1 ∧ x1 ≤ 2147483647 := hrg x1 (by simp)
  have hrg3 : -2147483648 ≤ x3 ∧ x3 ≤ 2147483647 := hrg x3 (by simp)
  clear hrg
  go_wp2_with fail
  rw [← HWT.out]
  go_region_held3 (fun w' => w'.cell? ⟨w2.heap.size, 0, none⟩ = some (.int .i64 x0) ∧ w'.cell? ⟨w2.heap.size, 1, none⟩ = some (.int .i64 x1) ∧ w'.cell? ⟨w2.heap.size, 2, none⟩ = some (.int .i64 x2) ∧ w'.cell? ⟨w2.heap.size, 3, none⟩ = some (.int .i64 x3) ∧ w'.cell? ⟨w2.heap.size, 4, none⟩ = some (.int .i64 x4)) (first
    | (refine HB.out _ ?_; repeat (first | exact Upd.refl _ _ | exact Upd.drew _ _ | refine upd_alloc ?_ | refine upd_drew ?_ | refine upd_set ?_ (by simp)))) (fail)
  · clear HB
    obtain ⟨u, hu⟩ : ∃ u, u = ((wt.alloc (.cells #[.int .i64 x0, .int .i64 x1, .int .i64 x4] 110)).alloc (.cells #[.int .i64 x2, .int .i64 x3, .int .i64 x4] 110)).drew := ⟨_, rfl⟩
    have huu : Upd (fun _ => False) wt u := by rw [hu]; exact upd_drew (upd_alloc (Upd.alloc _ _ _))
    have hP : u.heap[wt.heap.size]? = some (.cells #[.int .i64 x0, .int .i64 x1, .int .i64 x4] 110 (0, 0)) := by
      rw [hu]; show ((wt.alloc _).alloc _).heap[wt.heap.size]? = _
      exact hpBlk (S := fun _ => False) (Upd.alloc _ _ _) (hpTop wt _ _ rfl) (fun h => h)
    have hQ : u.heap[wt.heap.size + 1]? = some (.cells #[.int .i64 x2, .int .i64 x3, .int .i64 x4] 110 (0, 0)) := by
      rw [hu]; show ((wt.alloc _).alloc _).heap[wt.heap.size + 1]? = _
      exact hpTop _ _ _ (by simp)
    have hus : wt.heap.size + 2 ≤ u.heap.size := by rw [hu]; simp
    obtain ⟨z, hz⟩ : ∃ z, z = u.alloc (.cells #[.int .i64 x0, .int .i64 x1, .int .i64 x4, .int .i64 x2, .int .i64 x3, .int .i64 x4] 110) := ⟨_, rfl⟩
    have hzu : Upd (fun _ => False) u z := by rw [hz]; exact Upd.alloc _ _ _
    have HSP : Hid (Sps z (.slice (some ⟨u.heap.size, 0, none⟩) 2 2) [⟨x0, x1, x4⟩, ⟨x2, x3, x4⟩]) := Lib.hid (by rw [hz]; exact sps2 (s := ⟨x0, x1, x4⟩) (u := ⟨x2, x3, x4⟩) (t := 110) (hpTop _ _ _ rfl))
    have HUZ := Lib.hid (HUT.out.trans (huu.trans hzu (fun _ h _ => h)) (fun _ h _ => h))
    have hws : w.heap.size ≤ wt.heap.size := HUT.out.size
    have hzP := hpBlk hzu hP (fun h => h)
    have hzQ := hpBlk hzu hQ (fun h => h)
    have HB : Hid (∀ v, Upd (fun k => TR (paint c w 9 k)) z v → (v.cell? ⟨wt.heap.size, 0, none⟩ = some (.int .i64 x0) ∧ v.cell? ⟨wt.heap.size, 1, none⟩ = some (.int .i64 x1) ∧ v.cell? ⟨wt.heap.size, 2, none⟩ = some (.int .i64 x4)) ∧ (v.cell? ⟨wt.heap.size + 1, 0, none⟩ = some (.int .i64 x2) ∧ v.cell? ⟨wt.heap.size + 1, 1, none⟩ = some (.int .i64 x3) ∧ v.cell? ⟨wt.heap.size + 1, 2, none⟩ = some (.int .i64 x4))) := Lib.hid (fun v hv => by
      obtain ⟨e0, e1, e2, -⟩ := three (keep9 (by omega) hzP hv)
      obtain ⟨d0, d1, d2, -⟩ := three (keep9 (by omega) hzQ hv)
      exact ⟨⟨e0, e1, e2⟩, d0, d1, d2⟩)
    have HUS : Hid (w.heap.size ≤ u.heap.size) := Lib.hid (by omega)
    obtain ⟨⟨b0, b1, b2⟩, d0, d1, d2⟩ : (u.cell? ⟨wt.heap.size, 0, none⟩ = some (.int .i64 x0) ∧ u.cell? ⟨wt.heap.size, 1, none⟩ = some (.int .i64 x1) ∧ u.cell? ⟨wt.heap.size, 2, none⟩ = some (.int .i64 x4)) ∧ (u.cell? ⟨wt.heap.size + 1, 0, none⟩ = some (.int .i64 x2) ∧ u.cell? ⟨wt.heap.size + 1, 1, none⟩ = some (.int .i64 x3) ∧ u.cell? ⟨wt.heap.size + 1, 2, none⟩ = some (.int .i64 x4)) := by
      obtain ⟨e0, e1, e2, -⟩ := three hP
      obtain ⟨d0, d1, d2, -⟩ := three hQ
      exact ⟨⟨e0, e1, e2⟩, d0, d1, d2⟩
    have HA := Lib.hid (aside3 H.out HT.out HX.out HV.out HUZ.out)
    have HWZ := Lib.hid hz
    rw [← hu]
    clear hu huu hP hQ hus hz hzu hws hzP hzQ
    go_wp2_with fail
    rw [← HWZ.out]
    refine (rTouch HA.out.2.2.1 _ _ HSP.out (fun k hk => by simp [Value.ownBlock] at hk; rw [← hk, paint_new c w 9 HUS.out]; omega) (by simp)).mono ?_
    rintro e w3 ⟨rfl, c3, hx3, ht3⟩
    clear b0 b1 b2 d0 d1 d2
    obtain ⟨⟨b0, b1, b2⟩, d0, d1, d2⟩ := HB.out _ (hx3.upd.mono (fun k hk _ => TR7 hk))
    have HX3 := Lib.hid hx3
    have HT3 := Lib.hid ht3
    clear hx3 ht3
    have HC : Hid (Calls Tryd.prog 47 #[.pointer (some ⟨rb, 0, none⟩), .int .i64 ap, .agg #[.int .i64 x0, .int .i64 x1, .int .i64 x4], .agg #[.int .i64 x2, .int .i64 x3, .int .i64 x4]] w3 fun e w' => e = .returned (.int .i64 (reachP M.hp.arrs ap [⟨x0, x1, x4⟩, ⟨x2, x3, x4⟩])) ∧ ∃ c', Ext T1 c3 w3 c' w' ∧ Rm c' w' rb (copyM M ap ⟨x0, x1, x4⟩ ⟨x2, x3, x4⟩)) :=
      Lib.hid (rCopy (HA.out.2.1.ext HX3.out (fun _ h => n17 h)) ap ⟨x0, x1, x4⟩ ⟨x2, x3, x4⟩ (show x1 ≤ 9223372036854775807 by omega) (show x3 ≤ 9223372036854775807 by omega) rfl)
    go_wp2_with fail
    refine HC.out.mono ?_
    rintro e w4 ⟨rfl, c4, hx4, hr4⟩
    have HX4 := Lib.hid hx4
    have HR4 := Lib.hid hr4
    clear hx4 hr4
    go_wp2_with fail
    refine bodyPost_ret (v := .tuple #[.int .i32 0, .int .i64 (reachP M.hp.arrs ap [⟨x0, x1, x4⟩, ⟨x2, x3, x4⟩])]) (by simp only [results, Tryd.f14]; simp [go_sem]) rfl ?_
    exact ⟨rfl, c4, (HA.out.1.trans HX3.out (fun _ h => TR7 h)).trans HX4.out (fun _ h => TR1 h), HR4.out, HT3.out.ext HX4.out T17⟩
  · clear HB
    obtain ⟨u, hu⟩ : ∃ u, u = ((wt.alloc (.cells #[.int .i64 x2, .int .i64 x3, .int .i64 x4] 110)).alloc (.cells #[.int .i64 x0, .int .i64 x1, .int .i64 x4] 110)).drew := ⟨_, rfl⟩
    have huu : Upd (fun _ => False) wt u := by rw [hu]; exact upd_drew (upd_alloc (Upd.alloc _ _ _))
    have hQ : u.heap[wt.heap.size]? = some (.cells #[.int .i64 x2, .int .i64 x3, .int .i64 x4] 110 (0, 0)) := by
      rw [hu]; show ((wt.alloc _).alloc _).heap[wt.heap.size]? = _
      exact hpBlk (S := fun _ => False) (Upd.alloc _ _ _) (hpTop wt _ _ rfl) (fun h => h)
    have hP : u.heap[wt.heap.size + 1]? = some (.cells #[.int .i64 x0, .int .i64 x1, .int .i64 x4] 110 (0, 0)) := by
      rw [hu]; show ((wt.alloc _).alloc _).heap[wt.heap.size + 1]? = _
      exact hpTop _ _ _ (by simp)
    have hus : wt.heap.size + 2 ≤ u.heap.size := by rw [hu]; simp
    obtain ⟨z, hz⟩ : ∃ z, z = u.alloc (.cells #[.int .i64 x0, .int .i64 x1, .int .i64 x4, .int .i64 x2, .int .i64 x3, .int .i64 x4] 110) := ⟨_, rfl⟩
    have hzu : Upd (fun _ => False) u z := by rw [hz]; exact Upd.alloc _ _ _
    have HSP : Hid (Sps z (.slice (some ⟨u.heap.size, 0, none⟩) 2 2) [⟨x0, x1, x4⟩, ⟨x2, x3, x4⟩]) := Lib.hid (by rw [hz]; exact sps2 (s := ⟨x0, x1, x4⟩) (u := ⟨x2, x3, x4⟩) (t := 110) (hpTop _ _ _ rfl))
    have HUZ := Lib.hid (HUT.out.trans (huu.trans hzu (fun _ h _ => h)) (fun _ h _ => h))
    have hws : w.heap.size ≤ wt.heap.size := HUT.out.size
    have hzP := hpBlk hzu hP (fun h => h)
    have hzQ := hpBlk hzu hQ (fun h => h)
    have HB : Hid (∀ v, Upd (fun k => TR (paint c w 9 k)) z v → (v.cell? ⟨wt.heap.size + 1, 0, none⟩ = some (.int .i64 x0) ∧ v.cell? ⟨wt.heap.size + 1, 1, none⟩ = some (.int .i64 x1) ∧ v.cell? ⟨wt.heap.size + 1, 2, none⟩ = some (.int .i64 x4)) ∧ (v.cell? ⟨wt.heap.size, 0, none⟩ = some (.int .i64 x2) ∧ v.cell? ⟨wt.heap.size, 1, none⟩ = some (.int .i64 x3) ∧ v.cell? ⟨wt.heap.size, 2, none⟩ = some (.int .i64 x4))) := Lib.hid (fun v hv => by
      obtain ⟨e0, e1, e2, -⟩ := three (keep9 (by omega) hzP hv)
      obtain ⟨d0, d1, d2, -⟩ := three (keep9 (by omega) hzQ hv)
      exact ⟨⟨e0, e1, e2⟩, d0, d1, d2⟩)
    have HUS : Hid (w.heap.size ≤ u.heap.size) := Lib.hid (by omega)
    obtain ⟨⟨b0, b1, b2⟩, d0, d1, d2⟩ : (u.cell? ⟨wt.heap.size + 1, 0, none⟩ = some (.int .i64 x0) ∧ u.cell? ⟨wt.heap.size + 1, 1, none⟩ = some (.int .i64 x1) ∧ u.cell? ⟨wt.heap.size + 1, 2, none⟩ = some (.int .i64 x4)) ∧ (u.cell? ⟨wt.heap.size, 0, none⟩ = some (.int .i64 x2) ∧ u.cell? ⟨wt.heap.size, 1, none⟩ = some (.int .i64 x3) ∧ u.cell? ⟨wt.heap.size, 2, none⟩ = some (.int .i64 x4)) := by
      obtain ⟨e0, e1, e2, -⟩ := three hP
      obtain ⟨d0, d1, d2, -⟩ := three hQ
      exact ⟨⟨e0, e1, e2⟩, d0, d1, d2⟩
    have HA := Lib.hid (aside3 H.out HT.out HX.out HV.out HUZ.out)
    have HWZ := Lib.hid hz
    rw [← hu]
    clear hu huu hP hQ hus hz hzu hws hzP hzQ
    go_wp2_with fail
    rw [← HWZ.out]
    refine (rTouch HA.out.2.2.1 _ _ HSP.out (fun k hk => by simp [Value.ownBlock] at hk; rw [← hk, paint_new c w 9 HUS.out]; omega) (by simp)).mono ?_
    rintro e w3 ⟨rfl, c3, hx3, ht3⟩
    clear b0 b1 b2 d0 d1 d2
    obtain ⟨⟨b0, b1, b2⟩, d0, d1, d2⟩ := HB.out _ (hx3.upd.mono (fun k hk _ => TR7 hk))
    have HX3 := Lib.hid hx3
    have HT3 := Lib.hid ht3
    clear hx3 ht3
    have HC : Hid (Calls Tryd.prog 47 #[.pointer (some ⟨rb, 0, none⟩), .int .i64 ap, .agg #[.int .i64 x0, .int .i64 x1, .int .i64 x4], .agg #[.int .i64 x2, .int .i64 x3, .int .i64 x4]] w3 fun e w' => e = .returned (.int .i64 (reachP M.hp.arrs ap [⟨x0, x1, x4⟩, ⟨x2, x3, x4⟩])) ∧ ∃ c', Ext T1 c3 w3 c' w' ∧ Rm c' w' rb (copyM M ap ⟨x0, x1, x4⟩ ⟨x2, x3, x4⟩)) :=
      Lib.hid (rCopy (HA.out.2.1.ext HX3.out (fun _ h => n17 h)) ap ⟨x0, x1, x4⟩ ⟨x2, x3, x4⟩ (show x1 ≤ 9223372036854775807 by omega) (show x3 ≤ 9223372036854775807 by omega) rfl)
    go_wp2_with fail
    refine HC.out.mono ?_
    rintro e w4 ⟨rfl, c4, hx4, hr4⟩
    have HX4 := Lib.hid hx4
    have HR4 := Lib.hid hr4
    clear hx4 hr4
    go_wp2_with fail
    refine bodyPost_ret (v := .tuple #[.int .i32 0, .int .i64 (reachP M.hp.arrs ap [⟨x0, x1, x4⟩, ⟨x2, x3, x4⟩])]) (by simp only [results, Tryd.f14]; simp [go_sem]) rfl ?_
    exact ⟨rfl, c4, (HA.out.1.trans HX3.out (fun _ h => TR7 h)).trans HX4.out (fun _ h => TR1 h), HR4.out, HT3.out.ext HX4.out T17⟩
set_option maxRecDepth 100000 in
set_option maxHeartbeats 4000000 in
theorem sv32 (h : Rm c w rb M) (ht : TrO c w tv o) (ap a b : Int) (v : Value) (x0 x1 x2 x3 x4 : Int) (hx : I32 w v [x0, x1, x2, x3, x4]) (hv : ∀ k, v.ownBlock = some k → ¬ TR (c k)) :
    Calls Tryd.prog 14 #[.pointer (some ⟨rb, 0, none⟩), tv, .int .i64 ap, .int .i64 32, .int .i64 a, .int .i64 b, v] w fun e w' => Served c w rb tv ⟨sameP M.hp.arrs ap ⟨x0, x1, x4⟩ ⟨x2, x3, x4⟩, reachP M.hp.arrs ap [⟨x0, x1, x4⟩, ⟨x2, x3, x4⟩], M⟩ (tchs o [⟨x0, x1, x4⟩, ⟨x2, x3, x4⟩]) e w' := by
  have HN : Hid (Calls Tryd.prog 37 #[v] w fun e w' => e = .returned (.agg #[.int .i64 x0, .int .i64 x1, .int .i64 x2, .int .i64 x3, .int .i64 x4]) ∧ Upd (fun _ => False) w w') := Lib.hid (rNumbers w v [x0, x1, x2, x3, x4] hx (by simp))
  have HX := Lib.hid hx
  have HV := Lib.hid hv
  have H := Lib.hid h
  have HT := Lib.hid ht
  have hrg := hx.1
  obtain ⟨p, rfl⟩ := ht.ptr
  obtain ⟨va, vc, rfl, -, -⟩ : ∃ va vc, v = .slice va 5 vc ∧ 5 ≤ vc ∧ vc ≤ maxLen := by
    obtain ⟨-, a, c, e, h1, h2, -⟩ := hx
    exact ⟨a, c, e, h1, h2⟩
  clear h ht hx hv
  go_enter Tryd.func14, Tryd.ntmps14
  go_wp2_with fail
  refine (rServes 32 w).mono ?_
  rintro e w' ⟨rfl, rfl⟩
  rw [show servesP 32 = 5 from rfl]
  go_wp2_with fail
  refine HN.out.mono ?_
  rintro e w2 ⟨rfl, hu⟩
  have HU2 := Lib.hid hu
  clear hu HN
  obtain ⟨wt, hwt⟩ : ∃ wt, wt = w2.alloc (.cells #[.int .i64 x0, .int .i64 x1, .int .i64 x2, .int .i64 x3, .int .i64 x4] 102) := ⟨_, rfl⟩
  have hut : Upd (fun _ => False) w wt := by rw [hwt]; exact HU2.out.trans (Upd.alloc _ _ _) (fun _ h _ => h)
  have hqt : wt.heap[w2.heap.size]? = some (.cells #[.int .i64 x0, .int .i64 x1, .int .i64 x2, .int .i64 x3, .int .i64 x4] 102 (0, 0)) := by rw [hwt]; exact hpTop _ _ _ rfl
  have HB : Hid (∀ u, Upd (fun _ => False) wt u → u.cell? ⟨w2.heap.size, 0, none⟩ = some (.int .i64 x0) ∧ u.cell? ⟨w2.heap.size, 1, none⟩ = some (.int .i64 x1) ∧ u.cell? ⟨w2.heap.size, 2, none⟩ = some (.int .i64 x2) ∧ u.cell? ⟨w2.heap.size, 3, none⟩ = some (.int .i64 x3) ∧ u.cell? ⟨w2.heap.size, 4, none⟩ = some (.int .i64 x4)) := Lib.hid (fun u hu => by
    obtain ⟨e0, e1, e2, e3, e4, -⟩ := five (hpBlk hu hqt (fun h => h))
    exact ⟨e0, e1, e2, e3, e4⟩)
  have HWT := Lib.hid hwt
  have HUT := Lib.hid hut
  clear hwt hut hqt
  have hrg1 : -2147483648 ≤ x1 ∧ x1 ≤ 2147483647 := hrg x1 (by simp)
  have hrg3 : -2147483648 ≤ x3 ∧ x3 ≤ 2147483647 := hrg x3 (by simp)
  clear hrg
  go_wp2_with fail
  rw [← HWT.out]
  go_region_held3 (fun w' => w'.cell? ⟨w2.heap.size, 0, none⟩ = some (.int .i64 x0) ∧ w'.cell? ⟨w2.heap.size, 1, none⟩ = some (.int .i64 x1) ∧ w'.cell? ⟨w2.heap.size, 2, none⟩ = some (.int .i64 x2) ∧ w'.cell? ⟨w2.heap.size, 3, none⟩ = some (.int .i64 x3) ∧ w'.cell? ⟨w2.heap.size, 4, none⟩ = some (.int .i64 x4)) (first
    | (refine HB.out _ ?_; repeat (first | exact Upd.refl _ _ | exact Upd.drew _ _ | refine upd_alloc ?_ | refine upd_drew ?_ | refine upd_set ?_ (by simp)))) (fail)
  · clear HB
    obtain ⟨u, hu⟩ : ∃ u, u = ((wt.alloc (.cells #[.int .i64 x0, .int .i64 x1, .int .i64 x4] 110)).alloc (.cells #[.int .i64 x2, .int .i64 x3, .int .i64 x4] 110)).drew := ⟨_, rfl⟩
    have huu : Upd (fun _ => False) wt u := by rw [hu]; exact upd_drew (upd_alloc (Upd.alloc _ _ _))
    have hP : u.heap[wt.heap.size]? = some (.cells #[.int .i64 x0, .int .i64 x1, .int .i64 x4] 110 (0, 0)) := by
      rw [hu]; show ((wt.alloc _).alloc _).heap[wt.heap.size]? = _
      exact hpBlk (S := fun _ => False) (Upd.alloc _ _ _) (hpTop wt _ _ rfl) (fun h => h)
    have hQ : u.heap[wt.heap.size + 1]? = some (.cells #[.int .i64 x2, .int .i64 x3, .int .i64 x4] 110 (0, 0)) := by
      rw [hu]; show ((wt.alloc _).alloc _).heap[wt.heap.size + 1]? = _
      exact hpTop _ _ _ (by simp)
    have hus : wt.heap.size + 2 ≤ u.heap.size := by rw [hu]; simp
    obtain ⟨z, hz⟩ : ∃ z, z = u.alloc (.cells #[.int .i64 x0, .int .i64 x1, .int .i64 x4, .int .i64 x2, .int .i64 x3, .int .i64 x4] 110) := ⟨_, rfl⟩
    have hzu : Upd (fun _ => False) u z := by rw [hz]; exact Upd.alloc _ _ _
    have HSP : Hid (Sps z (.slice (some ⟨u.heap.size, 0, none⟩) 2 2) [⟨x0, x1, x4⟩, ⟨x2, x3, x4⟩]) := Lib.hid (by rw [hz]; exact sps2 (s := ⟨x0, x1, x4⟩) (u := ⟨x2, x3, x4⟩) (t := 110) (hpTop _ _ _ rfl))
    have HUZ := Lib.hid (HUT.out.trans (huu.trans hzu (fun _ h _ => h)) (fun _ h _ => h))
    have hws : w.heap.size ≤ wt.heap.size := HUT.out.size
    have hzP := hpBlk hzu hP (fun h => h)
    have hzQ := hpBlk hzu hQ (fun h => h)
    have HB : Hid (∀ v, Upd (fun k => TR (paint c w 9 k)) z v → (v.cell? ⟨wt.heap.size, 0, none⟩ = some (.int .i64 x0) ∧ v.cell? ⟨wt.heap.size, 1, none⟩ = some (.int .i64 x1) ∧ v.cell? ⟨wt.heap.size, 2, none⟩ = some (.int .i64 x4)) ∧ (v.cell? ⟨wt.heap.size + 1, 0, none⟩ = some (.int .i64 x2) ∧ v.cell? ⟨wt.heap.size + 1, 1, none⟩ = some (.int .i64 x3) ∧ v.cell? ⟨wt.heap.size + 1, 2, none⟩ = some (.int .i64 x4))) := Lib.hid (fun v hv => by
      obtain ⟨e0, e1, e2, -⟩ := three (keep9 (by omega) hzP hv)
      obtain ⟨d0, d1, d2, -⟩ := three (keep9 (by omega) hzQ hv)
      exact ⟨⟨e0, e1, e2⟩, d0, d1, d2⟩)
    have HUS : Hid (w.heap.size ≤ u.heap.size) := Lib.hid (by omega)
    obtain ⟨⟨b0, b1, b2⟩, d0, d1, d2⟩ : (u.cell? ⟨wt.heap.size, 0, none⟩ = some (.int .i64 x0) ∧ u.cell? ⟨wt.heap.size, 1, none⟩ = some (.int .i64 x1) ∧ u.cell? ⟨wt.heap.size, 2, none⟩ = some (.int .i64 x4)) ∧ (u.cell? ⟨wt.heap.size + 1, 0, none⟩ = some (.int .i64 x2) ∧ u.cell? ⟨wt.heap.size + 1, 1, none⟩ = some (.int .i64 x3) ∧ u.cell? ⟨wt.heap.size + 1, 2, none⟩ = some (.int .i64 x4)) := by
      obtain ⟨e0, e1, e2, -⟩ := three hP
      obtain ⟨d0, d1, d2, -⟩ := three hQ
      exact ⟨⟨e0, e1, e2⟩, d0, d1, d2⟩
    have HA := Lib.hid (aside3 H.out HT.out HX.out HV.out HUZ.out)
    have HWZ := Lib.hid hz
    rw [← hu]
    clear hu huu hP hQ hus hz hzu hws hzP hzQ
    go_wp2_with fail
    rw [← HWZ.out]
    refine (rTouch HA.out.2.2.1 _ _ HSP.out (fun k hk => by simp [Value.ownBlock] at hk; rw [← hk, paint_new c w 9 HUS.out]; omega) (by simp)).mono ?_
    rintro e w3 ⟨rfl, c3, hx3, ht3⟩
    clear b0 b1 b2 d0 d1 d2
    obtain ⟨⟨b0, b1, b2⟩, d0, d1, d2⟩ := HB.out _ (hx3.upd.mono (fun k hk _ => TR7 hk))
    have HX3 := Lib.hid hx3
    have HT3 := Lib.hid ht3
    clear hx3 ht3
    have HC : Hid (Calls Tryd.prog 48 #[.pointer (some ⟨rb, 0, none⟩), .int .i64 ap, .agg #[.int .i64 x0, .int .i64 x1, .int .i64 x4], .agg #[.int .i64 x2, .int .i64 x3, .int .i64 x4]] w3 fun e w' => e = .returned (.tuple #[.int .i32 (sameP M.hp.arrs ap ⟨x0, x1, x4⟩ ⟨x2, x3, x4⟩), .int .i64 (reachP M.hp.arrs ap [⟨x0, x1, x4⟩, ⟨x2, x3, x4⟩])]) ∧ Upd (fun _ => False) w3 w') :=
      Lib.hid (rSameS (HA.out.2.1.ext HX3.out (fun _ h => n17 h)) ap ⟨x0, x1, x4⟩ ⟨x2, x3, x4⟩ (show x1 ≤ 9223372036854775807 by omega) (show x3 ≤ 9223372036854775807 by omega))
    go_wp2_with fail
    refine HC.out.mono ?_
    rintro e w4 ⟨rfl, hu4⟩
    have HX4 := Lib.hid (Ext.quietT None0 c3 hu4)
    clear hu4
    go_wp2_with fail
    refine bodyPost_ret (v := .tuple #[.int .i32 (sameP M.hp.arrs ap ⟨x0, x1, x4⟩ ⟨x2, x3, x4⟩), .int .i64 (reachP M.hp.arrs ap [⟨x0, x1, x4⟩, ⟨x2, x3, x4⟩])]) (by simp only [results, Tryd.f14]; simp [go_sem]) rfl ?_
    exact ⟨rfl, c3, (HA.out.1.trans HX3.out (fun _ h => TR7 h)).trans HX4.out (fun _ h => h.elim), ((HA.out.2.1.ext HX3.out (fun _ h => n17 h)).ext HX4.out (fun _ _ h => h)), HT3.out.ext HX4.out (fun h => h)⟩
  · clear HB
    obtain ⟨u, hu⟩ : ∃ u, u = ((wt.alloc (.cells #[.int .i64 x2, .int .i64 x3, .int .i64 x4] 110)).alloc (.cells #[.int .i64 x0, .int .i64 x1, .int .i64 x4] 110)).drew := ⟨_, rfl⟩
    have huu : Upd (fun _ => False) wt u := by rw [hu]; exact upd_drew (upd_alloc (Upd.alloc _ _ _))
    have hQ : u.heap[wt.heap.size]? = some (.cells #[.int .i64 x2, .int .i64 x3, .int .i64 x4] 110 (0, 0)) := by
      rw [hu]; show ((wt.alloc _).alloc _).heap[wt.heap.size]? = _
      exact hpBlk (S := fun _ => False) (Upd.alloc _ _ _) (hpTop wt _ _ rfl) (fun h => h)
    have hP : u.heap[wt.heap.size + 1]? = some (.cells #[.int .i64 x0, .int .i64 x1, .int .i64 x4] 110 (0, 0)) := by
      rw [hu]; show ((wt.alloc _).alloc _).heap[wt.heap.size + 1]? = _
      exact hpTop _ _ _ (by simp)
    have hus : wt.heap.size + 2 ≤ u.heap.size := by rw [hu]; simp
    obtain ⟨z, hz⟩ : ∃ z, z = u.alloc (.cells #[.int .i64 x0, .int .i64 x1, .int .i64 x4, .int .i64 x2, .int .i64 x3, .int .i64 x4] 110) := ⟨_, rfl⟩
    have hzu : Upd (fun _ => False) u z := by rw [hz]; exact Upd.alloc _ _ _
    have HSP : Hid (Sps z (.slice (some ⟨u.heap.size, 0, none⟩) 2 2) [⟨x0, x1, x4⟩, ⟨x2, x3, x4⟩]) := Lib.hid (by rw [hz]; exact sps2 (s := ⟨x0, x1, x4⟩) (u := ⟨x2, x3, x4⟩) (t := 110) (hpTop _ _ _ rfl))
    have HUZ := Lib.hid (HUT.out.trans (huu.trans hzu (fun _ h _ => h)) (fun _ h _ => h))
    have hws : w.heap.size ≤ wt.heap.size := HUT.out.size
    have hzP := hpBlk hzu hP (fun h => h)
    have hzQ := hpBlk hzu hQ (fun h => h)
    have HB : Hid (∀ v, Upd (fun k => TR (paint c w 9 k)) z v → (v.cell? ⟨wt.heap.size + 1, 0, none⟩ = some (.int .i64 x0) ∧ v.cell? ⟨wt.heap.size + 1, 1, none⟩ = some (.int .i64 x1) ∧ v.cell? ⟨wt.heap.size + 1, 2, none⟩ = some (.int .i64 x4)) ∧ (v.cell? ⟨wt.heap.size, 0, none⟩ = some (.int .i64 x2) ∧ v.cell? ⟨wt.heap.size, 1, none⟩ = some (.int .i64 x3) ∧ v.cell? ⟨wt.heap.size, 2, none⟩ = some (.int .i64 x4))) := Lib.hid (fun v hv => by
      obtain ⟨e0, e1, e2, -⟩ := three (keep9 (by omega) hzP hv)
      obtain ⟨d0, d1, d2, -⟩ := three (keep9 (by omega) hzQ hv)
      exact ⟨⟨e0, e1, e2⟩, d0, d1, d2⟩)
    have HUS : Hid (w.heap.size ≤ u.heap.size) := Lib.hid (by omega)
    obtain ⟨⟨b0, b1, b2⟩, d0, d1, d2⟩ : (u.cell? ⟨wt.heap.size + 1, 0, none⟩ = some (.int .i64 x0) ∧ u.cell? ⟨wt.heap.size + 1, 1, none⟩ = some (.int .i64 x1) ∧ u.cell? ⟨wt.heap.size + 1, 2, none⟩ = some (.int .i64 x4)) ∧ (u.cell? ⟨wt.heap.size, 0, none⟩ = some (.int .i64 x2) ∧ u.cell? ⟨wt.heap.size, 1, none⟩ = some (.int .i64 x3) ∧ u.cell? ⟨wt.heap.size, 2, none⟩ = some (.int .i64 x4)) := by
      obtain ⟨e0, e1, e2, -⟩ := three hP
      obtain ⟨d0, d1, d2, -⟩ := three hQ
      exact ⟨⟨e0, e1, e2⟩, d0, d1, d2⟩
    have HA := Lib.hid (aside3 H.out HT.out HX.out HV.out HUZ.out)
    have HWZ := Lib.hid hz
    rw [← hu]
    clear hu huu hP hQ hus hz hzu hws hzP hzQ
    go_wp2_with fail
    rw [← HWZ.out]
    refine (rTouch HA.out.2.2.1 _ _ HSP.out (fun k hk => by simp [Value.ownBlock] at hk; rw [← hk, paint_new c w 9 HUS.out]; omega) (by simp)).mono ?_
    rintro e w3 ⟨rfl, c3, hx3, ht3⟩
    clear b0 b1 b2 d0 d1 d2
    obtain ⟨⟨b0, b1, b2⟩, d0, d1, d2⟩ := HB.out _ (hx3.upd.mono (fun k hk _ => TR7 hk))
    have HX3 := Lib.hid hx3
    have HT3 := Lib.hid ht3
    clear hx3 ht3
    have HC : Hid (Calls Tryd.prog 48 #[.pointer (some ⟨rb, 0, none⟩), .int .i64 ap, .agg #[.int .i64 x0, .int .i64 x1, .int .i64 x4], .agg #[.int .i64 x2, .int .i64 x3, .int .i64 x4]] w3 fun e w' => e = .returned (.tuple #[.int .i32 (sameP M.hp.arrs ap ⟨x0, x1, x4⟩ ⟨x2, x3, x4⟩), .int .i64 (reachP M.hp.arrs ap [⟨x0, x1, x4⟩, ⟨x2, x3, x4⟩])]) ∧ Upd (fun _ => False) w3 w') :=
      Lib.hid (rSameS (HA.out.2.1.ext HX3.out (fun _ h => n17 h)) ap ⟨x0, x1, x4⟩ ⟨x2, x3, x4⟩ (show x1 ≤ 9223372036854775807 by omega) (show x3 ≤ 9223372036854775807 by omega))
    go_wp2_with fail
    refine HC.out.mono ?_
    rintro e w4 ⟨rfl, hu4⟩
    have HX4 := Lib.hid (Ext.quietT None0 c3 hu4)
    clear hu4
    go_wp2_with fail
    refine bodyPost_ret (v := .tuple #[.int .i32 (sameP M.hp.arrs ap ⟨x0, x1, x4⟩ ⟨x2, x3, x4⟩), .int .i64 (reachP M.hp.arrs ap [⟨x0, x1, x4⟩, ⟨x2, x3, x4⟩])]) (by simp only [results, Tryd.f14]; simp [go_sem]) rfl ?_
    exact ⟨rfl, c3, (HA.out.1.trans HX3.out (fun _ h => TR7 h)).trans HX4.out (fun _ h => h.elim), ((HA.out.2.1.ext HX3.out (fun _ h => n17 h)).ext HX4.out (fun _ _ h => h)), HT3.out.ext HX4.out (fun h => h)⟩
end
end Go.Proofs.YtdmadfahgkikkaaDoor
/- Package room: what was told; the laws' known. -/
namespace Go.Proofs.YtdmadfahgkikkaaDoor
open Go.RowKit Go.Lib Go.ChangeShapes Go.WideShapes Go.Deep
set_option linter.unusedVariables false
set_option linter.unusedSimpArgs false

theorem i32_lit {w : World} {g n : Nat} {xs : List Int} {C : Array Value} {t : TypeId} (h : w.heap[g]? = some (.cells C t (0, 0))) (hC : C = (i32v xs).toArray) (hn : n = xs.length) (hl : n ≤ 100) (hx : ∀ x ∈ xs, -2147483648 ≤ x ∧ x ≤ 2147483647) : I32 w (.slice (some ⟨g, 0, none⟩) n n) xs := by
  subst hn
  refine ⟨hx, _, _, rfl, Nat.le_refl _, by unfold maxLen; omega, .inr ⟨g, 0, rfl, fun j hj => ?_⟩⟩
  simp [World.cell?, h, hC, i32v, List.getD, hj]
section
variable {c : Nat → Nat} {w : World} {rb : Nat} {M : RmM}
set_option maxRecDepth 100000 in
set_option maxHeartbeats 1000000 in
theorem rTold (h : Rm c w rb M) : Calls Tryd.prog 15 #[.pointer (some ⟨rb, 0, none⟩)] w fun e w' => ∃ p q, e = .returned (.tuple #[p, q]) ∧ Vw w' p M.pub ∧ Vw w' q M.sec ∧ Upd (fun _ => False) w w' := by
  obtain ⟨hb, iv, fv, pv, sv, ivs, fvs, h⟩ := h
  have HB : Hid (∀ u, Upd (fun _ => False) w u → u.cell? ⟨rb, 3, none⟩ = some pv ∧ u.cell? ⟨rb, 4, none⟩ = some sv) := Lib.hid (fun u hu => ⟨(h.quiet hu).bx.2.2.2.1, (h.quiet hu).bx.2.2.2.2.1⟩)
  have h1 := h.pb.1
  have h2 := h.sb.1
  have HP := Lib.hid (fun u (hu : Upd (fun _ => False) w u) => clone u pv M.pub (vw_of_row (h.quiet hu).pub h.pb.2) (by omega))
  have HQ := Lib.hid (fun u (hu : Upd (fun _ => False) w u) => clone u sv M.sec (vw_of_row (h.quiet hu).sec h.sb.2) (by omega))
  have HPB := Lib.hid h.pb.2
  have HSB := Lib.hid h.sb.2
  obtain ⟨pa, pc, rfl⟩ := ownsRow_slice h.pub
  obtain ⟨sa, sc, rfl⟩ := ownsRow_slice h.sec
  have HD := Lib.hid (Upd.drew (fun _ => False) w)
  clear h
  go_enter Tryd.func15, Tryd.ntmps15
  go_wp2_with fail
  go_region_held3 (fun w' => w'.cell? ⟨rb, 3, none⟩ = some (.slice pa M.pub.length pc) ∧ w'.cell? ⟨rb, 4, none⟩ = some (.slice sa M.sec.length sc)) (first
    | with_reducible exact HB.out _ HX2.out
    | with_reducible exact HB.out _ HX1.out
    | with_reducible exact HB.out _ HD.out) (first
    | (go_at_call 50; (with_reducible refine (HP.out _ HD.out).mono ?_); rintro e w1 ⟨x1, rfl, hn⟩; have HX1 := Lib.hid (HD.out.trans hn.2.1 (fun _ h _ => h)); have HV1 := Lib.hid (hn.vw HPB.out); obtain ⟨xa, xc, rfl⟩ := ownsRow_slice hn.1; clear hn)
    | (go_at_call 50; (with_reducible refine (HQ.out _ HX1.out).mono ?_); rintro e w2 ⟨x2, rfl, hn⟩; have HX2 := Lib.hid (HX1.out.trans hn.2.1 (fun _ h _ => h)); have HV2 := Lib.hid (hn.vw HSB.out); have hv1 := HV1.out.upd hn.2.1 (fun _ _ h => h); have HV3 := Lib.hid hv1; obtain ⟨ya, yc, rfl⟩ := ownsRow_slice hn.1; clear hn hv1))
  all_goals
    go_wp2_with fail
    refine bodyPost_ret (v := .tuple #[.slice xa M.pub.length xc, .slice ya M.sec.length yc]) (by simp only [results, Tryd.f15]; simp [go_sem]) rfl ?_
    exact ⟨_, _, rfl, HV3.out, HV2.out, HX2.out⟩
end
theorem Ext.up0 {c c' : Nat → Nat} {w w' : World} (h : Ext None0 c w c' w') : Upd (fun _ => False) w w' := h.upd.mono (fun _ h _ => h.elim)
/-- nothing of W is turned -/
theorem Ext.upW {T : Nat → Prop} {c c' : Nat → Nat} {W w w' : World} (h0 : Upd (fun _ => False) W w) (hc : ∀ k, k < W.heap.size → c k = 0) (h : Ext T c w c' w') (hT : ¬ T 0) : Upd (fun _ => False) W w' ∧ ∀ k, k < W.heap.size → c' k = 0 :=
  ⟨h0.trans h.upd (fun k hk hl => hT (by rw [hc k hl] at hk; exact hk)), fun k hk => (h.same k (Nat.lt_of_lt_of_le hk h0.size)).trans (hc k hk)⟩
def zero0 (_ : Nat) : Nat := 0
set_option maxRecDepth 100000 in
set_option maxHeartbeats 2000000 in
theorem known12 (w : World) : Calls Tryd.prog 8 #[] w fun e w' => e = .returned (.bool true) ∧ Upd (fun _ => False) w w' := by
  have h7 : si 7#32 = 7 := by decide +kernel
  have h0 : si 0#32 = 0 := by decide +kernel
  have h2 : si 2#32 = 2 := by decide +kernel
  have h3 : si (bDiv 7#32 2#32) = 3 := by decide +kernel
  have hz0 : bZero 0#32 = false := by decide +kernel
  have hz2 : bZero 2#32 = true := by decide +kernel
  have HN := Lib.hid (rNewRoom zero0 100 w (by omega) (by omega))
  have H7 := Lib.hid h7; have H0 := Lib.hid h0; have H2 := Lib.hid h2; have H3 := Lib.hid h3; have HZ0 := Lib.hid hz0; have HZ2 := Lib.hid hz2
  clear h7 h0 h2 h3 hz0 hz2
  go_enter Tryd.func8, Tryd.ntmps8
  go_wp2_with fail
  refine HN.out.mono ?_
  rintro e w1 ⟨rb, c1, rfl, hx, hr⟩
  obtain ⟨hu1, hc1⟩ := hx.upW (Upd.refl _ w) (fun _ _ => rfl) (fun h => h)
  have HU1 := Lib.hid hu1
  have HC1 := Lib.hid hc1
  have HR1 := Lib.hid hr
  clear hx hr hu1 hc1
  obtain ⟨wa, hwa⟩ : ∃ wa, wa = w1.alloc (.cells #[.int .i32 7, .int .i32 0] 21) := ⟨_, rfl⟩
  have ha1 : Upd (fun _ => False) w1 wa := by rw [hwa]; exact Upd.alloc _ _ _
  have hqa : wa.heap[w1.heap.size]? = some (.cells #[.int .i32 7, .int .i32 0] 21 (0, 0)) := by rw [hwa]; exact hpTop _ _ _ rfl
  have HE1 := Lib.hid (Ext.made None0 9 (c := c1) ha1)
  have HS1 : Hid (Calls Tryd.prog 14 #[.pointer (some ⟨rb, 0, none⟩), .pointer none, .int .i64 0, .int .i64 17, .int .i64 0, .int .i64 0, .slice (some ⟨w1.heap.size, 0, none⟩) 2 2] wa fun e w' => Served (paint c1 w1 9) wa rb (.pointer none) ⟨0, 28419, noRoom 100⟩ none e w') := Lib.hid
    (sv17n (HR1.out.ext HE1.out (fun _ _ h => h)) (show TrO (paint c1 w1 9) wa (.pointer none) none from rfl) 0 0 0 _ 7#32 0#32 (i32_lit hqa (by rw [H7.out, H0.out]; rfl) rfl (show 2 ≤ 100 by omega) (by rw [H7.out, H0.out]; simp)) HZ0.out (fun k hk => by simp [Value.ownBlock] at hk; rw [← hk, paint_new _ _ _ (Nat.le_refl _)]; exact nR9))
  have HWA := Lib.hid hwa
  clear hwa ha1 hqa
  go_wp2_with fail
  rw [← HWA.out]
  refine HS1.out.mono ?_
  rintro e w2 ⟨rfl, c2, hx, hr, -⟩
  obtain ⟨hua, hca⟩ := HE1.out.upW HU1.out HC1.out (fun h => h)
  obtain ⟨hu2, hc2⟩ := hx.upW hua hca (by simp [TR])
  have HU2 := Lib.hid hu2
  have HC2 := Lib.hid hc2
  have HR2 := Lib.hid hr
  clear hx hr hu2 hc2 hua hca HS1
  obtain ⟨wb, hwb⟩ : ∃ wb, wb = w2.alloc (.cells #[.int .i32 7, .int .i32 2] 21) := ⟨_, rfl⟩
  have ha1 : Upd (fun _ => False) w2 wb := by rw [hwb]; exact Upd.alloc _ _ _
  have hqa : wb.heap[w2.heap.size]? = some (.cells #[.int .i32 7, .int .i32 2] 21 (0, 0)) := by rw [hwb]; exact hpTop _ _ _ rfl
  have HE2 := Lib.hid (Ext.made None0 9 (c := c2) ha1)
  have HS2 : Hid (Calls Tryd.prog 14 #[.pointer (some ⟨rb, 0, none⟩), .pointer none, .int .i64 0, .int .i64 17, .int .i64 0, .int .i64 0, .slice (some ⟨w2.heap.size, 0, none⟩) 2 2] wb fun e w' => Served (paint c2 w2 9) wb rb (.pointer none) ⟨3, 36864, noRoom 100⟩ none e w') := Lib.hid (by
    have := sv17y (HR2.out.ext HE2.out (fun _ _ h => h)) (show TrO (paint c2 w2 9) wb (.pointer none) none from rfl) 0 0 0 _ 7#32 2#32 (i32_lit hqa (by rw [H7.out, H2.out]; rfl) rfl (show 2 ≤ 100 by omega) (by rw [H7.out, H2.out]; simp)) HZ2.out (fun k hk => by simp [Value.ownBlock] at hk; rw [← hk, paint_new _ _ _ (Nat.le_refl _)]; exact nR9)
    rw [H3.out] at this
    exact this)
  have HWB := Lib.hid hwb
  clear hwb ha1 hqa
  go_wp2_with fail
  rw [← HWB.out]
  refine HS2.out.mono ?_
  rintro e w3 ⟨rfl, c3, hx, hr, -⟩
  obtain ⟨hua, hca⟩ := HE2.out.upW HU2.out HC2.out (fun h => h)
  obtain ⟨hu3, -⟩ := hx.upW hua hca (by simp [TR])
  have HU3 := Lib.hid hu3
  clear hx hr hu3 hua hca HS2
  go_wp2_with fail
  go_ret
  exact ⟨rfl, HU3.out⟩
end Go.Proofs.YtdmadfahgkikkaaDoor

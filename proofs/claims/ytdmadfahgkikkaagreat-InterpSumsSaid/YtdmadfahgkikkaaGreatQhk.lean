/- Package room: what is sent. -/
import Derived.Test.YtdmadfahgkikkaaGreatQek
import Derived.Test.YtdmadfahgkikkaaGreatRl
import Derived.Deep.QuietTactic
namespace Go.Proofs.YtdmadfahgkikkaaGreat
open Go.RowKit Go.Lib Go.ChangeShapes Go.WideShapes Go.Deep
set_option linter.unusedVariables false
set_option linter.unusedSimpArgs false

def TP (i : Nat) : Prop := i = 2 ∨ i = 5
def TQ (i : Nat) : Prop := i = 2 ∨ i = 6
theorem RmAt.tellPub {c : Nat → Nat} {w w1 : World} {rb hb : Nat} {iv fv pv sv v' : Value} {ivs fvs : List Value} {M : RmM} {xs : List Int} (h : RmAt c w rb hb iv fv pv sv ivs fvs M)
    (ho : w1.ownsRow 0 5 1 v' (M.pub.length + xs.length) (bv M.pub ++ bv xs)) (hg : w.grownBy w1 pv.ownBlock) (hf : Fresh w pv v') (hx : ∀ y ∈ xs, 0 ≤ y ∧ y ≤ 255) (hl : M.pub.length + xs.length ≤ 128) :
    Ext TP c w (paint c w 5) (w1.setCell ⟨rb, 3, none⟩ v') ∧ RmAt (paint c w 5) (w1.setCell ⟨rb, 3, none⟩ v') rb hb iv fv v' sv ivs fvs (M.withPub (M.pub ++ xs)) := by
  have hu1 : Upd (fun k => pv.ownBlock = some k) w w1 := Upd.grown (S := fun k => pv.ownBlock = some k) hg (fun k hk => .inl hk)
  have hrb : rb < w.heap.size := (Array.getElem?_eq_some_iff.1 h.box).1
  have hcol0 : ∀ k, v'.ownBlock = some k → paint c w 5 k = 5 := fun k hk => by
    rcases hf k hk with h1 | h1
    · rw [paint_old c w 5 (hpRowLt h.pub k h1)]; exact h.cp k h1
    · exact paint_new c w 5 h1
  have hne : ∀ k, v'.ownBlock = some k → ¬ k = rb := fun k hk e => by
    have h1 := hcol0 k hk
    rw [e, paint_old c w 5 hrb, h.cb] at h1
    omega
  have hb1 : w1.heap[rb]? = some (.cells #[iv, fv, .pointer (some ⟨hb, 0, none⟩), pv, sv] 83 (0, 0)) := hpBlk hu1 h.box (fun e => by
    have h1 := h.cp rb e
    rw [h.cb] at h1
    omega)
  have hu2 : Upd (fun k => k = rb) w1 (w1.setCell ⟨rb, 3, none⟩ v') := Upd.setCell (S := fun k => k = rb) w1 (.inl rfl) _
  have E : Ext TP c w (paint c w 5) (w1.setCell ⟨rb, 3, none⟩ v') := ⟨fun k hk => paint_old c w 5 hk, (hu1.mono (T := fun k => TP (c k)) (fun k hk _ => by rw [h.cp k hk]; simp [TP])).trans (hu2.mono (T := fun k => TP (c k)) (fun k hk _ => by rw [hk, h.cb]; simp [TP])) (fun k hk _ => hk)⟩
  have hrow : w1.ownsRow 0 5 1 v' (M.pub ++ xs).length (bv (M.pub ++ xs)) := by rw [List.length_append, bv_append]; exact ho
  have hrow2 := ownsRow_upd hrow hu2 hne
  have hby : ∀ y ∈ M.pub ++ xs, 0 ≤ y ∧ y ≤ 255 := fun y hy => by
    rcases List.mem_append.1 hy with h1 | h1
    · exact h.pb.2 y h1
    · exact hx y h1
  have hcol : ∀ k, v'.ownBlock = some k → paint c w 5 k = 5 := hcol0
  refine ⟨E, ?_⟩
  exact ⟨by simp [World.setCell, Array.getElem?_modify, hb1], E.hep h.hp (by simp [TP]), h.ok, E.row h.imgs (fun k hk => by rw [h.ci k hk]; simp [TP]), E.row h.flds (fun k hk => by rw [h.cf k hk]; simp [TP]),
    fun i hi => E.row (h.fld i hi) (fun k hk => by rw [h.cx i k hi hk]; simp [TP]; omega), hrow2, E.row h.sec (fun k hk => by rw [h.cs k hk]; simp [TP]), ⟨by show (M.pub ++ xs).length ≤ 128; simpa using hl, hby⟩, h.sb, h.i1, h.f1,
    E.col hrb h.cb, fun k hk => E.col (hpRowLt h.imgs k hk) (h.ci k hk), fun k hk => E.col (hpRowLt h.flds k hk) (h.cf k hk), hcol, fun k hk => E.col (hpRowLt h.sec k hk) (h.cs k hk),
    fun i k hi hk => E.col (hpRowLt (h.fld i hi) k hk) (h.cx i k hi hk), h.fl, h.es⟩
theorem RmAt.tellSec {c : Nat → Nat} {w w1 : World} {rb hb : Nat} {iv fv pv sv v' : Value} {ivs fvs : List Value} {M : RmM} {xs : List Int} (h : RmAt c w rb hb iv fv pv sv ivs fvs M)
    (ho : w1.ownsRow 0 5 1 v' (M.sec.length + xs.length) (bv M.sec ++ bv xs)) (hg : w.grownBy w1 sv.ownBlock) (hf : Fresh w sv v') (hx : ∀ y ∈ xs, 0 ≤ y ∧ y ≤ 255) (hl : M.sec.length + xs.length ≤ 128) :
    Ext TQ c w (paint c w 6) (w1.setCell ⟨rb, 4, none⟩ v') ∧ RmAt (paint c w 6) (w1.setCell ⟨rb, 4, none⟩ v') rb hb iv fv pv v' ivs fvs (M.withSec (M.sec ++ xs)) := by
  have hu1 : Upd (fun k => sv.ownBlock = some k) w w1 := Upd.grown (S := fun k => sv.ownBlock = some k) hg (fun k hk => .inl hk)
  have hrb : rb < w.heap.size := (Array.getElem?_eq_some_iff.1 h.box).1
  have hcol0 : ∀ k, v'.ownBlock = some k → paint c w 6 k = 6 := fun k hk => by
    rcases hf k hk with h1 | h1
    · rw [paint_old c w 6 (hpRowLt h.sec k h1)]; exact h.cs k h1
    · exact paint_new c w 6 h1
  have hne : ∀ k, v'.ownBlock = some k → ¬ k = rb := fun k hk e => by
    have h1 := hcol0 k hk
    rw [e, paint_old c w 6 hrb, h.cb] at h1
    omega
  have hb1 : w1.heap[rb]? = some (.cells #[iv, fv, .pointer (some ⟨hb, 0, none⟩), pv, sv] 83 (0, 0)) := hpBlk hu1 h.box (fun e => by
    have h1 := h.cs rb e
    rw [h.cb] at h1
    omega)
  have hu2 : Upd (fun k => k = rb) w1 (w1.setCell ⟨rb, 4, none⟩ v') := Upd.setCell (S := fun k => k = rb) w1 (.inl rfl) _
  have E : Ext TQ c w (paint c w 6) (w1.setCell ⟨rb, 4, none⟩ v') := ⟨fun k hk => paint_old c w 6 hk, (hu1.mono (T := fun k => TQ (c k)) (fun k hk _ => by rw [h.cs k hk]; simp [TQ])).trans (hu2.mono (T := fun k => TQ (c k)) (fun k hk _ => by rw [hk, h.cb]; simp [TQ])) (fun k hk _ => hk)⟩
  have hrow : w1.ownsRow 0 5 1 v' (M.sec ++ xs).length (bv (M.sec ++ xs)) := by rw [List.length_append, bv_append]; exact ho
  have hrow2 := ownsRow_upd hrow hu2 hne
  have hby : ∀ y ∈ M.sec ++ xs, 0 ≤ y ∧ y ≤ 255 := fun y hy => by
    rcases List.mem_append.1 hy with h1 | h1
    · exact h.sb.2 y h1
    · exact hx y h1
  have hcol : ∀ k, v'.ownBlock = some k → paint c w 6 k = 6 := hcol0
  refine ⟨E, ?_⟩
  exact ⟨by simp [World.setCell, Array.getElem?_modify, hb1], E.hep h.hp (by simp [TQ]), h.ok, E.row h.imgs (fun k hk => by rw [h.ci k hk]; simp [TQ]), E.row h.flds (fun k hk => by rw [h.cf k hk]; simp [TQ]),
    fun i hi => E.row (h.fld i hi) (fun k hk => by rw [h.cx i k hi hk]; simp [TQ]; omega), E.row h.pub (fun k hk => by rw [h.cp k hk]; simp [TQ]), hrow2, h.pb, ⟨by show (M.sec ++ xs).length ≤ 128; simpa using hl, hby⟩, h.i1, h.f1,
    E.col hrb h.cb, fun k hk => E.col (hpRowLt h.imgs k hk) (h.ci k hk), fun k hk => E.col (hpRowLt h.flds k hk) (h.cf k hk), fun k hk => E.col (hpRowLt h.pub k hk) (h.cp k hk), hcol,
    fun i k hi hk => E.col (hpRowLt (h.fld i hi) k hk) (h.cx i k hi hk), h.fl, h.es⟩
def toldP (M : RmM) (a : Int) : List Int := if a = 1 then M.pub else M.sec
def sendS (M : RmM) (ap a : Int) (s : SpM) : Int := if rngP M.hp.arrs s.ref s.at_ s.n ap = 36864 then (if 128 < ((toldP M a).length : Int) + s.n then 28425 else 36864) else rngP M.hp.arrs s.ref s.at_ s.n ap
def sendM (M : RmM) (ap a : Int) (s : SpM) : RmM := if sendS M ap a s = 36864 then (if a = 1 then M.withPub (M.pub ++ cutP M.hp.arrs s.ref s.at_ s.n) else M.withSec (M.sec ++ cutP M.hp.arrs s.ref s.at_ s.n)) else M
section
variable {c : Nat → Nat} {w : World} {rb : Nat} {M : RmM}
set_option maxRecDepth 100000 in
set_option maxHeartbeats 4000000 in
theorem rSendP (h : Rm c w rb M) (ap a : Int) (s : SpM) (ha : s.at_ ≤ 9223372036854775807) (hA : a = 1) :
    Calls Tryz.prog 85 #[.pointer (some ⟨rb, 0, none⟩), .int .i64 ap, .int .i64 a, .agg #[.int .i64 s.ref, .int .i64 s.at_, .int .i64 s.n]] w fun e w' => e = .returned (.int .i64 (sendS M ap a s)) ∧ ∃ c', Ext TP c w c' w' ∧ Rm c' w' rb (sendM M ap a s) := by
  obtain ⟨w1, hw1⟩ : ∃ w1, w1 = (w.alloc (.cells #[.int .i64 s.ref, .int .i64 s.at_, .int .i64 s.n] 132)).alloc (.cells #[.int .i64 s.ref, .int .i64 s.at_, .int .i64 s.n] 132) := ⟨_, rfl⟩
  obtain ⟨hu1, hx1, hs1⟩ := box1 (s := s) hw1
  have HR := Lib.hid (rReach (h.quiet hu1) ap _ _ hs1 (by simp) (by simpa using ha))
  rw [reach1] at HR
  have HX := Lib.hid hx1
  have HU1 := Lib.hid hu1
  have HW1 := Lib.hid hw1
  have H := Lib.hid h
  have HA := Lib.hid hA
  obtain ⟨hb, iv, fv, pv, sv, ivs, fvs, h⟩ := h
  have hml := h.pb.1
  have HH := Lib.hid h
  obtain ⟨va, vc, hve⟩ := ownsRow_slice h.pub
  have HVE := Lib.hid hve
  have hbq : (a == 1) = true := by simpa using hA
  have HG := Lib.hid (show sendS M ap a s = if rngP M.hp.arrs s.ref s.at_ s.n ap = 36864 then (if 128 < ((toldP M a).length : Int) + s.n then 28425 else 36864) else rngP M.hp.arrs s.ref s.at_ s.n ap from rfl)
  have HM := Lib.hid (show sendM M ap a s = if sendS M ap a s = 36864 then (if a = 1 then M.withPub (M.pub ++ cutP M.hp.arrs s.ref s.at_ s.n) else M.withSec (M.sec ++ cutP M.hp.arrs s.ref s.at_ s.n)) else M from rfl)
  have HT : Hid (toldP M a = M.pub) := Lib.hid (by unfold toldP; rw [if_pos hA])
  have HB : Hid (∀ v, Upd (fun k => paint c w 9 k = 5) w1 v → v.cell? ⟨rb, 3, none⟩ = some pv ∧ v.cell? ⟨w.heap.size, 0, none⟩ = some (.int .i64 s.ref) ∧ v.cell? ⟨w.heap.size, 1, none⟩ = some (.int .i64 s.at_) ∧ v.cell? ⟨w.heap.size, 2, none⟩ = some (.int .i64 s.n)) :=
    Lib.hid (fun v hu => by
      obtain ⟨e0, e1, e2, -⟩ := three (hpBlk hu HX.out (by rw [paint_new c w 9 (Nat.le_refl _)]; omega))
      have hr := (h.aside HU1.out).box
      have hc := (h.aside HU1.out).cb
      have h5 := five (hpBlk hu hr (by rw [hc]; omega))
      exact ⟨h5.2.2.2.1, e0, e1, e2⟩)
  have HFR : Hid (∀ v, Upd (fun k => paint c w 9 k = 5) w1 v → v.frozen? ⟨rb, 3, none⟩ = false) :=
    Lib.hid (fun v hu => by
      have hr := (h.aside HU1.out).box
      have hc := (h.aside HU1.out).cb
      exact (five (hpBlk hu hr (by rw [hc]; omega))).2.2.2.2.2 3)
  rw [HT.out] at HG
  rw [hve] at HB
  clear hu1 hx1 hs1 hw1 hA h hve HT
  generalize hS : sendS M ap a s = S0 at *
  have HS0 := Lib.hid hS
  clear hS
  generalize sendM M ap a s = g at *
  rcases fine_or (rngP M.hp.arrs s.ref s.at_ s.n ap) with e | ⟨e1, e2⟩
  · obtain ⟨ref, at_, n⟩ := s
    simp only at e HG HM HR HX HB HW1 ha ⊢
    obtain ⟨i, a', k, hi, rfl, rfl, rfl, hak, -⟩ := rng_fine e
    have hdl := hep_dl HH.out.hp hi
    have hcut : cutP M.hp.arrs ((i : Int) + 1) a' k = ((M.hp.arrs.getD i default).data.drop a').take k := by unfold cutP; rw [show ((i : Int) + 1 - 1).toNat = i by omega]; rfl
    have HCT := Lib.hid hcut
    have HRD := Lib.hid (fun v (hu : Upd (fun _ => False) w v) => rRead (H.out.quiet hu) hi hak)
    obtain ⟨xs, hxs⟩ : ∃ xs, xs = ((M.hp.arrs.getD i default).data.drop a').take k := ⟨_, rfl⟩
    have hxl : xs.length = k := by rw [hxs, List.length_take, List.length_drop]; omega
    rw [← hxs] at HRD HCT
    clear hcut hxs
    have HXL := Lib.hid hxl
    rw [if_pos e] at HG
    rw [e] at HR
    have hwk : IntKind.i64.wrap ((M.pub.length : Int) + (k : Int)) = (M.pub.length : Int) + (k : Int) := IntWalk.i64_in _ (by omega)
    have hk64 : k ≤ 64 := by omega
    clear e ha hak hdl hxl
    by_cases hfull : 128 < (M.pub.length : Int) + (k : Int)
    · have hs0 : S0 = 28425 := by rw [HG.out, if_pos hfull]
      subst hs0
      have hg : g = M := by rw [HM.out, if_neg (by decide)]
      subst hg
      clear HG HM HRD
      go_enter Tryz.func85, Tryz.ntmps85
      go_wp2_with fail
      rw [← HW1.out]
      refine HR.out.mono ?_
      rintro e w2 ⟨rfl, hu⟩
      have HX2 := Lib.hid hu
      have HD : Hid (Upd (fun k => paint c w 9 k = 5) w1 w2.drew) := Lib.hid ((hu.trans (Upd.drew (fun _ => False) w2) (fun _ h _ => h)).mono (fun _ h _ => h.elim))
      obtain ⟨b0, b1, b2, b3⟩ := HB.out _ (hu.mono (T := fun k => paint c w 9 k = 5) (fun _ h _ => h.elim))
      clear hu
      go_wp2_with fail
      go_quiet (fail)
      go_wp2_with fail
      go_ret
      exact ⟨rfl, c, Ext.quietT _ c (HU1.out.trans (HX2.out.trans (hpDrewN (fun _ => False) w2 nq) (fun _ h _ => h)) (fun _ h _ => h)), H.out.quiet (HU1.out.trans (HX2.out.trans (hpDrewN (fun _ => False) w2 nq) (fun _ h _ => h)) (fun _ h _ => h))⟩
    · have hs0 : S0 = 36864 := by rw [HG.out, if_neg hfull]
      subst hs0
      have hg : g = M.withPub (M.pub ++ xs) := by rw [HM.out, if_pos rfl, if_pos HA.out, HCT.out]
      have HGG := Lib.hid hg
      clear HG HM hg HCT HA
      obtain ⟨i0, hi0, hz0, hz1, hz2⟩ := info_parts info5
      go_enter Tryz.func85, Tryz.ntmps85
      go_wp2_with fail
      rw [← HW1.out]
      refine HR.out.mono ?_
      rintro e w2 ⟨rfl, hu⟩
      have HX2 := Lib.hid hu
      have HD : Hid (Upd (fun k => paint c w 9 k = 5) w1 w2.drew) := Lib.hid ((hu.trans (Upd.drew (fun _ => False) w2) (fun _ h _ => h)).mono (fun _ h _ => h.elim))
      obtain ⟨b0, b1, b2, b3⟩ := HB.out _ (hu.mono (T := fun k => paint c w 9 k = 5) (fun _ h _ => h.elim))
      clear hu
      go_wp2_with fail
      go_quiet (fail)
      clear b0 b1 b2 b3
      go_upto_region 9 with fail
      have HZ : Hid (Upd (fun _ => False) w2 (w2.drewN nq).drew) := Lib.hid ((hpDrewN (fun _ => False) w2 nq).trans (Upd.drew _ _) (fun _ h _ => h))
      have HD : Hid (Upd (fun k => paint c w 9 k = 5) w1 (w2.drewN nq).drew) := Lib.hid ((HX2.out.trans HZ.out (fun _ h _ => h)).mono (fun _ h _ => h.elim))
      have HUD : Hid (Upd (fun _ => False) w (w2.drewN nq).drew) := Lib.hid (HU1.out.trans (HX2.out.trans HZ.out (fun _ h _ => h)) (fun _ h _ => h))
      have hHeld : (fun w' : World => w'.cell? ⟨rb, 3, none⟩ = some (.slice va M.pub.length vc) ∧ w'.cell? ⟨w.heap.size, 0, none⟩ = some (.int .i64 ((i : Int) + 1)) ∧ w'.cell? ⟨w.heap.size, 1, none⟩ = some (.int .i64 a') ∧ w'.cell? ⟨w.heap.size, 2, none⟩ = some (.int .i64 k)) (w2.drewN nq).drew := HB.out _ HD.out
      refine wp_region_last (S := fun w' => w'.cell? ⟨rb, 3, none⟩ = some (.slice va M.pub.length vc) ∧ w'.cell? ⟨w.heap.size, 0, none⟩ = some (.int .i64 ((i : Int) + 1)) ∧ w'.cell? ⟨w.heap.size, 1, none⟩ = some (.int .i64 a') ∧ w'.cell? ⟨w.heap.size, 2, none⟩ = some (.int .i64 k)) 9 _ (by kernel_rfl) (by kernel_rfl) rfl ?_
      change wpHL _ _ _ _ _ _ _ _ _ _ (w2.drewN nq).drew
      refine wpHL_take (i := 0) (v := ?_) rfl (by kernel_rfl) (fun _ _ _ h => h) hHeld (Or.inl ⟨by rfl, ?_⟩) ?_
      rotate_left
      · (intro w hSw; obtain ⟨y0, y1, y2, y3⟩ := hSw; go_simp; try with_reducible rfl)
      try simp only [Act.put, List.getElem_toArray, List.getElem_cons_succ, List.getElem_cons_zero, List.setIfInBounds_toArray, List.set_cons_zero, List.set_cons_succ]
      refine wpHL_take (i := 1) (v := ?_) rfl (by kernel_rfl) (fun _ _ _ h => h) hHeld (Or.inl ⟨by rfl, ?_⟩) ?_
      rotate_left
      · (intro w hSw; obtain ⟨y0, y1, y2, y3⟩ := hSw; go_simp; try with_reducible rfl)
      try simp only [Act.put, List.getElem_toArray, List.getElem_cons_succ, List.getElem_cons_zero, List.setIfInBounds_toArray, List.set_cons_zero, List.set_cons_succ]
      refine wpHL_take (i := 2) (v := ?_) rfl (by kernel_rfl) (fun _ _ _ h => h) hHeld (Or.inl ⟨by rfl, ?_⟩) ?_
      rotate_left
      · (intro w hSw; obtain ⟨y0, y1, y2, y3⟩ := hSw; go_simp; try with_reducible rfl)
      try simp only [Act.put, List.getElem_toArray, List.getElem_cons_succ, List.getElem_cons_zero, List.setIfInBounds_toArray, List.set_cons_zero, List.set_cons_succ]
      refine wpHL_take (i := 3) (v := ?_) rfl (by kernel_rfl) (fun _ _ _ h => h) hHeld (Or.inl ⟨by rfl, ?_⟩) ?_
      rotate_left
      · (intro w hSw; obtain ⟨y0, y1, y2, y3⟩ := hSw; go_simp; try with_reducible rfl)
      try simp only [Act.put, List.getElem_toArray, List.getElem_cons_succ, List.getElem_cons_zero, List.setIfInBounds_toArray, List.set_cons_zero, List.set_cons_succ]
      refine wpHL_take (i := 4) (v := ?_) rfl (by kernel_rfl) (fun _ _ _ h => h) hHeld (Or.inl ⟨by rfl, ?_⟩) ?_
      rotate_left
      · (intro w hSw; obtain ⟨y0, y1, y2, y3⟩ := hSw; go_simp; try with_reducible rfl)
      try simp only [Act.put, List.getElem_toArray, List.getElem_cons_succ, List.getElem_cons_zero, List.setIfInBounds_toArray, List.set_cons_zero, List.set_cons_succ]
      refine wpHL_take (i := 5) (v := ?_) rfl (by kernel_rfl) (fun _ _ _ h => h) hHeld (Or.inl ⟨by rfl, ?_⟩) ?_
      rotate_left
      · (intro w hSw; obtain ⟨y0, y1, y2, y3⟩ := hSw; go_simp; try with_reducible rfl)
      try simp only [Act.put, List.getElem_toArray, List.getElem_cons_succ, List.getElem_cons_zero, List.setIfInBounds_toArray, List.set_cons_zero, List.set_cons_succ]
      refine wpHL_step (i := 6) rfl (by kernel_rfl) (by decide) (fun K hK => ?_)
      have HKK := Lib.hid hK
      clear hK hHeld
      go_simp
      refine (HRD.out _ HUD.out).mono ?_
      rintro e w3 ⟨x3, rfl, hv, hu, hnb⟩
      obtain ⟨xa, xc, rfl, -, -⟩ := hv.slice
      have HUD3 := Lib.hid (HUD.out.trans hu (fun _ h _ => h))
      have HD3 : Hid (Upd (fun k => paint c w 9 k = 5) w1 w3) := Lib.hid (HD.out.trans (hu.mono (T := fun k => paint c w 9 k = 5) (fun _ h _ => h.elim)) (fun _ h _ => h))
      have H3 := Lib.hid (HH.out.aside HUD3.out)
      have HROW := Lib.hid H3.out.pub
      rw [HVE.out] at HROW
      have HSRC := Lib.hid hv.src
      have HBY := Lib.hid hv.1
      clear hv hu hnb
      go_simp
      have hHeld := HB.out _ HD3.out
      refine HKK.out _ _ hHeld ?_
      clear HKK hHeld
      try simp only [Act.put, List.getElem_toArray, List.getElem_cons_succ, List.getElem_cons_zero, List.setIfInBounds_toArray, List.set_cons_zero, List.set_cons_succ]
      refine wpHL_step (i := 7) rfl (by kernel_rfl) (by decide) (fun K hK => ?_)
      have HKK := Lib.hid hK
      clear hK
      have hx64 : xs.length ≤ 64 := by rw [HXL.out]; omega
      refine hpStep rfl (.tmp 40) (.tmp 43) 81 rfl 0 5 i0 (.int .u8 0) 1 1 Tryz.underlying81 hi0 hz0 hz1 hz2 rfl (by decide) (.slice va M.pub.length vc) M.pub.length (bv M.pub) rfl HROW.out xs.length (bv xs) HSRC.out (by unfold maxLen; omega) (by omega) (Nat.zero_le _) ?_
      intro v4 w4 ho hg hf
      obtain ⟨va4, vc4, rfl⟩ := ownsRow_slice ho
      have HTL := Lib.hid (RmAt.tellPub H3.out ho (by rw [HVE.out]; exact hg) (by rw [HVE.out]; exact hf) HBY.out (by rw [HXL.out]; omega))
      have hu4 : Upd (fun k => paint c w 9 k = 5) w3 w4 := (Upd.grown (S := fun k => (Value.slice va M.pub.length vc).ownBlock = some k) hg (fun k hk => .inl hk)).mono (fun k hk _ => H3.out.cp k (by rw [HVE.out]; exact hk))
      have HD4 := Lib.hid (HD3.out.trans hu4 (fun _ h _ => h))
      have f4 := HFR.out _ HD4.out
      have hHeld := HB.out _ HD4.out
      clear ho hg hf hu4
      refine HKK.out _ _ hHeld ?_
      clear HKK
      try simp only [Act.put, List.getElem_toArray, List.getElem_cons_succ, List.getElem_cons_zero, List.setIfInBounds_toArray, List.set_cons_zero, List.set_cons_succ]
      refine wpHL_take (i := 8) (v := ?_) rfl (by kernel_rfl) (fun _ _ _ h => h) hHeld (Or.inl ⟨by rfl, ?_⟩) ?_
      rotate_left
      · (intro w hSw; obtain ⟨y0, y1, y2, y3⟩ := hSw; go_simp; try with_reducible rfl)
      try simp only [Act.put, List.getElem_toArray, List.getElem_cons_succ, List.getElem_cons_zero, List.setIfInBounds_toArray, List.set_cons_zero, List.set_cons_succ]
      obtain ⟨b0, b1, b2, b3⟩ := hHeld
      refine wpHL_last (by kernel_rfl) ?_
      go_wp2_with fail
      go_ret
      rw [HGG.out]
      exact ⟨rfl, _, (Ext.made TP 9 HUD3.out).trans HTL.out.1 (fun _ h => h), _, _, _, _, _, _, _, HTL.out.2⟩
  · have hs0 : S0 = rngP M.hp.arrs s.ref s.at_ s.n ap := by rw [HG.out, if_neg e2]
    have hg : g = M := by rw [HM.out, if_neg (by rw [hs0]; exact e2)]
    subst hg
    rw [← hs0] at HR e1
    clear HG HM e2 HX hs0 HS0
    go_enter Tryz.func85, Tryz.ntmps85
    go_wp2_with fail
    rw [← HW1.out]
    refine HR.out.mono ?_
    rintro e w2 ⟨rfl, hu⟩
    have HX2 := Lib.hid (HU1.out.trans hu (fun _ h _ => h))
    clear hu
    go_wp2_with fail
    go_ret
    exact ⟨rfl, c, Ext.quietT _ c HX2.out, H.out.quiet HX2.out⟩
set_option maxRecDepth 100000 in
set_option maxHeartbeats 4000000 in
theorem rSendQ (h : Rm c w rb M) (ap a : Int) (s : SpM) (ha : s.at_ ≤ 9223372036854775807) (hA : ¬ a = 1) :
    Calls Tryz.prog 85 #[.pointer (some ⟨rb, 0, none⟩), .int .i64 ap, .int .i64 a, .agg #[.int .i64 s.ref, .int .i64 s.at_, .int .i64 s.n]] w fun e w' => e = .returned (.int .i64 (sendS M ap a s)) ∧ ∃ c', Ext TQ c w c' w' ∧ Rm c' w' rb (sendM M ap a s) := by
  obtain ⟨w1, hw1⟩ : ∃ w1, w1 = (w.alloc (.cells #[.int .i64 s.ref, .int .i64 s.at_, .int .i64 s.n] 132)).alloc (.cells #[.int .i64 s.ref, .int .i64 s.at_, .int .i64 s.n] 132) := ⟨_, rfl⟩
  obtain ⟨hu1, hx1, hs1⟩ := box1 (s := s) hw1
  have HR := Lib.hid (rReach (h.quiet hu1) ap _ _ hs1 (by simp) (by simpa using ha))
  rw [reach1] at HR
  have HX := Lib.hid hx1
  have HU1 := Lib.hid hu1
  have HW1 := Lib.hid hw1
  have H := Lib.hid h
  have HA := Lib.hid hA
  obtain ⟨hb, iv, fv, pv, sv, ivs, fvs, h⟩ := h
  have hml := h.sb.1
  have HH := Lib.hid h
  obtain ⟨va, vc, hve⟩ := ownsRow_slice h.sec
  have HVE := Lib.hid hve
  have hbq : (a == 1) = false := by simpa using hA
  have HG := Lib.hid (show sendS M ap a s = if rngP M.hp.arrs s.ref s.at_ s.n ap = 36864 then (if 128 < ((toldP M a).length : Int) + s.n then 28425 else 36864) else rngP M.hp.arrs s.ref s.at_ s.n ap from rfl)
  have HM := Lib.hid (show sendM M ap a s = if sendS M ap a s = 36864 then (if a = 1 then M.withPub (M.pub ++ cutP M.hp.arrs s.ref s.at_ s.n) else M.withSec (M.sec ++ cutP M.hp.arrs s.ref s.at_ s.n)) else M from rfl)
  have HT : Hid (toldP M a = M.sec) := Lib.hid (by unfold toldP; rw [if_neg hA])
  have HB : Hid (∀ v, Upd (fun k => paint c w 9 k = 6) w1 v → v.cell? ⟨rb, 4, none⟩ = some sv ∧ v.cell? ⟨w.heap.size, 0, none⟩ = some (.int .i64 s.ref) ∧ v.cell? ⟨w.heap.size, 1, none⟩ = some (.int .i64 s.at_) ∧ v.cell? ⟨w.heap.size, 2, none⟩ = some (.int .i64 s.n)) :=
    Lib.hid (fun v hu => by
      obtain ⟨e0, e1, e2, -⟩ := three (hpBlk hu HX.out (by rw [paint_new c w 9 (Nat.le_refl _)]; omega))
      have hr := (h.aside HU1.out).box
      have hc := (h.aside HU1.out).cb
      have h5 := five (hpBlk hu hr (by rw [hc]; omega))
      exact ⟨h5.2.2.2.2.1, e0, e1, e2⟩)
  have HFR : Hid (∀ v, Upd (fun k => paint c w 9 k = 6) w1 v → v.frozen? ⟨rb, 4, none⟩ = false) :=
    Lib.hid (fun v hu => by
      have hr := (h.aside HU1.out).box
      have hc := (h.aside HU1.out).cb
      exact (five (hpBlk hu hr (by rw [hc]; omega))).2.2.2.2.2 4)
  rw [HT.out] at HG
  rw [hve] at HB
  clear hu1 hx1 hs1 hw1 hA h hve HT
  generalize hS : sendS M ap a s = S0 at *
  have HS0 := Lib.hid hS
  clear hS
  generalize sendM M ap a s = g at *
  rcases fine_or (rngP M.hp.arrs s.ref s.at_ s.n ap) with e | ⟨e1, e2⟩
  · obtain ⟨ref, at_, n⟩ := s
    simp only at e HG HM HR HX HB HW1 ha ⊢
    obtain ⟨i, a', k, hi, rfl, rfl, rfl, hak, -⟩ := rng_fine e
    have hdl := hep_dl HH.out.hp hi
    have hcut : cutP M.hp.arrs ((i : Int) + 1) a' k = ((M.hp.arrs.getD i default).data.drop a').take k := by unfold cutP; rw [show ((i : Int) + 1 - 1).toNat = i by omega]; rfl
    have HCT := Lib.hid hcut
    have HRD := Lib.hid (fun v (hu : Upd (fun _ => False) w v) => rRead (H.out.quiet hu) hi hak)
    obtain ⟨xs, hxs⟩ : ∃ xs, xs = ((M.hp.arrs.getD i default).data.drop a').take k := ⟨_, rfl⟩
    have hxl : xs.length = k := by rw [hxs, List.length_take, List.length_drop]; omega
    rw [← hxs] at HRD HCT
    clear hcut hxs
    have HXL := Lib.hid hxl
    rw [if_pos e] at HG
    rw [e] at HR
    have hwk : IntKind.i64.wrap ((M.sec.length : Int) + (k : Int)) = (M.sec.length : Int) + (k : Int) := IntWalk.i64_in _ (by omega)
    have hk64 : k ≤ 64 := by omega
    clear e ha hak hdl hxl
    by_cases hfull : 128 < (M.sec.length : Int) + (k : Int)
    · have hs0 : S0 = 28425 := by rw [HG.out, if_pos hfull]
      subst hs0
      have hg : g = M := by rw [HM.out, if_neg (by decide)]
      subst hg
      clear HG HM HRD
      go_enter Tryz.func85, Tryz.ntmps85
      go_wp2_with fail
      rw [← HW1.out]
      refine HR.out.mono ?_
      rintro e w2 ⟨rfl, hu⟩
      have HX2 := Lib.hid hu
      have HD : Hid (Upd (fun k => paint c w 9 k = 6) w1 w2.drew) := Lib.hid ((hu.trans (Upd.drew (fun _ => False) w2) (fun _ h _ => h)).mono (fun _ h _ => h.elim))
      obtain ⟨b0, b1, b2, b3⟩ := HB.out _ (hu.mono (T := fun k => paint c w 9 k = 6) (fun _ h _ => h.elim))
      clear hu
      go_wp2_with fail
      go_quiet (fail)
      go_wp2_with fail
      go_ret
      exact ⟨rfl, c, Ext.quietT _ c (HU1.out.trans (HX2.out.trans (hpDrewN (fun _ => False) w2 nq) (fun _ h _ => h)) (fun _ h _ => h)), H.out.quiet (HU1.out.trans (HX2.out.trans (hpDrewN (fun _ => False) w2 nq) (fun _ h _ => h)) (fun _ h _ => h))⟩
    · have hs0 : S0 = 36864 := by rw [HG.out, if_neg hfull]
      subst hs0
      have hg : g = M.withSec (M.sec ++ xs) := by rw [HM.out, if_pos rfl, if_neg HA.out, HCT.out]
      have HGG := Lib.hid hg
      clear HG HM hg HCT HA
      obtain ⟨i0, hi0, hz0, hz1, hz2⟩ := info_parts info5
      go_enter Tryz.func85, Tryz.ntmps85
      go_wp2_with fail
      rw [← HW1.out]
      refine HR.out.mono ?_
      rintro e w2 ⟨rfl, hu⟩
      have HX2 := Lib.hid hu
      have HD : Hid (Upd (fun k => paint c w 9 k = 6) w1 w2.drew) := Lib.hid ((hu.trans (Upd.drew (fun _ => False) w2) (fun _ h _ => h)).mono (fun _ h _ => h.elim))
      obtain ⟨b0, b1, b2, b3⟩ := HB.out _ (hu.mono (T := fun k => paint c w 9 k = 6) (fun _ h _ => h.elim))
      clear hu
      go_wp2_with fail
      go_quiet (fail)
      clear b0 b1 b2 b3
      go_upto_region 9 with fail
      have HZ : Hid (Upd (fun _ => False) w2 (w2.drewN nq).drew) := Lib.hid ((hpDrewN (fun _ => False) w2 nq).trans (Upd.drew _ _) (fun _ h _ => h))
      have HD : Hid (Upd (fun k => paint c w 9 k = 6) w1 (w2.drewN nq).drew) := Lib.hid ((HX2.out.trans HZ.out (fun _ h _ => h)).mono (fun _ h _ => h.elim))
      have HUD : Hid (Upd (fun _ => False) w (w2.drewN nq).drew) := Lib.hid (HU1.out.trans (HX2.out.trans HZ.out (fun _ h _ => h)) (fun _ h _ => h))
      have hHeld : (fun w' : World => w'.cell? ⟨rb, 4, none⟩ = some (.slice va M.sec.length vc) ∧ w'.cell? ⟨w.heap.size, 0, none⟩ = some (.int .i64 ((i : Int) + 1)) ∧ w'.cell? ⟨w.heap.size, 1, none⟩ = some (.int .i64 a') ∧ w'.cell? ⟨w.heap.size, 2, none⟩ = some (.int .i64 k)) (w2.drewN nq).drew := HB.out _ HD.out
      refine wp_region_last (S := fun w' => w'.cell? ⟨rb, 4, none⟩ = some (.slice va M.sec.length vc) ∧ w'.cell? ⟨w.heap.size, 0, none⟩ = some (.int .i64 ((i : Int) + 1)) ∧ w'.cell? ⟨w.heap.size, 1, none⟩ = some (.int .i64 a') ∧ w'.cell? ⟨w.heap.size, 2, none⟩ = some (.int .i64 k)) 9 _ (by kernel_rfl) (by kernel_rfl) rfl ?_
      change wpHL _ _ _ _ _ _ _ _ _ _ (w2.drewN nq).drew
      refine wpHL_take (i := 0) (v := ?_) rfl (by kernel_rfl) (fun _ _ _ h => h) hHeld (Or.inl ⟨by rfl, ?_⟩) ?_
      rotate_left
      · (intro w hSw; obtain ⟨y0, y1, y2, y3⟩ := hSw; go_simp; try with_reducible rfl)
      try simp only [Act.put, List.getElem_toArray, List.getElem_cons_succ, List.getElem_cons_zero, List.setIfInBounds_toArray, List.set_cons_zero, List.set_cons_succ]
      refine wpHL_take (i := 1) (v := ?_) rfl (by kernel_rfl) (fun _ _ _ h => h) hHeld (Or.inl ⟨by rfl, ?_⟩) ?_
      rotate_left
      · (intro w hSw; obtain ⟨y0, y1, y2, y3⟩ := hSw; go_simp; try with_reducible rfl)
      try simp only [Act.put, List.getElem_toArray, List.getElem_cons_succ, List.getElem_cons_zero, List.setIfInBounds_toArray, List.set_cons_zero, List.set_cons_succ]
      refine wpHL_take (i := 2) (v := ?_) rfl (by kernel_rfl) (fun _ _ _ h => h) hHeld (Or.inl ⟨by rfl, ?_⟩) ?_
      rotate_left
      · (intro w hSw; obtain ⟨y0, y1, y2, y3⟩ := hSw; go_simp; try with_reducible rfl)
      try simp only [Act.put, List.getElem_toArray, List.getElem_cons_succ, List.getElem_cons_zero, List.setIfInBounds_toArray, List.set_cons_zero, List.set_cons_succ]
      refine wpHL_take (i := 3) (v := ?_) rfl (by kernel_rfl) (fun _ _ _ h => h) hHeld (Or.inl ⟨by rfl, ?_⟩) ?_
      rotate_left
      · (intro w hSw; obtain ⟨y0, y1, y2, y3⟩ := hSw; go_simp; try with_reducible rfl)
      try simp only [Act.put, List.getElem_toArray, List.getElem_cons_succ, List.getElem_cons_zero, List.setIfInBounds_toArray, List.set_cons_zero, List.set_cons_succ]
      refine wpHL_take (i := 4) (v := ?_) rfl (by kernel_rfl) (fun _ _ _ h => h) hHeld (Or.inl ⟨by rfl, ?_⟩) ?_
      rotate_left
      · (intro w hSw; obtain ⟨y0, y1, y2, y3⟩ := hSw; go_simp; try with_reducible rfl)
      try simp only [Act.put, List.getElem_toArray, List.getElem_cons_succ, List.getElem_cons_zero, List.setIfInBounds_toArray, List.set_cons_zero, List.set_cons_succ]
      refine wpHL_take (i := 5) (v := ?_) rfl (by kernel_rfl) (fun _ _ _ h => h) hHeld (Or.inl ⟨by rfl, ?_⟩) ?_
      rotate_left
      · (intro w hSw; obtain ⟨y0, y1, y2, y3⟩ := hSw; go_simp; try with_reducible rfl)
      try simp only [Act.put, List.getElem_toArray, List.getElem_cons_succ, List.getElem_cons_zero, List.setIfInBounds_toArray, List.set_cons_zero, List.set_cons_succ]
      refine wpHL_step (i := 6) rfl (by kernel_rfl) (by decide) (fun K hK => ?_)
      have HKK := Lib.hid hK
      clear hK hHeld
      go_simp
      refine (HRD.out _ HUD.out).mono ?_
      rintro e w3 ⟨x3, rfl, hv, hu, hnb⟩
      obtain ⟨xa, xc, rfl, -, -⟩ := hv.slice
      have HUD3 := Lib.hid (HUD.out.trans hu (fun _ h _ => h))
      have HD3 : Hid (Upd (fun k => paint c w 9 k = 6) w1 w3) := Lib.hid (HD.out.trans (hu.mono (T := fun k => paint c w 9 k = 6) (fun _ h _ => h.elim)) (fun _ h _ => h))
      have H3 := Lib.hid (HH.out.aside HUD3.out)
      have HROW := Lib.hid H3.out.sec
      rw [HVE.out] at HROW
      have HSRC := Lib.hid hv.src
      have HBY := Lib.hid hv.1
      clear hv hu hnb
      go_simp
      have hHeld := HB.out _ HD3.out
      refine HKK.out _ _ hHeld ?_
      clear HKK hHeld
      try simp only [Act.put, List.getElem_toArray, List.getElem_cons_succ, List.getElem_cons_zero, List.setIfInBounds_toArray, List.set_cons_zero, List.set_cons_succ]
      refine wpHL_step (i := 7) rfl (by kernel_rfl) (by decide) (fun K hK => ?_)
      have HKK := Lib.hid hK
      clear hK
      have hx64 : xs.length ≤ 64 := by rw [HXL.out]; omega
      refine hpStep rfl (.tmp 40) (.tmp 43) 81 rfl 0 5 i0 (.int .u8 0) 1 1 Tryz.underlying81 hi0 hz0 hz1 hz2 rfl (by decide) (.slice va M.sec.length vc) M.sec.length (bv M.sec) rfl HROW.out xs.length (bv xs) HSRC.out (by unfold maxLen; omega) (by omega) (Nat.zero_le _) ?_
      intro v4 w4 ho hg hf
      obtain ⟨va4, vc4, rfl⟩ := ownsRow_slice ho
      have HTL := Lib.hid (RmAt.tellSec H3.out ho (by rw [HVE.out]; exact hg) (by rw [HVE.out]; exact hf) HBY.out (by rw [HXL.out]; omega))
      have hu4 : Upd (fun k => paint c w 9 k = 6) w3 w4 := (Upd.grown (S := fun k => (Value.slice va M.sec.length vc).ownBlock = some k) hg (fun k hk => .inl hk)).mono (fun k hk _ => H3.out.cs k (by rw [HVE.out]; exact hk))
      have HD4 := Lib.hid (HD3.out.trans hu4 (fun _ h _ => h))
      have f4 := HFR.out _ HD4.out
      have hHeld := HB.out _ HD4.out
      clear ho hg hf hu4
      refine HKK.out _ _ hHeld ?_
      clear HKK
      try simp only [Act.put, List.getElem_toArray, List.getElem_cons_succ, List.getElem_cons_zero, List.setIfInBounds_toArray, List.set_cons_zero, List.set_cons_succ]
      refine wpHL_take (i := 8) (v := ?_) rfl (by kernel_rfl) (fun _ _ _ h => h) hHeld (Or.inl ⟨by rfl, ?_⟩) ?_
      rotate_left
      · (intro w hSw; obtain ⟨y0, y1, y2, y3⟩ := hSw; go_simp; try with_reducible rfl)
      try simp only [Act.put, List.getElem_toArray, List.getElem_cons_succ, List.getElem_cons_zero, List.setIfInBounds_toArray, List.set_cons_zero, List.set_cons_succ]
      obtain ⟨b0, b1, b2, b3⟩ := hHeld
      refine wpHL_last (by kernel_rfl) ?_
      go_wp2_with fail
      go_ret
      rw [HGG.out]
      exact ⟨rfl, _, (Ext.made TQ 9 HUD3.out).trans HTL.out.1 (fun _ h => h), _, _, _, _, _, _, _, HTL.out.2⟩
  · have hs0 : S0 = rngP M.hp.arrs s.ref s.at_ s.n ap := by rw [HG.out, if_neg e2]
    have hg : g = M := by rw [HM.out, if_neg (by rw [hs0]; exact e2)]
    subst hg
    rw [← hs0] at HR e1
    clear HG HM e2 HX hs0 HS0
    go_enter Tryz.func85, Tryz.ntmps85
    go_wp2_with fail
    rw [← HW1.out]
    refine HR.out.mono ?_
    rintro e w2 ⟨rfl, hu⟩
    have HX2 := Lib.hid (HU1.out.trans hu (fun _ h _ => h))
    clear hu
    go_wp2_with fail
    go_ret
    exact ⟨rfl, c, Ext.quietT _ c HX2.out, H.out.quiet HX2.out⟩
end
end Go.Proofs.YtdmadfahgkikkaaGreat

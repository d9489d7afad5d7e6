/- Package room: Serve, op by op. -/
import Derived.Test.YtdmadfahgkikkaaGreatQfk
import Derived.Test.YtdmadfahgkikkaaGreatQgk
import Derived.Test.YtdmadfahgkikkaaGreatQhk
import Derived.Test.YtdmadfahgkikkaaGreatQjk
import Derived.Deep.RegionHeld3
namespace Go.Proofs.YtdmadfahgkikkaaGreat
open Go.RowKit Go.Lib Go.ChangeShapes Go.WideShapes Go.Deep
set_option linter.unusedVariables false
set_option linter.unusedSimpArgs false

/-- what Serve may turn: the room, and the trace -/
def TR (i : Nat) : Prop := 1 ≤ i ∧ i ≤ 7
structure SvA where
  n : Int
  s : Int
  M : RmM
def Served (c : Nat → Nat) (w : World) (rb : Nat) (tv : Value) (r : SvA) (o' : Option (List EvM)) (e : Ending) (w' : World) : Prop :=
  e = .returned (.tuple #[.int .i32 r.n, .int .i64 r.s]) ∧ ∃ c', Ext TR c w c' w' ∧ Rm c' w' rb r.M ∧ TrO c' w' tv o'
theorem TR1 {i : Nat} (h : i = 1) : TR i := by subst h; simp [TR]
theorem TR7 {i : Nat} (h : i = 7) : TR i := by subst h; simp [TR]
theorem TRP {i : Nat} (h : TP i) : TR i := by rcases h with rfl | rfl <;> simp [TR]
theorem TRQ {i : Nat} (h : TQ i) : TR i := by rcases h with rfl | rfl <;> simp [TR]
theorem n17 {i : Nat} (h : RmC i) : ¬ T7 i := by intro e; have e : i = 7 := e; subst e; simp [RmC] at h
theorem T17 : ¬ T1 7 := by intro e; have e : 7 = 1 := e; omega
theorem TP7 : ¬ TP 7 := by simp [TP]
theorem TQ7 : ¬ TQ 7 := by simp [TQ]
theorem nR9 : ¬ TR 9 := by simp [TR]
/-- what is new since w belongs to nobody; the room, the trace, the args later -/
theorem aside3 {c : Nat → Nat} {w u : World} {rb : Nat} {M : RmM} {tv v : Value} {o : Option (List EvM)} {xs : List Int} (h : Rm c w rb M) (ht : TrO c w tv o) (hx : I32 w v xs) (hv : ∀ k, v.ownBlock = some k → ¬ TR (c k)) (hu : Upd (fun _ => False) w u) :
    Ext TR c w (paint c w 9) u ∧ Rm (paint c w 9) u rb M ∧ TrO (paint c w 9) u tv o ∧ I32 u v xs :=
  ⟨Ext.made TR 9 hu, h.ext (Ext.made None0 9 hu) (fun _ _ h => h), ht.ext (Ext.made None0 9 hu) (fun h => h), hx.upd hu (fun _ _ h => h)⟩
/-- cells of a new block, as long as the room and the trace alone turn -/
theorem keep9 {c : Nat → Nat} {w u v : World} {g : Nat} {ob : Obj} (hg : w.heap.size ≤ g) (h : u.heap[g]? = some ob) (hu : Upd (fun k => TR (paint c w 9 k)) u v) : v.heap[g]? = some ob :=
  hpBlk hu h (by rw [paint_new c w 9 hg]; exact nR9)
theorem I32.keep {c : Nat → Nat} {w u u' : World} {v : Value} {xs : List Int} (h0 : I32 w v xs) (hv : ∀ k, v.ownBlock = some k → ¬ TR (c k)) (h : I32 u v xs) (hu : Upd (fun k => TR (paint c w 9 k)) u u') : I32 u' v xs := by
  cases xs with
  | nil =>
    obtain ⟨h1, a, cc, e, h2, h3, -⟩ := h
    exact ⟨h1, a, cc, e, h2, h3, .inl rfl⟩
  | cons x xs =>
    refine h.upd hu (fun k hk => ?_)
    obtain ⟨-, a, cc, rfl, -, -, -⟩ := id h0
    obtain ⟨g, off, rfl, -, hc⟩ := h0.at (k := 0) (by simp)
    have hk' := hk
    simp [Value.ownBlock] at hk
    subst hk
    rw [paint_old c w 9 (World.block_lt_of_cell? w _ hc)]
    exact hv _ hk'
section
variable {c : Nat → Nat} {w : World} {rb : Nat} {M : RmM} {tv : Value} {o : Option (List EvM)}
set_option maxRecDepth 100000 in
set_option maxHeartbeats 4000000 in
theorem sv27 (h : Rm c w rb M) (ht : TrO c w tv o) (ap a b : Int) (v : Value) (x0 : Int) (hx : I32 w v [x0]) (hv : ∀ k, v.ownBlock = some k → ¬ TR (c k)) (hb : 0 ≤ b ∧ b ≤ 7) :
    Calls Tryz.prog 60 #[.pointer (some ⟨rb, 0, none⟩), tv, .int .i64 ap, .int .i64 27, .int .i64 a, .int .i64 b, v] w fun e w' => Served c w rb tv ⟨newN M a b x0, newS M a b x0, newM M ap a b x0⟩ (addO o ⟨3, a, b, x0⟩) e w' := by
  have HN : Hid (Calls Tryz.prog 73 #[v] w fun e w' => e = .returned (.agg #[.int .i64 x0, .int .i64 0, .int .i64 0, .int .i64 0, .int .i64 0]) ∧ Upd (fun _ => False) w w') := Lib.hid (rNumbers w v [x0] hx (by simp))
  have HX := Lib.hid hx
  have HV := Lib.hid hv
  have H := Lib.hid h
  have HT := Lib.hid ht
  have hrg := hx.1
  obtain ⟨p, rfl⟩ := ht.ptr
  obtain ⟨va, vc, rfl, -, -⟩ : ∃ va vc, v = .slice va 1 vc ∧ 1 ≤ vc ∧ vc ≤ maxLen := by
    obtain ⟨-, a, c, e, h1, h2, -⟩ := hx
    exact ⟨a, c, e, h1, h2⟩
  clear h ht hx hv
  go_enter Tryz.func60, Tryz.ntmps60
  go_wp2_with fail
  refine (rServes 27 w).mono ?_
  rintro e w' ⟨rfl, rfl⟩
  rw [show servesP 27 = 1 from rfl]
  go_wp2_with fail
  refine HN.out.mono ?_
  rintro e w2 ⟨rfl, hu⟩
  have HU2 := Lib.hid hu
  clear hu HN
  obtain ⟨wt, hwt⟩ : ∃ wt, wt = w2.alloc (.cells #[.int .i64 x0, .int .i64 0, .int .i64 0, .int .i64 0, .int .i64 0] 124) := ⟨_, rfl⟩
  have hut : Upd (fun _ => False) w wt := by rw [hwt]; exact HU2.out.trans (Upd.alloc _ _ _) (fun _ h _ => h)
  have hqt : wt.heap[w2.heap.size]? = some (.cells #[.int .i64 x0, .int .i64 0, .int .i64 0, .int .i64 0, .int .i64 0] 124 (0, 0)) := by rw [hwt]; exact hpTop _ _ _ rfl
  have HB : Hid (∀ u, Upd (fun k => TR (paint c w 9 k)) wt u → u.cell? ⟨w2.heap.size, 0, none⟩ = some (.int .i64 x0)) := Lib.hid (fun u hu => (five (keep9 HU2.out.size hqt hu)).1)
  have HA := Lib.hid (aside3 H.out HT.out HX.out HV.out hut)
  have HWT := Lib.hid hwt
  clear hwt hut hqt hrg
  go_wp2_with fail
  rw [← HWT.out]
  refine (rShow HA.out.2.2.1 3 a b x0).mono ?_
  rintro e w3 ⟨rfl, c3, hx3, ht3⟩
  have b0 := HB.out _ (hx3.upd.mono (fun k hk _ => TR7 hk))
  have HX3 := Lib.hid hx3
  have HT3 := Lib.hid ht3
  clear hx3 ht3
  go_wp2_with fail
  refine (rAlloc (HA.out.2.1.ext HX3.out (fun _ h => n17 h)) ap a b x0 hb).mono ?_
  rintro e w4 ⟨rfl, c4, hx4, hr4⟩
  have HX4 := Lib.hid hx4
  have HR4 := Lib.hid hr4
  clear hx4 hr4
  go_wp2_with fail
  refine bodyPost_ret (v := .tuple #[.int .i32 (newN M a b x0), .int .i64 (newS M a b x0)]) (by simp only [results, Tryz.f60]; simp [go_sem]) rfl ?_
  exact ⟨rfl, c4, (HA.out.1.trans HX3.out (fun _ h => TR7 h)).trans HX4.out (fun _ h => TR1 h), HR4.out, HT3.out.ext HX4.out T17⟩
set_option maxRecDepth 100000 in
set_option maxHeartbeats 4000000 in
theorem sv28 (h : Rm c w rb M) (ht : TrO c w tv o) (ap a b : Int) (v : Value) (x0 : Int) (hx : I32 w v [x0]) (hv : ∀ k, v.ownBlock = some k → ¬ TR (c k)) :
    Calls Tryz.prog 60 #[.pointer (some ⟨rb, 0, none⟩), tv, .int .i64 ap, .int .i64 28, .int .i64 a, .int .i64 b, v] w fun e w' => Served c w rb tv ⟨longP M.hp.arrs x0 ap, chkP M.hp.arrs x0 ap, M⟩ (tchs o [⟨x0, 0, 0⟩]) e w' := by
  have HN : Hid (Calls Tryz.prog 73 #[v] w fun e w' => e = .returned (.agg #[.int .i64 x0, .int .i64 0, .int .i64 0, .int .i64 0, .int .i64 0]) ∧ Upd (fun _ => False) w w') := Lib.hid (rNumbers w v [x0] hx (by simp))
  have HX := Lib.hid hx
  have HV := Lib.hid hv
  have H := Lib.hid h
  have HT := Lib.hid ht
  have hrg := hx.1
  obtain ⟨p, rfl⟩ := ht.ptr
  obtain ⟨va, vc, rfl, -, -⟩ : ∃ va vc, v = .slice va 1 vc ∧ 1 ≤ vc ∧ vc ≤ maxLen := by
    obtain ⟨-, a, c, e, h1, h2, -⟩ := hx
    exact ⟨a, c, e, h1, h2⟩
  clear h ht hx hv
  go_enter Tryz.func60, Tryz.ntmps60
  go_wp2_with fail
  refine (rServes 28 w).mono ?_
  rintro e w' ⟨rfl, rfl⟩
  rw [show servesP 28 = 1 from rfl]
  go_wp2_with fail
  refine HN.out.mono ?_
  rintro e w2 ⟨rfl, hu⟩
  have HU2 := Lib.hid hu
  clear hu HN
  obtain ⟨wt, hwt⟩ : ∃ wt, wt = (w2.alloc (.cells #[.int .i64 x0, .int .i64 0, .int .i64 0, .int .i64 0, .int .i64 0] 124)).alloc (.cells #[.int .i64 x0, .int .i64 0, .int .i64 0] 132) := ⟨_, rfl⟩
  have hut : Upd (fun _ => False) w wt := by rw [hwt]; exact HU2.out.trans ((Upd.alloc _ _ _).trans (Upd.alloc _ _ _) (fun _ h _ => h)) (fun _ h _ => h)
  have hqt : wt.heap[w2.heap.size]? = some (.cells #[.int .i64 x0, .int .i64 0, .int .i64 0, .int .i64 0, .int .i64 0] 124 (0, 0)) := by rw [hwt]; exact hpBlk (S := fun _ => False) (Upd.alloc _ _ _) (hpTop w2 _ _ rfl) (fun h => h)
  have HSP : Hid (Sps wt (.slice (some ⟨w2.heap.size + 1, 0, none⟩) 1 1) [⟨x0, 0, 0⟩]) := Lib.hid (by rw [hwt]; exact sps1 (s := ⟨x0, 0, 0⟩) (t := 132) (hpTop _ _ _ (by simp)))
  have HB : Hid (∀ u, Upd (fun k => TR (paint c w 9 k)) wt u → u.cell? ⟨w2.heap.size, 0, none⟩ = some (.int .i64 x0)) := Lib.hid (fun u hu => (five (keep9 HU2.out.size hqt hu)).1)
  have HA := Lib.hid (aside3 H.out HT.out HX.out HV.out hut)
  have HWT := Lib.hid hwt
  have hs2 := HU2.out.size
  clear hwt hut hqt hrg
  go_wp2_with fail
  rw [← HWT.out]
  refine (rTouch HA.out.2.2.1 _ _ HSP.out (fun k hk => by simp [Value.ownBlock] at hk; rw [← hk, paint_new c w 9 (by omega)]; omega) (by simp)).mono ?_
  rintro e w3 ⟨rfl, c3, hx3, ht3⟩
  have b0 := HB.out _ (hx3.upd.mono (fun k hk _ => TR7 hk))
  have HX3 := Lib.hid hx3
  have HT3 := Lib.hid ht3
  clear hx3 ht3 hs2
  go_wp2_with fail
  refine (rLength (HA.out.2.1.ext HX3.out (fun _ h => n17 h)) ap x0).mono ?_
  rintro e w4 ⟨rfl, hu4⟩
  have HX4 := Lib.hid (Ext.quietT None0 c3 hu4)
  clear hu4
  go_wp2_with fail
  refine bodyPost_ret (v := .tuple #[.int .i32 (longP M.hp.arrs x0 ap), .int .i64 (chkP M.hp.arrs x0 ap)]) (by simp only [results, Tryz.f60]; simp [go_sem]) rfl ?_
  exact ⟨rfl, c3, (HA.out.1.trans HX3.out (fun _ h => TR7 h)).trans HX4.out (fun _ h => h.elim), ((HA.out.2.1.ext HX3.out (fun _ h => n17 h)).ext HX4.out (fun _ _ h => h)), HT3.out.ext HX4.out (fun h => h)⟩
end
end Go.Proofs.YtdmadfahgkikkaaGreat

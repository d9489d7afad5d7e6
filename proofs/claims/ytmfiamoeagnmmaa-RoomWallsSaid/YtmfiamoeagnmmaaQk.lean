/- Package room: a new one; what begins; what was told. -/
import Derived.Test.YtmfiamoeagnmmaaQi
import Derived.Deep.QuietTactic
namespace Go.Proofs.Ytmfiamoeagnmmaa
open Go.RowKit Go.Lib Go.ChangeShapes Go.WideShapes Go.Deep
set_option linter.unusedVariables false
set_option linter.unusedSimpArgs false

def noRoom (s : Int) : RmM := ⟨two s, [], [], []⟩
section
variable {c : Nat → Nat} {w : World} {rb : Nat} {M : RmM}
theorem rNewRoom (c : Nat → Nat) (s : Int) (w : World) (h1 : 64 ≤ s) (h2 : s ≤ 4096) : Calls Try.prog 6 #[.int .i64 s] w fun e w' => ∃ rb c', e = .returned (.tuple #[.pointer (some ⟨rb, 0, none⟩), .int .i64 0]) ∧ Ext None0 c w c' w' ∧ Rm c' w' rb (noRoom s) := by
  have HN := Lib.hid (pNew (w := w) s h1 h2)
  have HO := Lib.hid (HpOk.two h1 h2)
  go_enter Try.func6, Try.ntmps6
  go_wp2_with fail
  refine HN.out.mono ?_
  rintro e w1 ⟨hb, rfl, hh, hu⟩
  have HH := Lib.hid hh
  have HU := Lib.hid hu
  clear hh hu HN
  go_wp2_with fail
  refine bodyPost_ret (v := .tuple #[.pointer (some ⟨w1.heap.size, 0, none⟩), .int .i64 0]) (by simp only [results, Try.f6]; simp [go_sem]) rfl ?_
  refine ⟨w1.heap.size, paint (paint c w 1) w1 2, rfl, ?_, ?_⟩
  · exact (Ext.made None0 1 HU.out).trans (Ext.made None0 2 (Upd.alloc _ _ _)) (fun _ h => h)
  · have hx : Ext None0 (paint c w 1) w1 (paint (paint c w 1) w1 2) (w1.alloc (.cells #[.slice none 0 0, .slice none 0 0, .pointer (some ⟨hb, 0, none⟩), .slice none 0 0, .slice none 0 0] 59)) := Ext.made None0 2 (Upd.alloc _ _ _)
    refine ⟨hb, .slice none 0 0, .slice none 0 0, .slice none 0 0, .slice none 0 0, [], [], ⟨hpTop _ _ _ rfl, hx.hep (hep_since c HH.out) (fun h => h), HO.out, World.ownsRow_nil _ _ _ _, World.ownsRow_nil _ _ _ _, fun i hi => absurd hi (by simp [noRoom]), World.ownsRow_nil _ _ _ _, World.ownsRow_nil _ _ _ _, ⟨by simp [noRoom], by simp [noRoom]⟩, ⟨by simp [noRoom], by simp [noRoom]⟩, by simp, by simp, paint_new _ _ _ (Nat.le_refl _), by simp [Value.ownBlock], by simp [Value.ownBlock], by simp [Value.ownBlock], by simp [Value.ownBlock], fun i k hi => absurd hi (by simp [noRoom]), by simp [noRoom]⟩⟩
theorem rNewRoom_no (s : Int) (w : World) (h : s < 64 ∨ 4096 < s) : Calls Try.prog 6 #[.int .i64 s] w fun e w' => e = .returned (.tuple #[.pointer none, .int .i64 1]) ∧ w = w' := by
  have HN := Lib.hid (hNew_no s w h)
  clear h
  go_enter Try.func6, Try.ntmps6
  go_wp2_with fail
  refine HN.out.mono ?_
  rintro e w1 ⟨rfl, rfl⟩
  go_wp2_with fail
  refine bodyPost_ret (v := .tuple #[.pointer none, .int .i64 1]) (by simp only [results, Try.f6]; simp [go_sem]) rfl ?_
  exact ⟨rfl, rfl⟩
/-- the room's heap -/
theorem rHeap (h : Rm c w rb M) : ∃ hb, Calls Try.prog 8 #[.pointer (some ⟨rb, 0, none⟩)] w (fun e w' => e = .returned (.pointer (some ⟨hb, 0, none⟩)) ∧ w = w') ∧ Hep HT (Col c w 1) w hb M.hp ∧ HpOk M.hp := by
  obtain ⟨hb, iv, fv, pv, sv, ivs, fvs, h⟩ := h
  obtain ⟨-, -, b2, -, -, -⟩ := h.bx
  refine ⟨hb, ?_, h.hp, h.ok⟩
  clear h
  go_enter Try.func8, Try.ntmps8
  go_wp2_with fail
  go_ret
  exact ⟨rfl, rfl⟩
def BT (i : Nat) : Prop := i = 1 ∨ i = 2
def beginM (M : RmM) (x y : List Int) : RmM := ⟨(M.hp.lay 0 x).lay 1 y, M.fields, [], []⟩
theorem rBegin_no (u v : Value) (x y : List Int) (hx : Vw w u x) (hy : Vw w v y) (hl : 64 < x.length ∨ 64 < y.length) : Calls Try.prog 17 #[.pointer (some ⟨rb, 0, none⟩), u, v] w fun e w' => e = .returned (.bool false) ∧ w = w' := by
  obtain ⟨ua, uc, rfl, -, -⟩ := hx.slice
  obtain ⟨va, vc, rfl, -, -⟩ := hy.slice
  clear hx hy
  rcases (by omega : 64 < x.length ∨ (x.length ≤ 64 ∧ 64 < y.length)) with h | ⟨h, h2⟩
  · have t1 : decide ((x.length : Int) > 64) = true := by simp; omega
    have t2 : decide ((64 : Int) < (x.length : Int)) = true := by simp; omega
    clear hl h
    go_enter Try.func17, Try.ntmps17
    go_wp2_with fail
    go_ret
    exact ⟨rfl, rfl⟩
  · have t2 : decide ((64 : Int) < (x.length : Int)) = false := by simp; omega
    have t3 : decide ((64 : Int) < (y.length : Int)) = true := by simp; omega
    clear hl h h2
    go_enter Try.func17, Try.ntmps17
    go_wp2_with fail
    go_ret
    exact ⟨rfl, rfl⟩
theorem lay_len (m : HpM) (i : Nat) (x : List Int) : (m.lay i x).arrs.length = m.arrs.length := by simp [HpM.lay]
theorem RmAt.begun {c : Nat → Nat} {w : World} {rb hb : Nat} {iv fv pv sv : Value} {ivs fvs : List Value} {M : RmM} (h : RmAt c w rb hb iv fv pv sv ivs fvs M) :
    Ext BT c w c ((w.setCell ⟨rb, 3, none⟩ (.slice none 0 0)).setCell ⟨rb, 4, none⟩ (.slice none 0 0)) ∧ Rm c ((w.setCell ⟨rb, 3, none⟩ (.slice none 0 0)).setCell ⟨rb, 4, none⟩ (.slice none 0 0)) rb ⟨M.hp, M.fields, [], []⟩ := by
  have hu : Upd (fun k => k = rb) w ((w.setCell ⟨rb, 3, none⟩ (.slice none 0 0)).setCell ⟨rb, 4, none⟩ (.slice none 0 0)) := hpS (hpS (Upd.refl _ _) rfl) rfl
  have E : Ext (fun i => i = 2) c w c ((w.setCell ⟨rb, 3, none⟩ (.slice none 0 0)).setCell ⟨rb, 4, none⟩ (.slice none 0 0)) := ⟨fun _ _ => rfl, hu.mono (fun k hk _ => by rw [hk]; exact h.cb)⟩
  refine ⟨E.mono (fun _ h => .inr h), hb, iv, fv, .slice none 0 0, .slice none 0 0, ivs, fvs, ?_⟩
  exact ⟨by simp [World.setCell, Array.getElem?_modify, h.box], E.hep h.hp (by omega), h.ok, E.row h.imgs (fun k hk => by rw [h.ci k hk]; omega), E.row h.flds (fun k hk => by rw [h.cf k hk]; omega),
    fun i hi => E.row (h.fld i hi) (fun k hk => by rw [h.cx i k hi hk]; omega), World.ownsRow_nil _ _ _ _, World.ownsRow_nil _ _ _ _, ⟨by simp, by simp⟩, ⟨by simp, by simp⟩, h.i1, h.f1, h.cb, h.ci, h.cf, by simp [Value.ownBlock], by simp [Value.ownBlock], h.cx, h.fl⟩
set_option maxRecDepth 100000 in
set_option maxHeartbeats 1000000 in
theorem rBegin (h : Rm c w rb M) (u v : Value) (x y : List Int) (hx : Vw w u x) (hy : Vw w v y) (hxl : x.length ≤ 64) (hyl : y.length ≤ 64) (hc : ∀ k, v.ownBlock = some k → c k ≠ 1) :
    Calls Try.prog 17 #[.pointer (some ⟨rb, 0, none⟩), u, v] w fun e w' => e = .returned (.bool true) ∧ ∃ c', Ext BT c w c' w' ∧ Rm c' w' rb (beginM M x y) := by
  obtain ⟨hb, iv, fv, pv, sv, ivs, fvs, h⟩ := h
  have h2 := h.ok.2.2.1
  have HS1 := Lib.hid (show Calls Try.prog 36 #[.pointer (some ⟨hb, 0, none⟩), .int .i64 1, u] w fun e w' => e = .returned (.bool true) ∧ Hep HT (More (Col c w 1) w w') w' hb (M.hp.lay 0 x) ∧ Upd (Col c w 1) w w' from pSet h.hp (i := 0) (by omega) (by omega) u x hx hxl)
  have HOK1 := Lib.hid (h.ok.lay 0 x (.inl (by omega)))
  have H := Lib.hid h
  have HY := Lib.hid hy
  have HC := Lib.hid hc
  obtain ⟨-, -, b2, -, -, -⟩ := h.bx
  obtain ⟨ua, uc, rfl, -, -⟩ := hx.slice
  obtain ⟨va, vc, rfl, -, -⟩ := hy.slice
  have t2 : decide ((64 : Int) < (x.length : Int)) = false := by simp; omega
  have t3 : decide ((64 : Int) < (y.length : Int)) = false := by simp; omega
  clear h hx hy hc hxl
  go_enter Try.func17, Try.ntmps17
  go_wp2_with fail
  refine HS1.out.mono ?_
  rintro e w1 ⟨rfl, hh, hu⟩
  have HM1 := Lib.hid (H.out.heapM hh hu HOK1.out)
  have hv1 := HM1.out.1.vw HY.out (fun k hk => HC.out k hk)
  have HS2 := Lib.hid (show Calls Try.prog 36 #[.pointer (some ⟨hb, 0, none⟩), .int .i64 2, .slice va y.length vc] w1 fun e w' => e = .returned (.bool true) ∧ Hep HT (More (Col (paint c w 1) w1 1) w1 w') w' hb ((M.hp.lay 0 x).lay 1 y) ∧ Upd (Col (paint c w 1) w1 1) w1 w' from pSet HM1.out.2.hp (i := 1) (by show 1 < (M.hp.lay 0 x).arrs.length; rw [lay_len]; omega) (by omega) _ y hv1 hyl)
  have HOK2 := Lib.hid (HOK1.out.lay 1 y (.inl (by omega)))
  obtain ⟨-, -, b2', -, -, -⟩ := HM1.out.2.bx
  clear hh hu hv1 HS1
  go_wp2_with fail
  refine HS2.out.mono ?_
  rintro e w2 ⟨rfl, hh, hu⟩
  have HM2 := Lib.hid (HM1.out.2.heapM hh hu HOK2.out)
  obtain ⟨k0, k1, k2, k3, k4, kf⟩ := HM2.out.2.bx
  have f3 := kf 3; have f4 := kf 4
  clear hh hu HS2 kf
  go_wp2_with fail
  go_ret
  exact ⟨rfl, _, ((HM1.out.1.mono (fun _ h => .inl h)).trans (HM2.out.1.mono (T' := BT) (fun _ h => .inl h)) (fun _ h => h)).trans HM2.out.2.begun.1 (fun _ h => h), HM2.out.2.begun.2⟩
end
end Go.Proofs.Ytmfiamoeagnmmaa

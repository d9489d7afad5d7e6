/- Package room: a new one; what begins; what was told. -/
import Derived.Test.YtdmadfahgkikkaaGreatQik
import Derived.Deep.QuietTactic
namespace Go.Proofs.YtdmadfahgkikkaaGreat
open Go.RowKit Go.Lib Go.ChangeShapes Go.WideShapes Go.Deep
set_option linter.unusedVariables false
set_option linter.unusedSimpArgs false

def noRoom (s : Int) : RmM := ⟨two s, [], [], [], []⟩
section
variable {c : Nat → Nat} {w : World} {rb : Nat} {M : RmM}
theorem rNewRoom (c : Nat → Nat) (s : Int) (w : World) (h1 : 64 ≤ s) (h2 : s ≤ 4096) : Calls Tryz.prog 19 #[.int .i64 s] w fun e w' => ∃ rb c', e = .returned (.tuple #[.pointer (some ⟨rb, 0, none⟩), .int .i64 0]) ∧ Ext None0 c w c' w' ∧ Rm c' w' rb (noRoom s) := by
  have HN := Lib.hid (pNew (w := w) s h1 h2)
  have HO := Lib.hid (HpOk.two h1 h2)
  go_enter Tryz.func19, Tryz.ntmps19
  go_wp2_with fail
  refine HN.out.mono ?_
  rintro e w1 ⟨hb, rfl, hh, hu⟩
  have HH := Lib.hid hh
  have HU := Lib.hid hu
  clear hh hu HN
  go_wp2_with fail
  refine bodyPost_ret (v := .tuple #[.pointer (some ⟨w1.heap.size, 0, none⟩), .int .i64 0]) (by simp only [results, Tryz.f19]; simp [go_sem]) rfl ?_
  refine ⟨w1.heap.size, paint (paint c w 1) w1 2, rfl, ?_, ?_⟩
  · exact (Ext.made None0 1 HU.out).trans (Ext.made None0 2 (Upd.alloc _ _ _)) (fun _ h => h)
  · have hx : Ext None0 (paint c w 1) w1 (paint (paint c w 1) w1 2) (w1.alloc (.cells #[.slice none 0 0, .slice none 0 0, .pointer (some ⟨hb, 0, none⟩), .slice none 0 0, .slice none 0 0] 83)) := Ext.made None0 2 (Upd.alloc _ _ _)
    refine ⟨hb, .slice none 0 0, .slice none 0 0, .slice none 0 0, .slice none 0 0, [], [], ⟨hpTop _ _ _ rfl, hx.hep (hep_since c HH.out) (fun h => h), HO.out, World.ownsRow_nil _ _ _ _, World.ownsRow_nil _ _ _ _, fun i hi => absurd hi (by simp [noRoom]), World.ownsRow_nil _ _ _ _, World.ownsRow_nil _ _ _ _, ⟨by simp [noRoom], by simp [noRoom]⟩, ⟨by simp [noRoom], by simp [noRoom]⟩, by simp, by simp, paint_new _ _ _ (Nat.le_refl _), by simp [Value.ownBlock], by simp [Value.ownBlock], by simp [Value.ownBlock], by simp [Value.ownBlock], fun i k hi => absurd hi (by simp [noRoom]), by simp [noRoom], rfl⟩⟩
theorem rNewRoom_no (s : Int) (w : World) (h : s < 64 ∨ 4096 < s) : Calls Tryz.prog 19 #[.int .i64 s] w fun e w' => e = .returned (.tuple #[.pointer none, .int .i64 1]) ∧ w = w' := by
  have HN := Lib.hid (hNew_no s w h)
  clear h
  go_enter Tryz.func19, Tryz.ntmps19
  go_wp2_with fail
  refine HN.out.mono ?_
  rintro e w1 ⟨rfl, rfl⟩
  go_wp2_with fail
  refine bodyPost_ret (v := .tuple #[.pointer none, .int .i64 1]) (by simp only [results, Tryz.f19]; simp [go_sem]) rfl ?_
  exact ⟨rfl, rfl⟩
theorem rCount (h : Rm c w rb M) : Calls Tryz.prog 22 #[.pointer (some ⟨rb, 0, none⟩)] w fun e w' => e = .returned (.int .i64 (M.fields.length : Int)) ∧ w = w' := by
  obtain ⟨hb, iv, fv, pv, sv, ivs, fvs, h⟩ := h
  obtain ⟨b0, -, -, -, -, -⟩ := h.bx
  obtain ⟨a, k, rfl⟩ := ownsRow_slice h.imgs
  clear h
  go_enter Tryz.func22, Tryz.ntmps22
  go_wp2_with fail
  go_ret
  exact ⟨rfl, rfl⟩
def BT (i : Nat) : Prop := i = 1 ∨ i = 2
def beginM (M : RmM) (x y : List Int) : RmM := ⟨(M.hp.lay 0 x).lay 1 y, M.fields, [], [], M.im⟩
theorem hlay_len (m : HpM) (i : Nat) (x : List Int) : (m.lay i x).arrs.length = m.arrs.length := by simp [HpM.lay]
theorem RmAt.begun {c : Nat → Nat} {w : World} {rb hb : Nat} {iv fv pv sv : Value} {ivs fvs : List Value} {M : RmM} (h : RmAt c w rb hb iv fv pv sv ivs fvs M) :
    Ext BT c w c ((w.setCell ⟨rb, 3, none⟩ (.slice none 0 0)).setCell ⟨rb, 4, none⟩ (.slice none 0 0)) ∧ Rm c ((w.setCell ⟨rb, 3, none⟩ (.slice none 0 0)).setCell ⟨rb, 4, none⟩ (.slice none 0 0)) rb ⟨M.hp, M.fields, [], [], M.im⟩ := by
  have hu : Upd (fun k => k = rb) w ((w.setCell ⟨rb, 3, none⟩ (.slice none 0 0)).setCell ⟨rb, 4, none⟩ (.slice none 0 0)) := hpS (hpS (Upd.refl _ _) rfl) rfl
  have E : Ext (fun i => i = 2) c w c ((w.setCell ⟨rb, 3, none⟩ (.slice none 0 0)).setCell ⟨rb, 4, none⟩ (.slice none 0 0)) := ⟨fun _ _ => rfl, hu.mono (fun k hk _ => by rw [hk]; exact h.cb)⟩
  refine ⟨E.mono (fun _ h => .inr h), hb, iv, fv, .slice none 0 0, .slice none 0 0, ivs, fvs, ?_⟩
  exact ⟨by simp [World.setCell, Array.getElem?_modify, h.box], E.hep h.hp (by omega), h.ok, E.row h.imgs (fun k hk => by rw [h.ci k hk]; omega), E.row h.flds (fun k hk => by rw [h.cf k hk]; omega),
    fun i hi => E.row (h.fld i hi) (fun k hk => by rw [h.cx i k hi hk]; omega), World.ownsRow_nil _ _ _ _, World.ownsRow_nil _ _ _ _, ⟨by simp, by simp⟩, ⟨by simp, by simp⟩, h.i1, h.f1, h.cb, h.ci, h.cf, by simp [Value.ownBlock], by simp [Value.ownBlock], h.cx, h.fl, h.es⟩
end
end Go.Proofs.YtdmadfahgkikkaaGreat

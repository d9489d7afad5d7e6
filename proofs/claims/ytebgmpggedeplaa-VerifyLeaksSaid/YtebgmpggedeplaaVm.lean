/- Package verify: Verify. -/
import Derived.Test.YtebgmpggedeplaaVl
namespace Go.Proofs.Ytebgmpggedeplaa
open Go.RowKit Go.Lib Go.ChangeShapes Go.WideShapes
set_option linter.unusedVariables false
set_option linter.unusedSimpArgs false

/-- a box of five cells, then one of two -/
theorem box52 {w w' : World} {x0 x1 x2 x3 x4 y0 y1 : Value} {t s : TypeId} (hu : Upd (fun _ => False) ((w.alloc (.cells #[x0, x1, x2, x3, x4] t)).alloc (.cells #[y0, y1] s)) w') :
    (w'.cell? ⟨w.heap.size, 0, none⟩ = some x0 ∧ w'.cell? ⟨w.heap.size, 1, none⟩ = some x1 ∧ w'.cell? ⟨w.heap.size, 2, none⟩ = some x2 ∧ w'.cell? ⟨w.heap.size, 3, none⟩ = some x3 ∧ w'.cell? ⟨w.heap.size, 4, none⟩ = some x4) ∧ (w'.cell? ⟨w.heap.size + 1, 0, none⟩ = some y0 ∧ w'.cell? ⟨w.heap.size + 1, 1, none⟩ = some y1) ∧
    ∀ q, w'.frozen? ⟨w.heap.size + 1, q, none⟩ = false := by
  have h0 : ∀ q, w'.cell? ⟨w.heap.size, q, none⟩ = (#[x0, x1, x2, x3, x4] : Array Value)[q]? := fun q => by
    rw [hu.cell (p := ⟨w.heap.size, q, none⟩) (by simp; omega) (fun h => h), World.cell?_alloc_old _ _ _ (by simp), World.cell?_alloc_new]
  have h1 : ∀ q, w'.cell? ⟨w.heap.size + 1, q, none⟩ = (#[y0, y1] : Array Value)[q]? := fun q => by
    rw [hu.cell (p := ⟨w.heap.size + 1, q, none⟩) (by simp) (fun h => h), show w.heap.size + 1 = (w.alloc (.cells #[x0, x1, x2, x3, x4] t)).heap.size by simp, World.cell?_alloc_new]
  refine ⟨⟨h0 0, h0 1, h0 2, h0 3, h0 4⟩, ⟨h1 0, h1 1⟩, fun q => ?_⟩
  rw [hu.frozen (p := ⟨w.heap.size + 1, q, none⟩) (by simp) (fun h => h)]
  have e : ((w.alloc (.cells #[x0, x1, x2, x3, x4] t)).alloc (.cells #[y0, y1] s)).heap[w.heap.size + 1]? = some (.cells #[y0, y1] s) := by
    have := heap_alloc_new (w.alloc (.cells #[x0, x1, x2, x3, x4] t)) (.cells #[y0, y1] s)
    simpa using this
  unfold World.frozen?
  rw [show (⟨w.heap.size + 1, q, none⟩ : Addr).block = w.heap.size + 1 from rfl, e]
  simp
theorem set2c (w : World) (b : Nat) (x0 x1 : Value) : Upd (fun k => k = b) w ((w.setCell ⟨b, 0, none⟩ x0).setCell ⟨b, 1, none⟩ x1) :=
  (Upd.setCell (S := fun k => k = b) w (p := ⟨b, 0, none⟩) (.inl rfl) x0).trans (Upd.setCell (S := fun k => k = b) _ (p := ⟨b, 1, none⟩) (.inl rfl) x1) (fun _ h _ => h)

set_option maxRecDepth 100000 in
set_option maxHeartbeats 8000000 in
theorem vVerify (w : World) (v : Value) (I : ImgM) (hI : Img w v I) (f : Nat) (rm rp : Nat) (re : Int) (hres : verifyP I f = some (rm, rp, re)) :
    Calls Try.prog 6 #[v] w fun e w' => e = .returned (.tuple #[.agg #[.int .i64 rm, .int .i64 rp], .int .i64 re]) ∧ Upd (fun _ => False) w w' := by
  have HIM := Lib.hid hI
  have HRES := Lib.hid hres
  obtain ⟨fv, iv', mv, xv, rfl, hf, hi, hme, hx, hsz⟩ := hI
  obtain ⟨fa, fc, rfl, -, -⟩ := hf.slice
  obtain ⟨ia, ic, rfl, -, -⟩ := hi.slice
  obtain ⟨ma, mc, rfl, hm1, hm2⟩ := hme.slice
  obtain ⟨xa, xc, rfl, -, -⟩ := hx.slice
  unfold maxLen at hm2
  have HA := Lib.hid ((Upd.alloc (fun _ => False) w (.cells #[.string I.name, .slice fa I.fields.length fc, .slice ia I.imports.length ic, .slice ma I.methods.length mc, .slice xa I.exports.length xc] 31)).trans (Upd.alloc (fun _ => False) _ (.cells #[.int .i64 0, .int .i64 0] 23)) (fun _ h _ => h))
  have HBX := Lib.hid (fun (w' : World) (h : Upd (fun _ => False) ((w.alloc (.cells #[.string I.name, .slice fa I.fields.length fc, .slice ia I.imports.length ic, .slice ma I.methods.length mc, .slice xa I.exports.length xc] 31)).alloc (.cells #[.int .i64 0, .int .i64 0] 23)) w') => box52 h)
  clear hf hi hme hx hsz hres
  go_enter Try.func6, Try.ntmps6
  go_wp2_with fail
  refine (cImgRight _ _ I (HIM.out.later (lbBelow HA.out))).mono ?_
  rintro e w1 ⟨rfl, hu1⟩
  have HX1 := Lib.hid hu1
  have HU1 := Lib.hid (HA.out.trans hu1 (fun _ h _ => h))
  obtain ⟨⟨b0, b1, b2, b3, b4⟩, ⟨y0, y1⟩, yf⟩ := HBX.out _ hu1
  have yf0 := yf 0
  have yf1 := yf 1
  clear hu1 yf
  cases hR : imgB insB I with
  | false =>
    have hr := HRES.out
    unfold verifyP at hr
    rw [hR] at hr
    simp only [Bool.false_eq_true, if_false, Option.some.injEq, Prod.mk.injEq] at hr
    obtain ⟨rfl, rfl, rfl⟩ := hr
    have hfin := HU1.out.trans (set2c w1 (w.heap.size + 1) (.int .i64 0) (.int .i64 0)) (fun i h hlt => by omega)
    have HFIN := Lib.hid hfin
    clear hR hfin
    go_wp2_with fail
    refine bodyPost_ret (v := .tuple #[.agg #[.int .i64 0, .int .i64 0], .int .i64 1]) (by simp [results, Try.f6, go_sem, y0, y1]) rfl ?_
    exact ⟨rfl, HFIN.out⟩
  | true =>
    have hr := HRES.out
    unfold verifyP at hr
    rw [hR] at hr
    simp only [if_true] at hr
    have HF := Lib.hid hr
    have HR := Lib.hid hR
    have HX11 : Hid (Upd (fun _ => False) w1 w1) := Lib.hid (Upd.refl _ _)
    have HF0 : Hid (fromP I f (I.methods.length - 0) 0 = some (rm, rp, re)) := Lib.hid hr
    clear hr hR
    go_wp2_with fail
    clear b0 b1 b2 b3 b4 y0 y1 yf0 yf1
    go_loopw [15, 4, 5, 6, 7] (fun ix _ _ _ _ wr => ∃ k : Nat, k ≤ I.methods.length ∧ ix = .int .i64 k ∧ Hid (Upd (fun _ => False) w1 wr) ∧ Hid (fromP I f (I.methods.length - k) k = some (rm, rp, re))) (fun ix _ _ _ _ _ => I.methods.length - (intOf ix).toNat)
    case atStart => exact ⟨0, Nat.zero_le _, rfl, HX11, HF0⟩
    case round =>
      obtain ⟨k, hk, rfl, HU, HFK⟩ := hrel
      have HXr := Lib.hid (HX1.out.trans HU.out (fun _ h _ => h))
      have HUr := Lib.hid (HU1.out.trans HU.out (fun _ h _ => h))
      obtain ⟨⟨b0, b1, b2, b3, b4⟩, ⟨y0, y1⟩, yf⟩ := HBX.out _ HXr.out
      by_cases hlt : k < I.methods.length
      · obtain ⟨j, hj⟩ : ∃ j, I.methods.length - k = j + 1 := ⟨I.methods.length - k - 1, by omega⟩
        have hfk := HFK.out
        rw [hj] at hfk
        have hj0 : I.methods.length - (k + 1) = j := by omega
        cases hm : methP I k f with
        | none => unfold fromP at hfk; rw [hm] at hfk; cases hfk
        | some r =>
          obtain ⟨rP, rpc, rE⟩ := r
          have hstep : (if rE = 0 then fromP I f j (k + 1) else some (k, rpc, rE)) = some (rm, rp, re) := by
            unfold fromP at hfk; rw [hm] at hfk; exact hfk
          have HST := Lib.hid hstep
          have HMP := Lib.hid hm
          have HLT := Lib.hid hlt
          have HJ0 := Lib.hid hj0
          have hi1 : (0 : Int) ≤ (k : Int) := Int.natCast_nonneg _
          have hi2 : (k : Int) < (I.methods.length : Int) := by omega
          clear hfk hm hj hj0 hstep y0 y1 yf
          go_wp2_with fail
          refine (vWalk _ _ I (HIM.out.later (lbBelow HUr.out)) k HLT.out HR.out f _ HMP.out).mono ?_
          rintro e w2 ⟨pv, rfl, hu2, -⟩
          have HU2 := Lib.hid (HU.out.trans hu2 (fun _ h _ => h))
          have HX2 := Lib.hid (HXr.out.trans hu2 (fun _ h _ => h))
          have HW2 := Lib.hid (HUr.out.trans hu2 (fun _ h _ => h))
          obtain ⟨-, ⟨y0, y1⟩, yf⟩ := HBX.out _ HX2.out
          have yf0 := yf 0
          have yf1 := yf 1
          clear hu2 b0 b1 b2 b3 b4 yf
          by_cases he : rE = 0
          · subst he
            have hs := HST.out
            rw [if_pos rfl, ← HJ0.out] at hs
            have HS := Lib.hid hs
            clear hs y0 y1 yf0 yf1
            go_wp2_with fail
            go_roundw
            case rel => exact ⟨k + 1, by omega, by go_num, HU2, HS⟩
            case measure => simp [intOf]; omega
          · have hs := HST.out
            rw [if_neg he] at hs
            simp only [Option.some.injEq, Prod.mk.injEq] at hs
            obtain ⟨rfl, rfl, rfl⟩ := hs
            have he1 : (rE == 0) = false := beq_eq_false_iff_ne.2 he
            have he2 : (rE != 0) = true := by simp [bne, he1]
            have HFIN := Lib.hid (HW2.out.trans (set2c w2 (w.heap.size + 1) (.int .i64 k) (.int .i64 rpc)) (fun i h hlt => by omega))
            clear he
            go_wp2_with fail
            refine bodyPost_ret (v := .tuple #[.agg #[.int .i64 k, .int .i64 rpc], .int .i64 rE]) (by simp [results, Try.f6, go_sem, y0, y1]) rfl ?_
            exact ⟨rfl, HFIN.out⟩
      · have hfk := HFK.out
        rw [show I.methods.length - k = 0 by omega] at hfk
        unfold fromP at hfk
        simp only [Option.some.injEq, Prod.mk.injEq] at hfk
        obtain ⟨rfl, rfl, rfl⟩ := hfk
        have HFIN := Lib.hid (HUr.out.trans (set2c wr (w.heap.size + 1) (.int .i64 0) (.int .i64 0)) (fun i h hlt => by omega))
        have yf0 := yf 0
        have yf1 := yf 1
        clear b0 b1 b2 b3 b4 yf
        go_wp2_with fail
        refine bodyPost_ret (v := .tuple #[.agg #[.int .i64 0, .int .i64 0], .int .i64 0]) (by simp [results, Try.f6, go_sem, y0, y1]) rfl ?_
        exact ⟨rfl, HFIN.out⟩
end Go.Proofs.Ytebgmpggedeplaa

/- Package chip: what stands at an address. -/
import Derived.Test.YtibmgmgkaacibaaEsk
import Derived.Test.YtibmgmgkaacibaaZj
namespace Go.Proofs.Ytibmgmgkaacibaa
open Go.RowKit Go.ChangeShapes Go.WideShapes Go.Deep Go.IntWalk
set_option linter.unusedVariables false
set_option linter.unusedSimpArgs false
def hsP (M : Nat → Nat) (a : Nat) : List Nat := halfM M a :: if okHf ((a : Int) + 2) then [halfM M (a + 2)] else []
def readI (M : Nat → Nat) (a : Nat) : I6 := bif okHf (a : Int) then (decA (hsP M a)).1 else I6.zero
def readB (M : Nat → Nat) (a : Nat) : Bool := okHf (a : Int) && ((decA (hsP M a)).2.2 == 0)
section
variable {w w' : World} {bm g : Nat} {M : Nat → Nat}
set_option maxRecDepth 20000 in
set_option maxHeartbeats 4000000 in
theorem cRead (h : Mm 72 w bm g M) (a : Nat) (ha : a < 4294967296) : Calls Try.prog 32 #[.pointer (some ⟨bm, 0, none⟩), .int .u32 (a : Int)] w fun e w' => e = .returned (.tuple #[(readI M a).val, .bool (readB M a)]) ∧ Upd (fun _ => False) w w' := by
  have hwa : IntKind.i64.wrap (a : Int) = (a : Int) := i64_in _ (by omega)
  have HU0 := Lib.hid ((Upd.alloc (fun _ => False) w (.cells #[.int .i64 0, .int .i64 0, .int .i64 0, .int .i64 0, .int .i64 0, .int .i64 0] 36)))
  have HM0 := Lib.hid h
  have HMB := Lib.hid (show ¬ w.heap.size ≤ bm by have := h.lt.1; omega)
  have HMG := Lib.hid (show ¬ w.heap.size ≤ g by have := h.lt.2; omega)
  clear h
  go_enter Try.func32, Try.ntmps32
  go_wp2_with fail
  obtain ⟨W0, hW0⟩ : ∃ W0, W0 = ((w.alloc (.cells #[.int .i64 0, .int .i64 0, .int .i64 0, .int .i64 0, .int .i64 0, .int .i64 0] 36)).alloc (.cells #[.int .u16 0, .int .u16 0] 103)) := ⟨_, rfl⟩
  rw [← hW0]
  have HN0 : Hid (New w W0) := Lib.hid (by rw [hW0]; exact New.trans (New.alloc _ _) (New.alloc _ _))
  have hzz : W0.heap[w.heap.size]? = some (.cells #[.int .i64 0, .int .i64 0, .int .i64 0, .int .i64 0, .int .i64 0, .int .i64 0] 36 (0, 0)) := by
    rw [hW0]
    show (Array.push (Array.push w.heap _) _)[w.heap.size]? = _
    rw [Array.getElem?_push, Array.getElem?_push]
    simp
  have hhh : W0.heap[w.heap.size + 1]? = some (.cells #[.int .u16 0, .int .u16 0] 103 (0, 0)) := by
    rw [hW0]
    show (Array.push (Array.push w.heap _) _)[w.heap.size + 1]? = _
    rw [Array.getElem?_push]
    simp
  have HM1 := Lib.hid (HM0.out.upd (show Upd (fun _ => False) w W0 from HN0.out) (fun h => h) (fun h => h))
  obtain ⟨rb, hrb⟩ : ∃ rb, rb = w.heap.size := ⟨_, rfl⟩
  obtain ⟨hb, hhb⟩ : ∃ hb, hb = w.heap.size + 1 := ⟨_, rfl⟩
  rw [← hrb] at hzz
  rw [← hhb] at hhh ⊢
  rw [← hrb]
  have HR := Lib.hid (show w.heap.size ≤ rb by omega)
  have HH := Lib.hid (show w.heap.size ≤ hb by omega)
  have HRH := Lib.hid (show rb ≠ hb by omega)
  have HZ := Lib.hid hzz
  have HHH := Lib.hid hhh
  have hrw := HR.out
  have hhw := HH.out
  clear hW0 hzz hhh hrb hhb HM0 HU0
  refine (mHalf HM1.out (a : Int) (r64 a ha)).mono ?_
  rintro e w3 ⟨rfl, hu⟩
  have HN3 := Lib.hid (New.trans HN0.out hu)
  have HZ3 : Hid (w3.heap[rb]? = some (.cells #[.int .i64 0, .int .i64 0, .int .i64 0, .int .i64 0, .int .i64 0, .int .i64 0] 36 (0, 0))) := Lib.hid (by rw [hu.block rb (Array.getElem?_eq_some_iff.1 HZ.out).1 (fun h => h)]; exact HZ.out)
  have HH3 : Hid (w3.heap[hb]? = some (.cells #[.int .u16 0, .int .u16 0] 103 (0, 0))) := Lib.hid (by rw [hu.block hb (Array.getElem?_eq_some_iff.1 HHH.out).1 (fun h => h)]; exact HHH.out)
  have HM3 := Lib.hid (HM1.out.upd hu (fun h => h) (fun h => h))
  clear hu HZ HHH HM1 HN0
  cases hok : okHf (a : Int)
  · have HX : Hid (readI M a = I6.zero ∧ readB M a = false) := Lib.hid (by
      unfold readI readB
      rw [hok]; exact ⟨rfl, rfl⟩)
    clear hok
    obtain ⟨z0, z1, z2, z3, z4, z5, zf⟩ := zeroIns_cells HZ3.out
    have hrl : rb < w3.heap.size := (Array.getElem?_eq_some_iff.1 HZ3.out).1
    go_wp2_with fail
    refine bodyPost_ret (v := .tuple #[I6.zero.val, .bool false]) (by simp only [results, Try.f32]; simp [go_sem, I6.zero, hrl, z0, z1, z2, z3, z4, z5]) rfl ?_
    rw [HX.out.1, HX.out.2]
    refine ⟨rfl, ?_⟩
    iterate 6 refine New.set ?_ _ _ (show w.heap.size ≤ rb from hrw)
    exact HN3.out
  · have OKA := Lib.hid hok
    have hf1 : hfP M (a : Int) = ((halfM M a : Nat) : Int) := by simp [hfP, hok]
    have hlt1 := halfM_lt HM3.out.ok a
    rw [hf1]
    obtain ⟨x1, hx1⟩ : ∃ x1, halfM M a = x1 := ⟨_, rfl⟩
    rw [hx1] at hlt1 ⊢
    have HX1 := Lib.hid hx1
    clear hf1 hok hx1
    have q0 : w3.cell? ⟨hb, 0, none⟩ = some (.int .u16 0) := by unfold World.cell?; rw [HH3.out]; rfl
    have qf : w3.frozen? ⟨hb, 0, none⟩ = false := by simp [World.frozen?, HH3.out]
    have hw2 : IntKind.i64.wrap ((a : Int) + 2) = (a : Int) + 2 := i64_in _ (by omega)
    have HHB : Hid ((w3.setCell ⟨hb, 0, none⟩ (.int .u16 (x1 : Int))).heap[hb]? = some (.cells #[.int .u16 (x1 : Int), .int .u16 0] 103 (0, 0))) := Lib.hid (by rw [setCell_at _ _ _ _ _ _ HH3.out]; rfl)
    have HZ4 : Hid ((w3.setCell ⟨hb, 0, none⟩ (.int .u16 (x1 : Int))).heap[rb]? = some (.cells #[.int .i64 0, .int .i64 0, .int .i64 0, .int .i64 0, .int .i64 0, .int .i64 0] 36 (0, 0))) := Lib.hid ((Below.heap_setCell _ _ _ _ (fun e => HRH.out (by simpa using e))).trans HZ3.out)
    have HM4 : Hid (Mm 72 (w3.setCell ⟨hb, 0, none⟩ (.int .u16 (x1 : Int))) bm g M) := Lib.hid (HM3.out.upd (Sp.setU w3 hb 0 (.int .u16 (x1 : Int))) (fun e => HMB.out (e ▸ HH.out)) (fun e => HMG.out (e ▸ HH.out)))
    have HN4 : Hid (New w (w3.setCell ⟨hb, 0, none⟩ (.int .u16 (x1 : Int)))) := Lib.hid (HN3.out.set _ _ HH.out)
    go_wp2_with fail
    obtain ⟨w4, hw4⟩ : ∃ w4, w4 = w3.setCell ⟨hb, 0, none⟩ (.int .u16 (x1 : Int)) := ⟨_, rfl⟩
    rw [← hw4] at HHB HZ4 HM4 HN4 ⊢
    clear hw4 q0 qf HZ3 HH3 HM3 HN3
    refine (mHalf HM4.out ((a : Int) + 2) (by unfold rng64; omega)).mono ?_
    rintro e w5 ⟨rfl, hu⟩
    have HN5 := Lib.hid (New.trans HN4.out hu)
    have HZ5 : Hid (w5.heap[rb]? = some (.cells #[.int .i64 0, .int .i64 0, .int .i64 0, .int .i64 0, .int .i64 0, .int .i64 0] 36 (0, 0))) := Lib.hid (by rw [hu.block rb (Array.getElem?_eq_some_iff.1 HZ4.out).1 (fun h => h)]; exact HZ4.out)
    have HH5 : Hid (w5.heap[hb]? = some (.cells #[.int .u16 (x1 : Int), .int .u16 0] 103 (0, 0))) := Lib.hid (by rw [hu.block hb (Array.getElem?_eq_some_iff.1 HHB.out).1 (fun h => h)]; exact HHB.out)
    have HL5 := Lib.hid (Array.getElem?_eq_some_iff.1 HZ5.out).1
    have HM5 := Lib.hid HM4.out.ok
    clear hu HZ4 HHB HM4 HN4
    cases hok2 : okHf ((a : Int) + 2)
    · have HSP : Hid (hsP M a = [x1]) := Lib.hid (by unfold hsP; rw [hok2, HX1.out]; rfl)
      clear hok2
      have q0 : w5.cell? ⟨hb, 0, none⟩ = some (.int .u16 (x1 : Int)) := by unfold World.cell?; rw [HH5.out]; rfl
      go_wp2_with fail
      have HV : Hid (VwH w5 (.slice (some ⟨hb, 0, none⟩) 1 2) [x1]) := Lib.hid ⟨by
        intro y hy
        simp at hy
        omega, .inr ⟨hb, 0, 2, rfl, by simp, by unfold maxLen; omega, fun j hj => by
        simp at hj
        have : j = 0 := by omega
        subst this; exact q0⟩⟩
      refine (tDecode _ [x1] _ HV.out).mono ?_
      rintro e w6 ⟨rfl, hu⟩
      have HZ6 : Hid (w6.heap[rb]? = some (.cells #[.int .i64 0, .int .i64 0, .int .i64 0, .int .i64 0, .int .i64 0, .int .i64 0] 36 (0, 0))) := Lib.hid (by rw [hu.block rb HL5.out (fun h => h)]; exact HZ5.out)
      have HN6 := Lib.hid (New.trans HN5.out hu)
      obtain ⟨x, hx⟩ : ∃ x, decA [x1] = x := ⟨_, rfl⟩
      have HX : Hid (readI M a = x.1 ∧ readB M a = (x.2.2 == 0)) := Lib.hid (by
        have e : hsP M a = [x1] := HSP.out
        unfold readI readB
        rw [e, hx, OKA.out]
        exact ⟨rfl, rfl⟩)
      rw [hx]
      obtain ⟨⟨o, d, n, m, im, co⟩, k, err⟩ := x
      clear hu hx HZ5 HN5 HV
      obtain ⟨z0, z1, z2, z3, z4, z5, zf⟩ := zeroIns_cells HZ6.out
      have hrl : rb < w6.heap.size := (Array.getElem?_eq_some_iff.1 HZ6.out).1
      go_wp2_with fail
      refine bodyPost_ret (v := .tuple #[.agg #[.int .i64 o, .int .i64 d, .int .i64 n, .int .i64 m, .int .i64 im, .int .i64 co], .bool (err == 0)]) (by simp only [results, Try.f32]; simp [go_sem, hrl, z0, z1, z2, z3, z4, z5]) rfl ?_
      rw [HX.out.1, HX.out.2]
      refine ⟨rfl, ?_⟩
      refine New.trans ?_ (New.alloc _ _)
      iterate 6 refine New.set ?_ _ _ (show w.heap.size ≤ rb from hrw)
      exact HN6.out
    · have hf2 : hfP M ((a : Int) + 2) = ((halfM M (a + 2) : Nat) : Int) := by
        have : ((a : Int) + 2).toNat = a + 2 := by omega
        simp [hfP, hok2, this]
      have hlt2 := halfM_lt HM5.out (a + 2)
      rw [hf2]
      obtain ⟨x2, hx2⟩ : ∃ x2, halfM M (a + 2) = x2 := ⟨_, rfl⟩
      rw [hx2] at hlt2 ⊢
      have HSP : Hid (hsP M a = [x1, x2]) := Lib.hid (by unfold hsP; rw [hok2, HX1.out, hx2]; rfl)
      clear hf2 hok2 hx2
      have q1 : w5.cell? ⟨hb, 1, none⟩ = some (.int .u16 0) := by unfold World.cell?; rw [HH5.out]; rfl
      have qf : w5.frozen? ⟨hb, 1, none⟩ = false := by simp [World.frozen?, HH5.out]
      have HH7 : Hid ((w5.setCell ⟨hb, 1, none⟩ (.int .u16 (x2 : Int))).heap[hb]? = some (.cells #[.int .u16 (x1 : Int), .int .u16 (x2 : Int)] 103 (0, 0))) := Lib.hid (by rw [setCell_at _ _ _ _ _ _ HH5.out]; rfl)
      have HZ7 : Hid ((w5.setCell ⟨hb, 1, none⟩ (.int .u16 (x2 : Int))).heap[rb]? = some (.cells #[.int .i64 0, .int .i64 0, .int .i64 0, .int .i64 0, .int .i64 0, .int .i64 0] 36 (0, 0))) := Lib.hid ((Below.heap_setCell _ _ _ _ (fun e => HRH.out (by simpa using e))).trans HZ5.out)
      have HN7 : Hid (New w (w5.setCell ⟨hb, 1, none⟩ (.int .u16 (x2 : Int)))) := Lib.hid (HN5.out.set _ _ HH.out)
      go_wp2_with fail
      obtain ⟨w7, hw7⟩ : ∃ w7, w7 = w5.setCell ⟨hb, 1, none⟩ (.int .u16 (x2 : Int)) := ⟨_, rfl⟩
      rw [← hw7] at HH7 HZ7 HN7 ⊢
      clear hw7 q1 qf HZ5 HH5 HN5 HL5
      obtain ⟨w5, hw5⟩ : ∃ w5, w5 = w7 := ⟨_, rfl⟩
      subst hw5
      have HN5 := HN7
      have HZ5 := HZ7
      have HL5 := Lib.hid (Array.getElem?_eq_some_iff.1 HZ5.out).1
      have q0 : w5.cell? ⟨hb, 0, none⟩ = some (.int .u16 (x1 : Int)) := by unfold World.cell?; rw [HH7.out]; rfl
      have q1 : w5.cell? ⟨hb, 1, none⟩ = some (.int .u16 (x2 : Int)) := by unfold World.cell?; rw [HH7.out]; rfl
      have HV : Hid (VwH w5 (.slice (some ⟨hb, 0, none⟩) 2 2) [x1, x2]) := Lib.hid ⟨by
        intro y hy
        simp at hy
        omega, .inr ⟨hb, 0, 2, rfl, by simp, by unfold maxLen; omega, fun j hj => by
        simp at hj
        have : j = 0 ∨ j = 1 := by omega
        rcases this with rfl | rfl
        · exact q0
        · exact q1⟩⟩
      refine (tDecode _ [x1, x2] _ HV.out).mono ?_
      rintro e w6 ⟨rfl, hu⟩
      have HZ6 : Hid (w6.heap[rb]? = some (.cells #[.int .i64 0, .int .i64 0, .int .i64 0, .int .i64 0, .int .i64 0, .int .i64 0] 36 (0, 0))) := Lib.hid (by rw [hu.block rb HL5.out (fun h => h)]; exact HZ5.out)
      have HN6 := Lib.hid (New.trans HN5.out hu)
      obtain ⟨x, hx⟩ : ∃ x, decA [x1, x2] = x := ⟨_, rfl⟩
      have HX : Hid (readI M a = x.1 ∧ readB M a = (x.2.2 == 0)) := Lib.hid (by
        have e : hsP M a = [x1, x2] := HSP.out
        unfold readI readB
        rw [e, hx, OKA.out]
        exact ⟨rfl, rfl⟩)
      rw [hx]
      obtain ⟨⟨o, d, n, m, im, co⟩, k, err⟩ := x
      clear hu hx HZ5 HN5 HV
      obtain ⟨z0, z1, z2, z3, z4, z5, zf⟩ := zeroIns_cells HZ6.out
      have hrl : rb < w6.heap.size := (Array.getElem?_eq_some_iff.1 HZ6.out).1
      go_wp2_with fail
      refine bodyPost_ret (v := .tuple #[.agg #[.int .i64 o, .int .i64 d, .int .i64 n, .int .i64 m, .int .i64 im, .int .i64 co], .bool (err == 0)]) (by simp only [results, Try.f32]; simp [go_sem, hrl, z0, z1, z2, z3, z4, z5]) rfl ?_
      rw [HX.out.1, HX.out.2]
      refine ⟨rfl, ?_⟩
      refine New.trans ?_ (New.alloc _ _)
      iterate 6 refine New.set ?_ _ _ (show w.heap.size ≤ rb from hrw)
      exact HN6.out
end
end Go.Proofs.Ytibmgmgkaacibaa

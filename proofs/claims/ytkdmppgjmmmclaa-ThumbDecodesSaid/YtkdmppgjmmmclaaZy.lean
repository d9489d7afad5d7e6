/- The law's own instructions: whatever comes in, some instruction comes out. -/
import Derived.Test.YtkdmppgjmmmclaaZj
import Derived.Test.YtkdmppgjmmmclaaZx
import Derived.Test.YtkdmppgjmmmclaaHand
namespace Go.Proofs.Ytkdmppgjmmmclaa
open Go.RowKit
set_option linter.unusedVariables false
set_option linter.unusedSimpArgs false

abbrev I6.cells (i : I6) : Array Value := #[.int .i64 i.op, .int .i64 i.d, .int .i64 i.n, .int .i64 i.m, .int .i64 i.imm, .int .i64 i.cond]
theorem I6.box {w : World} {b : Nat} {i : I6} {t : TypeId} (h : w.heap[b]? = some (.cells i.cells t (0, 0))) :
    w.cell? ⟨b, 0, none⟩ = some (.int .i64 i.op) ∧ w.cell? ⟨b, 1, none⟩ = some (.int .i64 i.d) ∧ w.cell? ⟨b, 2, none⟩ = some (.int .i64 i.n) ∧ w.cell? ⟨b, 3, none⟩ = some (.int .i64 i.m) ∧ w.cell? ⟨b, 4, none⟩ = some (.int .i64 i.imm) ∧ w.cell? ⟨b, 5, none⟩ = some (.int .i64 i.cond) ∧ (∀ j, w.frozen? ⟨b, j, none⟩ = false) ∧ b < w.heap.size := by
  refine ⟨?_, ?_, ?_, ?_, ?_, ?_, fun j => frozen_of_row w b j _ t h, (Array.getElem?_eq_some_iff.1 h).1⟩ <;> (rw [cell_of_row w b _ _ t (0, 0) h]; rfl)
theorem set_box {w : World} {g j : Nat} {v : Value} {C : Array Value} {e : TypeId} {fr : Nat × Nat} (h : w.heap[g]? = some (.cells C e fr)) : (w.setCell ⟨g, j, none⟩ v).heap[g]? = some (.cells (C.setIfInBounds j v) e fr) := by
  simp [World.setCell, Array.getElem?_modify, h]
theorem set_aside {w : World} {g b j : Nat} {v : Value} (h : b ≠ g) : (w.setCell ⟨b, j, none⟩ v).heap[g]? = w.heap[g]? := by
  simp [World.setCell, Array.getElem?_modify, h]
theorem box_set {w : World} {b : Nat} {i j : I6} {t : TypeId} (h : w.heap[b]? = some (.cells i.cells t (0, 0))) :
    ((((((w.setCell ⟨b, 0, none⟩ (.int .i64 j.op)).setCell ⟨b, 1, none⟩ (.int .i64 j.d)).setCell ⟨b, 2, none⟩ (.int .i64 j.n)).setCell ⟨b, 3, none⟩ (.int .i64 j.m)).setCell ⟨b, 4, none⟩ (.int .i64 j.imm)).setCell ⟨b, 5, none⟩ (.int .i64 j.cond)).heap[b]? = some (.cells j.cells t (0, 0)) := by
  rw [set_box (set_box (set_box (set_box (set_box (set_box h)))))]
  rfl

set_option maxHeartbeats 8000000 in
theorem lClean (i : I6) (hi : i.Ok) (w : World) : Calls Try.prog 30 #[i.val] w fun e w' => (∃ j : I6, j.Ok ∧ e = .returned j.val) ∧ New w w' := by
  have HI := Lib.hid hi
  clear hi
  have H1 : Hid (((w.alloc (.cells i.cells 23)).alloc (.cells #[.int .i64 0, .int .i64 0, .int .i64 0, .int .i64 0, .int .i64 0, .int .i64 0] 23)).heap[w.heap.size]? = some (.cells i.cells 23 (0, 0))) := Lib.hid (by
    rw [(New.alloc (w.alloc (.cells i.cells 23)) _).block _ (by simp) (fun h => h)]; exact heap_alloc_last w _)
  have H2 : Hid (((w.alloc (.cells i.cells 23)).alloc (.cells #[.int .i64 0, .int .i64 0, .int .i64 0, .int .i64 0, .int .i64 0, .int .i64 0] 23)).heap[w.heap.size + 1]? = some (.cells I6.zero.cells 23 (0, 0))) := Lib.hid (by
    have := heap_alloc_last (w.alloc (.cells i.cells 23)) (.cells I6.zero.cells 23)
    rw [show (w.alloc (.cells i.cells 23)).heap.size = w.heap.size + 1 by simp] at this
    exact this)
  have HW := Lib.hid (New.trans (New.alloc w (.cells i.cells 23)) (New.alloc _ (.cells #[.int .i64 0, .int .i64 0, .int .i64 0, .int .i64 0, .int .i64 0, .int .i64 0] 23)))
  go_enter Try.func30, Try.ntmps30
  go_wp2
  go_loopw [3] (fun q wr => ∃ (k : Nat) (j : I6), k ≤ 5 ∧ q = .int .i64 (k : Int) ∧ Hid j.Ok ∧ Hid (wr.heap[w.heap.size]? = some (.cells j.cells 23 (0, 0))) ∧ Hid (wr.heap[w.heap.size + 1]? = some (.cells I6.zero.cells 23 (0, 0))) ∧ Hid (New w wr)) (fun q _ => 5 - (intOf q).toNat)
  case atStart => exact ⟨0, i, by omega, rfl, HI, H1, H2, HW⟩
  case round =>
    obtain ⟨k, j, hk, rfl, HJ, HB, HZ, HN⟩ := hrel
    clear H1 H2 HW HI
    generalize hb : w.heap.size = b at *
    obtain ⟨b0, b1, b2, b3, b4, b5, bf, bl⟩ := I6.box HB.out
    have hkk : k = 0 ∨ k = 1 ∨ k = 2 ∨ k = 3 ∨ k = 4 ∨ k = 5 := by omega
    clear hk
    rcases hkk with rfl | rfl | rfl | rfl | rfl | rfl
    · cases hr : refR j
      · have HJ2 : Hid (I6.Ok ({ j with n := 0 } : I6)) := Lib.hid (by
          have := HJ.out
          have h0 : i64R 0 := by unfold i64R; decide
          refine ⟨?_, ?_, ?_, ?_, ?_, ?_⟩ <;> first | exact this.op | exact this.d | exact this.n | exact this.m | exact this.imm | exact this.cond | exact h0)
        go_wp2_with fail
        refine (qRight j _).mono ?_
        rintro e w1 ⟨rfl, hw1⟩
        rw [hr]
        have hb1 : w1.heap[b]? = some (.cells j.cells 23 (0, 0)) := by rw [hw1.block b bl (fun h => h)]; exact HB.out
        have hz1 : w1.heap[b + 1]? = some (.cells I6.zero.cells 23 (0, 0)) := by rw [hw1.block (b + 1) (Array.getElem?_eq_some_iff.1 HZ.out).1 (fun h => h)]; exact HZ.out
        replace HN := Lib.hid (New.trans HN.out hw1)
        clear b0 b1 b2 b3 b4 b5 bf bl hw1 HB HZ hr
        obtain ⟨b0, b1, b2, b3, b4, b5, bf, bl⟩ := I6.box hb1
        have HB := Lib.hid hb1
        have HZ := Lib.hid hz1
        clear hb1 hz1
        go_wp2_with fail
        refine (qRight ({ j with n := 0 } : I6) _).mono ?_
        rintro e w2 ⟨rfl, hw2⟩
        obtain ⟨_, m0, m1, m2, m3, m4, m5⟩ : w1.heap.size < w2.heap.size ∧ w2.cell? ⟨w1.heap.size, 0, none⟩ = some (.int .i64 j.op) ∧ w2.cell? ⟨w1.heap.size, 1, none⟩ = some (.int .i64 j.d) ∧ w2.cell? ⟨w1.heap.size, 2, none⟩ = some (.int .i64 0) ∧ w2.cell? ⟨w1.heap.size, 3, none⟩ = some (.int .i64 j.m) ∧ w2.cell? ⟨w1.heap.size, 4, none⟩ = some (.int .i64 j.imm) ∧ w2.cell? ⟨w1.heap.size, 5, none⟩ = some (.int .i64 j.cond) := I6.kept (i := ({ j with n := 0 } : I6)) hw2
        have h12 : New w1 w2 := New.trans (New.alloc _ _) hw2
        have hb2 : w2.heap[b]? = some (.cells j.cells 23 (0, 0)) := by rw [h12.block b bl (fun h => h)]; exact HB.out
        have hz2 : w2.heap[b + 1]? = some (.cells I6.zero.cells 23 (0, 0)) := by rw [h12.block (b + 1) (Array.getElem?_eq_some_iff.1 HZ.out).1 (fun h => h)]; exact HZ.out
        replace HN := Lib.hid (New.trans HN.out h12)
        clear b0 b1 b2 b3 b4 b5 bf bl hw2 HB HZ h12
        cases hr2 : refR ({ j with n := 0 } : I6)
        · obtain ⟨b0, b1, b2, b3, b4, b5, bf, bl⟩ := I6.box hb2
          have HB2 := Lib.hid hb2
          have HZ2 := Lib.hid hz2
          clear hb2 hz2 hr2
          go_wp2
          go_roundw
          case rel =>
            refine ⟨1, ({ j with n := 0 } : I6), by omega, by go_num, HJ2, Lib.hid (box_set (j := ({ j with n := 0 } : I6)) HB2.out), Lib.hid ?_, Lib.hid ?_⟩
            · repeat (rw [set_aside (by omega)])
              exact HZ2.out
            · repeat (refine New.set ?_ _ _ (by simp [← hb]))
              exact HN.out
          case measure => simp [intOf]
        · obtain ⟨z0, z1, z2, z3, z4, z5, zf, zl⟩ := I6.box hz2
          simp only [I6.zero] at z0 z1 z2 z3 z4 z5
          clear hb2 hz2 hr2
          go_wp2
          refine bodyPost_ret (v := (({ j with n := 0 } : I6)).val) (by simp only [results, Try.f30]; simp [go_sem, z0, z1, z2, z3, z4, z5]) rfl ?_
          refine ⟨⟨_, HJ2.out, rfl⟩, ?_⟩
          repeat (refine New.set ?_ _ _ (by simp [← hb]))
          exact HN.out
      · go_wp2_with fail
        refine (qRight j _).mono ?_
        rintro e w1 ⟨rfl, hw1⟩
        rw [hr]
        have hb1 : w1.heap[b]? = some (.cells j.cells 23 (0, 0)) := by rw [hw1.block b bl (fun h => h)]; exact HB.out
        have hz1 : w1.heap[b + 1]? = some (.cells I6.zero.cells 23 (0, 0)) := by rw [hw1.block (b + 1) (Array.getElem?_eq_some_iff.1 HZ.out).1 (fun h => h)]; exact HZ.out
        replace HN := Lib.hid (New.trans HN.out hw1)
        clear b0 b1 b2 b3 b4 b5 bf bl hw1 HB HZ hr
        obtain ⟨b0, b1, b2, b3, b4, b5, bf, bl⟩ := I6.box hb1
        obtain ⟨z0, z1, z2, z3, z4, z5, zf, zl⟩ := I6.box hz1
        simp only [I6.zero] at z0 z1 z2 z3 z4 z5
        clear hb1 hz1
        go_wp2
        refine bodyPost_ret (v := j.val) (by simp only [results, Try.f30]; simp [go_sem, z0, z1, z2, z3, z4, z5]) rfl ?_
        refine ⟨⟨_, HJ.out, rfl⟩, ?_⟩
        repeat (refine New.set ?_ _ _ (by simp [← hb]))
        exact HN.out
    · cases hr : refR j
      · have HJ2 : Hid (I6.Ok ({ j with m := 0 } : I6)) := Lib.hid (by
          have := HJ.out
          have h0 : i64R 0 := by unfold i64R; decide
          refine ⟨?_, ?_, ?_, ?_, ?_, ?_⟩ <;> first | exact this.op | exact this.d | exact this.n | exact this.m | exact this.imm | exact this.cond | exact h0)
        go_wp2_with fail
        refine (qRight j _).mono ?_
        rintro e w1 ⟨rfl, hw1⟩
        rw [hr]
        have hb1 : w1.heap[b]? = some (.cells j.cells 23 (0, 0)) := by rw [hw1.block b bl (fun h => h)]; exact HB.out
        have hz1 : w1.heap[b + 1]? = some (.cells I6.zero.cells 23 (0, 0)) := by rw [hw1.block (b + 1) (Array.getElem?_eq_some_iff.1 HZ.out).1 (fun h => h)]; exact HZ.out
        replace HN := Lib.hid (New.trans HN.out hw1)
        clear b0 b1 b2 b3 b4 b5 bf bl hw1 HB HZ hr
        obtain ⟨b0, b1, b2, b3, b4, b5, bf, bl⟩ := I6.box hb1
        have HB := Lib.hid hb1
        have HZ := Lib.hid hz1
        clear hb1 hz1
        go_wp2_with fail
        refine (qRight ({ j with m := 0 } : I6) _).mono ?_
        rintro e w2 ⟨rfl, hw2⟩
        obtain ⟨_, m0, m1, m2, m3, m4, m5⟩ : w1.heap.size < w2.heap.size ∧ w2.cell? ⟨w1.heap.size, 0, none⟩ = some (.int .i64 j.op) ∧ w2.cell? ⟨w1.heap.size, 1, none⟩ = some (.int .i64 j.d) ∧ w2.cell? ⟨w1.heap.size, 2, none⟩ = some (.int .i64 j.n) ∧ w2.cell? ⟨w1.heap.size, 3, none⟩ = some (.int .i64 0) ∧ w2.cell? ⟨w1.heap.size, 4, none⟩ = some (.int .i64 j.imm) ∧ w2.cell? ⟨w1.heap.size, 5, none⟩ = some (.int .i64 j.cond) := I6.kept (i := ({ j with m := 0 } : I6)) hw2
        have h12 : New w1 w2 := New.trans (New.alloc _ _) hw2
        have hb2 : w2.heap[b]? = some (.cells j.cells 23 (0, 0)) := by rw [h12.block b bl (fun h => h)]; exact HB.out
        have hz2 : w2.heap[b + 1]? = some (.cells I6.zero.cells 23 (0, 0)) := by rw [h12.block (b + 1) (Array.getElem?_eq_some_iff.1 HZ.out).1 (fun h => h)]; exact HZ.out
        replace HN := Lib.hid (New.trans HN.out h12)
        clear b0 b1 b2 b3 b4 b5 bf bl hw2 HB HZ h12
        cases hr2 : refR ({ j with m := 0 } : I6)
        · obtain ⟨b0, b1, b2, b3, b4, b5, bf, bl⟩ := I6.box hb2
          have HB2 := Lib.hid hb2
          have HZ2 := Lib.hid hz2
          clear hb2 hz2 hr2
          go_wp2
          go_roundw
          case rel =>
            refine ⟨2, ({ j with m := 0 } : I6), by omega, by go_num, HJ2, Lib.hid (box_set (j := ({ j with m := 0 } : I6)) HB2.out), Lib.hid ?_, Lib.hid ?_⟩
            · repeat (rw [set_aside (by omega)])
              exact HZ2.out
            · repeat (refine New.set ?_ _ _ (by simp [← hb]))
              exact HN.out
          case measure => simp [intOf]
        · obtain ⟨z0, z1, z2, z3, z4, z5, zf, zl⟩ := I6.box hz2
          simp only [I6.zero] at z0 z1 z2 z3 z4 z5
          clear hb2 hz2 hr2
          go_wp2
          refine bodyPost_ret (v := (({ j with m := 0 } : I6)).val) (by simp only [results, Try.f30]; simp [go_sem, z0, z1, z2, z3, z4, z5]) rfl ?_
          refine ⟨⟨_, HJ2.out, rfl⟩, ?_⟩
          repeat (refine New.set ?_ _ _ (by simp [← hb]))
          exact HN.out
      · go_wp2_with fail
        refine (qRight j _).mono ?_
        rintro e w1 ⟨rfl, hw1⟩
        rw [hr]
        have hb1 : w1.heap[b]? = some (.cells j.cells 23 (0, 0)) := by rw [hw1.block b bl (fun h => h)]; exact HB.out
        have hz1 : w1.heap[b + 1]? = some (.cells I6.zero.cells 23 (0, 0)) := by rw [hw1.block (b + 1) (Array.getElem?_eq_some_iff.1 HZ.out).1 (fun h => h)]; exact HZ.out
        replace HN := Lib.hid (New.trans HN.out hw1)
        clear b0 b1 b2 b3 b4 b5 bf bl hw1 HB HZ hr
        obtain ⟨b0, b1, b2, b3, b4, b5, bf, bl⟩ := I6.box hb1
        obtain ⟨z0, z1, z2, z3, z4, z5, zf, zl⟩ := I6.box hz1
        simp only [I6.zero] at z0 z1 z2 z3 z4 z5
        clear hb1 hz1
        go_wp2
        refine bodyPost_ret (v := j.val) (by simp only [results, Try.f30]; simp [go_sem, z0, z1, z2, z3, z4, z5]) rfl ?_
        refine ⟨⟨_, HJ.out, rfl⟩, ?_⟩
        repeat (refine New.set ?_ _ _ (by simp [← hb]))
        exact HN.out
    · cases hr : refR j
      · have HJ2 : Hid (I6.Ok ({ j with d := 0 } : I6)) := Lib.hid (by
          have := HJ.out
          have h0 : i64R 0 := by unfold i64R; decide
          refine ⟨?_, ?_, ?_, ?_, ?_, ?_⟩ <;> first | exact this.op | exact this.d | exact this.n | exact this.m | exact this.imm | exact this.cond | exact h0)
        go_wp2_with fail
        refine (qRight j _).mono ?_
        rintro e w1 ⟨rfl, hw1⟩
        rw [hr]
        have hb1 : w1.heap[b]? = some (.cells j.cells 23 (0, 0)) := by rw [hw1.block b bl (fun h => h)]; exact HB.out
        have hz1 : w1.heap[b + 1]? = some (.cells I6.zero.cells 23 (0, 0)) := by rw [hw1.block (b + 1) (Array.getElem?_eq_some_iff.1 HZ.out).1 (fun h => h)]; exact HZ.out
        replace HN := Lib.hid (New.trans HN.out hw1)
        clear b0 b1 b2 b3 b4 b5 bf bl hw1 HB HZ hr
        obtain ⟨b0, b1, b2, b3, b4, b5, bf, bl⟩ := I6.box hb1
        have HB := Lib.hid hb1
        have HZ := Lib.hid hz1
        clear hb1 hz1
        go_wp2_with fail
        refine (qRight ({ j with d := 0 } : I6) _).mono ?_
        rintro e w2 ⟨rfl, hw2⟩
        obtain ⟨_, m0, m1, m2, m3, m4, m5⟩ : w1.heap.size < w2.heap.size ∧ w2.cell? ⟨w1.heap.size, 0, none⟩ = some (.int .i64 j.op) ∧ w2.cell? ⟨w1.heap.size, 1, none⟩ = some (.int .i64 0) ∧ w2.cell? ⟨w1.heap.size, 2, none⟩ = some (.int .i64 j.n) ∧ w2.cell? ⟨w1.heap.size, 3, none⟩ = some (.int .i64 j.m) ∧ w2.cell? ⟨w1.heap.size, 4, none⟩ = some (.int .i64 j.imm) ∧ w2.cell? ⟨w1.heap.size, 5, none⟩ = some (.int .i64 j.cond) := I6.kept (i := ({ j with d := 0 } : I6)) hw2
        have h12 : New w1 w2 := New.trans (New.alloc _ _) hw2
        have hb2 : w2.heap[b]? = some (.cells j.cells 23 (0, 0)) := by rw [h12.block b bl (fun h => h)]; exact HB.out
        have hz2 : w2.heap[b + 1]? = some (.cells I6.zero.cells 23 (0, 0)) := by rw [h12.block (b + 1) (Array.getElem?_eq_some_iff.1 HZ.out).1 (fun h => h)]; exact HZ.out
        replace HN := Lib.hid (New.trans HN.out h12)
        clear b0 b1 b2 b3 b4 b5 bf bl hw2 HB HZ h12
        cases hr2 : refR ({ j with d := 0 } : I6)
        · have HB2 := Lib.hid hb2
          have HZ2 := Lib.hid hz2
          clear hb2 hz2 hr2
          go_wp2
          go_roundw
          case rel => exact ⟨3, j, by omega, by go_num, HJ, HB2, HZ2, HN⟩
          case measure => simp [intOf]
        · obtain ⟨z0, z1, z2, z3, z4, z5, zf, zl⟩ := I6.box hz2
          simp only [I6.zero] at z0 z1 z2 z3 z4 z5
          clear hb2 hz2 hr2
          go_wp2
          refine bodyPost_ret (v := (({ j with d := 0 } : I6)).val) (by simp only [results, Try.f30]; simp [go_sem, z0, z1, z2, z3, z4, z5]) rfl ?_
          refine ⟨⟨_, HJ2.out, rfl⟩, ?_⟩
          repeat (refine New.set ?_ _ _ (by simp [← hb]))
          exact HN.out
      · go_wp2_with fail
        refine (qRight j _).mono ?_
        rintro e w1 ⟨rfl, hw1⟩
        rw [hr]
        have hb1 : w1.heap[b]? = some (.cells j.cells 23 (0, 0)) := by rw [hw1.block b bl (fun h => h)]; exact HB.out
        have hz1 : w1.heap[b + 1]? = some (.cells I6.zero.cells 23 (0, 0)) := by rw [hw1.block (b + 1) (Array.getElem?_eq_some_iff.1 HZ.out).1 (fun h => h)]; exact HZ.out
        replace HN := Lib.hid (New.trans HN.out hw1)
        clear b0 b1 b2 b3 b4 b5 bf bl hw1 HB HZ hr
        obtain ⟨b0, b1, b2, b3, b4, b5, bf, bl⟩ := I6.box hb1
        obtain ⟨z0, z1, z2, z3, z4, z5, zf, zl⟩ := I6.box hz1
        simp only [I6.zero] at z0 z1 z2 z3 z4 z5
        clear hb1 hz1
        go_wp2
        refine bodyPost_ret (v := j.val) (by simp only [results, Try.f30]; simp [go_sem, z0, z1, z2, z3, z4, z5]) rfl ?_
        refine ⟨⟨_, HJ.out, rfl⟩, ?_⟩
        repeat (refine New.set ?_ _ _ (by simp [← hb]))
        exact HN.out
    · cases hr : refR j
      · have HJ2 : Hid (I6.Ok ({ j with imm := 0 } : I6)) := Lib.hid (by
          have := HJ.out
          have h0 : i64R 0 := by unfold i64R; decide
          refine ⟨?_, ?_, ?_, ?_, ?_, ?_⟩ <;> first | exact this.op | exact this.d | exact this.n | exact this.m | exact this.imm | exact this.cond | exact h0)
        go_wp2_with fail
        refine (qRight j _).mono ?_
        rintro e w1 ⟨rfl, hw1⟩
        rw [hr]
        have hb1 : w1.heap[b]? = some (.cells j.cells 23 (0, 0)) := by rw [hw1.block b bl (fun h => h)]; exact HB.out
        have hz1 : w1.heap[b + 1]? = some (.cells I6.zero.cells 23 (0, 0)) := by rw [hw1.block (b + 1) (Array.getElem?_eq_some_iff.1 HZ.out).1 (fun h => h)]; exact HZ.out
        replace HN := Lib.hid (New.trans HN.out hw1)
        clear b0 b1 b2 b3 b4 b5 bf bl hw1 HB HZ hr
        obtain ⟨b0, b1, b2, b3, b4, b5, bf, bl⟩ := I6.box hb1
        have HB := Lib.hid hb1
        have HZ := Lib.hid hz1
        clear hb1 hz1
        go_wp2_with fail
        refine (qRight ({ j with imm := 0 } : I6) _).mono ?_
        rintro e w2 ⟨rfl, hw2⟩
        obtain ⟨_, m0, m1, m2, m3, m4, m5⟩ : w1.heap.size < w2.heap.size ∧ w2.cell? ⟨w1.heap.size, 0, none⟩ = some (.int .i64 j.op) ∧ w2.cell? ⟨w1.heap.size, 1, none⟩ = some (.int .i64 j.d) ∧ w2.cell? ⟨w1.heap.size, 2, none⟩ = some (.int .i64 j.n) ∧ w2.cell? ⟨w1.heap.size, 3, none⟩ = some (.int .i64 j.m) ∧ w2.cell? ⟨w1.heap.size, 4, none⟩ = some (.int .i64 0) ∧ w2.cell? ⟨w1.heap.size, 5, none⟩ = some (.int .i64 j.cond) := I6.kept (i := ({ j with imm := 0 } : I6)) hw2
        have h12 : New w1 w2 := New.trans (New.alloc _ _) hw2
        have hb2 : w2.heap[b]? = some (.cells j.cells 23 (0, 0)) := by rw [h12.block b bl (fun h => h)]; exact HB.out
        have hz2 : w2.heap[b + 1]? = some (.cells I6.zero.cells 23 (0, 0)) := by rw [h12.block (b + 1) (Array.getElem?_eq_some_iff.1 HZ.out).1 (fun h => h)]; exact HZ.out
        replace HN := Lib.hid (New.trans HN.out h12)
        clear b0 b1 b2 b3 b4 b5 bf bl hw2 HB HZ h12
        cases hr2 : refR ({ j with imm := 0 } : I6)
        · have HB2 := Lib.hid hb2
          have HZ2 := Lib.hid hz2
          clear hb2 hz2 hr2
          go_wp2
          go_roundw
          case rel => exact ⟨4, j, by omega, by go_num, HJ, HB2, HZ2, HN⟩
          case measure => simp [intOf]
        · obtain ⟨z0, z1, z2, z3, z4, z5, zf, zl⟩ := I6.box hz2
          simp only [I6.zero] at z0 z1 z2 z3 z4 z5
          clear hb2 hz2 hr2
          go_wp2
          refine bodyPost_ret (v := (({ j with imm := 0 } : I6)).val) (by simp only [results, Try.f30]; simp [go_sem, z0, z1, z2, z3, z4, z5]) rfl ?_
          refine ⟨⟨_, HJ2.out, rfl⟩, ?_⟩
          repeat (refine New.set ?_ _ _ (by simp [← hb]))
          exact HN.out
      · go_wp2_with fail
        refine (qRight j _).mono ?_
        rintro e w1 ⟨rfl, hw1⟩
        rw [hr]
        have hb1 : w1.heap[b]? = some (.cells j.cells 23 (0, 0)) := by rw [hw1.block b bl (fun h => h)]; exact HB.out
        have hz1 : w1.heap[b + 1]? = some (.cells I6.zero.cells 23 (0, 0)) := by rw [hw1.block (b + 1) (Array.getElem?_eq_some_iff.1 HZ.out).1 (fun h => h)]; exact HZ.out
        replace HN := Lib.hid (New.trans HN.out hw1)
        clear b0 b1 b2 b3 b4 b5 bf bl hw1 HB HZ hr
        obtain ⟨b0, b1, b2, b3, b4, b5, bf, bl⟩ := I6.box hb1
        obtain ⟨z0, z1, z2, z3, z4, z5, zf, zl⟩ := I6.box hz1
        simp only [I6.zero] at z0 z1 z2 z3 z4 z5
        clear hb1 hz1
        go_wp2
        refine bodyPost_ret (v := j.val) (by simp only [results, Try.f30]; simp [go_sem, z0, z1, z2, z3, z4, z5]) rfl ?_
        refine ⟨⟨_, HJ.out, rfl⟩, ?_⟩
        repeat (refine New.set ?_ _ _ (by simp [← hb]))
        exact HN.out
    · cases hr : refR j
      · have HJ2 : Hid (I6.Ok ({ j with m := 0, n := 0 } : I6)) := Lib.hid (by
          have := HJ.out
          have h0 : i64R 0 := by unfold i64R; decide
          refine ⟨?_, ?_, ?_, ?_, ?_, ?_⟩ <;> first | exact this.op | exact this.d | exact this.n | exact this.m | exact this.imm | exact this.cond | exact h0)
        go_wp2_with fail
        refine (qRight j _).mono ?_
        rintro e w1 ⟨rfl, hw1⟩
        rw [hr]
        have hb1 : w1.heap[b]? = some (.cells j.cells 23 (0, 0)) := by rw [hw1.block b bl (fun h => h)]; exact HB.out
        have hz1 : w1.heap[b + 1]? = some (.cells I6.zero.cells 23 (0, 0)) := by rw [hw1.block (b + 1) (Array.getElem?_eq_some_iff.1 HZ.out).1 (fun h => h)]; exact HZ.out
        replace HN := Lib.hid (New.trans HN.out hw1)
        clear b0 b1 b2 b3 b4 b5 bf bl hw1 HB HZ hr
        obtain ⟨b0, b1, b2, b3, b4, b5, bf, bl⟩ := I6.box hb1
        have HB := Lib.hid hb1
        have HZ := Lib.hid hz1
        clear hb1 hz1
        go_wp2_with fail
        refine (qRight ({ j with m := 0, n := 0 } : I6) _).mono ?_
        rintro e w2 ⟨rfl, hw2⟩
        obtain ⟨_, m0, m1, m2, m3, m4, m5⟩ : w1.heap.size < w2.heap.size ∧ w2.cell? ⟨w1.heap.size, 0, none⟩ = some (.int .i64 j.op) ∧ w2.cell? ⟨w1.heap.size, 1, none⟩ = some (.int .i64 j.d) ∧ w2.cell? ⟨w1.heap.size, 2, none⟩ = some (.int .i64 0) ∧ w2.cell? ⟨w1.heap.size, 3, none⟩ = some (.int .i64 0) ∧ w2.cell? ⟨w1.heap.size, 4, none⟩ = some (.int .i64 j.imm) ∧ w2.cell? ⟨w1.heap.size, 5, none⟩ = some (.int .i64 j.cond) := I6.kept (i := ({ j with m := 0, n := 0 } : I6)) hw2
        have h12 : New w1 w2 := New.trans (New.alloc _ _) hw2
        have hb2 : w2.heap[b]? = some (.cells j.cells 23 (0, 0)) := by rw [h12.block b bl (fun h => h)]; exact HB.out
        have hz2 : w2.heap[b + 1]? = some (.cells I6.zero.cells 23 (0, 0)) := by rw [h12.block (b + 1) (Array.getElem?_eq_some_iff.1 HZ.out).1 (fun h => h)]; exact HZ.out
        replace HN := Lib.hid (New.trans HN.out h12)
        clear b0 b1 b2 b3 b4 b5 bf bl hw2 HB HZ h12
        cases hr2 : refR ({ j with m := 0, n := 0 } : I6)
        · have HB2 := Lib.hid hb2
          have HZ2 := Lib.hid hz2
          clear hb2 hz2 hr2
          go_wp2
          go_roundw
          case rel => exact ⟨5, j, by omega, by go_num, HJ, HB2, HZ2, HN⟩
          case measure => simp [intOf]
        · obtain ⟨z0, z1, z2, z3, z4, z5, zf, zl⟩ := I6.box hz2
          simp only [I6.zero] at z0 z1 z2 z3 z4 z5
          clear hb2 hz2 hr2
          go_wp2
          refine bodyPost_ret (v := (({ j with m := 0, n := 0 } : I6)).val) (by simp only [results, Try.f30]; simp [go_sem, z0, z1, z2, z3, z4, z5]) rfl ?_
          refine ⟨⟨_, HJ2.out, rfl⟩, ?_⟩
          repeat (refine New.set ?_ _ _ (by simp [← hb]))
          exact HN.out
      · go_wp2_with fail
        refine (qRight j _).mono ?_
        rintro e w1 ⟨rfl, hw1⟩
        rw [hr]
        have hb1 : w1.heap[b]? = some (.cells j.cells 23 (0, 0)) := by rw [hw1.block b bl (fun h => h)]; exact HB.out
        have hz1 : w1.heap[b + 1]? = some (.cells I6.zero.cells 23 (0, 0)) := by rw [hw1.block (b + 1) (Array.getElem?_eq_some_iff.1 HZ.out).1 (fun h => h)]; exact HZ.out
        replace HN := Lib.hid (New.trans HN.out hw1)
        clear b0 b1 b2 b3 b4 b5 bf bl hw1 HB HZ hr
        obtain ⟨b0, b1, b2, b3, b4, b5, bf, bl⟩ := I6.box hb1
        obtain ⟨z0, z1, z2, z3, z4, z5, zf, zl⟩ := I6.box hz1
        simp only [I6.zero] at z0 z1 z2 z3 z4 z5
        clear hb1 hz1
        go_wp2
        refine bodyPost_ret (v := j.val) (by simp only [results, Try.f30]; simp [go_sem, z0, z1, z2, z3, z4, z5]) rfl ?_
        refine ⟨⟨_, HJ.out, rfl⟩, ?_⟩
        repeat (refine New.set ?_ _ _ (by simp [← hb]))
        exact HN.out
    · obtain ⟨z0, z1, z2, z3, z4, z5, zf, zl⟩ := I6.box HZ.out
      simp only [I6.zero] at z0 z1 z2 z3 z4 z5
      go_wp2
      refine bodyPost_ret (v := j.val) (by simp only [results, Try.f30]; simp [go_sem, z0, z1, z2, z3, z4, z5]) rfl ?_
      refine ⟨⟨_, HJ.out, rfl⟩, ?_⟩
      repeat (refine New.set ?_ _ _ (by simp [← hb]))
      exact HN.out
end Go.Proofs.Ytkdmppgjmmmclaa

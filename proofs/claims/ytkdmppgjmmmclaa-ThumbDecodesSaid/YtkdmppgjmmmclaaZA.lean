/- The law's own instructions: whatever comes in, some instruction comes out. -/
import Derived.Test.YtkdmppgjmmmclaaZy
import Derived.Deep.RegionLaw
import Derived.Deep.CutRange
import Derived.Deep.DeepCutAuto
namespace Go.Proofs.Ytkdmppgjmmmclaa
open Go.RowKit
set_option linter.unusedVariables false
set_option linter.unusedSimpArgs false

theorem lClean' (a b c d e f : Int) (h : (⟨a, b, c, d, e, f⟩ : I6).Ok) (w : World) : Calls Try.prog 30 #[.agg #[.int .i64 a, .int .i64 b, .int .i64 c, .int .i64 d, .int .i64 e, .int .i64 f]] w fun e w' => (∃ j : I6, j.Ok ∧ e = .returned j.val) ∧ New w w' := lClean _ h w
theorem box_any {w : World} {b : Nat} {C : Array Value} {t : TypeId} (h : w.heap[b]? = some (.cells C t (0, 0))) (hC : C.size = 6) :
    ∃ u0 u1 u2 u3 u4 u5, w.cell? ⟨b, 0, none⟩ = some u0 ∧ w.cell? ⟨b, 1, none⟩ = some u1 ∧ w.cell? ⟨b, 2, none⟩ = some u2 ∧ w.cell? ⟨b, 3, none⟩ = some u3 ∧ w.cell? ⟨b, 4, none⟩ = some u4 ∧ w.cell? ⟨b, 5, none⟩ = some u5 ∧ (∀ j, w.frozen? ⟨b, j, none⟩ = false) ∧ b < w.heap.size := by
  refine ⟨C[0], C[1], C[2], C[3], C[4], C[5], ?_, ?_, ?_, ?_, ?_, ?_, fun j => frozen_of_row w b j _ t h, (Array.getElem?_eq_some_iff.1 h).1⟩ <;> (rw [cell_of_row w b _ _ t (0, 0) h]; simp [hC])
theorem i64R_wrap (n : Int) : i64R (wrap64 n) := by unfold i64R wrap64; omega
theorem i64R_wrap' (n : Int) : i64R (IntKind.i64.wrap n) := by rw [IntWalk.i64_left]; exact i64R_wrap n
theorem i64R_mod (n m : Int) (h : 0 < m) (h2 : m ≤ 9223372036854775807) : i64R (n % m) := by
  have := Int.emod_nonneg n (by omega : m ≠ 0)
  have := Int.emod_lt_of_pos n h
  unfold i64R; omega
theorem mk6 (a b c d e f : Int) (h : (⟨a, b, c, d, e, f⟩ : I6).Ok) : ∃ j : I6, j.Ok ∧ Ending.returned (.agg #[.int .i64 a, .int .i64 b, .int .i64 c, .int .i64 d, .int .i64 e, .int .i64 f]) = Ending.returned j.val := ⟨⟨a, b, c, d, e, f⟩, h, rfl⟩
theorem three_boxes (w : World) (A B C : Obj) : (((w.alloc A).alloc B).alloc C).drew.heap[w.heap.size]? = some A ∧ (((w.alloc A).alloc B).alloc C).drew.heap[w.heap.size + 1]? = some B ∧ (((w.alloc A).alloc B).alloc C).drew.heap[w.heap.size + 1 + 1]? = some C := by
  show (((w.heap.push A).push B).push C)[w.heap.size]? = some A ∧ (((w.heap.push A).push B).push C)[w.heap.size + 1]? = some B ∧ (((w.heap.push A).push B).push C)[w.heap.size + 1 + 1]? = some C
  refine ⟨?_, ?_, ?_⟩
  · rw [Array.getElem?_push, if_neg (by simp; omega), Array.getElem?_push, if_neg (by simp), Array.getElem?_push, if_pos rfl]
  · rw [Array.getElem?_push, if_neg (by simp), Array.getElem?_push, if_pos (by simp)]
  · rw [Array.getElem?_push, if_pos (by simp)]
theorem three_new (w : World) (A B C : Obj) : New w (((w.alloc A).alloc B).alloc C).drew :=
  New.trans (New.trans (New.trans (New.alloc _ _) (New.alloc _ _)) (New.alloc _ _)) (Upd.drew _ _)
set_option maxRecDepth 20000 in
set_option maxHeartbeats 8000000 in
theorem lIns (x : I6) (hx : x.Ok) (w : World) : Calls Try.prog 14 #[x.val] w fun e w' => (∃ j : I6, j.Ok ∧ e = .returned j.val) ∧ New w w' := by
  have HX := Lib.hid hx
  clear hx
  go_enter Try.func14, Try.ntmps14
  go_wp2
  go_cut [3] (fun t3 wr => ∃ (i : I6) (b3 : Nat), t3 = .pointer (some ⟨b3, 0, none⟩) ∧ Hid (w.heap.size + 1 < b3) ∧ Hid i.Ok ∧ Hid (0 ≤ i.op ∧ i.op < 47) ∧ Hid (wr.heap[w.heap.size]? = some (.cells x.cells 33 (0, 0))) ∧ Hid (wr.heap[w.heap.size + 1]? = some (.cells I6.zero.cells 23 (0, 0))) ∧ Hid (wr.heap[b3]? = some (.cells i.cells 23 (0, 0))) ∧ Hid (New w wr))
  case first =>
    clear HX
    go_region_held3 (fun u => u.cell? ⟨w.heap.size, 0, none⟩ = some (.int .i64 x.op) ∧ u.cell? ⟨w.heap.size, 1, none⟩ = some (.int .i64 x.d) ∧ u.cell? ⟨w.heap.size, 2, none⟩ = some (.int .i64 x.n) ∧ u.cell? ⟨w.heap.size, 3, none⟩ = some (.int .i64 x.m) ∧ u.cell? ⟨w.heap.size, 4, none⟩ = some (.int .i64 x.imm)) (first
      | (refine ⟨?_, ?_, ?_, ?_, ?_⟩ <;> simp; done) | go_keep | (refine ⟨?_, ?_, ?_, ?_, ?_⟩ <;> go_simp)) (first
      | (go_at_call 20; (refine (hPick _ _ _ (by decide) (by decide)).mono ?_); rintro e w' ⟨rfl, rfl⟩))
    all_goals
      go_wp2_with fail
      go_meet
      have k1 := Int.emod_nonneg x.op (by decide : (47 : Int) ≠ 0)
      have k2 := Int.emod_lt_of_pos x.op (by decide : (0 : Int) < 47)
      have k0 : i64R 0 := by unfold i64R; decide
      refine ⟨⟨x.op % 47, x.d % 8, x.n % 8, x.m % 8, IntKind.i64.wrap (x.imm % 300 - 20), 0⟩, _, rfl, Lib.hid (by omega), Lib.hid ⟨i64R_mod _ _ (by decide) (by decide), i64R_mod _ _ (by decide) (by decide), i64R_mod _ _ (by decide) (by decide), i64R_mod _ _ (by decide) (by decide), i64R_wrap' _, k0⟩, Lib.hid ⟨k1, k2⟩, Lib.hid (three_boxes w _ _ _).1, Lib.hid (three_boxes w _ _ _).2.1, Lib.hid (three_boxes w _ _ _).2.2, Lib.hid (three_new w _ _ _)⟩
  case rest =>
    obtain ⟨i, b3, rfl, H3, HO, HP, HA, HZ, HB, HN⟩ := hcut
    obtain ⟨a0, a1, a2, a3, a4, a5, af, al⟩ := I6.box HA.out
    obtain ⟨b0, b1, b2, b3', b4, b5, bf, bl⟩ := I6.box HB.out
    clear HX
    generalize hb : w.heap.size = b at *
    obtain ⟨z0, z1, z2, z3, z4, z5, zf, zl⟩ := I6.box HZ.out
    simp only [I6.zero] at z0 z1 z2 z3 z4 z5
    generalize hcc : b + 1 = c at *
    have HBC := Lib.hid (show w.heap.size = b ∧ w.heap.size + 1 = c ∧ c < b3 from ⟨hb, by omega, H3.out⟩)
    have hd1 : b ≠ b3 := by have := H3.out; omega
    have hd2 : c ≠ b3 := by have := H3.out; omega
    have hd0 : b ≠ c := by omega
    clear hb hcc H3
    cases n41 : (i.op == 41)
    rotate_left
    · cases hc : decide (0 < x.cond.tmod 7)
      · go_wp2_with (with_reducible refine (hPick _ _ _ (by decide) (by decide)).mono ?_; rintro e w' ⟨rfl, rfl⟩)
        refine bodyPost_ret (by simp only [results, Try.f14]; simp [go_sem, z0, z1, z2, z3, z4, z5]; rfl) rfl ?_
        refine ⟨mk6 _ _ _ _ _ _ ?_, ?_⟩
        · have := HO.out
          refine ⟨?_, ?_, ?_, ?_, ?_, ?_⟩ <;> first | exact this.op | exact this.d | exact this.n | exact this.m | exact this.imm | exact this.cond | exact i64R_mod _ _ (by decide) (by decide) | exact i64R_wrap _ | exact i64R_wrap' _ | (unfold i64R; simp only; omega)
        · repeat (refine New.set ?_ _ _ (by have := HBC.out; simp; omega))
          exact HN.out
      · go_wp2_with (with_reducible refine (hPick _ _ _ (by decide) (by decide)).mono ?_; rintro e w' ⟨rfl, rfl⟩)
        refine (lClean' _ _ _ _ _ _ ?_ _).mono ?_
        · have := HO.out
          refine ⟨?_, ?_, ?_, ?_, ?_, ?_⟩ <;> first | exact this.op | exact this.d | exact this.n | exact this.m | exact this.imm | exact this.cond | exact i64R_mod _ _ (by decide) (by decide) | exact i64R_wrap _ | exact i64R_wrap' _ | (unfold i64R; simp only; omega)
        rintro e w5 ⟨⟨j, hj, rfl⟩, hw5⟩
        have HJ := Lib.hid hj
        obtain ⟨C, hC, hC6⟩ : ∃ C : Array Value, w5.heap[b3]? = some (.cells C 23 (0, 0)) ∧ C.size = 6 := by
          rw [hw5.block b3 (by first | exact bl | (simp; exact bl)) (fun h => h)]
          exact ⟨_, set_box (set_box HB.out), by simp⟩
        have hz5 : w5.heap[c]? = some (.cells I6.zero.cells 23 (0, 0)) := by
          rw [hw5.block c (by first | exact zl | (simp; exact zl)) (fun h => h)]
          repeat (rw [set_aside (by omega)])
          exact HZ.out
        have HN5 : Hid (New w w5) := Lib.hid (by
          refine New.trans ?_ hw5
          repeat (refine New.set ?_ _ _ (by have := HBC.out; simp; omega))
          exact HN.out)
        clear hw5 hj a0 a1 a2 a3 a4 a5 af al b0 b1 b2 b3' b4 b5 bf bl z0 z1 z2 z3 z4 z5 zf zl
        obtain ⟨u0, u1, u2, u3, u4, u5, q0, q1, q2, q3, q4, q5, qf, ql⟩ := box_any hC hC6
        obtain ⟨z0, z1, z2, z3, z4, z5, zf, zl⟩ := I6.box hz5
        simp only [I6.zero] at z0 z1 z2 z3 z4 z5
        clear hC hC6 hz5
        go_wp2
        refine bodyPost_ret (v := j.val) (by simp only [results, Try.f14]; simp [go_sem, z0, z1, z2, z3, z4, z5]) rfl ?_
        refine ⟨⟨j, HJ.out, rfl⟩, ?_⟩
        repeat (refine New.set ?_ _ _ (by have := HBC.out; simp; omega))
        exact HN5.out
    cases n42 : (i.op == 42)
    rotate_left
    · cases hc : decide (0 < x.cond.tmod 7)
      · go_wp2_with (with_reducible refine (hPick _ _ _ (by decide) (by decide)).mono ?_; rintro e w' ⟨rfl, rfl⟩)
        refine bodyPost_ret (by simp only [results, Try.f14]; simp [go_sem, z0, z1, z2, z3, z4, z5]; rfl) rfl ?_
        refine ⟨mk6 _ _ _ _ _ _ ?_, ?_⟩
        · have := HO.out
          refine ⟨?_, ?_, ?_, ?_, ?_, ?_⟩ <;> first | exact this.op | exact this.d | exact this.n | exact this.m | exact this.imm | exact this.cond | exact i64R_mod _ _ (by decide) (by decide) | exact i64R_wrap _ | exact i64R_wrap' _ | (unfold i64R; simp only; omega)
        · repeat (refine New.set ?_ _ _ (by have := HBC.out; simp; omega))
          exact HN.out
      · go_wp2_with (with_reducible refine (hPick _ _ _ (by decide) (by decide)).mono ?_; rintro e w' ⟨rfl, rfl⟩)
        refine (lClean' _ _ _ _ _ _ ?_ _).mono ?_
        · have := HO.out
          refine ⟨?_, ?_, ?_, ?_, ?_, ?_⟩ <;> first | exact this.op | exact this.d | exact this.n | exact this.m | exact this.imm | exact this.cond | exact i64R_mod _ _ (by decide) (by decide) | exact i64R_wrap _ | exact i64R_wrap' _ | (unfold i64R; simp only; omega)
        rintro e w5 ⟨⟨j, hj, rfl⟩, hw5⟩
        have HJ := Lib.hid hj
        obtain ⟨C, hC, hC6⟩ : ∃ C : Array Value, w5.heap[b3]? = some (.cells C 23 (0, 0)) ∧ C.size = 6 := by
          rw [hw5.block b3 (by first | exact bl | (simp; exact bl)) (fun h => h)]
          exact ⟨_, set_box HB.out, by simp⟩
        have hz5 : w5.heap[c]? = some (.cells I6.zero.cells 23 (0, 0)) := by
          rw [hw5.block c (by first | exact zl | (simp; exact zl)) (fun h => h)]
          repeat (rw [set_aside (by omega)])
          exact HZ.out
        have HN5 : Hid (New w w5) := Lib.hid (by
          refine New.trans ?_ hw5
          repeat (refine New.set ?_ _ _ (by have := HBC.out; simp; omega))
          exact HN.out)
        clear hw5 hj a0 a1 a2 a3 a4 a5 af al b0 b1 b2 b3' b4 b5 bf bl z0 z1 z2 z3 z4 z5 zf zl
        obtain ⟨u0, u1, u2, u3, u4, u5, q0, q1, q2, q3, q4, q5, qf, ql⟩ := box_any hC hC6
        obtain ⟨z0, z1, z2, z3, z4, z5, zf, zl⟩ := I6.box hz5
        simp only [I6.zero] at z0 z1 z2 z3 z4 z5
        clear hC hC6 hz5
        go_wp2
        refine bodyPost_ret (v := j.val) (by simp only [results, Try.f14]; simp [go_sem, z0, z1, z2, z3, z4, z5]) rfl ?_
        refine ⟨⟨j, HJ.out, rfl⟩, ?_⟩
        repeat (refine New.set ?_ _ _ (by have := HBC.out; simp; omega))
        exact HN5.out
    cases n43 : (i.op == 43)
    rotate_left
    · cases hc : decide (0 < x.cond.tmod 7)
      · go_wp2_with (with_reducible refine (hPick _ _ _ (by decide) (by decide)).mono ?_; rintro e w' ⟨rfl, rfl⟩)
        refine bodyPost_ret (by simp only [results, Try.f14]; simp [go_sem, z0, z1, z2, z3, z4, z5]; rfl) rfl ?_
        refine ⟨mk6 _ _ _ _ _ _ ?_, ?_⟩
        · have := HO.out
          refine ⟨?_, ?_, ?_, ?_, ?_, ?_⟩ <;> first | exact this.op | exact this.d | exact this.n | exact this.m | exact this.imm | exact this.cond | exact i64R_mod _ _ (by decide) (by decide) | exact i64R_wrap _ | exact i64R_wrap' _ | (unfold i64R; simp only; omega)
        · repeat (refine New.set ?_ _ _ (by have := HBC.out; simp; omega))
          exact HN.out
      · go_wp2_with (with_reducible refine (hPick _ _ _ (by decide) (by decide)).mono ?_; rintro e w' ⟨rfl, rfl⟩)
        refine (lClean' _ _ _ _ _ _ ?_ _).mono ?_
        · have := HO.out
          refine ⟨?_, ?_, ?_, ?_, ?_, ?_⟩ <;> first | exact this.op | exact this.d | exact this.n | exact this.m | exact this.imm | exact this.cond | exact i64R_mod _ _ (by decide) (by decide) | exact i64R_wrap _ | exact i64R_wrap' _ | (unfold i64R; simp only; omega)
        rintro e w5 ⟨⟨j, hj, rfl⟩, hw5⟩
        have HJ := Lib.hid hj
        obtain ⟨C, hC, hC6⟩ : ∃ C : Array Value, w5.heap[b3]? = some (.cells C 23 (0, 0)) ∧ C.size = 6 := by
          rw [hw5.block b3 (by first | exact bl | (simp; exact bl)) (fun h => h)]
          exact ⟨_, set_box HB.out, by simp⟩
        have hz5 : w5.heap[c]? = some (.cells I6.zero.cells 23 (0, 0)) := by
          rw [hw5.block c (by first | exact zl | (simp; exact zl)) (fun h => h)]
          repeat (rw [set_aside (by omega)])
          exact HZ.out
        have HN5 : Hid (New w w5) := Lib.hid (by
          refine New.trans ?_ hw5
          repeat (refine New.set ?_ _ _ (by have := HBC.out; simp; omega))
          exact HN.out)
        clear hw5 hj a0 a1 a2 a3 a4 a5 af al b0 b1 b2 b3' b4 b5 bf bl z0 z1 z2 z3 z4 z5 zf zl
        obtain ⟨u0, u1, u2, u3, u4, u5, q0, q1, q2, q3, q4, q5, qf, ql⟩ := box_any hC hC6
        obtain ⟨z0, z1, z2, z3, z4, z5, zf, zl⟩ := I6.box hz5
        simp only [I6.zero] at z0 z1 z2 z3 z4 z5
        clear hC hC6 hz5
        go_wp2
        refine bodyPost_ret (v := j.val) (by simp only [results, Try.f14]; simp [go_sem, z0, z1, z2, z3, z4, z5]) rfl ?_
        refine ⟨⟨j, HJ.out, rfl⟩, ?_⟩
        repeat (refine New.set ?_ _ _ (by have := HBC.out; simp; omega))
        exact HN5.out
    cases n35 : (i.op == 35)
    rotate_left
    · cases hc : decide (0 < x.cond.tmod 7)
      · go_wp2_with (with_reducible refine (hPick _ _ _ (by decide) (by decide)).mono ?_; rintro e w' ⟨rfl, rfl⟩)
        refine bodyPost_ret (by simp only [results, Try.f14]; simp [go_sem, z0, z1, z2, z3, z4, z5]; rfl) rfl ?_
        refine ⟨mk6 _ _ _ _ _ _ ?_, ?_⟩
        · have := HO.out
          refine ⟨?_, ?_, ?_, ?_, ?_, ?_⟩ <;> first | exact this.op | exact this.d | exact this.n | exact this.m | exact this.imm | exact this.cond | exact i64R_mod _ _ (by decide) (by decide) | exact i64R_wrap _ | exact i64R_wrap' _ | (unfold i64R; simp only; omega)
        · repeat (refine New.set ?_ _ _ (by have := HBC.out; simp; omega))
          exact HN.out
      · go_wp2_with (with_reducible refine (hPick _ _ _ (by decide) (by decide)).mono ?_; rintro e w' ⟨rfl, rfl⟩)
        refine (lClean' _ _ _ _ _ _ ?_ _).mono ?_
        · have := HO.out
          refine ⟨?_, ?_, ?_, ?_, ?_, ?_⟩ <;> first | exact this.op | exact this.d | exact this.n | exact this.m | exact this.imm | exact this.cond | exact i64R_mod _ _ (by decide) (by decide) | exact i64R_wrap _ | exact i64R_wrap' _ | (unfold i64R; simp only; omega)
        rintro e w5 ⟨⟨j, hj, rfl⟩, hw5⟩
        have HJ := Lib.hid hj
        obtain ⟨C, hC, hC6⟩ : ∃ C : Array Value, w5.heap[b3]? = some (.cells C 23 (0, 0)) ∧ C.size = 6 := by
          rw [hw5.block b3 (by first | exact bl | (simp; exact bl)) (fun h => h)]
          exact ⟨_, set_box HB.out, by simp⟩
        have hz5 : w5.heap[c]? = some (.cells I6.zero.cells 23 (0, 0)) := by
          rw [hw5.block c (by first | exact zl | (simp; exact zl)) (fun h => h)]
          repeat (rw [set_aside (by omega)])
          exact HZ.out
        have HN5 : Hid (New w w5) := Lib.hid (by
          refine New.trans ?_ hw5
          repeat (refine New.set ?_ _ _ (by have := HBC.out; simp; omega))
          exact HN.out)
        clear hw5 hj a0 a1 a2 a3 a4 a5 af al b0 b1 b2 b3' b4 b5 bf bl z0 z1 z2 z3 z4 z5 zf zl
        obtain ⟨u0, u1, u2, u3, u4, u5, q0, q1, q2, q3, q4, q5, qf, ql⟩ := box_any hC hC6
        obtain ⟨z0, z1, z2, z3, z4, z5, zf, zl⟩ := I6.box hz5
        simp only [I6.zero] at z0 z1 z2 z3 z4 z5
        clear hC hC6 hz5
        go_wp2
        refine bodyPost_ret (v := j.val) (by simp only [results, Try.f14]; simp [go_sem, z0, z1, z2, z3, z4, z5]) rfl ?_
        refine ⟨⟨j, HJ.out, rfl⟩, ?_⟩
        repeat (refine New.set ?_ _ _ (by have := HBC.out; simp; omega))
        exact HN5.out
    cases n36 : (i.op == 36)
    rotate_left
    · cases hc : decide (0 < x.cond.tmod 7)
      · go_wp2_with (with_reducible refine (hPick _ _ _ (by decide) (by decide)).mono ?_; rintro e w' ⟨rfl, rfl⟩)
        refine bodyPost_ret (by simp only [results, Try.f14]; simp [go_sem, z0, z1, z2, z3, z4, z5]; rfl) rfl ?_
        refine ⟨mk6 _ _ _ _ _ _ ?_, ?_⟩
        · have := HO.out
          refine ⟨?_, ?_, ?_, ?_, ?_, ?_⟩ <;> first | exact this.op | exact this.d | exact this.n | exact this.m | exact this.imm | exact this.cond | exact i64R_mod _ _ (by decide) (by decide) | exact i64R_wrap _ | exact i64R_wrap' _ | (unfold i64R; simp only; omega)
        · repeat (refine New.set ?_ _ _ (by have := HBC.out; simp; omega))
          exact HN.out
      · go_wp2_with (with_reducible refine (hPick _ _ _ (by decide) (by decide)).mono ?_; rintro e w' ⟨rfl, rfl⟩)
        refine (lClean' _ _ _ _ _ _ ?_ _).mono ?_
        · have := HO.out
          refine ⟨?_, ?_, ?_, ?_, ?_, ?_⟩ <;> first | exact this.op | exact this.d | exact this.n | exact this.m | exact this.imm | exact this.cond | exact i64R_mod _ _ (by decide) (by decide) | exact i64R_wrap _ | exact i64R_wrap' _ | (unfold i64R; simp only; omega)
        rintro e w5 ⟨⟨j, hj, rfl⟩, hw5⟩
        have HJ := Lib.hid hj
        obtain ⟨C, hC, hC6⟩ : ∃ C : Array Value, w5.heap[b3]? = some (.cells C 23 (0, 0)) ∧ C.size = 6 := by
          rw [hw5.block b3 (by first | exact bl | (simp; exact bl)) (fun h => h)]
          exact ⟨_, set_box HB.out, by simp⟩
        have hz5 : w5.heap[c]? = some (.cells I6.zero.cells 23 (0, 0)) := by
          rw [hw5.block c (by first | exact zl | (simp; exact zl)) (fun h => h)]
          repeat (rw [set_aside (by omega)])
          exact HZ.out
        have HN5 : Hid (New w w5) := Lib.hid (by
          refine New.trans ?_ hw5
          repeat (refine New.set ?_ _ _ (by have := HBC.out; simp; omega))
          exact HN.out)
        clear hw5 hj a0 a1 a2 a3 a4 a5 af al b0 b1 b2 b3' b4 b5 bf bl z0 z1 z2 z3 z4 z5 zf zl
        obtain ⟨u0, u1, u2, u3, u4, u5, q0, q1, q2, q3, q4, q5, qf, ql⟩ := box_any hC hC6
        obtain ⟨z0, z1, z2, z3, z4, z5, zf, zl⟩ := I6.box hz5
        simp only [I6.zero] at z0 z1 z2 z3 z4 z5
        clear hC hC6 hz5
        go_wp2
        refine bodyPost_ret (v := j.val) (by simp only [results, Try.f14]; simp [go_sem, z0, z1, z2, z3, z4, z5]) rfl ?_
        refine ⟨⟨j, HJ.out, rfl⟩, ?_⟩
        repeat (refine New.set ?_ _ _ (by have := HBC.out; simp; omega))
        exact HN5.out
    cases n37 : (i.op == 37)
    rotate_left
    · cases hc : decide (0 < x.cond.tmod 7)
      · go_wp2_with (with_reducible refine (hPick _ _ _ (by decide) (by decide)).mono ?_; rintro e w' ⟨rfl, rfl⟩)
        refine bodyPost_ret (by simp only [results, Try.f14]; simp [go_sem, z0, z1, z2, z3, z4, z5]; rfl) rfl ?_
        refine ⟨mk6 _ _ _ _ _ _ ?_, ?_⟩
        · have := HO.out
          refine ⟨?_, ?_, ?_, ?_, ?_, ?_⟩ <;> first | exact this.op | exact this.d | exact this.n | exact this.m | exact this.imm | exact this.cond | exact i64R_mod _ _ (by decide) (by decide) | exact i64R_wrap _ | exact i64R_wrap' _ | (unfold i64R; simp only; omega)
        · repeat (refine New.set ?_ _ _ (by have := HBC.out; simp; omega))
          exact HN.out
      · go_wp2_with (with_reducible refine (hPick _ _ _ (by decide) (by decide)).mono ?_; rintro e w' ⟨rfl, rfl⟩)
        refine (lClean' _ _ _ _ _ _ ?_ _).mono ?_
        · have := HO.out
          refine ⟨?_, ?_, ?_, ?_, ?_, ?_⟩ <;> first | exact this.op | exact this.d | exact this.n | exact this.m | exact this.imm | exact this.cond | exact i64R_mod _ _ (by decide) (by decide) | exact i64R_wrap _ | exact i64R_wrap' _ | (unfold i64R; simp only; omega)
        rintro e w5 ⟨⟨j, hj, rfl⟩, hw5⟩
        have HJ := Lib.hid hj
        obtain ⟨C, hC, hC6⟩ : ∃ C : Array Value, w5.heap[b3]? = some (.cells C 23 (0, 0)) ∧ C.size = 6 := by
          rw [hw5.block b3 (by first | exact bl | (simp; exact bl)) (fun h => h)]
          exact ⟨_, set_box HB.out, by simp⟩
        have hz5 : w5.heap[c]? = some (.cells I6.zero.cells 23 (0, 0)) := by
          rw [hw5.block c (by first | exact zl | (simp; exact zl)) (fun h => h)]
          repeat (rw [set_aside (by omega)])
          exact HZ.out
        have HN5 : Hid (New w w5) := Lib.hid (by
          refine New.trans ?_ hw5
          repeat (refine New.set ?_ _ _ (by have := HBC.out; simp; omega))
          exact HN.out)
        clear hw5 hj a0 a1 a2 a3 a4 a5 af al b0 b1 b2 b3' b4 b5 bf bl z0 z1 z2 z3 z4 z5 zf zl
        obtain ⟨u0, u1, u2, u3, u4, u5, q0, q1, q2, q3, q4, q5, qf, ql⟩ := box_any hC hC6
        obtain ⟨z0, z1, z2, z3, z4, z5, zf, zl⟩ := I6.box hz5
        simp only [I6.zero] at z0 z1 z2 z3 z4 z5
        clear hC hC6 hz5
        go_wp2
        refine bodyPost_ret (v := j.val) (by simp only [results, Try.f14]; simp [go_sem, z0, z1, z2, z3, z4, z5]) rfl ?_
        refine ⟨⟨j, HJ.out, rfl⟩, ?_⟩
        repeat (refine New.set ?_ _ _ (by have := HBC.out; simp; omega))
        exact HN5.out
    cases n38 : (i.op == 38)
    rotate_left
    · cases hc : decide (0 < x.cond.tmod 7)
      · go_wp2_with (with_reducible refine (hPick _ _ _ (by decide) (by decide)).mono ?_; rintro e w' ⟨rfl, rfl⟩)
        refine bodyPost_ret (by simp only [results, Try.f14]; simp [go_sem, z0, z1, z2, z3, z4, z5]; rfl) rfl ?_
        refine ⟨mk6 _ _ _ _ _ _ ?_, ?_⟩
        · have := HO.out
          refine ⟨?_, ?_, ?_, ?_, ?_, ?_⟩ <;> first | exact this.op | exact this.d | exact this.n | exact this.m | exact this.imm | exact this.cond | exact i64R_mod _ _ (by decide) (by decide) | exact i64R_wrap _ | exact i64R_wrap' _ | (unfold i64R; simp only; omega)
        · repeat (refine New.set ?_ _ _ (by have := HBC.out; simp; omega))
          exact HN.out
      · go_wp2_with (with_reducible refine (hPick _ _ _ (by decide) (by decide)).mono ?_; rintro e w' ⟨rfl, rfl⟩)
        refine (lClean' _ _ _ _ _ _ ?_ _).mono ?_
        · have := HO.out
          refine ⟨?_, ?_, ?_, ?_, ?_, ?_⟩ <;> first | exact this.op | exact this.d | exact this.n | exact this.m | exact this.imm | exact this.cond | exact i64R_mod _ _ (by decide) (by decide) | exact i64R_wrap _ | exact i64R_wrap' _ | (unfold i64R; simp only; omega)
        rintro e w5 ⟨⟨j, hj, rfl⟩, hw5⟩
        have HJ := Lib.hid hj
        obtain ⟨C, hC, hC6⟩ : ∃ C : Array Value, w5.heap[b3]? = some (.cells C 23 (0, 0)) ∧ C.size = 6 := by
          rw [hw5.block b3 (by first | exact bl | (simp; exact bl)) (fun h => h)]
          exact ⟨_, set_box HB.out, by simp⟩
        have hz5 : w5.heap[c]? = some (.cells I6.zero.cells 23 (0, 0)) := by
          rw [hw5.block c (by first | exact zl | (simp; exact zl)) (fun h => h)]
          repeat (rw [set_aside (by omega)])
          exact HZ.out
        have HN5 : Hid (New w w5) := Lib.hid (by
          refine New.trans ?_ hw5
          repeat (refine New.set ?_ _ _ (by have := HBC.out; simp; omega))
          exact HN.out)
        clear hw5 hj a0 a1 a2 a3 a4 a5 af al b0 b1 b2 b3' b4 b5 bf bl z0 z1 z2 z3 z4 z5 zf zl
        obtain ⟨u0, u1, u2, u3, u4, u5, q0, q1, q2, q3, q4, q5, qf, ql⟩ := box_any hC hC6
        obtain ⟨z0, z1, z2, z3, z4, z5, zf, zl⟩ := I6.box hz5
        simp only [I6.zero] at z0 z1 z2 z3 z4 z5
        clear hC hC6 hz5
        go_wp2
        refine bodyPost_ret (v := j.val) (by simp only [results, Try.f14]; simp [go_sem, z0, z1, z2, z3, z4, z5]) rfl ?_
        refine ⟨⟨j, HJ.out, rfl⟩, ?_⟩
        repeat (refine New.set ?_ _ _ (by have := HBC.out; simp; omega))
        exact HN5.out
    cases n31 : (i.op == 31)
    rotate_left
    · cases hc : decide (0 < x.cond.tmod 7)
      · go_wp2_with (with_reducible refine (hPick _ _ _ (by decide) (by decide)).mono ?_; rintro e w' ⟨rfl, rfl⟩)
        refine bodyPost_ret (by simp only [results, Try.f14]; simp [go_sem, z0, z1, z2, z3, z4, z5]; rfl) rfl ?_
        refine ⟨mk6 _ _ _ _ _ _ ?_, ?_⟩
        · have := HO.out
          refine ⟨?_, ?_, ?_, ?_, ?_, ?_⟩ <;> first | exact this.op | exact this.d | exact this.n | exact this.m | exact this.imm | exact this.cond | exact i64R_mod _ _ (by decide) (by decide) | exact i64R_wrap _ | exact i64R_wrap' _ | (unfold i64R; simp only; omega)
        · repeat (refine New.set ?_ _ _ (by have := HBC.out; simp; omega))
          exact HN.out
      · go_wp2_with (with_reducible refine (hPick _ _ _ (by decide) (by decide)).mono ?_; rintro e w' ⟨rfl, rfl⟩)
        refine (lClean' _ _ _ _ _ _ ?_ _).mono ?_
        · have := HO.out
          refine ⟨?_, ?_, ?_, ?_, ?_, ?_⟩ <;> first | exact this.op | exact this.d | exact this.n | exact this.m | exact this.imm | exact this.cond | exact i64R_mod _ _ (by decide) (by decide) | exact i64R_wrap _ | exact i64R_wrap' _ | (unfold i64R; simp only; omega)
        rintro e w5 ⟨⟨j, hj, rfl⟩, hw5⟩
        have HJ := Lib.hid hj
        obtain ⟨C, hC, hC6⟩ : ∃ C : Array Value, w5.heap[b3]? = some (.cells C 23 (0, 0)) ∧ C.size = 6 := by
          rw [hw5.block b3 (by first | exact bl | (simp; exact bl)) (fun h => h)]
          exact ⟨_, set_box HB.out, by simp⟩
        have hz5 : w5.heap[c]? = some (.cells I6.zero.cells 23 (0, 0)) := by
          rw [hw5.block c (by first | exact zl | (simp; exact zl)) (fun h => h)]
          repeat (rw [set_aside (by omega)])
          exact HZ.out
        have HN5 : Hid (New w w5) := Lib.hid (by
          refine New.trans ?_ hw5
          repeat (refine New.set ?_ _ _ (by have := HBC.out; simp; omega))
          exact HN.out)
        clear hw5 hj a0 a1 a2 a3 a4 a5 af al b0 b1 b2 b3' b4 b5 bf bl z0 z1 z2 z3 z4 z5 zf zl
        obtain ⟨u0, u1, u2, u3, u4, u5, q0, q1, q2, q3, q4, q5, qf, ql⟩ := box_any hC hC6
        obtain ⟨z0, z1, z2, z3, z4, z5, zf, zl⟩ := I6.box hz5
        simp only [I6.zero] at z0 z1 z2 z3 z4 z5
        clear hC hC6 hz5
        go_wp2
        refine bodyPost_ret (v := j.val) (by simp only [results, Try.f14]; simp [go_sem, z0, z1, z2, z3, z4, z5]) rfl ?_
        refine ⟨⟨j, HJ.out, rfl⟩, ?_⟩
        repeat (refine New.set ?_ _ _ (by have := HBC.out; simp; omega))
        exact HN5.out
    cases n32 : (i.op == 32)
    rotate_left
    · cases hc : decide (0 < x.cond.tmod 7)
      · go_wp2_with (with_reducible refine (hPick _ _ _ (by decide) (by decide)).mono ?_; rintro e w' ⟨rfl, rfl⟩)
        refine bodyPost_ret (by simp only [results, Try.f14]; simp [go_sem, z0, z1, z2, z3, z4, z5]; rfl) rfl ?_
        refine ⟨mk6 _ _ _ _ _ _ ?_, ?_⟩
        · have := HO.out
          refine ⟨?_, ?_, ?_, ?_, ?_, ?_⟩ <;> first | exact this.op | exact this.d | exact this.n | exact this.m | exact this.imm | exact this.cond | exact i64R_mod _ _ (by decide) (by decide) | exact i64R_wrap _ | exact i64R_wrap' _ | (unfold i64R; simp only; omega)
        · repeat (refine New.set ?_ _ _ (by have := HBC.out; simp; omega))
          exact HN.out
      · go_wp2_with (with_reducible refine (hPick _ _ _ (by decide) (by decide)).mono ?_; rintro e w' ⟨rfl, rfl⟩)
        refine (lClean' _ _ _ _ _ _ ?_ _).mono ?_
        · have := HO.out
          refine ⟨?_, ?_, ?_, ?_, ?_, ?_⟩ <;> first | exact this.op | exact this.d | exact this.n | exact this.m | exact this.imm | exact this.cond | exact i64R_mod _ _ (by decide) (by decide) | exact i64R_wrap _ | exact i64R_wrap' _ | (unfold i64R; simp only; omega)
        rintro e w5 ⟨⟨j, hj, rfl⟩, hw5⟩
        have HJ := Lib.hid hj
        obtain ⟨C, hC, hC6⟩ : ∃ C : Array Value, w5.heap[b3]? = some (.cells C 23 (0, 0)) ∧ C.size = 6 := by
          rw [hw5.block b3 (by first | exact bl | (simp; exact bl)) (fun h => h)]
          exact ⟨_, set_box HB.out, by simp⟩
        have hz5 : w5.heap[c]? = some (.cells I6.zero.cells 23 (0, 0)) := by
          rw [hw5.block c (by first | exact zl | (simp; exact zl)) (fun h => h)]
          repeat (rw [set_aside (by omega)])
          exact HZ.out
        have HN5 : Hid (New w w5) := Lib.hid (by
          refine New.trans ?_ hw5
          repeat (refine New.set ?_ _ _ (by have := HBC.out; simp; omega))
          exact HN.out)
        clear hw5 hj a0 a1 a2 a3 a4 a5 af al b0 b1 b2 b3' b4 b5 bf bl z0 z1 z2 z3 z4 z5 zf zl
        obtain ⟨u0, u1, u2, u3, u4, u5, q0, q1, q2, q3, q4, q5, qf, ql⟩ := box_any hC hC6
        obtain ⟨z0, z1, z2, z3, z4, z5, zf, zl⟩ := I6.box hz5
        simp only [I6.zero] at z0 z1 z2 z3 z4 z5
        clear hC hC6 hz5
        go_wp2
        refine bodyPost_ret (v := j.val) (by simp only [results, Try.f14]; simp [go_sem, z0, z1, z2, z3, z4, z5]) rfl ?_
        refine ⟨⟨j, HJ.out, rfl⟩, ?_⟩
        repeat (refine New.set ?_ _ _ (by have := HBC.out; simp; omega))
        exact HN5.out
    cases n28 : (i.op == 28)
    rotate_left
    · cases hc : decide (0 < x.cond.tmod 7)
      · go_wp2_with (with_reducible refine (hPick _ _ _ (by decide) (by decide)).mono ?_; rintro e w' ⟨rfl, rfl⟩)
        refine bodyPost_ret (by simp only [results, Try.f14]; simp [go_sem, z0, z1, z2, z3, z4, z5]; rfl) rfl ?_
        refine ⟨mk6 _ _ _ _ _ _ ?_, ?_⟩
        · have := HO.out
          refine ⟨?_, ?_, ?_, ?_, ?_, ?_⟩ <;> first | exact this.op | exact this.d | exact this.n | exact this.m | exact this.imm | exact this.cond | exact i64R_mod _ _ (by decide) (by decide) | exact i64R_wrap _ | exact i64R_wrap' _ | (unfold i64R; simp only; omega)
        · repeat (refine New.set ?_ _ _ (by have := HBC.out; simp; omega))
          exact HN.out
      · go_wp2_with (with_reducible refine (hPick _ _ _ (by decide) (by decide)).mono ?_; rintro e w' ⟨rfl, rfl⟩)
        refine (lClean' _ _ _ _ _ _ ?_ _).mono ?_
        · have := HO.out
          refine ⟨?_, ?_, ?_, ?_, ?_, ?_⟩ <;> first | exact this.op | exact this.d | exact this.n | exact this.m | exact this.imm | exact this.cond | exact i64R_mod _ _ (by decide) (by decide) | exact i64R_wrap _ | exact i64R_wrap' _ | (unfold i64R; simp only; omega)
        rintro e w5 ⟨⟨j, hj, rfl⟩, hw5⟩
        have HJ := Lib.hid hj
        obtain ⟨C, hC, hC6⟩ : ∃ C : Array Value, w5.heap[b3]? = some (.cells C 23 (0, 0)) ∧ C.size = 6 := by
          rw [hw5.block b3 (by first | exact bl | (simp; exact bl)) (fun h => h)]
          exact ⟨_, set_box (set_box HB.out), by simp⟩
        have hz5 : w5.heap[c]? = some (.cells I6.zero.cells 23 (0, 0)) := by
          rw [hw5.block c (by first | exact zl | (simp; exact zl)) (fun h => h)]
          repeat (rw [set_aside (by omega)])
          exact HZ.out
        have HN5 : Hid (New w w5) := Lib.hid (by
          refine New.trans ?_ hw5
          repeat (refine New.set ?_ _ _ (by have := HBC.out; simp; omega))
          exact HN.out)
        clear hw5 hj a0 a1 a2 a3 a4 a5 af al b0 b1 b2 b3' b4 b5 bf bl z0 z1 z2 z3 z4 z5 zf zl
        obtain ⟨u0, u1, u2, u3, u4, u5, q0, q1, q2, q3, q4, q5, qf, ql⟩ := box_any hC hC6
        obtain ⟨z0, z1, z2, z3, z4, z5, zf, zl⟩ := I6.box hz5
        simp only [I6.zero] at z0 z1 z2 z3 z4 z5
        clear hC hC6 hz5
        go_wp2
        refine bodyPost_ret (v := j.val) (by simp only [results, Try.f14]; simp [go_sem, z0, z1, z2, z3, z4, z5]) rfl ?_
        refine ⟨⟨j, HJ.out, rfl⟩, ?_⟩
        repeat (refine New.set ?_ _ _ (by have := HBC.out; simp; omega))
        exact HN5.out
    cases n1 : (i.op == 1)
    rotate_left
    · cases hc : decide (0 < x.cond.tmod 7)
      · go_wp2_with (with_reducible refine (hPick _ _ _ (by decide) (by decide)).mono ?_; rintro e w' ⟨rfl, rfl⟩)
        refine bodyPost_ret (by simp only [results, Try.f14]; simp [go_sem, z0, z1, z2, z3, z4, z5]; rfl) rfl ?_
        refine ⟨mk6 _ _ _ _ _ _ ?_, ?_⟩
        · have := HO.out
          refine ⟨?_, ?_, ?_, ?_, ?_, ?_⟩ <;> first | exact this.op | exact this.d | exact this.n | exact this.m | exact this.imm | exact this.cond | exact i64R_mod _ _ (by decide) (by decide) | exact i64R_wrap _ | exact i64R_wrap' _ | (unfold i64R; simp only; omega)
        · repeat (refine New.set ?_ _ _ (by have := HBC.out; simp; omega))
          exact HN.out
      · go_wp2_with (with_reducible refine (hPick _ _ _ (by decide) (by decide)).mono ?_; rintro e w' ⟨rfl, rfl⟩)
        refine (lClean' _ _ _ _ _ _ ?_ _).mono ?_
        · have := HO.out
          refine ⟨?_, ?_, ?_, ?_, ?_, ?_⟩ <;> first | exact this.op | exact this.d | exact this.n | exact this.m | exact this.imm | exact this.cond | exact i64R_mod _ _ (by decide) (by decide) | exact i64R_wrap _ | exact i64R_wrap' _ | (unfold i64R; simp only; omega)
        rintro e w5 ⟨⟨j, hj, rfl⟩, hw5⟩
        have HJ := Lib.hid hj
        obtain ⟨C, hC, hC6⟩ : ∃ C : Array Value, w5.heap[b3]? = some (.cells C 23 (0, 0)) ∧ C.size = 6 := by
          rw [hw5.block b3 (by first | exact bl | (simp; exact bl)) (fun h => h)]
          exact ⟨_, set_box HB.out, by simp⟩
        have hz5 : w5.heap[c]? = some (.cells I6.zero.cells 23 (0, 0)) := by
          rw [hw5.block c (by first | exact zl | (simp; exact zl)) (fun h => h)]
          repeat (rw [set_aside (by omega)])
          exact HZ.out
        have HN5 : Hid (New w w5) := Lib.hid (by
          refine New.trans ?_ hw5
          repeat (refine New.set ?_ _ _ (by have := HBC.out; simp; omega))
          exact HN.out)
        clear hw5 hj a0 a1 a2 a3 a4 a5 af al b0 b1 b2 b3' b4 b5 bf bl z0 z1 z2 z3 z4 z5 zf zl
        obtain ⟨u0, u1, u2, u3, u4, u5, q0, q1, q2, q3, q4, q5, qf, ql⟩ := box_any hC hC6
        obtain ⟨z0, z1, z2, z3, z4, z5, zf, zl⟩ := I6.box hz5
        simp only [I6.zero] at z0 z1 z2 z3 z4 z5
        clear hC hC6 hz5
        go_wp2
        refine bodyPost_ret (v := j.val) (by simp only [results, Try.f14]; simp [go_sem, z0, z1, z2, z3, z4, z5]) rfl ?_
        refine ⟨⟨j, HJ.out, rfl⟩, ?_⟩
        repeat (refine New.set ?_ _ _ (by have := HBC.out; simp; omega))
        exact HN5.out
    cases n2 : (i.op == 2)
    rotate_left
    · cases hc : decide (0 < x.cond.tmod 7)
      · go_wp2_with (with_reducible refine (hPick _ _ _ (by decide) (by decide)).mono ?_; rintro e w' ⟨rfl, rfl⟩)
        refine bodyPost_ret (by simp only [results, Try.f14]; simp [go_sem, z0, z1, z2, z3, z4, z5]; rfl) rfl ?_
        refine ⟨mk6 _ _ _ _ _ _ ?_, ?_⟩
        · have := HO.out
          refine ⟨?_, ?_, ?_, ?_, ?_, ?_⟩ <;> first | exact this.op | exact this.d | exact this.n | exact this.m | exact this.imm | exact this.cond | exact i64R_mod _ _ (by decide) (by decide) | exact i64R_wrap _ | exact i64R_wrap' _ | (unfold i64R; simp only; omega)
        · repeat (refine New.set ?_ _ _ (by have := HBC.out; simp; omega))
          exact HN.out
      · go_wp2_with (with_reducible refine (hPick _ _ _ (by decide) (by decide)).mono ?_; rintro e w' ⟨rfl, rfl⟩)
        refine (lClean' _ _ _ _ _ _ ?_ _).mono ?_
        · have := HO.out
          refine ⟨?_, ?_, ?_, ?_, ?_, ?_⟩ <;> first | exact this.op | exact this.d | exact this.n | exact this.m | exact this.imm | exact this.cond | exact i64R_mod _ _ (by decide) (by decide) | exact i64R_wrap _ | exact i64R_wrap' _ | (unfold i64R; simp only; omega)
        rintro e w5 ⟨⟨j, hj, rfl⟩, hw5⟩
        have HJ := Lib.hid hj
        obtain ⟨C, hC, hC6⟩ : ∃ C : Array Value, w5.heap[b3]? = some (.cells C 23 (0, 0)) ∧ C.size = 6 := by
          rw [hw5.block b3 (by first | exact bl | (simp; exact bl)) (fun h => h)]
          exact ⟨_, set_box HB.out, by simp⟩
        have hz5 : w5.heap[c]? = some (.cells I6.zero.cells 23 (0, 0)) := by
          rw [hw5.block c (by first | exact zl | (simp; exact zl)) (fun h => h)]
          repeat (rw [set_aside (by omega)])
          exact HZ.out
        have HN5 : Hid (New w w5) := Lib.hid (by
          refine New.trans ?_ hw5
          repeat (refine New.set ?_ _ _ (by have := HBC.out; simp; omega))
          exact HN.out)
        clear hw5 hj a0 a1 a2 a3 a4 a5 af al b0 b1 b2 b3' b4 b5 bf bl z0 z1 z2 z3 z4 z5 zf zl
        obtain ⟨u0, u1, u2, u3, u4, u5, q0, q1, q2, q3, q4, q5, qf, ql⟩ := box_any hC hC6
        obtain ⟨z0, z1, z2, z3, z4, z5, zf, zl⟩ := I6.box hz5
        simp only [I6.zero] at z0 z1 z2 z3 z4 z5
        clear hC hC6 hz5
        go_wp2
        refine bodyPost_ret (v := j.val) (by simp only [results, Try.f14]; simp [go_sem, z0, z1, z2, z3, z4, z5]) rfl ?_
        refine ⟨⟨j, HJ.out, rfl⟩, ?_⟩
        repeat (refine New.set ?_ _ _ (by have := HBC.out; simp; omega))
        exact HN5.out
    cases n3 : (i.op == 3)
    rotate_left
    · cases hc : decide (0 < x.cond.tmod 7)
      · go_wp2_with (with_reducible refine (hPick _ _ _ (by decide) (by decide)).mono ?_; rintro e w' ⟨rfl, rfl⟩)
        refine bodyPost_ret (by simp only [results, Try.f14]; simp [go_sem, z0, z1, z2, z3, z4, z5]; rfl) rfl ?_
        refine ⟨mk6 _ _ _ _ _ _ ?_, ?_⟩
        · have := HO.out
          refine ⟨?_, ?_, ?_, ?_, ?_, ?_⟩ <;> first | exact this.op | exact this.d | exact this.n | exact this.m | exact this.imm | exact this.cond | exact i64R_mod _ _ (by decide) (by decide) | exact i64R_wrap _ | exact i64R_wrap' _ | (unfold i64R; simp only; omega)
        · repeat (refine New.set ?_ _ _ (by have := HBC.out; simp; omega))
          exact HN.out
      · go_wp2_with (with_reducible refine (hPick _ _ _ (by decide) (by decide)).mono ?_; rintro e w' ⟨rfl, rfl⟩)
        refine (lClean' _ _ _ _ _ _ ?_ _).mono ?_
        · have := HO.out
          refine ⟨?_, ?_, ?_, ?_, ?_, ?_⟩ <;> first | exact this.op | exact this.d | exact this.n | exact this.m | exact this.imm | exact this.cond | exact i64R_mod _ _ (by decide) (by decide) | exact i64R_wrap _ | exact i64R_wrap' _ | (unfold i64R; simp only; omega)
        rintro e w5 ⟨⟨j, hj, rfl⟩, hw5⟩
        have HJ := Lib.hid hj
        obtain ⟨C, hC, hC6⟩ : ∃ C : Array Value, w5.heap[b3]? = some (.cells C 23 (0, 0)) ∧ C.size = 6 := by
          rw [hw5.block b3 (by first | exact bl | (simp; exact bl)) (fun h => h)]
          exact ⟨_, set_box HB.out, by simp⟩
        have hz5 : w5.heap[c]? = some (.cells I6.zero.cells 23 (0, 0)) := by
          rw [hw5.block c (by first | exact zl | (simp; exact zl)) (fun h => h)]
          repeat (rw [set_aside (by omega)])
          exact HZ.out
        have HN5 : Hid (New w w5) := Lib.hid (by
          refine New.trans ?_ hw5
          repeat (refine New.set ?_ _ _ (by have := HBC.out; simp; omega))
          exact HN.out)
        clear hw5 hj a0 a1 a2 a3 a4 a5 af al b0 b1 b2 b3' b4 b5 bf bl z0 z1 z2 z3 z4 z5 zf zl
        obtain ⟨u0, u1, u2, u3, u4, u5, q0, q1, q2, q3, q4, q5, qf, ql⟩ := box_any hC hC6
        obtain ⟨z0, z1, z2, z3, z4, z5, zf, zl⟩ := I6.box hz5
        simp only [I6.zero] at z0 z1 z2 z3 z4 z5
        clear hC hC6 hz5
        go_wp2
        refine bodyPost_ret (v := j.val) (by simp only [results, Try.f14]; simp [go_sem, z0, z1, z2, z3, z4, z5]) rfl ?_
        refine ⟨⟨j, HJ.out, rfl⟩, ?_⟩
        repeat (refine New.set ?_ _ _ (by have := HBC.out; simp; omega))
        exact HN5.out
    cases n33 : (i.op == 33)
    rotate_left
    · cases hc : decide (0 < x.cond.tmod 7)
      · go_wp2_with (with_reducible refine (hPick _ _ _ (by decide) (by decide)).mono ?_; rintro e w' ⟨rfl, rfl⟩)
        refine bodyPost_ret (by simp only [results, Try.f14]; simp [go_sem, z0, z1, z2, z3, z4, z5]; rfl) rfl ?_
        refine ⟨mk6 _ _ _ _ _ _ ?_, ?_⟩
        · have := HO.out
          refine ⟨?_, ?_, ?_, ?_, ?_, ?_⟩ <;> first | exact this.op | exact this.d | exact this.n | exact this.m | exact this.imm | exact this.cond | exact i64R_mod _ _ (by decide) (by decide) | exact i64R_wrap _ | exact i64R_wrap' _ | (unfold i64R; simp only; omega)
        · repeat (refine New.set ?_ _ _ (by have := HBC.out; simp; omega))
          exact HN.out
      · go_wp2_with (with_reducible refine (hPick _ _ _ (by decide) (by decide)).mono ?_; rintro e w' ⟨rfl, rfl⟩)
        refine (lClean' _ _ _ _ _ _ ?_ _).mono ?_
        · have := HO.out
          refine ⟨?_, ?_, ?_, ?_, ?_, ?_⟩ <;> first | exact this.op | exact this.d | exact this.n | exact this.m | exact this.imm | exact this.cond | exact i64R_mod _ _ (by decide) (by decide) | exact i64R_wrap _ | exact i64R_wrap' _ | (unfold i64R; simp only; omega)
        rintro e w5 ⟨⟨j, hj, rfl⟩, hw5⟩
        have HJ := Lib.hid hj
        obtain ⟨C, hC, hC6⟩ : ∃ C : Array Value, w5.heap[b3]? = some (.cells C 23 (0, 0)) ∧ C.size = 6 := by
          rw [hw5.block b3 (by first | exact bl | (simp; exact bl)) (fun h => h)]
          exact ⟨_, set_box HB.out, by simp⟩
        have hz5 : w5.heap[c]? = some (.cells I6.zero.cells 23 (0, 0)) := by
          rw [hw5.block c (by first | exact zl | (simp; exact zl)) (fun h => h)]
          repeat (rw [set_aside (by omega)])
          exact HZ.out
        have HN5 : Hid (New w w5) := Lib.hid (by
          refine New.trans ?_ hw5
          repeat (refine New.set ?_ _ _ (by have := HBC.out; simp; omega))
          exact HN.out)
        clear hw5 hj a0 a1 a2 a3 a4 a5 af al b0 b1 b2 b3' b4 b5 bf bl z0 z1 z2 z3 z4 z5 zf zl
        obtain ⟨u0, u1, u2, u3, u4, u5, q0, q1, q2, q3, q4, q5, qf, ql⟩ := box_any hC hC6
        obtain ⟨z0, z1, z2, z3, z4, z5, zf, zl⟩ := I6.box hz5
        simp only [I6.zero] at z0 z1 z2 z3 z4 z5
        clear hC hC6 hz5
        go_wp2
        refine bodyPost_ret (v := j.val) (by simp only [results, Try.f14]; simp [go_sem, z0, z1, z2, z3, z4, z5]) rfl ?_
        refine ⟨⟨j, HJ.out, rfl⟩, ?_⟩
        repeat (refine New.set ?_ _ _ (by have := HBC.out; simp; omega))
        exact HN5.out
    cases n34 : (i.op == 34)
    rotate_left
    · cases hc : decide (0 < x.cond.tmod 7)
      · go_wp2_with (with_reducible refine (hPick _ _ _ (by decide) (by decide)).mono ?_; rintro e w' ⟨rfl, rfl⟩)
        refine bodyPost_ret (by simp only [results, Try.f14]; simp [go_sem, z0, z1, z2, z3, z4, z5]; rfl) rfl ?_
        refine ⟨mk6 _ _ _ _ _ _ ?_, ?_⟩
        · have := HO.out
          refine ⟨?_, ?_, ?_, ?_, ?_, ?_⟩ <;> first | exact this.op | exact this.d | exact this.n | exact this.m | exact this.imm | exact this.cond | exact i64R_mod _ _ (by decide) (by decide) | exact i64R_wrap _ | exact i64R_wrap' _ | (unfold i64R; simp only; omega)
        · repeat (refine New.set ?_ _ _ (by have := HBC.out; simp; omega))
          exact HN.out
      · go_wp2_with (with_reducible refine (hPick _ _ _ (by decide) (by decide)).mono ?_; rintro e w' ⟨rfl, rfl⟩)
        refine (lClean' _ _ _ _ _ _ ?_ _).mono ?_
        · have := HO.out
          refine ⟨?_, ?_, ?_, ?_, ?_, ?_⟩ <;> first | exact this.op | exact this.d | exact this.n | exact this.m | exact this.imm | exact this.cond | exact i64R_mod _ _ (by decide) (by decide) | exact i64R_wrap _ | exact i64R_wrap' _ | (unfold i64R; simp only; omega)
        rintro e w5 ⟨⟨j, hj, rfl⟩, hw5⟩
        have HJ := Lib.hid hj
        obtain ⟨C, hC, hC6⟩ : ∃ C : Array Value, w5.heap[b3]? = some (.cells C 23 (0, 0)) ∧ C.size = 6 := by
          rw [hw5.block b3 (by first | exact bl | (simp; exact bl)) (fun h => h)]
          exact ⟨_, set_box HB.out, by simp⟩
        have hz5 : w5.heap[c]? = some (.cells I6.zero.cells 23 (0, 0)) := by
          rw [hw5.block c (by first | exact zl | (simp; exact zl)) (fun h => h)]
          repeat (rw [set_aside (by omega)])
          exact HZ.out
        have HN5 : Hid (New w w5) := Lib.hid (by
          refine New.trans ?_ hw5
          repeat (refine New.set ?_ _ _ (by have := HBC.out; simp; omega))
          exact HN.out)
        clear hw5 hj a0 a1 a2 a3 a4 a5 af al b0 b1 b2 b3' b4 b5 bf bl z0 z1 z2 z3 z4 z5 zf zl
        obtain ⟨u0, u1, u2, u3, u4, u5, q0, q1, q2, q3, q4, q5, qf, ql⟩ := box_any hC hC6
        obtain ⟨z0, z1, z2, z3, z4, z5, zf, zl⟩ := I6.box hz5
        simp only [I6.zero] at z0 z1 z2 z3 z4 z5
        clear hC hC6 hz5
        go_wp2
        refine bodyPost_ret (v := j.val) (by simp only [results, Try.f14]; simp [go_sem, z0, z1, z2, z3, z4, z5]) rfl ?_
        refine ⟨⟨j, HJ.out, rfl⟩, ?_⟩
        repeat (refine New.set ?_ _ _ (by have := HBC.out; simp; omega))
        exact HN5.out
    cases n39 : (i.op == 39)
    rotate_left
    · cases hc : decide (0 < x.cond.tmod 7)
      · go_wp2_with (with_reducible refine (hPick _ _ _ (by decide) (by decide)).mono ?_; rintro e w' ⟨rfl, rfl⟩)
        refine bodyPost_ret (by simp only [results, Try.f14]; simp [go_sem, z0, z1, z2, z3, z4, z5]; rfl) rfl ?_
        refine ⟨mk6 _ _ _ _ _ _ ?_, ?_⟩
        · have := HO.out
          refine ⟨?_, ?_, ?_, ?_, ?_, ?_⟩ <;> first | exact this.op | exact this.d | exact this.n | exact this.m | exact this.imm | exact this.cond | exact i64R_mod _ _ (by decide) (by decide) | exact i64R_wrap _ | exact i64R_wrap' _ | (unfold i64R; simp only; omega)
        · repeat (refine New.set ?_ _ _ (by have := HBC.out; simp; omega))
          exact HN.out
      · go_wp2_with (with_reducible refine (hPick _ _ _ (by decide) (by decide)).mono ?_; rintro e w' ⟨rfl, rfl⟩)
        refine (lClean' _ _ _ _ _ _ ?_ _).mono ?_
        · have := HO.out
          refine ⟨?_, ?_, ?_, ?_, ?_, ?_⟩ <;> first | exact this.op | exact this.d | exact this.n | exact this.m | exact this.imm | exact this.cond | exact i64R_mod _ _ (by decide) (by decide) | exact i64R_wrap _ | exact i64R_wrap' _ | (unfold i64R; simp only; omega)
        rintro e w5 ⟨⟨j, hj, rfl⟩, hw5⟩
        have HJ := Lib.hid hj
        obtain ⟨C, hC, hC6⟩ : ∃ C : Array Value, w5.heap[b3]? = some (.cells C 23 (0, 0)) ∧ C.size = 6 := by
          rw [hw5.block b3 (by first | exact bl | (simp; exact bl)) (fun h => h)]
          exact ⟨_, set_box HB.out, by simp⟩
        have hz5 : w5.heap[c]? = some (.cells I6.zero.cells 23 (0, 0)) := by
          rw [hw5.block c (by first | exact zl | (simp; exact zl)) (fun h => h)]
          repeat (rw [set_aside (by omega)])
          exact HZ.out
        have HN5 : Hid (New w w5) := Lib.hid (by
          refine New.trans ?_ hw5
          repeat (refine New.set ?_ _ _ (by have := HBC.out; simp; omega))
          exact HN.out)
        clear hw5 hj a0 a1 a2 a3 a4 a5 af al b0 b1 b2 b3' b4 b5 bf bl z0 z1 z2 z3 z4 z5 zf zl
        obtain ⟨u0, u1, u2, u3, u4, u5, q0, q1, q2, q3, q4, q5, qf, ql⟩ := box_any hC hC6
        obtain ⟨z0, z1, z2, z3, z4, z5, zf, zl⟩ := I6.box hz5
        simp only [I6.zero] at z0 z1 z2 z3 z4 z5
        clear hC hC6 hz5
        go_wp2
        refine bodyPost_ret (v := j.val) (by simp only [results, Try.f14]; simp [go_sem, z0, z1, z2, z3, z4, z5]) rfl ?_
        refine ⟨⟨j, HJ.out, rfl⟩, ?_⟩
        repeat (refine New.set ?_ _ _ (by have := HBC.out; simp; omega))
        exact HN5.out
    cases n40 : (i.op == 40)
    rotate_left
    · cases hc : decide (0 < x.cond.tmod 7)
      · go_wp2_with (with_reducible refine (hPick _ _ _ (by decide) (by decide)).mono ?_; rintro e w' ⟨rfl, rfl⟩)
        refine bodyPost_ret (by simp only [results, Try.f14]; simp [go_sem, z0, z1, z2, z3, z4, z5]; rfl) rfl ?_
        refine ⟨mk6 _ _ _ _ _ _ ?_, ?_⟩
        · have := HO.out
          refine ⟨?_, ?_, ?_, ?_, ?_, ?_⟩ <;> first | exact this.op | exact this.d | exact this.n | exact this.m | exact this.imm | exact this.cond | exact i64R_mod _ _ (by decide) (by decide) | exact i64R_wrap _ | exact i64R_wrap' _ | (unfold i64R; simp only; omega)
        · repeat (refine New.set ?_ _ _ (by have := HBC.out; simp; omega))
          exact HN.out
      · go_wp2_with (with_reducible refine (hPick _ _ _ (by decide) (by decide)).mono ?_; rintro e w' ⟨rfl, rfl⟩)
        refine (lClean' _ _ _ _ _ _ ?_ _).mono ?_
        · have := HO.out
          refine ⟨?_, ?_, ?_, ?_, ?_, ?_⟩ <;> first | exact this.op | exact this.d | exact this.n | exact this.m | exact this.imm | exact this.cond | exact i64R_mod _ _ (by decide) (by decide) | exact i64R_wrap _ | exact i64R_wrap' _ | (unfold i64R; simp only; omega)
        rintro e w5 ⟨⟨j, hj, rfl⟩, hw5⟩
        have HJ := Lib.hid hj
        obtain ⟨C, hC, hC6⟩ : ∃ C : Array Value, w5.heap[b3]? = some (.cells C 23 (0, 0)) ∧ C.size = 6 := by
          rw [hw5.block b3 (by first | exact bl | (simp; exact bl)) (fun h => h)]
          exact ⟨_, set_box HB.out, by simp⟩
        have hz5 : w5.heap[c]? = some (.cells I6.zero.cells 23 (0, 0)) := by
          rw [hw5.block c (by first | exact zl | (simp; exact zl)) (fun h => h)]
          repeat (rw [set_aside (by omega)])
          exact HZ.out
        have HN5 : Hid (New w w5) := Lib.hid (by
          refine New.trans ?_ hw5
          repeat (refine New.set ?_ _ _ (by have := HBC.out; simp; omega))
          exact HN.out)
        clear hw5 hj a0 a1 a2 a3 a4 a5 af al b0 b1 b2 b3' b4 b5 bf bl z0 z1 z2 z3 z4 z5 zf zl
        obtain ⟨u0, u1, u2, u3, u4, u5, q0, q1, q2, q3, q4, q5, qf, ql⟩ := box_any hC hC6
        obtain ⟨z0, z1, z2, z3, z4, z5, zf, zl⟩ := I6.box hz5
        simp only [I6.zero] at z0 z1 z2 z3 z4 z5
        clear hC hC6 hz5
        go_wp2
        refine bodyPost_ret (v := j.val) (by simp only [results, Try.f14]; simp [go_sem, z0, z1, z2, z3, z4, z5]) rfl ?_
        refine ⟨⟨j, HJ.out, rfl⟩, ?_⟩
        repeat (refine New.set ?_ _ _ (by have := HBC.out; simp; omega))
        exact HN5.out
    cases n6 : (i.op == 6)
    rotate_left
    · cases hc : decide (0 < x.cond.tmod 7)
      · go_wp2_with (with_reducible refine (hPick _ _ _ (by decide) (by decide)).mono ?_; rintro e w' ⟨rfl, rfl⟩)
        refine bodyPost_ret (by simp only [results, Try.f14]; simp [go_sem, z0, z1, z2, z3, z4, z5]; rfl) rfl ?_
        refine ⟨mk6 _ _ _ _ _ _ ?_, ?_⟩
        · have := HO.out
          refine ⟨?_, ?_, ?_, ?_, ?_, ?_⟩ <;> first | exact this.op | exact this.d | exact this.n | exact this.m | exact this.imm | exact this.cond | exact i64R_mod _ _ (by decide) (by decide) | exact i64R_wrap _ | exact i64R_wrap' _ | (unfold i64R; simp only; omega)
        · repeat (refine New.set ?_ _ _ (by have := HBC.out; simp; omega))
          exact HN.out
      · go_wp2_with (with_reducible refine (hPick _ _ _ (by decide) (by decide)).mono ?_; rintro e w' ⟨rfl, rfl⟩)
        refine (lClean' _ _ _ _ _ _ ?_ _).mono ?_
        · have := HO.out
          refine ⟨?_, ?_, ?_, ?_, ?_, ?_⟩ <;> first | exact this.op | exact this.d | exact this.n | exact this.m | exact this.imm | exact this.cond | exact i64R_mod _ _ (by decide) (by decide) | exact i64R_wrap _ | exact i64R_wrap' _ | (unfold i64R; simp only; omega)
        rintro e w5 ⟨⟨j, hj, rfl⟩, hw5⟩
        have HJ := Lib.hid hj
        obtain ⟨C, hC, hC6⟩ : ∃ C : Array Value, w5.heap[b3]? = some (.cells C 23 (0, 0)) ∧ C.size = 6 := by
          rw [hw5.block b3 (by first | exact bl | (simp; exact bl)) (fun h => h)]
          exact ⟨_, set_box HB.out, by simp⟩
        have hz5 : w5.heap[c]? = some (.cells I6.zero.cells 23 (0, 0)) := by
          rw [hw5.block c (by first | exact zl | (simp; exact zl)) (fun h => h)]
          repeat (rw [set_aside (by omega)])
          exact HZ.out
        have HN5 : Hid (New w w5) := Lib.hid (by
          refine New.trans ?_ hw5
          repeat (refine New.set ?_ _ _ (by have := HBC.out; simp; omega))
          exact HN.out)
        clear hw5 hj a0 a1 a2 a3 a4 a5 af al b0 b1 b2 b3' b4 b5 bf bl z0 z1 z2 z3 z4 z5 zf zl
        obtain ⟨u0, u1, u2, u3, u4, u5, q0, q1, q2, q3, q4, q5, qf, ql⟩ := box_any hC hC6
        obtain ⟨z0, z1, z2, z3, z4, z5, zf, zl⟩ := I6.box hz5
        simp only [I6.zero] at z0 z1 z2 z3 z4 z5
        clear hC hC6 hz5
        go_wp2
        refine bodyPost_ret (v := j.val) (by simp only [results, Try.f14]; simp [go_sem, z0, z1, z2, z3, z4, z5]) rfl ?_
        refine ⟨⟨j, HJ.out, rfl⟩, ?_⟩
        repeat (refine New.set ?_ _ _ (by have := HBC.out; simp; omega))
        exact HN5.out
    cases n7 : (i.op == 7)
    rotate_left
    · cases hc : decide (0 < x.cond.tmod 7)
      · go_wp2_with (with_reducible refine (hPick _ _ _ (by decide) (by decide)).mono ?_; rintro e w' ⟨rfl, rfl⟩)
        refine bodyPost_ret (by simp only [results, Try.f14]; simp [go_sem, z0, z1, z2, z3, z4, z5]; rfl) rfl ?_
        refine ⟨mk6 _ _ _ _ _ _ ?_, ?_⟩
        · have := HO.out
          refine ⟨?_, ?_, ?_, ?_, ?_, ?_⟩ <;> first | exact this.op | exact this.d | exact this.n | exact this.m | exact this.imm | exact this.cond | exact i64R_mod _ _ (by decide) (by decide) | exact i64R_wrap _ | exact i64R_wrap' _ | (unfold i64R; simp only; omega)
        · repeat (refine New.set ?_ _ _ (by have := HBC.out; simp; omega))
          exact HN.out
      · go_wp2_with (with_reducible refine (hPick _ _ _ (by decide) (by decide)).mono ?_; rintro e w' ⟨rfl, rfl⟩)
        refine (lClean' _ _ _ _ _ _ ?_ _).mono ?_
        · have := HO.out
          refine ⟨?_, ?_, ?_, ?_, ?_, ?_⟩ <;> first | exact this.op | exact this.d | exact this.n | exact this.m | exact this.imm | exact this.cond | exact i64R_mod _ _ (by decide) (by decide) | exact i64R_wrap _ | exact i64R_wrap' _ | (unfold i64R; simp only; omega)
        rintro e w5 ⟨⟨j, hj, rfl⟩, hw5⟩
        have HJ := Lib.hid hj
        obtain ⟨C, hC, hC6⟩ : ∃ C : Array Value, w5.heap[b3]? = some (.cells C 23 (0, 0)) ∧ C.size = 6 := by
          rw [hw5.block b3 (by first | exact bl | (simp; exact bl)) (fun h => h)]
          exact ⟨_, set_box HB.out, by simp⟩
        have hz5 : w5.heap[c]? = some (.cells I6.zero.cells 23 (0, 0)) := by
          rw [hw5.block c (by first | exact zl | (simp; exact zl)) (fun h => h)]
          repeat (rw [set_aside (by omega)])
          exact HZ.out
        have HN5 : Hid (New w w5) := Lib.hid (by
          refine New.trans ?_ hw5
          repeat (refine New.set ?_ _ _ (by have := HBC.out; simp; omega))
          exact HN.out)
        clear hw5 hj a0 a1 a2 a3 a4 a5 af al b0 b1 b2 b3' b4 b5 bf bl z0 z1 z2 z3 z4 z5 zf zl
        obtain ⟨u0, u1, u2, u3, u4, u5, q0, q1, q2, q3, q4, q5, qf, ql⟩ := box_any hC hC6
        obtain ⟨z0, z1, z2, z3, z4, z5, zf, zl⟩ := I6.box hz5
        simp only [I6.zero] at z0 z1 z2 z3 z4 z5
        clear hC hC6 hz5
        go_wp2
        refine bodyPost_ret (v := j.val) (by simp only [results, Try.f14]; simp [go_sem, z0, z1, z2, z3, z4, z5]) rfl ?_
        refine ⟨⟨j, HJ.out, rfl⟩, ?_⟩
        repeat (refine New.set ?_ _ _ (by have := HBC.out; simp; omega))
        exact HN5.out
    cases hc : decide (0 < x.cond.tmod 7)
    · go_wp2_with (with_reducible refine (hPick _ _ _ (by decide) (by decide)).mono ?_; rintro e w' ⟨rfl, rfl⟩)
      refine bodyPost_ret (by simp only [results, Try.f14]; simp [go_sem, z0, z1, z2, z3, z4, z5]; rfl) rfl ?_
      refine ⟨mk6 _ _ _ _ _ _ ?_, ?_⟩
      · have := HO.out
        refine ⟨?_, ?_, ?_, ?_, ?_, ?_⟩ <;> first | exact this.op | exact this.d | exact this.n | exact this.m | exact this.imm | exact this.cond | exact i64R_mod _ _ (by decide) (by decide) | exact i64R_wrap _ | exact i64R_wrap' _ | (unfold i64R; simp only; omega)
      · repeat (refine New.set ?_ _ _ (by have := HBC.out; simp; omega))
        exact HN.out
    · go_wp2_with (with_reducible refine (hPick _ _ _ (by decide) (by decide)).mono ?_; rintro e w' ⟨rfl, rfl⟩)
      refine (lClean' _ _ _ _ _ _ ?_ _).mono ?_
      · have := HO.out
        refine ⟨?_, ?_, ?_, ?_, ?_, ?_⟩ <;> first | exact this.op | exact this.d | exact this.n | exact this.m | exact this.imm | exact this.cond | exact i64R_mod _ _ (by decide) (by decide) | exact i64R_wrap _ | exact i64R_wrap' _ | (unfold i64R; simp only; omega)
      rintro e w5 ⟨⟨j, hj, rfl⟩, hw5⟩
      have HJ := Lib.hid hj
      obtain ⟨C, hC, hC6⟩ : ∃ C : Array Value, w5.heap[b3]? = some (.cells C 23 (0, 0)) ∧ C.size = 6 := by
        rw [hw5.block b3 (by first | exact bl | (simp; exact bl)) (fun h => h)]
        exact ⟨_, HB.out, rfl⟩
      have hz5 : w5.heap[c]? = some (.cells I6.zero.cells 23 (0, 0)) := by
        rw [hw5.block c (by first | exact zl | (simp; exact zl)) (fun h => h)]
        repeat (rw [set_aside (by omega)])
        exact HZ.out
      have HN5 : Hid (New w w5) := Lib.hid (by
        refine New.trans ?_ hw5
        repeat (refine New.set ?_ _ _ (by have := HBC.out; simp; omega))
        exact HN.out)
      clear hw5 hj a0 a1 a2 a3 a4 a5 af al b0 b1 b2 b3' b4 b5 bf bl z0 z1 z2 z3 z4 z5 zf zl
      obtain ⟨u0, u1, u2, u3, u4, u5, q0, q1, q2, q3, q4, q5, qf, ql⟩ := box_any hC hC6
      obtain ⟨z0, z1, z2, z3, z4, z5, zf, zl⟩ := I6.box hz5
      simp only [I6.zero] at z0 z1 z2 z3 z4 z5
      clear hC hC6 hz5
      go_wp2
      refine bodyPost_ret (v := j.val) (by simp only [results, Try.f14]; simp [go_sem, z0, z1, z2, z3, z4, z5]) rfl ?_
      refine ⟨⟨j, HJ.out, rfl⟩, ?_⟩
      repeat (refine New.set ?_ _ _ (by have := HBC.out; simp; omega))
      exact HN5.out
end Go.Proofs.Ytkdmppgjmmmclaa

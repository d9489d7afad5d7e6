/- The reference's Decode of one halfword, form by form. -/
import Derived.Test.YtkdmppgjmmmclaaZR
namespace Go.Proofs.Ytkdmppgjmmmclaa
open Go.RowKit
set_option linter.unusedVariables false
set_option linter.unusedSimpArgs false
set_option maxRecDepth 20000
set_option maxHeartbeats 4000000
theorem qD0a (x : Nat) (hx : x < 65536) (hf : ¬ x / 2048 = 30) (p : x < 2048) (a : Option Addr) (g off len c : Nat) (t : List Nat) (hl : t.length + 1 = len) (hc1 : len ≤ c) (hc2 : c ≤ maxLen) (w : World) (c0 : w.cell? ⟨g, off, none⟩ = some (.int .u16 (x : Int))) : Calls Try.prog 19 #[.slice (some ⟨g, off, none⟩) len c] w fun e w' => e = .returned (refV x) ∧ New w w' := by
  have HJ : Hid (∀ J, refI x = J → refV x = match refR J with | true => .tuple #[J.val, .int .i64 1] | false => .tuple #[I6.zero.val, .int .i64 (-1)]) := Lib.hid (fun J h => by unfold refV; rw [h]; rfl)
  have i0 : decide ((x : Int) < 6144) = true := by simp; omega
  have iF : (((x : Int) / 2048) == 30) = false := by simp; omega
  have iL : ((len : Int) == 0) = false := by simp; omega
  have hlp : 0 < len := by omega
  have hlq : (0 : Int) < (len : Int) := by omega
  have hg := World.block_lt_of_cell? w _ c0
  unfold maxLen at hc2
  have a1 := ands 1 (by decide) 1 (by decide) 2 (by decide)
  have a3 := ands 2 (by decide) 3 (by decide) 4 (by decide)
  have a7 := ands 3 (by decide) 7 (by decide) 8 (by decide)
  have a15 := ands 4 (by decide) 15 (by decide) 16 (by decide)
  have a31 := ands 5 (by decide) 31 (by decide) 32 (by decide)
  have a127 := ands 7 (by decide) 127 (by decide) 128 (by decide)
  have a255 := ands 8 (by decide) 255 (by decide) 256 (by decide)
  have a511 := ands 9 (by decide) 511 (by decide) 512 (by decide)
  have a2047 := ands 11 (by decide) 2047 (by decide) 2048 (by decide)
  have k1 : ((1 + (x : Int) / 2048) != 1) = false := by simp; omega
  go_enter Try.func19, Try.ntmps19
  go_wp2_with fail
  refine (qRightL (refI x) _ _ _ _ _ _ (by
    have n0 : Nat.blt x 6144 = true := nblt_t (show x < 6144 by omega)
    unfold refI
    simp only [n0, nbeq_t (show x / 2048 = 0 by omega), cond_false, cond_true, Bool.and_true, Bool.and_false, Bool.false_and, Bool.true_and, iofn, nadd, nmul, nmod, ndiv, imul]
    all_goals (try simp only [I6.mk.injEq])
    all_goals refine ⟨?_, ?_, ?_, ?_, ?_, ?_⟩ <;> first | rfl | trivial | omega) _).mono ?_
  rintro e w1 ⟨rfl, h1, hJ⟩
  have HJJ := Lib.hid hJ
  obtain ⟨hN, hbl, hz, hy⟩ := two_kept (J := ⟨_, _, _, _, _, _⟩) h1
  have HN := Lib.hid hN
  have hb0 : w.heap.size < w1.heap.size := by omega
  obtain ⟨y0, y1, y2, y3, y4, y5, yf, -⟩ := I6.box hy
  obtain ⟨z0, z1, z2, z3, z4, z5, zf⟩ := zeroIns_cells hz
  simp only at y0 y1 y2 y3 y4 y5
  clear hJ hN h1 hy hz HJ c0 hg a1 a3 a7 a15 a31 a127 a255 a511 a2047
  cases hR : refR (refI x)
  · have HV : Hid (refV x = .tuple #[.agg #[.int .i64 0, .int .i64 0, .int .i64 0, .int .i64 0, .int .i64 0, .int .i64 0], .int .i64 (-1)]) := Lib.hid (by unfold refV; rw [hR]; rfl)
    clear hR
    go_wp2_with fail
    rw [HV.out]
    refine bodyPost_ret (by simp only [results, Try.f19]; simp [go_sem, hbl, hb0, z0, z1, z2, z3, z4, z5]; rfl) rfl ?_
    refine ⟨rfl, ?_⟩
    repeat (refine New.set ?_ _ _ (by simp))
    exact HN.out
  · have HV : Hid (refV x = .tuple #[(refI x).val, .int .i64 1]) := Lib.hid (by unfold refV; rw [hR])
    clear hR
    go_wp2_with fail
    rw [HV.out, HJJ.out]
    refine bodyPost_ret (by simp only [results, Try.f19]; simp [go_sem, hbl, hb0, z0, z1, z2, z3, z4, z5]; rfl) rfl ?_
    refine ⟨rfl, ?_⟩
    repeat (refine New.set ?_ _ _ (by simp))
    exact HN.out
theorem qD0b (x : Nat) (hx : x < 65536) (hf : ¬ x / 2048 = 30) (p0 : ¬ x < 2048) (p : x < 6144) (q : x / 64 % 32 = 0) (a : Option Addr) (g off len c : Nat) (t : List Nat) (hl : t.length + 1 = len) (hc1 : len ≤ c) (hc2 : c ≤ maxLen) (w : World) (c0 : w.cell? ⟨g, off, none⟩ = some (.int .u16 (x : Int))) : Calls Try.prog 19 #[.slice (some ⟨g, off, none⟩) len c] w fun e w' => e = .returned (refV x) ∧ New w w' := by
  have HJ : Hid (∀ J, refI x = J → refV x = match refR J with | true => .tuple #[J.val, .int .i64 1] | false => .tuple #[I6.zero.val, .int .i64 (-1)]) := Lib.hid (fun J h => by unfold refV; rw [h]; rfl)
  have i0 : decide ((x : Int) < 6144) = true := by simp; omega
  have iF : (((x : Int) / 2048) == 30) = false := by simp; omega
  have iL : ((len : Int) == 0) = false := by simp; omega
  have hlp : 0 < len := by omega
  have hlq : (0 : Int) < (len : Int) := by omega
  have hg := World.block_lt_of_cell? w _ c0
  unfold maxLen at hc2
  have a1 := ands 1 (by decide) 1 (by decide) 2 (by decide)
  have a3 := ands 2 (by decide) 3 (by decide) 4 (by decide)
  have a7 := ands 3 (by decide) 7 (by decide) 8 (by decide)
  have a15 := ands 4 (by decide) 15 (by decide) 16 (by decide)
  have a31 := ands 5 (by decide) 31 (by decide) 32 (by decide)
  have a127 := ands 7 (by decide) 127 (by decide) 128 (by decide)
  have a255 := ands 8 (by decide) 255 (by decide) 256 (by decide)
  have a511 := ands 9 (by decide) 511 (by decide) 512 (by decide)
  have a2047 := ands 11 (by decide) 2047 (by decide) 2048 (by decide)
  have k1 : ((1 + (x : Int) / 2048) != 1) = true := by simp; omega
  have k2 : (((x : Int) / 64 % 32) == 0) = true := by simp; omega
  go_enter Try.func19, Try.ntmps19
  go_wp2_with fail
  refine (qRightL (refI x) _ _ _ _ _ _ (by
    have n0 : Nat.blt x 6144 = true := nblt_t (show x < 6144 by omega)
    unfold refI
    simp only [n0, nbeq_f (show ¬ x / 2048 = 0 by omega), nbeq_t (show x / 64 % 32 = 0 by omega), cond_false, cond_true, Bool.and_true, Bool.and_false, Bool.false_and, Bool.true_and, iofn, nadd, nmul, nmod, ndiv, imul]
    all_goals (try simp only [I6.mk.injEq])
    all_goals refine ⟨?_, ?_, ?_, ?_, ?_, ?_⟩ <;> first | rfl | trivial | omega) _).mono ?_
  rintro e w1 ⟨rfl, h1, hJ⟩
  have HJJ := Lib.hid hJ
  obtain ⟨hN, hbl, hz, hy⟩ := two_kept (J := ⟨_, _, _, _, _, _⟩) h1
  have HN := Lib.hid hN
  have hb0 : w.heap.size < w1.heap.size := by omega
  obtain ⟨y0, y1, y2, y3, y4, y5, yf, -⟩ := I6.box hy
  obtain ⟨z0, z1, z2, z3, z4, z5, zf⟩ := zeroIns_cells hz
  simp only at y0 y1 y2 y3 y4 y5
  clear hJ hN h1 hy hz HJ c0 hg a1 a3 a7 a15 a31 a127 a255 a511 a2047
  cases hR : refR (refI x)
  · have HV : Hid (refV x = .tuple #[.agg #[.int .i64 0, .int .i64 0, .int .i64 0, .int .i64 0, .int .i64 0, .int .i64 0], .int .i64 (-1)]) := Lib.hid (by unfold refV; rw [hR]; rfl)
    clear hR
    go_wp2_with fail
    rw [HV.out]
    refine bodyPost_ret (by simp only [results, Try.f19]; simp [go_sem, hbl, hb0, z0, z1, z2, z3, z4, z5]; rfl) rfl ?_
    refine ⟨rfl, ?_⟩
    repeat (refine New.set ?_ _ _ (by simp))
    exact HN.out
  · have HV : Hid (refV x = .tuple #[(refI x).val, .int .i64 1]) := Lib.hid (by unfold refV; rw [hR])
    clear hR
    go_wp2_with fail
    rw [HV.out, HJJ.out]
    refine bodyPost_ret (by simp only [results, Try.f19]; simp [go_sem, hbl, hb0, z0, z1, z2, z3, z4, z5]; rfl) rfl ?_
    refine ⟨rfl, ?_⟩
    repeat (refine New.set ?_ _ _ (by simp))
    exact HN.out
theorem qD0c (x : Nat) (hx : x < 65536) (hf : ¬ x / 2048 = 30) (p0 : ¬ x < 2048) (p : x < 6144) (q : ¬ x / 64 % 32 = 0) (a : Option Addr) (g off len c : Nat) (t : List Nat) (hl : t.length + 1 = len) (hc1 : len ≤ c) (hc2 : c ≤ maxLen) (w : World) (c0 : w.cell? ⟨g, off, none⟩ = some (.int .u16 (x : Int))) : Calls Try.prog 19 #[.slice (some ⟨g, off, none⟩) len c] w fun e w' => e = .returned (refV x) ∧ New w w' := by
  have HJ : Hid (∀ J, refI x = J → refV x = match refR J with | true => .tuple #[J.val, .int .i64 1] | false => .tuple #[I6.zero.val, .int .i64 (-1)]) := Lib.hid (fun J h => by unfold refV; rw [h]; rfl)
  have i0 : decide ((x : Int) < 6144) = true := by simp; omega
  have iF : (((x : Int) / 2048) == 30) = false := by simp; omega
  have iL : ((len : Int) == 0) = false := by simp; omega
  have hlp : 0 < len := by omega
  have hlq : (0 : Int) < (len : Int) := by omega
  have hg := World.block_lt_of_cell? w _ c0
  unfold maxLen at hc2
  have a1 := ands 1 (by decide) 1 (by decide) 2 (by decide)
  have a3 := ands 2 (by decide) 3 (by decide) 4 (by decide)
  have a7 := ands 3 (by decide) 7 (by decide) 8 (by decide)
  have a15 := ands 4 (by decide) 15 (by decide) 16 (by decide)
  have a31 := ands 5 (by decide) 31 (by decide) 32 (by decide)
  have a127 := ands 7 (by decide) 127 (by decide) 128 (by decide)
  have a255 := ands 8 (by decide) 255 (by decide) 256 (by decide)
  have a511 := ands 9 (by decide) 511 (by decide) 512 (by decide)
  have a2047 := ands 11 (by decide) 2047 (by decide) 2048 (by decide)
  have k1 : ((1 + (x : Int) / 2048) != 1) = true := by simp; omega
  have k2 : (((x : Int) / 64 % 32) == 0) = false := by simp; omega
  go_enter Try.func19, Try.ntmps19
  go_wp2_with fail
  refine (qRightL (refI x) _ _ _ _ _ _ (by
    have n0 : Nat.blt x 6144 = true := nblt_t (show x < 6144 by omega)
    unfold refI
    simp only [n0, nbeq_f (show ¬ x / 2048 = 0 by omega), nbeq_f (show ¬ x / 64 % 32 = 0 by omega), cond_false, cond_true, Bool.and_true, Bool.and_false, Bool.false_and, Bool.true_and, iofn, nadd, nmul, nmod, ndiv, imul]
    all_goals (try simp only [I6.mk.injEq])
    all_goals refine ⟨?_, ?_, ?_, ?_, ?_, ?_⟩ <;> first | rfl | trivial | omega) _).mono ?_
  rintro e w1 ⟨rfl, h1, hJ⟩
  have HJJ := Lib.hid hJ
  obtain ⟨hN, hbl, hz, hy⟩ := two_kept (J := ⟨_, _, _, _, _, _⟩) h1
  have HN := Lib.hid hN
  have hb0 : w.heap.size < w1.heap.size := by omega
  obtain ⟨y0, y1, y2, y3, y4, y5, yf, -⟩ := I6.box hy
  obtain ⟨z0, z1, z2, z3, z4, z5, zf⟩ := zeroIns_cells hz
  simp only at y0 y1 y2 y3 y4 y5
  clear hJ hN h1 hy hz HJ c0 hg a1 a3 a7 a15 a31 a127 a255 a511 a2047
  cases hR : refR (refI x)
  · have HV : Hid (refV x = .tuple #[.agg #[.int .i64 0, .int .i64 0, .int .i64 0, .int .i64 0, .int .i64 0, .int .i64 0], .int .i64 (-1)]) := Lib.hid (by unfold refV; rw [hR]; rfl)
    clear hR
    go_wp2_with fail
    rw [HV.out]
    refine bodyPost_ret (by simp only [results, Try.f19]; simp [go_sem, hbl, hb0, z0, z1, z2, z3, z4, z5]; rfl) rfl ?_
    refine ⟨rfl, ?_⟩
    repeat (refine New.set ?_ _ _ (by simp))
    exact HN.out
  · have HV : Hid (refV x = .tuple #[(refI x).val, .int .i64 1]) := Lib.hid (by unfold refV; rw [hR])
    clear hR
    go_wp2_with fail
    rw [HV.out, HJJ.out]
    refine bodyPost_ret (by simp only [results, Try.f19]; simp [go_sem, hbl, hb0, z0, z1, z2, z3, z4, z5]; rfl) rfl ?_
    refine ⟨rfl, ?_⟩
    repeat (refine New.set ?_ _ _ (by simp))
    exact HN.out
theorem qD1 (x : Nat) (hx : x < 65536) (hf : ¬ x / 2048 = 30) (p0 : ¬ (x < 6144)) (p : x < 7168) (a : Option Addr) (g off len c : Nat) (t : List Nat) (hl : t.length + 1 = len) (hc1 : len ≤ c) (hc2 : c ≤ maxLen) (w : World) (c0 : w.cell? ⟨g, off, none⟩ = some (.int .u16 (x : Int))) : Calls Try.prog 19 #[.slice (some ⟨g, off, none⟩) len c] w fun e w' => e = .returned (refV x) ∧ New w w' := by
  have HJ : Hid (∀ J, refI x = J → refV x = match refR J with | true => .tuple #[J.val, .int .i64 1] | false => .tuple #[I6.zero.val, .int .i64 (-1)]) := Lib.hid (fun J h => by unfold refV; rw [h]; rfl)
  have i0 : decide ((x : Int) < 6144) = false := by simp; omega
  have i1 : decide ((x : Int) < 7168) = true := by simp; omega
  have iF : (((x : Int) / 2048) == 30) = false := by simp; omega
  have iL : ((len : Int) == 0) = false := by simp; omega
  have hlp : 0 < len := by omega
  have hlq : (0 : Int) < (len : Int) := by omega
  have hg := World.block_lt_of_cell? w _ c0
  unfold maxLen at hc2
  have a1 := ands 1 (by decide) 1 (by decide) 2 (by decide)
  have a3 := ands 2 (by decide) 3 (by decide) 4 (by decide)
  have a7 := ands 3 (by decide) 7 (by decide) 8 (by decide)
  have a15 := ands 4 (by decide) 15 (by decide) 16 (by decide)
  have a31 := ands 5 (by decide) 31 (by decide) 32 (by decide)
  have a127 := ands 7 (by decide) 127 (by decide) 128 (by decide)
  have a255 := ands 8 (by decide) 255 (by decide) 256 (by decide)
  have a511 := ands 9 (by decide) 511 (by decide) 512 (by decide)
  have a2047 := ands 11 (by decide) 2047 (by decide) 2048 (by decide)
  go_enter Try.func19, Try.ntmps19
  go_wp2_with fail
  refine (qRightL (refI x) _ _ _ _ _ _ (by
    have n0 : Nat.blt x 6144 = false := nblt_f (show ¬ x < 6144 by omega)
    have n1 : Nat.blt x 7168 = true := nblt_t (show x < 7168 by omega)
    unfold refI
    simp only [n0, n1, cond_false, cond_true, Bool.and_true, Bool.and_false, Bool.false_and, Bool.true_and, iofn, nadd, nmul, nmod, ndiv, imul]
    all_goals (try simp only [I6.mk.injEq])
    all_goals refine ⟨?_, ?_, ?_, ?_, ?_, ?_⟩ <;> first | rfl | trivial | omega) _).mono ?_
  rintro e w1 ⟨rfl, h1, hJ⟩
  have HJJ := Lib.hid hJ
  obtain ⟨hN, hbl, hz, hy⟩ := two_kept (J := ⟨_, _, _, _, _, _⟩) h1
  have HN := Lib.hid hN
  have hb0 : w.heap.size < w1.heap.size := by omega
  obtain ⟨y0, y1, y2, y3, y4, y5, yf, -⟩ := I6.box hy
  obtain ⟨z0, z1, z2, z3, z4, z5, zf⟩ := zeroIns_cells hz
  simp only at y0 y1 y2 y3 y4 y5
  clear hJ hN h1 hy hz HJ c0 hg a1 a3 a7 a15 a31 a127 a255 a511 a2047
  cases hR : refR (refI x)
  · have HV : Hid (refV x = .tuple #[.agg #[.int .i64 0, .int .i64 0, .int .i64 0, .int .i64 0, .int .i64 0, .int .i64 0], .int .i64 (-1)]) := Lib.hid (by unfold refV; rw [hR]; rfl)
    clear hR
    go_wp2_with fail
    rw [HV.out]
    refine bodyPost_ret (by simp only [results, Try.f19]; simp [go_sem, hbl, hb0, z0, z1, z2, z3, z4, z5]; rfl) rfl ?_
    refine ⟨rfl, ?_⟩
    repeat (refine New.set ?_ _ _ (by simp))
    exact HN.out
  · have HV : Hid (refV x = .tuple #[(refI x).val, .int .i64 1]) := Lib.hid (by unfold refV; rw [hR])
    clear hR
    go_wp2_with fail
    rw [HV.out, HJJ.out]
    refine bodyPost_ret (by simp only [results, Try.f19]; simp [go_sem, hbl, hb0, z0, z1, z2, z3, z4, z5]; rfl) rfl ?_
    refine ⟨rfl, ?_⟩
    repeat (refine New.set ?_ _ _ (by simp))
    exact HN.out
theorem qD2 (x : Nat) (hx : x < 65536) (hf : ¬ x / 2048 = 30) (p0 : ¬ (x < 6144)) (p1 : ¬ (x < 7168)) (p : x < 8192) (a : Option Addr) (g off len c : Nat) (t : List Nat) (hl : t.length + 1 = len) (hc1 : len ≤ c) (hc2 : c ≤ maxLen) (w : World) (c0 : w.cell? ⟨g, off, none⟩ = some (.int .u16 (x : Int))) : Calls Try.prog 19 #[.slice (some ⟨g, off, none⟩) len c] w fun e w' => e = .returned (refV x) ∧ New w w' := by
  have HJ : Hid (∀ J, refI x = J → refV x = match refR J with | true => .tuple #[J.val, .int .i64 1] | false => .tuple #[I6.zero.val, .int .i64 (-1)]) := Lib.hid (fun J h => by unfold refV; rw [h]; rfl)
  have i0 : decide ((x : Int) < 6144) = false := by simp; omega
  have i1 : decide ((x : Int) < 7168) = false := by simp; omega
  have i2 : decide ((x : Int) < 8192) = true := by simp; omega
  have iF : (((x : Int) / 2048) == 30) = false := by simp; omega
  have iL : ((len : Int) == 0) = false := by simp; omega
  have hlp : 0 < len := by omega
  have hlq : (0 : Int) < (len : Int) := by omega
  have hg := World.block_lt_of_cell? w _ c0
  unfold maxLen at hc2
  have a1 := ands 1 (by decide) 1 (by decide) 2 (by decide)
  have a3 := ands 2 (by decide) 3 (by decide) 4 (by decide)
  have a7 := ands 3 (by decide) 7 (by decide) 8 (by decide)
  have a15 := ands 4 (by decide) 15 (by decide) 16 (by decide)
  have a31 := ands 5 (by decide) 31 (by decide) 32 (by decide)
  have a127 := ands 7 (by decide) 127 (by decide) 128 (by decide)
  have a255 := ands 8 (by decide) 255 (by decide) 256 (by decide)
  have a511 := ands 9 (by decide) 511 (by decide) 512 (by decide)
  have a2047 := ands 11 (by decide) 2047 (by decide) 2048 (by decide)
  go_enter Try.func19, Try.ntmps19
  go_wp2_with fail
  refine (qRightL (refI x) _ _ _ _ _ _ (by
    have n0 : Nat.blt x 6144 = false := nblt_f (show ¬ x < 6144 by omega)
    have n1 : Nat.blt x 7168 = false := nblt_f (show ¬ x < 7168 by omega)
    have n2 : Nat.blt x 8192 = true := nblt_t (show x < 8192 by omega)
    unfold refI
    simp only [n0, n1, n2, cond_false, cond_true, Bool.and_true, Bool.and_false, Bool.false_and, Bool.true_and, iofn, nadd, nmul, nmod, ndiv, imul]
    all_goals (try simp only [I6.mk.injEq])
    all_goals refine ⟨?_, ?_, ?_, ?_, ?_, ?_⟩ <;> first | rfl | trivial | omega) _).mono ?_
  rintro e w1 ⟨rfl, h1, hJ⟩
  have HJJ := Lib.hid hJ
  obtain ⟨hN, hbl, hz, hy⟩ := two_kept (J := ⟨_, _, _, _, _, _⟩) h1
  have HN := Lib.hid hN
  have hb0 : w.heap.size < w1.heap.size := by omega
  obtain ⟨y0, y1, y2, y3, y4, y5, yf, -⟩ := I6.box hy
  obtain ⟨z0, z1, z2, z3, z4, z5, zf⟩ := zeroIns_cells hz
  simp only at y0 y1 y2 y3 y4 y5
  clear hJ hN h1 hy hz HJ c0 hg a1 a3 a7 a15 a31 a127 a255 a511 a2047
  cases hR : refR (refI x)
  · have HV : Hid (refV x = .tuple #[.agg #[.int .i64 0, .int .i64 0, .int .i64 0, .int .i64 0, .int .i64 0, .int .i64 0], .int .i64 (-1)]) := Lib.hid (by unfold refV; rw [hR]; rfl)
    clear hR
    go_wp2_with fail
    rw [HV.out]
    refine bodyPost_ret (by simp only [results, Try.f19]; simp [go_sem, hbl, hb0, z0, z1, z2, z3, z4, z5]; rfl) rfl ?_
    refine ⟨rfl, ?_⟩
    repeat (refine New.set ?_ _ _ (by simp))
    exact HN.out
  · have HV : Hid (refV x = .tuple #[(refI x).val, .int .i64 1]) := Lib.hid (by unfold refV; rw [hR])
    clear hR
    go_wp2_with fail
    rw [HV.out, HJJ.out]
    refine bodyPost_ret (by simp only [results, Try.f19]; simp [go_sem, hbl, hb0, z0, z1, z2, z3, z4, z5]; rfl) rfl ?_
    refine ⟨rfl, ?_⟩
    repeat (refine New.set ?_ _ _ (by simp))
    exact HN.out
theorem qD3 (x : Nat) (hx : x < 65536) (hf : ¬ x / 2048 = 30) (p0 : ¬ (x < 6144)) (p1 : ¬ (x < 7168)) (p2 : ¬ (x < 8192)) (p : x < 16384) (a : Option Addr) (g off len c : Nat) (t : List Nat) (hl : t.length + 1 = len) (hc1 : len ≤ c) (hc2 : c ≤ maxLen) (w : World) (c0 : w.cell? ⟨g, off, none⟩ = some (.int .u16 (x : Int))) : Calls Try.prog 19 #[.slice (some ⟨g, off, none⟩) len c] w fun e w' => e = .returned (refV x) ∧ New w w' := by
  have HJ : Hid (∀ J, refI x = J → refV x = match refR J with | true => .tuple #[J.val, .int .i64 1] | false => .tuple #[I6.zero.val, .int .i64 (-1)]) := Lib.hid (fun J h => by unfold refV; rw [h]; rfl)
  have i0 : decide ((x : Int) < 6144) = false := by simp; omega
  have i1 : decide ((x : Int) < 7168) = false := by simp; omega
  have i2 : decide ((x : Int) < 8192) = false := by simp; omega
  have i3 : decide ((x : Int) < 16384) = true := by simp; omega
  have iF : (((x : Int) / 2048) == 30) = false := by simp; omega
  have iL : ((len : Int) == 0) = false := by simp; omega
  have hlp : 0 < len := by omega
  have hlq : (0 : Int) < (len : Int) := by omega
  have hg := World.block_lt_of_cell? w _ c0
  unfold maxLen at hc2
  have a1 := ands 1 (by decide) 1 (by decide) 2 (by decide)
  have a3 := ands 2 (by decide) 3 (by decide) 4 (by decide)
  have a7 := ands 3 (by decide) 7 (by decide) 8 (by decide)
  have a15 := ands 4 (by decide) 15 (by decide) 16 (by decide)
  have a31 := ands 5 (by decide) 31 (by decide) 32 (by decide)
  have a127 := ands 7 (by decide) 127 (by decide) 128 (by decide)
  have a255 := ands 8 (by decide) 255 (by decide) 256 (by decide)
  have a511 := ands 9 (by decide) 511 (by decide) 512 (by decide)
  have a2047 := ands 11 (by decide) 2047 (by decide) 2048 (by decide)
  go_enter Try.func19, Try.ntmps19
  go_wp2_with fail
  refine (qRightL (refI x) _ _ _ _ _ _ (by
    have n0 : Nat.blt x 6144 = false := nblt_f (show ¬ x < 6144 by omega)
    have n1 : Nat.blt x 7168 = false := nblt_f (show ¬ x < 7168 by omega)
    have n2 : Nat.blt x 8192 = false := nblt_f (show ¬ x < 8192 by omega)
    have n3 : Nat.blt x 16384 = true := nblt_t (show x < 16384 by omega)
    unfold refI
    simp only [n0, n1, n2, n3, cond_false, cond_true, Bool.and_true, Bool.and_false, Bool.false_and, Bool.true_and, iofn, nadd, nmul, nmod, ndiv, imul]
    all_goals (try simp only [I6.mk.injEq])
    all_goals refine ⟨?_, ?_, ?_, ?_, ?_, ?_⟩ <;> first | rfl | trivial | omega) _).mono ?_
  rintro e w1 ⟨rfl, h1, hJ⟩
  have HJJ := Lib.hid hJ
  obtain ⟨hN, hbl, hz, hy⟩ := two_kept (J := ⟨_, _, _, _, _, _⟩) h1
  have HN := Lib.hid hN
  have hb0 : w.heap.size < w1.heap.size := by omega
  obtain ⟨y0, y1, y2, y3, y4, y5, yf, -⟩ := I6.box hy
  obtain ⟨z0, z1, z2, z3, z4, z5, zf⟩ := zeroIns_cells hz
  simp only at y0 y1 y2 y3 y4 y5
  clear hJ hN h1 hy hz HJ c0 hg a1 a3 a7 a15 a31 a127 a255 a511 a2047
  cases hR : refR (refI x)
  · have HV : Hid (refV x = .tuple #[.agg #[.int .i64 0, .int .i64 0, .int .i64 0, .int .i64 0, .int .i64 0, .int .i64 0], .int .i64 (-1)]) := Lib.hid (by unfold refV; rw [hR]; rfl)
    clear hR
    go_wp2_with fail
    rw [HV.out]
    refine bodyPost_ret (by simp only [results, Try.f19]; simp [go_sem, hbl, hb0, z0, z1, z2, z3, z4, z5]; rfl) rfl ?_
    refine ⟨rfl, ?_⟩
    repeat (refine New.set ?_ _ _ (by simp))
    exact HN.out
  · have HV : Hid (refV x = .tuple #[(refI x).val, .int .i64 1]) := Lib.hid (by unfold refV; rw [hR])
    clear hR
    go_wp2_with fail
    rw [HV.out, HJJ.out]
    refine bodyPost_ret (by simp only [results, Try.f19]; simp [go_sem, hbl, hb0, z0, z1, z2, z3, z4, z5]; rfl) rfl ?_
    refine ⟨rfl, ?_⟩
    repeat (refine New.set ?_ _ _ (by simp))
    exact HN.out
theorem qD4 (x : Nat) (hx : x < 65536) (hf : ¬ x / 2048 = 30) (p0 : ¬ (x < 6144)) (p1 : ¬ (x < 7168)) (p2 : ¬ (x < 8192)) (p3 : ¬ (x < 16384)) (p : x < 17408) (a : Option Addr) (g off len c : Nat) (t : List Nat) (hl : t.length + 1 = len) (hc1 : len ≤ c) (hc2 : c ≤ maxLen) (w : World) (c0 : w.cell? ⟨g, off, none⟩ = some (.int .u16 (x : Int))) : Calls Try.prog 19 #[.slice (some ⟨g, off, none⟩) len c] w fun e w' => e = .returned (refV x) ∧ New w w' := by
  have HJ : Hid (∀ J, refI x = J → refV x = match refR J with | true => .tuple #[J.val, .int .i64 1] | false => .tuple #[I6.zero.val, .int .i64 (-1)]) := Lib.hid (fun J h => by unfold refV; rw [h]; rfl)
  have i0 : decide ((x : Int) < 6144) = false := by simp; omega
  have i1 : decide ((x : Int) < 7168) = false := by simp; omega
  have i2 : decide ((x : Int) < 8192) = false := by simp; omega
  have i3 : decide ((x : Int) < 16384) = false := by simp; omega
  have i4 : decide ((x : Int) < 17408) = true := by simp; omega
  have iF : (((x : Int) / 2048) == 30) = false := by simp; omega
  have iL : ((len : Int) == 0) = false := by simp; omega
  have hlp : 0 < len := by omega
  have hlq : (0 : Int) < (len : Int) := by omega
  have hg := World.block_lt_of_cell? w _ c0
  unfold maxLen at hc2
  have a1 := ands 1 (by decide) 1 (by decide) 2 (by decide)
  have a3 := ands 2 (by decide) 3 (by decide) 4 (by decide)
  have a7 := ands 3 (by decide) 7 (by decide) 8 (by decide)
  have a15 := ands 4 (by decide) 15 (by decide) 16 (by decide)
  have a31 := ands 5 (by decide) 31 (by decide) 32 (by decide)
  have a127 := ands 7 (by decide) 127 (by decide) 128 (by decide)
  have a255 := ands 8 (by decide) 255 (by decide) 256 (by decide)
  have a511 := ands 9 (by decide) 511 (by decide) 512 (by decide)
  have a2047 := ands 11 (by decide) 2047 (by decide) 2048 (by decide)
  go_enter Try.func19, Try.ntmps19
  go_wp2_with fail
  refine (qRightL (refI x) _ _ _ _ _ _ (by
    have n0 : Nat.blt x 6144 = false := nblt_f (show ¬ x < 6144 by omega)
    have n1 : Nat.blt x 7168 = false := nblt_f (show ¬ x < 7168 by omega)
    have n2 : Nat.blt x 8192 = false := nblt_f (show ¬ x < 8192 by omega)
    have n3 : Nat.blt x 16384 = false := nblt_f (show ¬ x < 16384 by omega)
    have n4 : Nat.blt x 17408 = true := nblt_t (show x < 17408 by omega)
    unfold refI
    simp only [n0, n1, n2, n3, n4, cond_false, cond_true, Bool.and_true, Bool.and_false, Bool.false_and, Bool.true_and, iofn, nadd, nmul, nmod, ndiv, imul]
    all_goals (try simp only [I6.mk.injEq])
    all_goals refine ⟨?_, ?_, ?_, ?_, ?_, ?_⟩ <;> first | rfl | trivial | omega) _).mono ?_
  rintro e w1 ⟨rfl, h1, hJ⟩
  have HJJ := Lib.hid hJ
  obtain ⟨hN, hbl, hz, hy⟩ := two_kept (J := ⟨_, _, _, _, _, _⟩) h1
  have HN := Lib.hid hN
  have hb0 : w.heap.size < w1.heap.size := by omega
  obtain ⟨y0, y1, y2, y3, y4, y5, yf, -⟩ := I6.box hy
  obtain ⟨z0, z1, z2, z3, z4, z5, zf⟩ := zeroIns_cells hz
  simp only at y0 y1 y2 y3 y4 y5
  clear hJ hN h1 hy hz HJ c0 hg a1 a3 a7 a15 a31 a127 a255 a511 a2047
  cases hR : refR (refI x)
  · have HV : Hid (refV x = .tuple #[.agg #[.int .i64 0, .int .i64 0, .int .i64 0, .int .i64 0, .int .i64 0, .int .i64 0], .int .i64 (-1)]) := Lib.hid (by unfold refV; rw [hR]; rfl)
    clear hR
    go_wp2_with fail
    rw [HV.out]
    refine bodyPost_ret (by simp only [results, Try.f19]; simp [go_sem, hbl, hb0, z0, z1, z2, z3, z4, z5]; rfl) rfl ?_
    refine ⟨rfl, ?_⟩
    repeat (refine New.set ?_ _ _ (by simp))
    exact HN.out
  · have HV : Hid (refV x = .tuple #[(refI x).val, .int .i64 1]) := Lib.hid (by unfold refV; rw [hR])
    clear hR
    go_wp2_with fail
    rw [HV.out, HJJ.out]
    refine bodyPost_ret (by simp only [results, Try.f19]; simp [go_sem, hbl, hb0, z0, z1, z2, z3, z4, z5]; rfl) rfl ?_
    refine ⟨rfl, ?_⟩
    repeat (refine New.set ?_ _ _ (by simp))
    exact HN.out
theorem qD5 (x : Nat) (hx : x < 65536) (hf : ¬ x / 2048 = 30) (p0 : ¬ (x < 6144)) (p1 : ¬ (x < 7168)) (p2 : ¬ (x < 8192)) (p3 : ¬ (x < 16384)) (p4 : ¬ (x < 17408)) (p : x / 256 = 70) (a : Option Addr) (g off len c : Nat) (t : List Nat) (hl : t.length + 1 = len) (hc1 : len ≤ c) (hc2 : c ≤ maxLen) (w : World) (c0 : w.cell? ⟨g, off, none⟩ = some (.int .u16 (x : Int))) : Calls Try.prog 19 #[.slice (some ⟨g, off, none⟩) len c] w fun e w' => e = .returned (refV x) ∧ New w w' := by
  have HJ : Hid (∀ J, refI x = J → refV x = match refR J with | true => .tuple #[J.val, .int .i64 1] | false => .tuple #[I6.zero.val, .int .i64 (-1)]) := Lib.hid (fun J h => by unfold refV; rw [h]; rfl)
  have i0 : decide ((x : Int) < 6144) = false := by simp; omega
  have i1 : decide ((x : Int) < 7168) = false := by simp; omega
  have i2 : decide ((x : Int) < 8192) = false := by simp; omega
  have i3 : decide ((x : Int) < 16384) = false := by simp; omega
  have i4 : decide ((x : Int) < 17408) = false := by simp; omega
  have i5 : (((x : Int) / 256) == 70) = true := by simp; omega
  have iF : (((x : Int) / 2048) == 30) = false := by simp; omega
  have iL : ((len : Int) == 0) = false := by simp; omega
  have hlp : 0 < len := by omega
  have hlq : (0 : Int) < (len : Int) := by omega
  have hg := World.block_lt_of_cell? w _ c0
  unfold maxLen at hc2
  have a1 := ands 1 (by decide) 1 (by decide) 2 (by decide)
  have a3 := ands 2 (by decide) 3 (by decide) 4 (by decide)
  have a7 := ands 3 (by decide) 7 (by decide) 8 (by decide)
  have a15 := ands 4 (by decide) 15 (by decide) 16 (by decide)
  have a31 := ands 5 (by decide) 31 (by decide) 32 (by decide)
  have a127 := ands 7 (by decide) 127 (by decide) 128 (by decide)
  have a255 := ands 8 (by decide) 255 (by decide) 256 (by decide)
  have a511 := ands 9 (by decide) 511 (by decide) 512 (by decide)
  have a2047 := ands 11 (by decide) 2047 (by decide) 2048 (by decide)
  go_enter Try.func19, Try.ntmps19
  go_wp2_with fail
  refine (qRightL (refI x) _ _ _ _ _ _ (by
    have n0 : Nat.blt x 6144 = false := nblt_f (show ¬ x < 6144 by omega)
    have n1 : Nat.blt x 7168 = false := nblt_f (show ¬ x < 7168 by omega)
    have n2 : Nat.blt x 8192 = false := nblt_f (show ¬ x < 8192 by omega)
    have n3 : Nat.blt x 16384 = false := nblt_f (show ¬ x < 16384 by omega)
    have n4 : Nat.blt x 17408 = false := nblt_f (show ¬ x < 17408 by omega)
    have n5 : Nat.beq (x / 256) 70 = true := nbeq_t (show x / 256 = 70 by omega)
    unfold refI
    simp only [n0, n1, n2, n3, n4, n5, cond_false, cond_true, Bool.and_true, Bool.and_false, Bool.false_and, Bool.true_and, iofn, nadd, nmul, nmod, ndiv, imul]
    all_goals (try simp only [I6.mk.injEq])
    all_goals refine ⟨?_, ?_, ?_, ?_, ?_, ?_⟩ <;> first | rfl | trivial | omega) _).mono ?_
  rintro e w1 ⟨rfl, h1, hJ⟩
  have HJJ := Lib.hid hJ
  obtain ⟨hN, hbl, hz, hy⟩ := two_kept (J := ⟨_, _, _, _, _, _⟩) h1
  have HN := Lib.hid hN
  have hb0 : w.heap.size < w1.heap.size := by omega
  obtain ⟨y0, y1, y2, y3, y4, y5, yf, -⟩ := I6.box hy
  obtain ⟨z0, z1, z2, z3, z4, z5, zf⟩ := zeroIns_cells hz
  simp only at y0 y1 y2 y3 y4 y5
  clear hJ hN h1 hy hz HJ c0 hg a1 a3 a7 a15 a31 a127 a255 a511 a2047
  cases hR : refR (refI x)
  · have HV : Hid (refV x = .tuple #[.agg #[.int .i64 0, .int .i64 0, .int .i64 0, .int .i64 0, .int .i64 0, .int .i64 0], .int .i64 (-1)]) := Lib.hid (by unfold refV; rw [hR]; rfl)
    clear hR
    go_wp2_with fail
    rw [HV.out]
    refine bodyPost_ret (by simp only [results, Try.f19]; simp [go_sem, hbl, hb0, z0, z1, z2, z3, z4, z5]; rfl) rfl ?_
    refine ⟨rfl, ?_⟩
    repeat (refine New.set ?_ _ _ (by simp))
    exact HN.out
  · have HV : Hid (refV x = .tuple #[(refI x).val, .int .i64 1]) := Lib.hid (by unfold refV; rw [hR])
    clear hR
    go_wp2_with fail
    rw [HV.out, HJJ.out]
    refine bodyPost_ret (by simp only [results, Try.f19]; simp [go_sem, hbl, hb0, z0, z1, z2, z3, z4, z5]; rfl) rfl ?_
    refine ⟨rfl, ?_⟩
    repeat (refine New.set ?_ _ _ (by simp))
    exact HN.out
theorem qD6 (x : Nat) (hx : x < 65536) (hf : ¬ x / 2048 = 30) (p0 : ¬ (x < 6144)) (p1 : ¬ (x < 7168)) (p2 : ¬ (x < 8192)) (p3 : ¬ (x < 16384)) (p4 : ¬ (x < 17408)) (p5 : ¬ (x / 256 = 70)) (p : x / 512 = 40) (a : Option Addr) (g off len c : Nat) (t : List Nat) (hl : t.length + 1 = len) (hc1 : len ≤ c) (hc2 : c ≤ maxLen) (w : World) (c0 : w.cell? ⟨g, off, none⟩ = some (.int .u16 (x : Int))) : Calls Try.prog 19 #[.slice (some ⟨g, off, none⟩) len c] w fun e w' => e = .returned (refV x) ∧ New w w' := by
  have HJ : Hid (∀ J, refI x = J → refV x = match refR J with | true => .tuple #[J.val, .int .i64 1] | false => .tuple #[I6.zero.val, .int .i64 (-1)]) := Lib.hid (fun J h => by unfold refV; rw [h]; rfl)
  have i0 : decide ((x : Int) < 6144) = false := by simp; omega
  have i1 : decide ((x : Int) < 7168) = false := by simp; omega
  have i2 : decide ((x : Int) < 8192) = false := by simp; omega
  have i3 : decide ((x : Int) < 16384) = false := by simp; omega
  have i4 : decide ((x : Int) < 17408) = false := by simp; omega
  have i5 : (((x : Int) / 256) == 70) = false := by simp; omega
  have i6 : (((x : Int) / 512) == 40) = true := by simp; omega
  have iF : (((x : Int) / 2048) == 30) = false := by simp; omega
  have iL : ((len : Int) == 0) = false := by simp; omega
  have hlp : 0 < len := by omega
  have hlq : (0 : Int) < (len : Int) := by omega
  have hg := World.block_lt_of_cell? w _ c0
  unfold maxLen at hc2
  have a1 := ands 1 (by decide) 1 (by decide) 2 (by decide)
  have a3 := ands 2 (by decide) 3 (by decide) 4 (by decide)
  have a7 := ands 3 (by decide) 7 (by decide) 8 (by decide)
  have a15 := ands 4 (by decide) 15 (by decide) 16 (by decide)
  have a31 := ands 5 (by decide) 31 (by decide) 32 (by decide)
  have a127 := ands 7 (by decide) 127 (by decide) 128 (by decide)
  have a255 := ands 8 (by decide) 255 (by decide) 256 (by decide)
  have a511 := ands 9 (by decide) 511 (by decide) 512 (by decide)
  have a2047 := ands 11 (by decide) 2047 (by decide) 2048 (by decide)
  go_enter Try.func19, Try.ntmps19
  go_wp2_with fail
  refine (qRightL (refI x) _ _ _ _ _ _ (by
    have n0 : Nat.blt x 6144 = false := nblt_f (show ¬ x < 6144 by omega)
    have n1 : Nat.blt x 7168 = false := nblt_f (show ¬ x < 7168 by omega)
    have n2 : Nat.blt x 8192 = false := nblt_f (show ¬ x < 8192 by omega)
    have n3 : Nat.blt x 16384 = false := nblt_f (show ¬ x < 16384 by omega)
    have n4 : Nat.blt x 17408 = false := nblt_f (show ¬ x < 17408 by omega)
    have n5 : Nat.beq (x / 256) 70 = false := nbeq_f (show ¬ x / 256 = 70 by omega)
    have n6 : Nat.beq (x / 512) 40 = true := nbeq_t (show x / 512 = 40 by omega)
    unfold refI
    simp only [n0, n1, n2, n3, n4, n5, n6, cond_false, cond_true, Bool.and_true, Bool.and_false, Bool.false_and, Bool.true_and, iofn, nadd, nmul, nmod, ndiv, imul]
    all_goals (try simp only [I6.mk.injEq])
    all_goals refine ⟨?_, ?_, ?_, ?_, ?_, ?_⟩ <;> first | rfl | trivial | omega) _).mono ?_
  rintro e w1 ⟨rfl, h1, hJ⟩
  have HJJ := Lib.hid hJ
  obtain ⟨hN, hbl, hz, hy⟩ := two_kept (J := ⟨_, _, _, _, _, _⟩) h1
  have HN := Lib.hid hN
  have hb0 : w.heap.size < w1.heap.size := by omega
  obtain ⟨y0, y1, y2, y3, y4, y5, yf, -⟩ := I6.box hy
  obtain ⟨z0, z1, z2, z3, z4, z5, zf⟩ := zeroIns_cells hz
  simp only at y0 y1 y2 y3 y4 y5
  clear hJ hN h1 hy hz HJ c0 hg a1 a3 a7 a15 a31 a127 a255 a511 a2047
  cases hR : refR (refI x)
  · have HV : Hid (refV x = .tuple #[.agg #[.int .i64 0, .int .i64 0, .int .i64 0, .int .i64 0, .int .i64 0, .int .i64 0], .int .i64 (-1)]) := Lib.hid (by unfold refV; rw [hR]; rfl)
    clear hR
    go_wp2_with fail
    rw [HV.out]
    refine bodyPost_ret (by simp only [results, Try.f19]; simp [go_sem, hbl, hb0, z0, z1, z2, z3, z4, z5]; rfl) rfl ?_
    refine ⟨rfl, ?_⟩
    repeat (refine New.set ?_ _ _ (by simp))
    exact HN.out
  · have HV : Hid (refV x = .tuple #[(refI x).val, .int .i64 1]) := Lib.hid (by unfold refV; rw [hR])
    clear hR
    go_wp2_with fail
    rw [HV.out, HJJ.out]
    refine bodyPost_ret (by simp only [results, Try.f19]; simp [go_sem, hbl, hb0, z0, z1, z2, z3, z4, z5]; rfl) rfl ?_
    refine ⟨rfl, ?_⟩
    repeat (refine New.set ?_ _ _ (by simp))
    exact HN.out
end Go.Proofs.Ytkdmppgjmmmclaa

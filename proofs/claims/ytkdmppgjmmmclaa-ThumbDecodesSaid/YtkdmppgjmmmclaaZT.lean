/- The reference's Decode of one halfword, form by form. -/
import Derived.Test.YtkdmppgjmmmclaaZR
namespace Go.Proofs.Ytkdmppgjmmmclaa
open Go.RowKit
set_option linter.unusedVariables false
set_option linter.unusedSimpArgs false
set_option maxRecDepth 20000
set_option maxHeartbeats 4000000
theorem qD7 (x : Nat) (hx : x < 65536) (hf : ¬ x / 2048 = 30) (p0 : ¬ (x < 6144)) (p1 : ¬ (x < 7168)) (p2 : ¬ (x < 8192)) (p3 : ¬ (x < 16384)) (p4 : ¬ (x < 17408)) (p5 : ¬ (x / 256 = 70)) (p6 : ¬ (x / 512 = 40)) (p : x / 512 = 44) (a : Option Addr) (g off len c : Nat) (t : List Nat) (hl : t.length + 1 = len) (hc1 : len ≤ c) (hc2 : c ≤ maxLen) (w : World) (c0 : w.cell? ⟨g, off, none⟩ = some (.int .u16 (x : Int))) : Calls Try.prog 19 #[.slice (some ⟨g, off, none⟩) len c] w fun e w' => e = .returned (refV x) ∧ New w w' := by
  have HJ : Hid (∀ J, refI x = J → refV x = match refR J with | true => .tuple #[J.val, .int .i64 1] | false => .tuple #[I6.zero.val, .int .i64 (-1)]) := Lib.hid (fun J h => by unfold refV; rw [h]; rfl)
  have i0 : decide ((x : Int) < 6144) = false := by simp; omega
  have i1 : decide ((x : Int) < 7168) = false := by simp; omega
  have i2 : decide ((x : Int) < 8192) = false := by simp; omega
  have i3 : decide ((x : Int) < 16384) = false := by simp; omega
  have i4 : decide ((x : Int) < 17408) = false := by simp; omega
  have i5 : (((x : Int) / 256) == 70) = false := by simp; omega
  have i6 : (((x : Int) / 512) == 40) = false := by simp; omega
  have i7 : (((x : Int) / 512) == 44) = true := by simp; omega
  have iF : (((x : Int) / 2048) == 30) = false := by simp; omega
  have iL : ((len : Int) == 0) = false := by simp; omega
  have hlp : 0 < len := by omega
  have hlq : (0 : Int) < (len : Int) := by omega
  have hg := World.block_lt_of_cell? w _ c0
  unfold maxLen at hc2
  have a1 := ands 1 (by decide) 1 (by decide) 2 (by decide)
  have a3 := ands 2 (by decide) 3 (by decide) 4 (by decide)
  have a7 := ands 3 (by decide) 7 (by decide) 8 (by decide)
  have a15 := ands 4 (by decide) 15 (by decide) 16 (by decide)
  have a31 := ands 5 (by decide) 31 (by decide) 32 (by decide)
  have a127 := ands 7 (by decide) 127 (by decide) 128 (by decide)
  have a255 := ands 8 (by decide) 255 (by decide) 256 (by decide)
  have a511 := ands 9 (by decide) 511 (by decide) 512 (by decide)
  have a2047 := ands 11 (by decide) 2047 (by decide) 2048 (by decide)
  go_enter Try.func19, Try.ntmps19
  go_wp2_with fail
  refine (qRightL (refI x) _ _ _ _ _ _ (by
    have n0 : Nat.blt x 6144 = false := nblt_f (show ¬ x < 6144 by omega)
    have n1 : Nat.blt x 7168 = false := nblt_f (show ¬ x < 7168 by omega)
    have n2 : Nat.blt x 8192 = false := nblt_f (show ¬ x < 8192 by omega)
    have n3 : Nat.blt x 16384 = false := nblt_f (show ¬ x < 16384 by omega)
    have n4 : Nat.blt x 17408 = false := nblt_f (show ¬ x < 17408 by omega)
    have n5 : Nat.beq (x / 256) 70 = false := nbeq_f (show ¬ x / 256 = 70 by omega)
    have n6 : Nat.beq (x / 512) 40 = false := nbeq_f (show ¬ x / 512 = 40 by omega)
    have n7 : Nat.beq (x / 512) 44 = true := nbeq_t (show x / 512 = 44 by omega)
    unfold refI
    simp only [n0, n1, n2, n3, n4, n5, n6, n7, cond_false, cond_true, Bool.and_true, Bool.and_false, Bool.false_and, Bool.true_and, iofn, nadd, nmul, nmod, ndiv, imul]
    all_goals (try simp only [I6.mk.injEq])
    all_goals refine ⟨?_, ?_, ?_, ?_, ?_, ?_⟩ <;> first | rfl | trivial | omega) _).mono ?_
  rintro e w1 ⟨rfl, h1, hJ⟩
  have HJJ := Lib.hid hJ
  obtain ⟨hN, hbl, hz, hy⟩ := two_kept (J := ⟨_, _, _, _, _, _⟩) h1
  have HN := Lib.hid hN
  have hb0 : w.heap.size < w1.heap.size := by omega
  obtain ⟨y0, y1, y2, y3, y4, y5, yf, -⟩ := I6.box hy
  obtain ⟨z0, z1, z2, z3, z4, z5, zf⟩ := zeroIns_cells hz
  simp only at y0 y1 y2 y3 y4 y5
  clear hJ hN h1 hy hz HJ c0 hg a1 a3 a7 a15 a31 a127 a255 a511 a2047
  cases hR : refR (refI x)
  · have HV : Hid (refV x = .tuple #[.agg #[.int .i64 0, .int .i64 0, .int .i64 0, .int .i64 0, .int .i64 0, .int .i64 0], .int .i64 (-1)]) := Lib.hid (by unfold refV; rw [hR]; rfl)
    clear hR
    go_wp2_with fail
    rw [HV.out]
    refine bodyPost_ret (by simp only [results, Try.f19]; simp [go_sem, hbl, hb0, z0, z1, z2, z3, z4, z5]; rfl) rfl ?_
    refine ⟨rfl, ?_⟩
    repeat (refine New.set ?_ _ _ (by simp))
    exact HN.out
  · have HV : Hid (refV x = .tuple #[(refI x).val, .int .i64 1]) := Lib.hid (by unfold refV; rw [hR])
    clear hR
    go_wp2_with fail
    rw [HV.out, HJJ.out]
    refine bodyPost_ret (by simp only [results, Try.f19]; simp [go_sem, hbl, hb0, z0, z1, z2, z3, z4, z5]; rfl) rfl ?_
    refine ⟨rfl, ?_⟩
    repeat (refine New.set ?_ _ _ (by simp))
    exact HN.out
theorem qD8 (x : Nat) (hx : x < 65536) (hf : ¬ x / 2048 = 30) (p0 : ¬ (x < 6144)) (p1 : ¬ (x < 7168)) (p2 : ¬ (x < 8192)) (p3 : ¬ (x < 16384)) (p4 : ¬ (x < 17408)) (p5 : ¬ (x / 256 = 70)) (p6 : ¬ (x / 512 = 40)) (p7 : ¬ (x / 512 = 44)) (p : x / 2048 = 12) (a : Option Addr) (g off len c : Nat) (t : List Nat) (hl : t.length + 1 = len) (hc1 : len ≤ c) (hc2 : c ≤ maxLen) (w : World) (c0 : w.cell? ⟨g, off, none⟩ = some (.int .u16 (x : Int))) : Calls Try.prog 19 #[.slice (some ⟨g, off, none⟩) len c] w fun e w' => e = .returned (refV x) ∧ New w w' := by
  have HJ : Hid (∀ J, refI x = J → refV x = match refR J with | true => .tuple #[J.val, .int .i64 1] | false => .tuple #[I6.zero.val, .int .i64 (-1)]) := Lib.hid (fun J h => by unfold refV; rw [h]; rfl)
  have i0 : decide ((x : Int) < 6144) = false := by simp; omega
  have i1 : decide ((x : Int) < 7168) = false := by simp; omega
  have i2 : decide ((x : Int) < 8192) = false := by simp; omega
  have i3 : decide ((x : Int) < 16384) = false := by simp; omega
  have i4 : decide ((x : Int) < 17408) = false := by simp; omega
  have i5 : (((x : Int) / 256) == 70) = false := by simp; omega
  have i6 : (((x : Int) / 512) == 40) = false := by simp; omega
  have i7 : (((x : Int) / 512) == 44) = false := by simp; omega
  have i8 : (((x : Int) / 2048) == 12) = true := by simp; omega
  have iF : (((x : Int) / 2048) == 30) = false := by simp; omega
  have iL : ((len : Int) == 0) = false := by simp; omega
  have hlp : 0 < len := by omega
  have hlq : (0 : Int) < (len : Int) := by omega
  have hg := World.block_lt_of_cell? w _ c0
  unfold maxLen at hc2
  have a1 := ands 1 (by decide) 1 (by decide) 2 (by decide)
  have a3 := ands 2 (by decide) 3 (by decide) 4 (by decide)
  have a7 := ands 3 (by decide) 7 (by decide) 8 (by decide)
  have a15 := ands 4 (by decide) 15 (by decide) 16 (by decide)
  have a31 := ands 5 (by decide) 31 (by decide) 32 (by decide)
  have a127 := ands 7 (by decide) 127 (by decide) 128 (by decide)
  have a255 := ands 8 (by decide) 255 (by decide) 256 (by decide)
  have a511 := ands 9 (by decide) 511 (by decide) 512 (by decide)
  have a2047 := ands 11 (by decide) 2047 (by decide) 2048 (by decide)
  go_enter Try.func19, Try.ntmps19
  go_wp2_with fail
  refine (qRightL (refI x) _ _ _ _ _ _ (by
    have n0 : Nat.blt x 6144 = false := nblt_f (show ¬ x < 6144 by omega)
    have n1 : Nat.blt x 7168 = false := nblt_f (show ¬ x < 7168 by omega)
    have n2 : Nat.blt x 8192 = false := nblt_f (show ¬ x < 8192 by omega)
    have n3 : Nat.blt x 16384 = false := nblt_f (show ¬ x < 16384 by omega)
    have n4 : Nat.blt x 17408 = false := nblt_f (show ¬ x < 17408 by omega)
    have n5 : Nat.beq (x / 256) 70 = false := nbeq_f (show ¬ x / 256 = 70 by omega)
    have n6 : Nat.beq (x / 512) 40 = false := nbeq_f (show ¬ x / 512 = 40 by omega)
    have n7 : Nat.beq (x / 512) 44 = false := nbeq_f (show ¬ x / 512 = 44 by omega)
    have n8 : Nat.beq (x / 2048) 12 = true := nbeq_t (show x / 2048 = 12 by omega)
    unfold refI
    simp only [n0, n1, n2, n3, n4, n5, n6, n7, n8, cond_false, cond_true, Bool.and_true, Bool.and_false, Bool.false_and, Bool.true_and, iofn, nadd, nmul, nmod, ndiv, imul]
    all_goals (try simp only [I6.mk.injEq])
    all_goals refine ⟨?_, ?_, ?_, ?_, ?_, ?_⟩ <;> first | rfl | trivial | omega) _).mono ?_
  rintro e w1 ⟨rfl, h1, hJ⟩
  have HJJ := Lib.hid hJ
  obtain ⟨hN, hbl, hz, hy⟩ := two_kept (J := ⟨_, _, _, _, _, _⟩) h1
  have HN := Lib.hid hN
  have hb0 : w.heap.size < w1.heap.size := by omega
  obtain ⟨y0, y1, y2, y3, y4, y5, yf, -⟩ := I6.box hy
  obtain ⟨z0, z1, z2, z3, z4, z5, zf⟩ := zeroIns_cells hz
  simp only at y0 y1 y2 y3 y4 y5
  clear hJ hN h1 hy hz HJ c0 hg a1 a3 a7 a15 a31 a127 a255 a511 a2047
  cases hR : refR (refI x)
  · have HV : Hid (refV x = .tuple #[.agg #[.int .i64 0, .int .i64 0, .int .i64 0, .int .i64 0, .int .i64 0, .int .i64 0], .int .i64 (-1)]) := Lib.hid (by unfold refV; rw [hR]; rfl)
    clear hR
    go_wp2_with fail
    rw [HV.out]
    refine bodyPost_ret (by simp only [results, Try.f19]; simp [go_sem, hbl, hb0, z0, z1, z2, z3, z4, z5]; rfl) rfl ?_
    refine ⟨rfl, ?_⟩
    repeat (refine New.set ?_ _ _ (by simp))
    exact HN.out
  · have HV : Hid (refV x = .tuple #[(refI x).val, .int .i64 1]) := Lib.hid (by unfold refV; rw [hR])
    clear hR
    go_wp2_with fail
    rw [HV.out, HJJ.out]
    refine bodyPost_ret (by simp only [results, Try.f19]; simp [go_sem, hbl, hb0, z0, z1, z2, z3, z4, z5]; rfl) rfl ?_
    refine ⟨rfl, ?_⟩
    repeat (refine New.set ?_ _ _ (by simp))
    exact HN.out
theorem qD9 (x : Nat) (hx : x < 65536) (hf : ¬ x / 2048 = 30) (p0 : ¬ (x < 6144)) (p1 : ¬ (x < 7168)) (p2 : ¬ (x < 8192)) (p3 : ¬ (x < 16384)) (p4 : ¬ (x < 17408)) (p5 : ¬ (x / 256 = 70)) (p6 : ¬ (x / 512 = 40)) (p7 : ¬ (x / 512 = 44)) (p8 : ¬ (x / 2048 = 12)) (p : x / 2048 = 13) (a : Option Addr) (g off len c : Nat) (t : List Nat) (hl : t.length + 1 = len) (hc1 : len ≤ c) (hc2 : c ≤ maxLen) (w : World) (c0 : w.cell? ⟨g, off, none⟩ = some (.int .u16 (x : Int))) : Calls Try.prog 19 #[.slice (some ⟨g, off, none⟩) len c] w fun e w' => e = .returned (refV x) ∧ New w w' := by
  have HJ : Hid (∀ J, refI x = J → refV x = match refR J with | true => .tuple #[J.val, .int .i64 1] | false => .tuple #[I6.zero.val, .int .i64 (-1)]) := Lib.hid (fun J h => by unfold refV; rw [h]; rfl)
  have i0 : decide ((x : Int) < 6144) = false := by simp; omega
  have i1 : decide ((x : Int) < 7168) = false := by simp; omega
  have i2 : decide ((x : Int) < 8192) = false := by simp; omega
  have i3 : decide ((x : Int) < 16384) = false := by simp; omega
  have i4 : decide ((x : Int) < 17408) = false := by simp; omega
  have i5 : (((x : Int) / 256) == 70) = false := by simp; omega
  have i6 : (((x : Int) / 512) == 40) = false := by simp; omega
  have i7 : (((x : Int) / 512) == 44) = false := by simp; omega
  have i8 : (((x : Int) / 2048) == 12) = false := by simp; omega
  have i9 : (((x : Int) / 2048) == 13) = true := by simp; omega
  have iF : (((x : Int) / 2048) == 30) = false := by simp; omega
  have iL : ((len : Int) == 0) = false := by simp; omega
  have hlp : 0 < len := by omega
  have hlq : (0 : Int) < (len : Int) := by omega
  have hg := World.block_lt_of_cell? w _ c0
  unfold maxLen at hc2
  have a1 := ands 1 (by decide) 1 (by decide) 2 (by decide)
  have a3 := ands 2 (by decide) 3 (by decide) 4 (by decide)
  have a7 := ands 3 (by decide) 7 (by decide) 8 (by decide)
  have a15 := ands 4 (by decide) 15 (by decide) 16 (by decide)
  have a31 := ands 5 (by decide) 31 (by decide) 32 (by decide)
  have a127 := ands 7 (by decide) 127 (by decide) 128 (by decide)
  have a255 := ands 8 (by decide) 255 (by decide) 256 (by decide)
  have a511 := ands 9 (by decide) 511 (by decide) 512 (by decide)
  have a2047 := ands 11 (by decide) 2047 (by decide) 2048 (by decide)
  go_enter Try.func19, Try.ntmps19
  go_wp2_with fail
  refine (qRightL (refI x) _ _ _ _ _ _ (by
    have n0 : Nat.blt x 6144 = false := nblt_f (show ¬ x < 6144 by omega)
    have n1 : Nat.blt x 7168 = false := nblt_f (show ¬ x < 7168 by omega)
    have n2 : Nat.blt x 8192 = false := nblt_f (show ¬ x < 8192 by omega)
    have n3 : Nat.blt x 16384 = false := nblt_f (show ¬ x < 16384 by omega)
    have n4 : Nat.blt x 17408 = false := nblt_f (show ¬ x < 17408 by omega)
    have n5 : Nat.beq (x / 256) 70 = false := nbeq_f (show ¬ x / 256 = 70 by omega)
    have n6 : Nat.beq (x / 512) 40 = false := nbeq_f (show ¬ x / 512 = 40 by omega)
    have n7 : Nat.beq (x / 512) 44 = false := nbeq_f (show ¬ x / 512 = 44 by omega)
    have n8 : Nat.beq (x / 2048) 12 = false := nbeq_f (show ¬ x / 2048 = 12 by omega)
    have n9 : Nat.beq (x / 2048) 13 = true := nbeq_t (show x / 2048 = 13 by omega)
    unfold refI
    simp only [n0, n1, n2, n3, n4, n5, n6, n7, n8, n9, cond_false, cond_true, Bool.and_true, Bool.and_false, Bool.false_and, Bool.true_and, iofn, nadd, nmul, nmod, ndiv, imul]
    all_goals (try simp only [I6.mk.injEq])
    all_goals refine ⟨?_, ?_, ?_, ?_, ?_, ?_⟩ <;> first | rfl | trivial | omega) _).mono ?_
  rintro e w1 ⟨rfl, h1, hJ⟩
  have HJJ := Lib.hid hJ
  obtain ⟨hN, hbl, hz, hy⟩ := two_kept (J := ⟨_, _, _, _, _, _⟩) h1
  have HN := Lib.hid hN
  have hb0 : w.heap.size < w1.heap.size := by omega
  obtain ⟨y0, y1, y2, y3, y4, y5, yf, -⟩ := I6.box hy
  obtain ⟨z0, z1, z2, z3, z4, z5, zf⟩ := zeroIns_cells hz
  simp only at y0 y1 y2 y3 y4 y5
  clear hJ hN h1 hy hz HJ c0 hg a1 a3 a7 a15 a31 a127 a255 a511 a2047
  cases hR : refR (refI x)
  · have HV : Hid (refV x = .tuple #[.agg #[.int .i64 0, .int .i64 0, .int .i64 0, .int .i64 0, .int .i64 0, .int .i64 0], .int .i64 (-1)]) := Lib.hid (by unfold refV; rw [hR]; rfl)
    clear hR
    go_wp2_with fail
    rw [HV.out]
    refine bodyPost_ret (by simp only [results, Try.f19]; simp [go_sem, hbl, hb0, z0, z1, z2, z3, z4, z5]; rfl) rfl ?_
    refine ⟨rfl, ?_⟩
    repeat (refine New.set ?_ _ _ (by simp))
    exact HN.out
  · have HV : Hid (refV x = .tuple #[(refI x).val, .int .i64 1]) := Lib.hid (by unfold refV; rw [hR])
    clear hR
    go_wp2_with fail
    rw [HV.out, HJJ.out]
    refine bodyPost_ret (by simp only [results, Try.f19]; simp [go_sem, hbl, hb0, z0, z1, z2, z3, z4, z5]; rfl) rfl ?_
    refine ⟨rfl, ?_⟩
    repeat (refine New.set ?_ _ _ (by simp))
    exact HN.out
theorem qD10 (x : Nat) (hx : x < 65536) (hf : ¬ x / 2048 = 30) (p0 : ¬ (x < 6144)) (p1 : ¬ (x < 7168)) (p2 : ¬ (x < 8192)) (p3 : ¬ (x < 16384)) (p4 : ¬ (x < 17408)) (p5 : ¬ (x / 256 = 70)) (p6 : ¬ (x / 512 = 40)) (p7 : ¬ (x / 512 = 44)) (p8 : ¬ (x / 2048 = 12)) (p9 : ¬ (x / 2048 = 13)) (p : x / 2048 = 14) (a : Option Addr) (g off len c : Nat) (t : List Nat) (hl : t.length + 1 = len) (hc1 : len ≤ c) (hc2 : c ≤ maxLen) (w : World) (c0 : w.cell? ⟨g, off, none⟩ = some (.int .u16 (x : Int))) : Calls Try.prog 19 #[.slice (some ⟨g, off, none⟩) len c] w fun e w' => e = .returned (refV x) ∧ New w w' := by
  have HJ : Hid (∀ J, refI x = J → refV x = match refR J with | true => .tuple #[J.val, .int .i64 1] | false => .tuple #[I6.zero.val, .int .i64 (-1)]) := Lib.hid (fun J h => by unfold refV; rw [h]; rfl)
  have i0 : decide ((x : Int) < 6144) = false := by simp; omega
  have i1 : decide ((x : Int) < 7168) = false := by simp; omega
  have i2 : decide ((x : Int) < 8192) = false := by simp; omega
  have i3 : decide ((x : Int) < 16384) = false := by simp; omega
  have i4 : decide ((x : Int) < 17408) = false := by simp; omega
  have i5 : (((x : Int) / 256) == 70) = false := by simp; omega
  have i6 : (((x : Int) / 512) == 40) = false := by simp; omega
  have i7 : (((x : Int) / 512) == 44) = false := by simp; omega
  have i8 : (((x : Int) / 2048) == 12) = false := by simp; omega
  have i9 : (((x : Int) / 2048) == 13) = false := by simp; omega
  have i10 : (((x : Int) / 2048) == 14) = true := by simp; omega
  have iF : (((x : Int) / 2048) == 30) = false := by simp; omega
  have iL : ((len : Int) == 0) = false := by simp; omega
  have hlp : 0 < len := by omega
  have hlq : (0 : Int) < (len : Int) := by omega
  have hg := World.block_lt_of_cell? w _ c0
  unfold maxLen at hc2
  have a1 := ands 1 (by decide) 1 (by decide) 2 (by decide)
  have a3 := ands 2 (by decide) 3 (by decide) 4 (by decide)
  have a7 := ands 3 (by decide) 7 (by decide) 8 (by decide)
  have a15 := ands 4 (by decide) 15 (by decide) 16 (by decide)
  have a31 := ands 5 (by decide) 31 (by decide) 32 (by decide)
  have a127 := ands 7 (by decide) 127 (by decide) 128 (by decide)
  have a255 := ands 8 (by decide) 255 (by decide) 256 (by decide)
  have a511 := ands 9 (by decide) 511 (by decide) 512 (by decide)
  have a2047 := ands 11 (by decide) 2047 (by decide) 2048 (by decide)
  go_enter Try.func19, Try.ntmps19
  go_wp2_with fail
  refine (qRightL (refI x) _ _ _ _ _ _ (by
    have n0 : Nat.blt x 6144 = false := nblt_f (show ¬ x < 6144 by omega)
    have n1 : Nat.blt x 7168 = false := nblt_f (show ¬ x < 7168 by omega)
    have n2 : Nat.blt x 8192 = false := nblt_f (show ¬ x < 8192 by omega)
    have n3 : Nat.blt x 16384 = false := nblt_f (show ¬ x < 16384 by omega)
    have n4 : Nat.blt x 17408 = false := nblt_f (show ¬ x < 17408 by omega)
    have n5 : Nat.beq (x / 256) 70 = false := nbeq_f (show ¬ x / 256 = 70 by omega)
    have n6 : Nat.beq (x / 512) 40 = false := nbeq_f (show ¬ x / 512 = 40 by omega)
    have n7 : Nat.beq (x / 512) 44 = false := nbeq_f (show ¬ x / 512 = 44 by omega)
    have n8 : Nat.beq (x / 2048) 12 = false := nbeq_f (show ¬ x / 2048 = 12 by omega)
    have n9 : Nat.beq (x / 2048) 13 = false := nbeq_f (show ¬ x / 2048 = 13 by omega)
    have n10 : Nat.beq (x / 2048) 14 = true := nbeq_t (show x / 2048 = 14 by omega)
    unfold refI
    simp only [n0, n1, n2, n3, n4, n5, n6, n7, n8, n9, n10, cond_false, cond_true, Bool.and_true, Bool.and_false, Bool.false_and, Bool.true_and, iofn, nadd, nmul, nmod, ndiv, imul]
    all_goals (try simp only [I6.mk.injEq])
    all_goals refine ⟨?_, ?_, ?_, ?_, ?_, ?_⟩ <;> first | rfl | trivial | omega) _).mono ?_
  rintro e w1 ⟨rfl, h1, hJ⟩
  have HJJ := Lib.hid hJ
  obtain ⟨hN, hbl, hz, hy⟩ := two_kept (J := ⟨_, _, _, _, _, _⟩) h1
  have HN := Lib.hid hN
  have hb0 : w.heap.size < w1.heap.size := by omega
  obtain ⟨y0, y1, y2, y3, y4, y5, yf, -⟩ := I6.box hy
  obtain ⟨z0, z1, z2, z3, z4, z5, zf⟩ := zeroIns_cells hz
  simp only at y0 y1 y2 y3 y4 y5
  clear hJ hN h1 hy hz HJ c0 hg a1 a3 a7 a15 a31 a127 a255 a511 a2047
  cases hR : refR (refI x)
  · have HV : Hid (refV x = .tuple #[.agg #[.int .i64 0, .int .i64 0, .int .i64 0, .int .i64 0, .int .i64 0, .int .i64 0], .int .i64 (-1)]) := Lib.hid (by unfold refV; rw [hR]; rfl)
    clear hR
    go_wp2_with fail
    rw [HV.out]
    refine bodyPost_ret (by simp only [results, Try.f19]; simp [go_sem, hbl, hb0, z0, z1, z2, z3, z4, z5]; rfl) rfl ?_
    refine ⟨rfl, ?_⟩
    repeat (refine New.set ?_ _ _ (by simp))
    exact HN.out
  · have HV : Hid (refV x = .tuple #[(refI x).val, .int .i64 1]) := Lib.hid (by unfold refV; rw [hR])
    clear hR
    go_wp2_with fail
    rw [HV.out, HJJ.out]
    refine bodyPost_ret (by simp only [results, Try.f19]; simp [go_sem, hbl, hb0, z0, z1, z2, z3, z4, z5]; rfl) rfl ?_
    refine ⟨rfl, ?_⟩
    repeat (refine New.set ?_ _ _ (by simp))
    exact HN.out
theorem qD11 (x : Nat) (hx : x < 65536) (hf : ¬ x / 2048 = 30) (p0 : ¬ (x < 6144)) (p1 : ¬ (x < 7168)) (p2 : ¬ (x < 8192)) (p3 : ¬ (x < 16384)) (p4 : ¬ (x < 17408)) (p5 : ¬ (x / 256 = 70)) (p6 : ¬ (x / 512 = 40)) (p7 : ¬ (x / 512 = 44)) (p8 : ¬ (x / 2048 = 12)) (p9 : ¬ (x / 2048 = 13)) (p10 : ¬ (x / 2048 = 14)) (p : x / 2048 = 15) (a : Option Addr) (g off len c : Nat) (t : List Nat) (hl : t.length + 1 = len) (hc1 : len ≤ c) (hc2 : c ≤ maxLen) (w : World) (c0 : w.cell? ⟨g, off, none⟩ = some (.int .u16 (x : Int))) : Calls Try.prog 19 #[.slice (some ⟨g, off, none⟩) len c] w fun e w' => e = .returned (refV x) ∧ New w w' := by
  have HJ : Hid (∀ J, refI x = J → refV x = match refR J with | true => .tuple #[J.val, .int .i64 1] | false => .tuple #[I6.zero.val, .int .i64 (-1)]) := Lib.hid (fun J h => by unfold refV; rw [h]; rfl)
  have i0 : decide ((x : Int) < 6144) = false := by simp; omega
  have i1 : decide ((x : Int) < 7168) = false := by simp; omega
  have i2 : decide ((x : Int) < 8192) = false := by simp; omega
  have i3 : decide ((x : Int) < 16384) = false := by simp; omega
  have i4 : decide ((x : Int) < 17408) = false := by simp; omega
  have i5 : (((x : Int) / 256) == 70) = false := by simp; omega
  have i6 : (((x : Int) / 512) == 40) = false := by simp; omega
  have i7 : (((x : Int) / 512) == 44) = false := by simp; omega
  have i8 : (((x : Int) / 2048) == 12) = false := by simp; omega
  have i9 : (((x : Int) / 2048) == 13) = false := by simp; omega
  have i10 : (((x : Int) / 2048) == 14) = false := by simp; omega
  have i11 : (((x : Int) / 2048) == 15) = true := by simp; omega
  have iF : (((x : Int) / 2048) == 30) = false := by simp; omega
  have iL : ((len : Int) == 0) = false := by simp; omega
  have hlp : 0 < len := by omega
  have hlq : (0 : Int) < (len : Int) := by omega
  have hg := World.block_lt_of_cell? w _ c0
  unfold maxLen at hc2
  have a1 := ands 1 (by decide) 1 (by decide) 2 (by decide)
  have a3 := ands 2 (by decide) 3 (by decide) 4 (by decide)
  have a7 := ands 3 (by decide) 7 (by decide) 8 (by decide)
  have a15 := ands 4 (by decide) 15 (by decide) 16 (by decide)
  have a31 := ands 5 (by decide) 31 (by decide) 32 (by decide)
  have a127 := ands 7 (by decide) 127 (by decide) 128 (by decide)
  have a255 := ands 8 (by decide) 255 (by decide) 256 (by decide)
  have a511 := ands 9 (by decide) 511 (by decide) 512 (by decide)
  have a2047 := ands 11 (by decide) 2047 (by decide) 2048 (by decide)
  go_enter Try.func19, Try.ntmps19
  go_wp2_with fail
  refine (qRightL (refI x) _ _ _ _ _ _ (by
    have n0 : Nat.blt x 6144 = false := nblt_f (show ¬ x < 6144 by omega)
    have n1 : Nat.blt x 7168 = false := nblt_f (show ¬ x < 7168 by omega)
    have n2 : Nat.blt x 8192 = false := nblt_f (show ¬ x < 8192 by omega)
    have n3 : Nat.blt x 16384 = false := nblt_f (show ¬ x < 16384 by omega)
    have n4 : Nat.blt x 17408 = false := nblt_f (show ¬ x < 17408 by omega)
    have n5 : Nat.beq (x / 256) 70 = false := nbeq_f (show ¬ x / 256 = 70 by omega)
    have n6 : Nat.beq (x / 512) 40 = false := nbeq_f (show ¬ x / 512 = 40 by omega)
    have n7 : Nat.beq (x / 512) 44 = false := nbeq_f (show ¬ x / 512 = 44 by omega)
    have n8 : Nat.beq (x / 2048) 12 = false := nbeq_f (show ¬ x / 2048 = 12 by omega)
    have n9 : Nat.beq (x / 2048) 13 = false := nbeq_f (show ¬ x / 2048 = 13 by omega)
    have n10 : Nat.beq (x / 2048) 14 = false := nbeq_f (show ¬ x / 2048 = 14 by omega)
    have n11 : Nat.beq (x / 2048) 15 = true := nbeq_t (show x / 2048 = 15 by omega)
    unfold refI
    simp only [n0, n1, n2, n3, n4, n5, n6, n7, n8, n9, n10, n11, cond_false, cond_true, Bool.and_true, Bool.and_false, Bool.false_and, Bool.true_and, iofn, nadd, nmul, nmod, ndiv, imul]
    all_goals (try simp only [I6.mk.injEq])
    all_goals refine ⟨?_, ?_, ?_, ?_, ?_, ?_⟩ <;> first | rfl | trivial | omega) _).mono ?_
  rintro e w1 ⟨rfl, h1, hJ⟩
  have HJJ := Lib.hid hJ
  obtain ⟨hN, hbl, hz, hy⟩ := two_kept (J := ⟨_, _, _, _, _, _⟩) h1
  have HN := Lib.hid hN
  have hb0 : w.heap.size < w1.heap.size := by omega
  obtain ⟨y0, y1, y2, y3, y4, y5, yf, -⟩ := I6.box hy
  obtain ⟨z0, z1, z2, z3, z4, z5, zf⟩ := zeroIns_cells hz
  simp only at y0 y1 y2 y3 y4 y5
  clear hJ hN h1 hy hz HJ c0 hg a1 a3 a7 a15 a31 a127 a255 a511 a2047
  cases hR : refR (refI x)
  · have HV : Hid (refV x = .tuple #[.agg #[.int .i64 0, .int .i64 0, .int .i64 0, .int .i64 0, .int .i64 0, .int .i64 0], .int .i64 (-1)]) := Lib.hid (by unfold refV; rw [hR]; rfl)
    clear hR
    go_wp2_with fail
    rw [HV.out]
    refine bodyPost_ret (by simp only [results, Try.f19]; simp [go_sem, hbl, hb0, z0, z1, z2, z3, z4, z5]; rfl) rfl ?_
    refine ⟨rfl, ?_⟩
    repeat (refine New.set ?_ _ _ (by simp))
    exact HN.out
  · have HV : Hid (refV x = .tuple #[(refI x).val, .int .i64 1]) := Lib.hid (by unfold refV; rw [hR])
    clear hR
    go_wp2_with fail
    rw [HV.out, HJJ.out]
    refine bodyPost_ret (by simp only [results, Try.f19]; simp [go_sem, hbl, hb0, z0, z1, z2, z3, z4, z5]; rfl) rfl ?_
    refine ⟨rfl, ?_⟩
    repeat (refine New.set ?_ _ _ (by simp))
    exact HN.out
theorem qD12 (x : Nat) (hx : x < 65536) (hf : ¬ x / 2048 = 30) (p0 : ¬ (x < 6144)) (p1 : ¬ (x < 7168)) (p2 : ¬ (x < 8192)) (p3 : ¬ (x < 16384)) (p4 : ¬ (x < 17408)) (p5 : ¬ (x / 256 = 70)) (p6 : ¬ (x / 512 = 40)) (p7 : ¬ (x / 512 = 44)) (p8 : ¬ (x / 2048 = 12)) (p9 : ¬ (x / 2048 = 13)) (p10 : ¬ (x / 2048 = 14)) (p11 : ¬ (x / 2048 = 15)) (p : x / 2048 = 18) (a : Option Addr) (g off len c : Nat) (t : List Nat) (hl : t.length + 1 = len) (hc1 : len ≤ c) (hc2 : c ≤ maxLen) (w : World) (c0 : w.cell? ⟨g, off, none⟩ = some (.int .u16 (x : Int))) : Calls Try.prog 19 #[.slice (some ⟨g, off, none⟩) len c] w fun e w' => e = .returned (refV x) ∧ New w w' := by
  have HJ : Hid (∀ J, refI x = J → refV x = match refR J with | true => .tuple #[J.val, .int .i64 1] | false => .tuple #[I6.zero.val, .int .i64 (-1)]) := Lib.hid (fun J h => by unfold refV; rw [h]; rfl)
  have i0 : decide ((x : Int) < 6144) = false := by simp; omega
  have i1 : decide ((x : Int) < 7168) = false := by simp; omega
  have i2 : decide ((x : Int) < 8192) = false := by simp; omega
  have i3 : decide ((x : Int) < 16384) = false := by simp; omega
  have i4 : decide ((x : Int) < 17408) = false := by simp; omega
  have i5 : (((x : Int) / 256) == 70) = false := by simp; omega
  have i6 : (((x : Int) / 512) == 40) = false := by simp; omega
  have i7 : (((x : Int) / 512) == 44) = false := by simp; omega
  have i8 : (((x : Int) / 2048) == 12) = false := by simp; omega
  have i9 : (((x : Int) / 2048) == 13) = false := by simp; omega
  have i10 : (((x : Int) / 2048) == 14) = false := by simp; omega
  have i11 : (((x : Int) / 2048) == 15) = false := by simp; omega
  have i12 : (((x : Int) / 2048) == 18) = true := by simp; omega
  have iF : (((x : Int) / 2048) == 30) = false := by simp; omega
  have iL : ((len : Int) == 0) = false := by simp; omega
  have hlp : 0 < len := by omega
  have hlq : (0 : Int) < (len : Int) := by omega
  have hg := World.block_lt_of_cell? w _ c0
  unfold maxLen at hc2
  have a1 := ands 1 (by decide) 1 (by decide) 2 (by decide)
  have a3 := ands 2 (by decide) 3 (by decide) 4 (by decide)
  have a7 := ands 3 (by decide) 7 (by decide) 8 (by decide)
  have a15 := ands 4 (by decide) 15 (by decide) 16 (by decide)
  have a31 := ands 5 (by decide) 31 (by decide) 32 (by decide)
  have a127 := ands 7 (by decide) 127 (by decide) 128 (by decide)
  have a255 := ands 8 (by decide) 255 (by decide) 256 (by decide)
  have a511 := ands 9 (by decide) 511 (by decide) 512 (by decide)
  have a2047 := ands 11 (by decide) 2047 (by decide) 2048 (by decide)
  go_enter Try.func19, Try.ntmps19
  go_wp2_with fail
  refine (qRightL (refI x) _ _ _ _ _ _ (by
    have n0 : Nat.blt x 6144 = false := nblt_f (show ¬ x < 6144 by omega)
    have n1 : Nat.blt x 7168 = false := nblt_f (show ¬ x < 7168 by omega)
    have n2 : Nat.blt x 8192 = false := nblt_f (show ¬ x < 8192 by omega)
    have n3 : Nat.blt x 16384 = false := nblt_f (show ¬ x < 16384 by omega)
    have n4 : Nat.blt x 17408 = false := nblt_f (show ¬ x < 17408 by omega)
    have n5 : Nat.beq (x / 256) 70 = false := nbeq_f (show ¬ x / 256 = 70 by omega)
    have n6 : Nat.beq (x / 512) 40 = false := nbeq_f (show ¬ x / 512 = 40 by omega)
    have n7 : Nat.beq (x / 512) 44 = false := nbeq_f (show ¬ x / 512 = 44 by omega)
    have n8 : Nat.beq (x / 2048) 12 = false := nbeq_f (show ¬ x / 2048 = 12 by omega)
    have n9 : Nat.beq (x / 2048) 13 = false := nbeq_f (show ¬ x / 2048 = 13 by omega)
    have n10 : Nat.beq (x / 2048) 14 = false := nbeq_f (show ¬ x / 2048 = 14 by omega)
    have n11 : Nat.beq (x / 2048) 15 = false := nbeq_f (show ¬ x / 2048 = 15 by omega)
    have n12 : Nat.beq (x / 2048) 18 = true := nbeq_t (show x / 2048 = 18 by omega)
    unfold refI
    simp only [n0, n1, n2, n3, n4, n5, n6, n7, n8, n9, n10, n11, n12, cond_false, cond_true, Bool.and_true, Bool.and_false, Bool.false_and, Bool.true_and, iofn, nadd, nmul, nmod, ndiv, imul]
    all_goals (try simp only [I6.mk.injEq])
    all_goals refine ⟨?_, ?_, ?_, ?_, ?_, ?_⟩ <;> first | rfl | trivial | omega) _).mono ?_
  rintro e w1 ⟨rfl, h1, hJ⟩
  have HJJ := Lib.hid hJ
  obtain ⟨hN, hbl, hz, hy⟩ := two_kept (J := ⟨_, _, _, _, _, _⟩) h1
  have HN := Lib.hid hN
  have hb0 : w.heap.size < w1.heap.size := by omega
  obtain ⟨y0, y1, y2, y3, y4, y5, yf, -⟩ := I6.box hy
  obtain ⟨z0, z1, z2, z3, z4, z5, zf⟩ := zeroIns_cells hz
  simp only at y0 y1 y2 y3 y4 y5
  clear hJ hN h1 hy hz HJ c0 hg a1 a3 a7 a15 a31 a127 a255 a511 a2047
  cases hR : refR (refI x)
  · have HV : Hid (refV x = .tuple #[.agg #[.int .i64 0, .int .i64 0, .int .i64 0, .int .i64 0, .int .i64 0, .int .i64 0], .int .i64 (-1)]) := Lib.hid (by unfold refV; rw [hR]; rfl)
    clear hR
    go_wp2_with fail
    rw [HV.out]
    refine bodyPost_ret (by simp only [results, Try.f19]; simp [go_sem, hbl, hb0, z0, z1, z2, z3, z4, z5]; rfl) rfl ?_
    refine ⟨rfl, ?_⟩
    repeat (refine New.set ?_ _ _ (by simp))
    exact HN.out
  · have HV : Hid (refV x = .tuple #[(refI x).val, .int .i64 1]) := Lib.hid (by unfold refV; rw [hR])
    clear hR
    go_wp2_with fail
    rw [HV.out, HJJ.out]
    refine bodyPost_ret (by simp only [results, Try.f19]; simp [go_sem, hbl, hb0, z0, z1, z2, z3, z4, z5]; rfl) rfl ?_
    refine ⟨rfl, ?_⟩
    repeat (refine New.set ?_ _ _ (by simp))
    exact HN.out
theorem qD13 (x : Nat) (hx : x < 65536) (hf : ¬ x / 2048 = 30) (p0 : ¬ (x < 6144)) (p1 : ¬ (x < 7168)) (p2 : ¬ (x < 8192)) (p3 : ¬ (x < 16384)) (p4 : ¬ (x < 17408)) (p5 : ¬ (x / 256 = 70)) (p6 : ¬ (x / 512 = 40)) (p7 : ¬ (x / 512 = 44)) (p8 : ¬ (x / 2048 = 12)) (p9 : ¬ (x / 2048 = 13)) (p10 : ¬ (x / 2048 = 14)) (p11 : ¬ (x / 2048 = 15)) (p12 : ¬ (x / 2048 = 18)) (p : x / 2048 = 19) (a : Option Addr) (g off len c : Nat) (t : List Nat) (hl : t.length + 1 = len) (hc1 : len ≤ c) (hc2 : c ≤ maxLen) (w : World) (c0 : w.cell? ⟨g, off, none⟩ = some (.int .u16 (x : Int))) : Calls Try.prog 19 #[.slice (some ⟨g, off, none⟩) len c] w fun e w' => e = .returned (refV x) ∧ New w w' := by
  have HJ : Hid (∀ J, refI x = J → refV x = match refR J with | true => .tuple #[J.val, .int .i64 1] | false => .tuple #[I6.zero.val, .int .i64 (-1)]) := Lib.hid (fun J h => by unfold refV; rw [h]; rfl)
  have i0 : decide ((x : Int) < 6144) = false := by simp; omega
  have i1 : decide ((x : Int) < 7168) = false := by simp; omega
  have i2 : decide ((x : Int) < 8192) = false := by simp; omega
  have i3 : decide ((x : Int) < 16384) = false := by simp; omega
  have i4 : decide ((x : Int) < 17408) = false := by simp; omega
  have i5 : (((x : Int) / 256) == 70) = false := by simp; omega
  have i6 : (((x : Int) / 512) == 40) = false := by simp; omega
  have i7 : (((x : Int) / 512) == 44) = false := by simp; omega
  have i8 : (((x : Int) / 2048) == 12) = false := by simp; omega
  have i9 : (((x : Int) / 2048) == 13) = false := by simp; omega
  have i10 : (((x : Int) / 2048) == 14) = false := by simp; omega
  have i11 : (((x : Int) / 2048) == 15) = false := by simp; omega
  have i12 : (((x : Int) / 2048) == 18) = false := by simp; omega
  have i13 : (((x : Int) / 2048) == 19) = true := by simp; omega
  have iF : (((x : Int) / 2048) == 30) = false := by simp; omega
  have iL : ((len : Int) == 0) = false := by simp; omega
  have hlp : 0 < len := by omega
  have hlq : (0 : Int) < (len : Int) := by omega
  have hg := World.block_lt_of_cell? w _ c0
  unfold maxLen at hc2
  have a1 := ands 1 (by decide) 1 (by decide) 2 (by decide)
  have a3 := ands 2 (by decide) 3 (by decide) 4 (by decide)
  have a7 := ands 3 (by decide) 7 (by decide) 8 (by decide)
  have a15 := ands 4 (by decide) 15 (by decide) 16 (by decide)
  have a31 := ands 5 (by decide) 31 (by decide) 32 (by decide)
  have a127 := ands 7 (by decide) 127 (by decide) 128 (by decide)
  have a255 := ands 8 (by decide) 255 (by decide) 256 (by decide)
  have a511 := ands 9 (by decide) 511 (by decide) 512 (by decide)
  have a2047 := ands 11 (by decide) 2047 (by decide) 2048 (by decide)
  go_enter Try.func19, Try.ntmps19
  go_wp2_with fail
  refine (qRightL (refI x) _ _ _ _ _ _ (by
    have n0 : Nat.blt x 6144 = false := nblt_f (show ¬ x < 6144 by omega)
    have n1 : Nat.blt x 7168 = false := nblt_f (show ¬ x < 7168 by omega)
    have n2 : Nat.blt x 8192 = false := nblt_f (show ¬ x < 8192 by omega)
    have n3 : Nat.blt x 16384 = false := nblt_f (show ¬ x < 16384 by omega)
    have n4 : Nat.blt x 17408 = false := nblt_f (show ¬ x < 17408 by omega)
    have n5 : Nat.beq (x / 256) 70 = false := nbeq_f (show ¬ x / 256 = 70 by omega)
    have n6 : Nat.beq (x / 512) 40 = false := nbeq_f (show ¬ x / 512 = 40 by omega)
    have n7 : Nat.beq (x / 512) 44 = false := nbeq_f (show ¬ x / 512 = 44 by omega)
    have n8 : Nat.beq (x / 2048) 12 = false := nbeq_f (show ¬ x / 2048 = 12 by omega)
    have n9 : Nat.beq (x / 2048) 13 = false := nbeq_f (show ¬ x / 2048 = 13 by omega)
    have n10 : Nat.beq (x / 2048) 14 = false := nbeq_f (show ¬ x / 2048 = 14 by omega)
    have n11 : Nat.beq (x / 2048) 15 = false := nbeq_f (show ¬ x / 2048 = 15 by omega)
    have n12 : Nat.beq (x / 2048) 18 = false := nbeq_f (show ¬ x / 2048 = 18 by omega)
    have n13 : Nat.beq (x / 2048) 19 = true := nbeq_t (show x / 2048 = 19 by omega)
    unfold refI
    simp only [n0, n1, n2, n3, n4, n5, n6, n7, n8, n9, n10, n11, n12, n13, cond_false, cond_true, Bool.and_true, Bool.and_false, Bool.false_and, Bool.true_and, iofn, nadd, nmul, nmod, ndiv, imul]
    all_goals (try simp only [I6.mk.injEq])
    all_goals refine ⟨?_, ?_, ?_, ?_, ?_, ?_⟩ <;> first | rfl | trivial | omega) _).mono ?_
  rintro e w1 ⟨rfl, h1, hJ⟩
  have HJJ := Lib.hid hJ
  obtain ⟨hN, hbl, hz, hy⟩ := two_kept (J := ⟨_, _, _, _, _, _⟩) h1
  have HN := Lib.hid hN
  have hb0 : w.heap.size < w1.heap.size := by omega
  obtain ⟨y0, y1, y2, y3, y4, y5, yf, -⟩ := I6.box hy
  obtain ⟨z0, z1, z2, z3, z4, z5, zf⟩ := zeroIns_cells hz
  simp only at y0 y1 y2 y3 y4 y5
  clear hJ hN h1 hy hz HJ c0 hg a1 a3 a7 a15 a31 a127 a255 a511 a2047
  cases hR : refR (refI x)
  · have HV : Hid (refV x = .tuple #[.agg #[.int .i64 0, .int .i64 0, .int .i64 0, .int .i64 0, .int .i64 0, .int .i64 0], .int .i64 (-1)]) := Lib.hid (by unfold refV; rw [hR]; rfl)
    clear hR
    go_wp2_with fail
    rw [HV.out]
    refine bodyPost_ret (by simp only [results, Try.f19]; simp [go_sem, hbl, hb0, z0, z1, z2, z3, z4, z5]; rfl) rfl ?_
    refine ⟨rfl, ?_⟩
    repeat (refine New.set ?_ _ _ (by simp))
    exact HN.out
  · have HV : Hid (refV x = .tuple #[(refI x).val, .int .i64 1]) := Lib.hid (by unfold refV; rw [hR])
    clear hR
    go_wp2_with fail
    rw [HV.out, HJJ.out]
    refine bodyPost_ret (by simp only [results, Try.f19]; simp [go_sem, hbl, hb0, z0, z1, z2, z3, z4, z5]; rfl) rfl ?_
    refine ⟨rfl, ?_⟩
    repeat (refine New.set ?_ _ _ (by simp))
    exact HN.out
theorem qD14 (x : Nat) (hx : x < 65536) (hf : ¬ x / 2048 = 30) (p0 : ¬ (x < 6144)) (p1 : ¬ (x < 7168)) (p2 : ¬ (x < 8192)) (p3 : ¬ (x < 16384)) (p4 : ¬ (x < 17408)) (p5 : ¬ (x / 256 = 70)) (p6 : ¬ (x / 512 = 40)) (p7 : ¬ (x / 512 = 44)) (p8 : ¬ (x / 2048 = 12)) (p9 : ¬ (x / 2048 = 13)) (p10 : ¬ (x / 2048 = 14)) (p11 : ¬ (x / 2048 = 15)) (p12 : ¬ (x / 2048 = 18)) (p13 : ¬ (x / 2048 = 19)) (p : x / 128 = 352) (a : Option Addr) (g off len c : Nat) (t : List Nat) (hl : t.length + 1 = len) (hc1 : len ≤ c) (hc2 : c ≤ maxLen) (w : World) (c0 : w.cell? ⟨g, off, none⟩ = some (.int .u16 (x : Int))) : Calls Try.prog 19 #[.slice (some ⟨g, off, none⟩) len c] w fun e w' => e = .returned (refV x) ∧ New w w' := by
  have HJ : Hid (∀ J, refI x = J → refV x = match refR J with | true => .tuple #[J.val, .int .i64 1] | false => .tuple #[I6.zero.val, .int .i64 (-1)]) := Lib.hid (fun J h => by unfold refV; rw [h]; rfl)
  have i0 : decide ((x : Int) < 6144) = false := by simp; omega
  have i1 : decide ((x : Int) < 7168) = false := by simp; omega
  have i2 : decide ((x : Int) < 8192) = false := by simp; omega
  have i3 : decide ((x : Int) < 16384) = false := by simp; omega
  have i4 : decide ((x : Int) < 17408) = false := by simp; omega
  have i5 : (((x : Int) / 256) == 70) = false := by simp; omega
  have i6 : (((x : Int) / 512) == 40) = false := by simp; omega
  have i7 : (((x : Int) / 512) == 44) = false := by simp; omega
  have i8 : (((x : Int) / 2048) == 12) = false := by simp; omega
  have i9 : (((x : Int) / 2048) == 13) = false := by simp; omega
  have i10 : (((x : Int) / 2048) == 14) = false := by simp; omega
  have i11 : (((x : Int) / 2048) == 15) = false := by simp; omega
  have i12 : (((x : Int) / 2048) == 18) = false := by simp; omega
  have i13 : (((x : Int) / 2048) == 19) = false := by simp; omega
  have i14 : (((x : Int) / 128) == 352) = true := by simp; omega
  have iF : (((x : Int) / 2048) == 30) = false := by simp; omega
  have iL : ((len : Int) == 0) = false := by simp; omega
  have hlp : 0 < len := by omega
  have hlq : (0 : Int) < (len : Int) := by omega
  have hg := World.block_lt_of_cell? w _ c0
  unfold maxLen at hc2
  have a1 := ands 1 (by decide) 1 (by decide) 2 (by decide)
  have a3 := ands 2 (by decide) 3 (by decide) 4 (by decide)
  have a7 := ands 3 (by decide) 7 (by decide) 8 (by decide)
  have a15 := ands 4 (by decide) 15 (by decide) 16 (by decide)
  have a31 := ands 5 (by decide) 31 (by decide) 32 (by decide)
  have a127 := ands 7 (by decide) 127 (by decide) 128 (by decide)
  have a255 := ands 8 (by decide) 255 (by decide) 256 (by decide)
  have a511 := ands 9 (by decide) 511 (by decide) 512 (by decide)
  have a2047 := ands 11 (by decide) 2047 (by decide) 2048 (by decide)
  go_enter Try.func19, Try.ntmps19
  go_wp2_with fail
  refine (qRightL (refI x) _ _ _ _ _ _ (by
    have n0 : Nat.blt x 6144 = false := nblt_f (show ¬ x < 6144 by omega)
    have n1 : Nat.blt x 7168 = false := nblt_f (show ¬ x < 7168 by omega)
    have n2 : Nat.blt x 8192 = false := nblt_f (show ¬ x < 8192 by omega)
    have n3 : Nat.blt x 16384 = false := nblt_f (show ¬ x < 16384 by omega)
    have n4 : Nat.blt x 17408 = false := nblt_f (show ¬ x < 17408 by omega)
    have n5 : Nat.beq (x / 256) 70 = false := nbeq_f (show ¬ x / 256 = 70 by omega)
    have n6 : Nat.beq (x / 512) 40 = false := nbeq_f (show ¬ x / 512 = 40 by omega)
    have n7 : Nat.beq (x / 512) 44 = false := nbeq_f (show ¬ x / 512 = 44 by omega)
    have n8 : Nat.beq (x / 2048) 12 = false := nbeq_f (show ¬ x / 2048 = 12 by omega)
    have n9 : Nat.beq (x / 2048) 13 = false := nbeq_f (show ¬ x / 2048 = 13 by omega)
    have n10 : Nat.beq (x / 2048) 14 = false := nbeq_f (show ¬ x / 2048 = 14 by omega)
    have n11 : Nat.beq (x / 2048) 15 = false := nbeq_f (show ¬ x / 2048 = 15 by omega)
    have n12 : Nat.beq (x / 2048) 18 = false := nbeq_f (show ¬ x / 2048 = 18 by omega)
    have n13 : Nat.beq (x / 2048) 19 = false := nbeq_f (show ¬ x / 2048 = 19 by omega)
    have n14 : Nat.beq (x / 128) 352 = true := nbeq_t (show x / 128 = 352 by omega)
    unfold refI
    simp only [n0, n1, n2, n3, n4, n5, n6, n7, n8, n9, n10, n11, n12, n13, n14, cond_false, cond_true, Bool.and_true, Bool.and_false, Bool.false_and, Bool.true_and, iofn, nadd, nmul, nmod, ndiv, imul]
    all_goals (try simp only [I6.mk.injEq])
    all_goals refine ⟨?_, ?_, ?_, ?_, ?_, ?_⟩ <;> first | rfl | trivial | omega) _).mono ?_
  rintro e w1 ⟨rfl, h1, hJ⟩
  have HJJ := Lib.hid hJ
  obtain ⟨hN, hbl, hz, hy⟩ := two_kept (J := ⟨_, _, _, _, _, _⟩) h1
  have HN := Lib.hid hN
  have hb0 : w.heap.size < w1.heap.size := by omega
  obtain ⟨y0, y1, y2, y3, y4, y5, yf, -⟩ := I6.box hy
  obtain ⟨z0, z1, z2, z3, z4, z5, zf⟩ := zeroIns_cells hz
  simp only at y0 y1 y2 y3 y4 y5
  clear hJ hN h1 hy hz HJ c0 hg a1 a3 a7 a15 a31 a127 a255 a511 a2047
  cases hR : refR (refI x)
  · have HV : Hid (refV x = .tuple #[.agg #[.int .i64 0, .int .i64 0, .int .i64 0, .int .i64 0, .int .i64 0, .int .i64 0], .int .i64 (-1)]) := Lib.hid (by unfold refV; rw [hR]; rfl)
    clear hR
    go_wp2_with fail
    rw [HV.out]
    refine bodyPost_ret (by simp only [results, Try.f19]; simp [go_sem, hbl, hb0, z0, z1, z2, z3, z4, z5]; rfl) rfl ?_
    refine ⟨rfl, ?_⟩
    repeat (refine New.set ?_ _ _ (by simp))
    exact HN.out
  · have HV : Hid (refV x = .tuple #[(refI x).val, .int .i64 1]) := Lib.hid (by unfold refV; rw [hR])
    clear hR
    go_wp2_with fail
    rw [HV.out, HJJ.out]
    refine bodyPost_ret (by simp only [results, Try.f19]; simp [go_sem, hbl, hb0, z0, z1, z2, z3, z4, z5]; rfl) rfl ?_
    refine ⟨rfl, ?_⟩
    repeat (refine New.set ?_ _ _ (by simp))
    exact HN.out
theorem qD15 (x : Nat) (hx : x < 65536) (hf : ¬ x / 2048 = 30) (p0 : ¬ (x < 6144)) (p1 : ¬ (x < 7168)) (p2 : ¬ (x < 8192)) (p3 : ¬ (x < 16384)) (p4 : ¬ (x < 17408)) (p5 : ¬ (x / 256 = 70)) (p6 : ¬ (x / 512 = 40)) (p7 : ¬ (x / 512 = 44)) (p8 : ¬ (x / 2048 = 12)) (p9 : ¬ (x / 2048 = 13)) (p10 : ¬ (x / 2048 = 14)) (p11 : ¬ (x / 2048 = 15)) (p12 : ¬ (x / 2048 = 18)) (p13 : ¬ (x / 2048 = 19)) (p14 : ¬ (x / 128 = 352)) (p : x / 128 = 353) (a : Option Addr) (g off len c : Nat) (t : List Nat) (hl : t.length + 1 = len) (hc1 : len ≤ c) (hc2 : c ≤ maxLen) (w : World) (c0 : w.cell? ⟨g, off, none⟩ = some (.int .u16 (x : Int))) : Calls Try.prog 19 #[.slice (some ⟨g, off, none⟩) len c] w fun e w' => e = .returned (refV x) ∧ New w w' := by
  have HJ : Hid (∀ J, refI x = J → refV x = match refR J with | true => .tuple #[J.val, .int .i64 1] | false => .tuple #[I6.zero.val, .int .i64 (-1)]) := Lib.hid (fun J h => by unfold refV; rw [h]; rfl)
  have i0 : decide ((x : Int) < 6144) = false := by simp; omega
  have i1 : decide ((x : Int) < 7168) = false := by simp; omega
  have i2 : decide ((x : Int) < 8192) = false := by simp; omega
  have i3 : decide ((x : Int) < 16384) = false := by simp; omega
  have i4 : decide ((x : Int) < 17408) = false := by simp; omega
  have i5 : (((x : Int) / 256) == 70) = false := by simp; omega
  have i6 : (((x : Int) / 512) == 40) = false := by simp; omega
  have i7 : (((x : Int) / 512) == 44) = false := by simp; omega
  have i8 : (((x : Int) / 2048) == 12) = false := by simp; omega
  have i9 : (((x : Int) / 2048) == 13) = false := by simp; omega
  have i10 : (((x : Int) / 2048) == 14) = false := by simp; omega
  have i11 : (((x : Int) / 2048) == 15) = false := by simp; omega
  have i12 : (((x : Int) / 2048) == 18) = false := by simp; omega
  have i13 : (((x : Int) / 2048) == 19) = false := by simp; omega
  have i14 : (((x : Int) / 128) == 352) = false := by simp; omega
  have i15 : (((x : Int) / 128) == 353) = true := by simp; omega
  have iF : (((x : Int) / 2048) == 30) = false := by simp; omega
  have iL : ((len : Int) == 0) = false := by simp; omega
  have hlp : 0 < len := by omega
  have hlq : (0 : Int) < (len : Int) := by omega
  have hg := World.block_lt_of_cell? w _ c0
  unfold maxLen at hc2
  have a1 := ands 1 (by decide) 1 (by decide) 2 (by decide)
  have a3 := ands 2 (by decide) 3 (by decide) 4 (by decide)
  have a7 := ands 3 (by decide) 7 (by decide) 8 (by decide)
  have a15 := ands 4 (by decide) 15 (by decide) 16 (by decide)
  have a31 := ands 5 (by decide) 31 (by decide) 32 (by decide)
  have a127 := ands 7 (by decide) 127 (by decide) 128 (by decide)
  have a255 := ands 8 (by decide) 255 (by decide) 256 (by decide)
  have a511 := ands 9 (by decide) 511 (by decide) 512 (by decide)
  have a2047 := ands 11 (by decide) 2047 (by decide) 2048 (by decide)
  go_enter Try.func19, Try.ntmps19
  go_wp2_with fail
  refine (qRightL (refI x) _ _ _ _ _ _ (by
    have n0 : Nat.blt x 6144 = false := nblt_f (show ¬ x < 6144 by omega)
    have n1 : Nat.blt x 7168 = false := nblt_f (show ¬ x < 7168 by omega)
    have n2 : Nat.blt x 8192 = false := nblt_f (show ¬ x < 8192 by omega)
    have n3 : Nat.blt x 16384 = false := nblt_f (show ¬ x < 16384 by omega)
    have n4 : Nat.blt x 17408 = false := nblt_f (show ¬ x < 17408 by omega)
    have n5 : Nat.beq (x / 256) 70 = false := nbeq_f (show ¬ x / 256 = 70 by omega)
    have n6 : Nat.beq (x / 512) 40 = false := nbeq_f (show ¬ x / 512 = 40 by omega)
    have n7 : Nat.beq (x / 512) 44 = false := nbeq_f (show ¬ x / 512 = 44 by omega)
    have n8 : Nat.beq (x / 2048) 12 = false := nbeq_f (show ¬ x / 2048 = 12 by omega)
    have n9 : Nat.beq (x / 2048) 13 = false := nbeq_f (show ¬ x / 2048 = 13 by omega)
    have n10 : Nat.beq (x / 2048) 14 = false := nbeq_f (show ¬ x / 2048 = 14 by omega)
    have n11 : Nat.beq (x / 2048) 15 = false := nbeq_f (show ¬ x / 2048 = 15 by omega)
    have n12 : Nat.beq (x / 2048) 18 = false := nbeq_f (show ¬ x / 2048 = 18 by omega)
    have n13 : Nat.beq (x / 2048) 19 = false := nbeq_f (show ¬ x / 2048 = 19 by omega)
    have n14 : Nat.beq (x / 128) 352 = false := nbeq_f (show ¬ x / 128 = 352 by omega)
    have n15 : Nat.beq (x / 128) 353 = true := nbeq_t (show x / 128 = 353 by omega)
    unfold refI
    simp only [n0, n1, n2, n3, n4, n5, n6, n7, n8, n9, n10, n11, n12, n13, n14, n15, cond_false, cond_true, Bool.and_true, Bool.and_false, Bool.false_and, Bool.true_and, iofn, nadd, nmul, nmod, ndiv, imul]
    all_goals (try simp only [I6.mk.injEq])
    all_goals refine ⟨?_, ?_, ?_, ?_, ?_, ?_⟩ <;> first | rfl | trivial | omega) _).mono ?_
  rintro e w1 ⟨rfl, h1, hJ⟩
  have HJJ := Lib.hid hJ
  obtain ⟨hN, hbl, hz, hy⟩ := two_kept (J := ⟨_, _, _, _, _, _⟩) h1
  have HN := Lib.hid hN
  have hb0 : w.heap.size < w1.heap.size := by omega
  obtain ⟨y0, y1, y2, y3, y4, y5, yf, -⟩ := I6.box hy
  obtain ⟨z0, z1, z2, z3, z4, z5, zf⟩ := zeroIns_cells hz
  simp only at y0 y1 y2 y3 y4 y5
  clear hJ hN h1 hy hz HJ c0 hg a1 a3 a7 a15 a31 a127 a255 a511 a2047
  cases hR : refR (refI x)
  · have HV : Hid (refV x = .tuple #[.agg #[.int .i64 0, .int .i64 0, .int .i64 0, .int .i64 0, .int .i64 0, .int .i64 0], .int .i64 (-1)]) := Lib.hid (by unfold refV; rw [hR]; rfl)
    clear hR
    go_wp2_with fail
    rw [HV.out]
    refine bodyPost_ret (by simp only [results, Try.f19]; simp [go_sem, hbl, hb0, z0, z1, z2, z3, z4, z5]; rfl) rfl ?_
    refine ⟨rfl, ?_⟩
    repeat (refine New.set ?_ _ _ (by simp))
    exact HN.out
  · have HV : Hid (refV x = .tuple #[(refI x).val, .int .i64 1]) := Lib.hid (by unfold refV; rw [hR])
    clear hR
    go_wp2_with fail
    rw [HV.out, HJJ.out]
    refine bodyPost_ret (by simp only [results, Try.f19]; simp [go_sem, hbl, hb0, z0, z1, z2, z3, z4, z5]; rfl) rfl ?_
    refine ⟨rfl, ?_⟩
    repeat (refine New.set ?_ _ _ (by simp))
    exact HN.out
end Go.Proofs.Ytkdmppgjmmmclaa

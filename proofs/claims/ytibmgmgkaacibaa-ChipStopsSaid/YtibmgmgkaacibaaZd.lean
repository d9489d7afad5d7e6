/- Package thumb: what a row lays, what it takes. -/
import Derived.Test.YtibmgmgkaacibaaZc
import Derived.Deep.RegionHeld3
namespace Go.Proofs.Ytibmgmgkaacibaa
open Go.RowKit
set_option linter.unusedVariables false

theorem New.set {w a : World} (h : New w a) (p : Addr) (v : Value) (hp : w.heap.size ≤ p.block) : New w (a.setCell p v) :=
  Upd.trans h (Upd.setCell (S := fun k => k = p.block) a (.inl rfl) v) (fun i hi hlt => by omega)
theorem i64R.shr {x : Int} (h : i64R x) (k : Nat) : i64R (x / 2 ^ k) := by
  have hp : (1 : Int) ≤ 2 ^ k := Int.pow_pos (by decide)
  unfold i64R at *
  generalize (2 : Int) ^ k = P at *
  constructor
  · rw [Int.le_ediv_iff_mul_le (by omega)]
    have : (-9223372036854775808 : Int) * P ≤ -9223372036854775808 * 1 := Int.mul_le_mul_of_nonpos_left (by decide) hp
    omega
  · have h1 : x / P ≤ 9223372036854775807 / P := Int.ediv_le_ediv (by omega) h.2
    have h2 : (9223372036854775807 : Int) / P ≤ 9223372036854775807 := Int.ediv_le_self _ (by decide)
    omega

theorem tGatherQ (h : Nat) (hh : h < 65536) (l : List Nat) (hl : OkM l) (w : World) (q : Nat) : Calls Try.prog 84 #[.int .u16 (h : Int), .int .u16 (msk l : Int)] (w.drewN q) fun e w' => e = .returned (.int .i64 (ga h l : Int)) ∧ ∃ m, w' = w.drewN m :=
  (tGather h hh l hl _).mono fun _ _ h => ⟨h.1, q, h.2.symm⟩
theorem tOnesQ (l : List Nat) (hl : OkM l) (w : World) (q : Nat) : Calls Try.prog 83 #[.int .u16 (msk l : Int)] (w.drewN q) fun e w' => e = .returned (.int .i64 (l.length : Int)) ∧ ∃ m, w' = w.drewN m :=
  Calls.quiet_of (tOnes l hl _)
theorem tAtLeastQ (least n : Int) (width : Nat) (h1 : -16777216 ≤ least ∧ least ≤ 1) (h2 : 0 ≤ n ∧ n < 67108864) (h3 : width ≤ 25) (w : World) (q : Nat) :
    Calls Try.prog 85 #[.int .i64 least, .int .i64 n, .int .i64 (width : Int)] (w.drewN q) fun e w' => e = .returned (.int .i64 (leastP least n width)) ∧ ∃ m, w' = w.drewN m :=
  (tAtLeast least n width h1 h2 h3 _).mono fun _ _ h => ⟨h.1, q, h.2.symm⟩

set_option maxHeartbeats 2000000 in
theorem tTake (r : Rw) (hr : r.Ok) (h : Nat) (hh : h < 65536) (w : World) : Calls Try.prog 61 #[r.val, .int .u16 (h : Int)] w fun e w' => e = .returned (takeP r h).val ∧ New w w' := by
  have HP := Lib.hid hr.p
  have HD := Lib.hid hr.d
  have HN := Lib.hid hr.n
  have HM := Lib.hid hr.m
  have HI := Lib.hid hr.imm
  have HC := Lib.hid hr.cond
  have hf := hr.first
  have hl := hr.least
  have HH := hr.halved
  have hlen := len_of hr.imm
  have hmin : min r.halved 64 = r.halved := by omega
  have hg := ga_lt h r.imm
  have hg2 : (2 : Nat) ^ r.imm.length ≤ 2 ^ 11 := Nat.pow_le_pow_right (by decide) (by omega)
  have hg3 : (2 : Int) ^ r.halved ≤ 4 ∧ 1 ≤ (2 : Int) ^ r.halved := by
    have : r.halved = 0 ∨ r.halved = 1 ∨ r.halved = 2 := by omega
    rcases this with h | h | h <;> rw [h] <;> decide
  have hg4 : 0 ≤ (ga h r.imm : Int) * 2 ^ r.halved ∧ (ga h r.imm : Int) * 2 ^ r.halved < 8193 := by
    constructor
    · exact Int.mul_nonneg (by omega) (by omega)
    · have : (ga h r.imm : Int) * 2 ^ r.halved ≤ 2048 * 4 := Int.mul_le_mul (by omega) hg3.1 (by omega) (by decide)
      omega
  have hwl : IntKind.i64.wrap r.least = r.least := by rw [IntKind.wrap_i64]; omega
  have hgp := ga_lt h r.p
  have hgp2 : (2 : Nat) ^ r.p.length ≤ 2 ^ 11 := Nat.pow_le_pow_right (by decide) (by have := len_of hr.p; omega)
  have hwp : IntKind.i64.wrap (r.first + (ga h r.p : Int)) = r.first + (ga h r.p : Int) := by rw [IntKind.wrap_i64]; omega
  have hwi : IntKind.i64.wrap ((ga h r.imm : Int) * 2 ^ r.halved) = (ga h r.imm : Int) * 2 ^ r.halved := by rw [IntKind.wrap_i64]; omega
  have HA := Lib.hid (fun u : World => tAtLeast r.least ((ga h r.imm : Int) * 2 ^ r.halved) (r.imm.length + r.halved) hl (by omega) (by omega) u)
  rw [Int.natCast_add] at HA
  clear hg hg2 hg3 hg4 hgp hgp2
  clear hr
  go_enter Try.func61, Try.ntmps61
  go_wp2
  go_quiet (first
    | with_reducible exact tOnesQ _ HI.out _ _)
  go_wp2
  go_region_held3 (fun u => u.cell? ⟨w.heap.size, 0, none⟩ = some (.int .i64 r.first) ∧ u.cell? ⟨w.heap.size, 1, none⟩ = some (.int .u16 (r.fixed : Int)) ∧ u.cell? ⟨w.heap.size, 2, none⟩ = some (.int .u16 (msk r.p : Int)) ∧ u.cell? ⟨w.heap.size, 3, none⟩ = some (.int .u16 (msk r.d : Int)) ∧ u.cell? ⟨w.heap.size, 4, none⟩ = some (.int .u16 (msk r.n : Int)) ∧ u.cell? ⟨w.heap.size, 5, none⟩ = some (.int .u16 (msk r.m : Int)) ∧ u.cell? ⟨w.heap.size, 6, none⟩ = some (.int .u16 (msk r.imm : Int)) ∧ u.cell? ⟨w.heap.size, 7, none⟩ = some (.int .u16 (msk r.cond : Int)) ∧ u.cell? ⟨w.heap.size, 8, none⟩ = some (.int .i32 r.least) ∧ u.cell? ⟨w.heap.size, 9, none⟩ = some (.int .i32 r.most) ∧ u.cell? ⟨w.heap.size, 10, none⟩ = some (.int .u8 (r.halved : Int))) (first
      | (refine ⟨?_, ?_, ?_, ?_, ?_, ?_, ?_, ?_, ?_, ?_, ?_⟩ <;> simp; done) | go_keep | (refine ⟨?_, ?_, ?_, ?_, ?_, ?_, ?_, ?_, ?_, ?_, ?_⟩ <;> go_simp)) (first
      | (go_at_call 84; with_reducible (first
        | refine (tGather _ hh _ HP.out _).mono ?_
        | refine (tGather _ hh _ HD.out _).mono ?_
        | refine (tGather _ hh _ HN.out _).mono ?_
        | refine (tGather _ hh _ HM.out _).mono ?_
        | refine (tGather _ hh _ HI.out _).mono ?_
        | refine (tGather _ hh _ HC.out _).mono ?_); rintro e w' ⟨rfl, rfl⟩)
      | (go_at_call 85; (with_reducible refine (HA.out _).mono ?_); rintro e w' ⟨rfl, rfl⟩))
  go_wp2
  refine bodyPost_ret (v := (takeP r h).val) (by simp only [results, Try.f61]; simp [go_sem, takeP, I6.val]) rfl ?_
  refine ⟨rfl, ?_⟩
  repeat (refine New.set ?_ _ _ (by simp))
  exact New.trans (New.trans (New.alloc _ _) (New.alloc _ _)) (Upd.drewN _ _ _)
end Go.Proofs.Ytibmgmgkaacibaa

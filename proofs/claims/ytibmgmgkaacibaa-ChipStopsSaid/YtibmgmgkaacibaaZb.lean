/- Package thumb's small calls: how many bits a mask has, whether a number fits, spread, gather, atLeast. -/
import Derived.Test.YtibmgmgkaacibaaZa
import Derived.Test.YtibmgmgkaacibaaBase
import Derived.Test.YtibmgmgkaacibaaChecked
import Derived.Lib.Tables
import Derived.Lib.Hide
import Derived.LoopTactic
import Derived.Deep.QuietTactic
import Derived.BigQuiet
namespace Go.Proofs.Ytibmgmgkaacibaa
open Go.RowKit
set_option linter.unusedVariables false

theorem i64_and_low (n : Int) (k : Nat) (hk : k ≤ 62) : bits .and .i64 n (2 ^ k - 1) = n % 2 ^ k := by
  have hp : 2 ^ k ≤ 2 ^ 62 := Nat.pow_le_pow_right (by decide) hk
  have h0 : 0 < 2 ^ k := Nat.two_pow_pos k
  have hc : ((2 : Int) ^ k - 1) = ((2 ^ k - 1 : Nat) : Int) := by rw [Int.natCast_sub h0]; simp
  have h1 : (BitVec.ofInt 64 ((2 : Int) ^ k - 1)).toNat = 2 ^ k - 1 := by
    rw [hc, BitVec.ofInt_natCast, BitVec.toNat_ofNat]; exact Nat.mod_eq_of_lt (by omega)
  have key : (BitVec.ofInt 64 n &&& BitVec.ofInt 64 ((2 : Int) ^ k - 1)).toNat = (n % ((2 ^ 64 : Nat) : Int)).toNat % 2 ^ k := by
    rw [BitVec.toNat_and, BitVec.toNat_ofInt, h1, Nat.and_two_pow_sub_one_eq_mod]
  show IntKind.i64.wrap ((BitVec.ofInt 64 n &&& BitVec.ofInt 64 ((2 : Int) ^ k - 1)).toNat : Nat) = n % 2 ^ k
  rw [key]
  have h2 : (n % ((2 ^ 64 : Nat) : Int)).toNat % 2 ^ k < 2 ^ k := Nat.mod_lt _ h0
  rw [IntKind.wrap_i64, show (((n % ((2 ^ 64 : Nat) : Int)).toNat % 2 ^ k : Nat) + 9223372036854775808 : Int) % 18446744073709551616 - 9223372036854775808 = (((n % ((2 ^ 64 : Nat) : Int)).toNat % 2 ^ k : Nat) : Int) by omega]
  rw [Int.natCast_emod, Int.toNat_of_nonneg (Int.emod_nonneg _ (by decide))]
  have hd : ((2 : Int) ^ k) ∣ ((2 ^ 64 : Nat) : Int) := by
    refine ⟨2 ^ (64 - k), ?_⟩
    rw [← Int.pow_add, show k + (64 - k) = 64 by omega]; decide
  have := Int.emod_emod_of_dvd n hd
  rw [Int.natCast_pow]
  exact this

def popB (l : List Nat) : Bool := Go.Lib.pop8 ((msk l : Int) / 256) + Go.Lib.pop8 ((msk l : Int) % 256) == (l.length : Int)
theorem pops : maskL.all popB = true := by decide +kernel
theorem pop_of {l : List Nat} (h : OkM l) : Go.Lib.pop8 ((msk l : Int) / 256) + Go.Lib.pop8 ((msk l : Int) % 256) = (l.length : Int) := by
  simpa [popB] using List.all_eq_true.1 pops l h
theorem len_of {l : List Nat} (h : OkM l) : l.length < 12 := of_decide_eq_true (List.all_eq_true.1 mask_len l h)

set_option maxHeartbeats 1000000 in
theorem tOnes (l : List Nat) (hl : OkM l) (w : World) : Calls Try.prog 83 #[.int .u16 (msk l : Int)] w fun e w' => e = .returned (.int .i64 (l.length : Int)) ∧ ∃ q, w' = w.drewN q := by
  have h1 := hl.okL.lt
  have h2 := Lib.hid (pop_of hl)
  have h3 := len_of hl
  generalize msk l = m at *
  clear hl
  have i1 : ∀ w' : World, (Instr.index 9 (.string Go.Lib.pop8tab) (.int .u16 ((m : Int) / 256))).run Try.prog w' = .ok (.int .u8 (Go.Lib.pop8 ((m : Int) / 256))) w' := fun w' => Go.Lib.run_index_pop8tab w' 9 _ _ Try.underlying9 (by omega) (by omega)
  have hb : bits .and .u16 (m : Int) 255 = (m : Int) % 256 := by
    have := u16_and_nat m 255 h1 (by decide)
    rw [show ((255 : Nat) : Int) = 255 from rfl] at this
    rw [this, show (255 : Nat) = 2 ^ 8 - 1 from rfl, Nat.and_two_pow_sub_one_eq_mod]; rfl
  have i2 : ∀ w' : World, (Instr.index 9 (.string Go.Lib.pop8tab) (.int .u16 (bits .and .u16 (m : Int) 255))).run Try.prog w' = .ok (.int .u8 (Go.Lib.pop8 ((m : Int) % 256))) w' := fun w' => by
    rw [hb]; exact Go.Lib.run_index_pop8tab w' 9 _ _ Try.underlying9 (by omega) (by omega)
  clear hb
  go_enter Try.func83, Try.ntmps83
  go_wp2
  rw [show ({ data := (([0, 1, 1, 2, 1, 2, 2, 3, 1, 2, 2, 3, 2, 3, 3, 4, 1, 2, 2, 3, 2, 3, 3, 4, 2, 3, 3, 4, 3, 4, 4, 5, 1, 2, 2, 3, 2, 3, 3, 4, 2, 3, 3, 4, 3, 4, 4, 5, 2, 3, 3, 4, 3, 4, 4, 5, 3, 4, 4, 5, 4, 5, 5, 6].append [1, 2, 2, 3, 2, 3, 3, 4, 2, 3, 3, 4, 3, 4, 4, 5, 2, 3, 3, 4, 3, 4, 4, 5, 3, 4, 4, 5, 4, 5, 5, 6, 2, 3, 3, 4, 3, 4, 4, 5, 3, 4, 4, 5, 4, 5, 5, 6, 3, 4, 4, 5, 4, 5, 5, 6, 4, 5, 5, 6, 5, 6, 6, 7]).append ([1, 2, 2, 3, 2, 3, 3, 4, 2, 3, 3, 4, 3, 4, 4, 5, 2, 3, 3, 4, 3, 4, 4, 5, 3, 4, 4, 5, 4, 5, 5, 6, 2, 3, 3, 4, 3, 4, 4, 5, 3, 4, 4, 5, 4, 5, 5, 6, 3, 4, 4, 5, 4, 5, 5, 6, 4, 5, 5, 6, 5, 6, 6, 7].append [2, 3, 3, 4, 3, 4, 4, 5, 3, 4, 4, 5, 4, 5, 5, 6, 3, 4, 4, 5, 4, 5, 5, 6, 4, 5, 5, 6, 5, 6, 6, 7, 3, 4, 4, 5, 4, 5, 5, 6, 4, 5, 5, 6, 5, 6, 6, 7, 4, 5, 5, 6, 5, 6, 6, 7, 5, 6, 6, 7, 6, 7, 7, 8])).toArray } : ByteArray) = Go.Lib.pop8tab from rfl]
  go_quiet (fail)
  go_wp2
  go_ret
  refine ⟨?_, nq, rfl⟩
  show Ending.returned (.int .i64 ((Go.Lib.pop8 ((m : Int) / 256) + Go.Lib.pop8 ((m : Int) % 256)) % 256)) = _
  rw [h2.out, Int.emod_eq_of_lt (by omega) (by omega)]

set_option maxHeartbeats 1000000 in
theorem tFits (n : Int) (l : List Nat) (hl : OkM l) (w : World) : Calls Try.prog 86 #[.int .i64 n, .int .u16 (msk l : Int)] w fun e w' => e = .returned (.bool (fitP n l)) ∧ ∃ q, w' = w.drewN q := by
  have h3 := len_of hl
  have HL := Lib.hid hl
  clear hl
  go_enter Try.func86, Try.ntmps86
  go_wp2_with fail
  refine (tOnes l HL.out _).mono ?_
  rintro e _ ⟨rfl, q, rfl⟩
  go_wp2
  go_ret
  exact ⟨rfl, q, rfl⟩

set_option maxHeartbeats 1000000 in
theorem tGather (h : Nat) (hh : h < 65536) (l : List Nat) (hl : OkM l) (w : World) : Calls Try.prog 84 #[.int .u16 (h : Int), .int .u16 (msk l : Int)] w fun e w' => e = .returned (.int .i64 (ga h l : Int)) ∧ w = w' := by
  have h3 := len_of hl
  have HL := Lib.hid hl
  clear hl
  go_enter Try.func84, Try.ntmps84
  go_wp2
  go_loop [1, 5, 6] (fun m n b => ∃ (r : List Nat) (k acc B : Nat), Hid (OkL r) ∧ m = .int .u16 (msk r : Int) ∧ n = .int .i64 (acc : Int) ∧ b = .int .i64 (B : Int) ∧ Hid (B = 2 ^ k) ∧ acc < B ∧ Hid (k + r.length = l.length) ∧ Hid (acc + B * ga h r = ga h l)) (fun m _ _ => (intOf m).toNat)
  case atStart => exact ⟨l, 0, 0, 1, Lib.hid HL.out.okL, rfl, rfl, rfl, Lib.hid rfl, by decide, Lib.hid (by omega), Lib.hid (by omega)⟩
  case round =>
    obtain ⟨r, k, acc, B, HR, rfl, rfl, rfl, HB, hacc, HK, HS⟩ := hrel
    cases r with
    | nil =>
      simp only [msk]
      go_wp2
      go_ret
      have e := HS.out
      simp only [ga, Nat.mul_zero, Nat.add_zero] at e
      exact ⟨by rw [← e]; rfl, rfl⟩
    | cons p r =>
      have hpos := msk_pos p r
      have hlt := HR.out.lt
      have HP := Lib.hid HR.out.cons.1
      have HT := Lib.hid (ga_test HR.out hh)
      have hN := next_mask HR.out
      have HN := Lib.hid (neg_mask HR.out hpos)
      have HD := Lib.hid (msk_tail p r)
      have hle : msk r < 65536 := HR.out.tail.lt
      have hk : k < 12 := by have := HK.out; simp at this; omega
      have hB : B ≤ 2048 := by have := HB.out; have h4 : (2 : Nat) ^ k ≤ 2 ^ 11 := Nat.pow_le_pow_right (by decide) (by omega); omega
      have hN2 : bits .and .u16 (msk (p :: r) : Int) ((msk (p :: r) : Int) - 1) = (msk r : Int) := by
        rw [← hN]; congr 1; omega
      have HB2 : Hid (B * 2 = 2 ^ (k + 1)) := by have := HB.out; exact Lib.hid (by rw [Nat.pow_succ, ← this])
      have HS2 := Lib.hid (show acc + B * (h / 2 ^ p % 2 + 2 * ga h r) = ga h l from HS.out)
      have HK2 : Hid (k + 1 + r.length = l.length) := Lib.hid (by have := HK.out; simp at this; omega)
      have HR2 := Lib.hid HR.out.tail
      clear hN
      generalize msk (p :: r) = M at *
      by_cases hb : h / 2 ^ p % 2 = 0
      · have ht : bits .and .u16 (bits .and .u16 (h : Int) (M : Int)) (IntKind.u16.wrap (-(M : Int))) = 0 := by
          rw [HN.out, HT.out, hb]; simp
        have HS3 : Hid (acc + B * 2 * ga h r = ga h l) := Lib.hid (by rw [← HS2.out, hb, Nat.zero_add, Nat.mul_assoc])
        clear hb
        go_wp2
        go_round
        case rel => exact ⟨r, k + 1, acc, B * 2, HR2, rfl, rfl, by go_num, HB2, by omega, HK2, HS3⟩
        case measure => have := HD.out; simp [intOf]; omega
      · have hb1 : h / 2 ^ p % 2 = 1 := by omega
        have hp1 : (2 : Nat) ^ p ≠ 0 := by have := Nat.two_pow_pos p; omega
        have ht : bits .and .u16 (bits .and .u16 (h : Int) (M : Int)) (IntKind.u16.wrap (-(M : Int))) = ((2 ^ p : Nat) : Int) := by
          rw [HN.out, HT.out, hb1, Nat.one_mul]
        generalize (2 : Nat) ^ p = P at *
        have hP : ((P : Int) != 0) = true := by simpa using hp1
        have ho : bits .or .i64 (acc : Int) (B : Int) = ((acc + B : Nat) : Int) := by
          have := i64_or_bit acc k (by have := HB.out; omega) (by omega)
          rw [← HB.out] at this; exact this
        have HS3 : Hid (acc + B + B * 2 * ga h r = ga h l) := Lib.hid (by rw [← HS2.out, hb1, Nat.mul_add, Nat.mul_one, Nat.mul_assoc, Nat.add_assoc])
        clear hb hb1 hp1
        go_wp2
        go_round
        case rel => exact ⟨r, k + 1, acc + B, B * 2, HR2, rfl, rfl, by go_num, HB2, by omega, HK2, HS3⟩
        case measure => have := HD.out; simp [intOf]; omega

end Go.Proofs.Ytibmgmgkaacibaa

/- Stage 15: MemBytes. -/
import Derived.Test.YtplialeggcaplaaYh
import Derived.Laws.BitsAllLaws
namespace Go.Proofs.Ytplialeggcaplaa
open Go.RowKit Go.ChangeShapes Go.WideShapes Go.Deep
set_option linter.unusedVariables false
set_option linter.unusedSimpArgs false
/-- byte i of a word that was laid at j -/
theorem setW_at (M : Nat → Nat) (j n i : Nat) (hi : i < 4) : setWM M j n (j + i) = n / 256 ^ i % 256 := by
  have h : i = 0 ∨ i = 1 ∨ i = 2 ∨ i = 3 := by omega
  rcases h with rfl | rfl | rfl | rfl
  all_goals simp [setWM, setM]
theorem setW_word (M : Nat → Nat) (j n : Nat) (hn : n < 4294967296) (a y : Nat) (ha : a < 4) (hy : y < 256) : wordM (setM (setWM M j n) (j + a) y) j = n - n / 256 ^ a % 256 * 256 ^ a + y * 256 ^ a := by
  have e0 := setW_at M j n 0 (by omega)
  have e1 := setW_at M j n 1 (by omega)
  have e2 := setW_at M j n 2 (by omega)
  have e3 := setW_at M j n 3 (by omega)
  have h : a = 0 ∨ a = 1 ∨ a = 2 ∨ a = 3 := by omega
  rw [Nat.add_zero] at e0
  rcases h with rfl | rfl | rfl | rfl
  all_goals
    simp [wordM, setM, e0, e1, e2, e3]
    omega
theorem or_mid (h lo y s : Nat) (hlo : lo < 2 ^ s) (hy : y < 256) : (2 ^ (s + 8) * h + lo) ||| (2 ^ s * y) = 2 ^ (s + 8) * h + lo + 2 ^ s * y := by
  have e : 2 ^ (s + 8) = 2 ^ s * 256 := Nat.pow_add 2 s 8
  have h1 : 2 ^ s * (y + 1) ≤ 2 ^ s * 256 := Nat.mul_le_mul_left _ (by omega)
  have h2 : 2 ^ s * (y + 1) = 2 ^ s * y + 2 ^ s := Nat.mul_succ _ _
  have a1 : 2 ^ (s + 8) * h + lo = 2 ^ (s + 8) * h ||| lo := Nat.two_pow_add_eq_or_of_lt (i := s + 8) (by omega) h
  have a2 : 2 ^ s * y + lo = 2 ^ s * y ||| lo := Nat.two_pow_add_eq_or_of_lt hlo y
  have a3 : 2 ^ (s + 8) * h + (2 ^ s * y + lo) = 2 ^ (s + 8) * h ||| (2 ^ s * y + lo) := Nat.two_pow_add_eq_or_of_lt (i := s + 8) (by omega) h
  have a4 : (2 ^ (s + 8) * h + lo) ||| (2 ^ s * y) = 2 ^ (s + 8) * h + (2 ^ s * y + lo) := by rw [a1, Nat.or_assoc, Nat.or_comm lo, ← a2, ← a3]
  omega
theorem andNot_or (n y a : Nat) (hn : n < 4294967296) (hy : y < 256) (ha : a < 4) : bits .or .u32 (bits .andNot .u32 (n : Int) ((255 * 256 ^ a : Nat) : Int)) ((y * 256 ^ a : Nat) : Int) = ((n - n / 256 ^ a % 256 * 256 ^ a + y * 256 ^ a : Nat) : Int) := by
  have hc : 255 * 256 ^ a < 4294967296 ∧ y * 256 ^ a < 4294967296 := by
    have h : a = 0 ∨ a = 1 ∨ a = 2 ∨ a = 3 := by omega
    rcases h with rfl | rfl | rfl | rfl <;> simp <;> omega
  rw [u32_andNot_nat n _ hn hc.1]
  have key : n &&& (4294967295 - 255 * 256 ^ a) = n - n / 256 ^ a % 256 * 256 ^ a := by
    have h : a = 0 ∨ a = 1 ∨ a = 2 ∨ a = 3 := by omega
    have e8 := nat_hi32_8 n
    have e16 := nat_hi32_16 n
    have e24 := nat_hi32_24 n
    rcases h with rfl | rfl | rfl | rfl
    · simp only [Nat.pow_zero, Nat.mul_one, Nat.div_one, show 4294967295 - 255 = 4294967040 from rfl]
      rw [e8]; omega
    · rw [show 4294967295 - 255 * 256 ^ 1 = 4294901760 ||| (2 ^ 8 - 1) from rfl, Nat.and_or_distrib_left, e16, Nat.and_two_pow_sub_one_eq_mod, Nat.or_comm,
        show n % 4294967296 / 65536 * 65536 = 2 ^ 16 * (n % 4294967296 / 65536) by omega, Nat.or_comm, ← Nat.two_pow_add_eq_or_of_lt (by omega : n % 2 ^ 8 < 2 ^ 16)]
      omega
    · rw [show 4294967295 - 255 * 256 ^ 2 = 4278190080 ||| (2 ^ 16 - 1) from rfl, Nat.and_or_distrib_left, e24, Nat.and_two_pow_sub_one_eq_mod,
        show n % 4294967296 / 16777216 * 16777216 = 2 ^ 24 * (n % 4294967296 / 16777216) by omega, ← Nat.two_pow_add_eq_or_of_lt (by omega : n % 2 ^ 16 < 2 ^ 24)]
      omega
    · rw [show 4294967295 - 255 * 256 ^ 3 = 2 ^ 24 - 1 from rfl, Nat.and_two_pow_sub_one_eq_mod]
      omega
  rw [key]
  generalize hm : n - n / 256 ^ a % 256 * 256 ^ a = m
  have hm2 : m < 4294967296 := by omega
  rw [(bits_nat .u32 32 (by decide) mw32 m (y * 256 ^ a) hm2 hc.2).2]
  have h2 : m ||| y * 256 ^ a = m + y * 256 ^ a := by
    have h : a = 0 ∨ a = 1 ∨ a = 2 ∨ a = 3 := by omega
    rcases h with rfl | rfl | rfl | rfl
    · have := or_mid (m / 256) 0 y 0 (by omega) hy
      rw [show 2 ^ (0 + 8) * (m / 256) + 0 = m by omega, show 2 ^ 0 * y = y * 256 ^ 0 by omega] at this
      exact this
    · have := or_mid (m / 65536) (m % 256) y 8 (by omega) hy
      rw [show 2 ^ (8 + 8) * (m / 65536) + m % 256 = m by omega, show 2 ^ 8 * y = y * 256 ^ 1 by omega] at this
      exact this
    · have := or_mid (m / 16777216) (m % 65536) y 16 (by omega) hy
      rw [show 2 ^ (16 + 8) * (m / 16777216) + m % 65536 = m by omega, show 2 ^ 16 * y = y * 256 ^ 2 by omega] at this
      exact this
    · have := or_mid (m / 4294967296) (m % 16777216) y 24 (by omega) hy
      rw [show 2 ^ (24 + 8) * (m / 4294967296) + m % 16777216 = m by omega, show 2 ^ 24 * y = y * 256 ^ 3 by omega] at this
      exact this
  rw [h2]
set_option maxHeartbeats 1000000 in
theorem memBytes_walk (w : World) (k : Int) (n : Nat) (hn : n < 4294967296) (at_ : Int) (by_ : Nat) (hby : by_ < 256) : Calls Try.prog 5 #[.int .i64 k, .int .u32 (n : Int), .int .i64 at_, .int .u8 (by_ : Int)] w fun e w' => e = .returned (.bool true) ∧ Upd (fun _ => False) w w' := by
  obtain ⟨p, hp⟩ : ∃ p : Nat, k % 32768 = (p : Int) := Int.eq_ofNat_of_zero_le (Int.emod_nonneg _ (by omega))
  have hp2 : p < 32768 := by have := Int.emod_lt_of_pos k (by omega : (0 : Int) < 32768); omega
  have HP := Lib.hid hp
  have hw1 : IntKind.i64.wrap (4 * (p : Int)) = 4 * (p : Int) := IntWalk.i64_in _ (by omega)
  obtain ⟨j, hj⟩ : ∃ j : Nat, j = 131072 + 4 * p := ⟨_, rfl⟩
  have hw2 : IntKind.i64.wrap (131072 + 4 * (p : Int)) = (j : Int) := by rw [IntWalk.i64_in _ (by omega)]; omega
  have HJ := Lib.hid (show 131072 ≤ j ∧ j + 4 ≤ 262144 ∧ j % 4 = 0 by omega)
  have HN := Lib.hid hn
  have HY := Lib.hid hby
  clear hp hp2 hj hn hby
  go_enter Try.func5, Try.ntmps5
  go_wp2_with fail
  refine (mNew _).mono ?_
  rintro e w1 ⟨rfl, hm, hu⟩
  have HU := Lib.hid hu
  have HM := Lib.hid hm
  obtain ⟨g, hg⟩ : ∃ g, g = w.heap.size := ⟨_, rfl⟩
  have HG := Lib.hid (Nat.le_of_eq hg.symm)
  rw [← hg] at HM
  rw [← hg]
  generalize hb : g + 1 = b at *
  clear hu hm hb hg
  go_wp2_with fail
  refine (hPick _ _ _ (by omega) (by omega)).mono ?_
  rintro e w2 ⟨rfl, rfl⟩
  rw [HP.out]
  go_wp2_with fail
  refine (known15 _).mono ?_
  rintro e w2 ⟨rfl, hu⟩
  have HM := Lib.hid (HM.out.upd hu (fun h => h) (fun h => h))
  have HU := Lib.hid (HU.out.calm0 hu)
  clear hu
  go_wp2_with fail
  refine (mSetWord HM.out (j : Int) (by have := HJ.out; unfold rng64; omega) n HN.out).mono ?_
  have HO := Lib.hid (show okSw (j : Int) = true by have := HJ.out; simp only [okSw, decide_eq_true_eq]; omega)
  rw [show swM (fun _ => 0) (j : Int) n = setWM (fun _ => 0) j n by unfold swM; rw [if_pos HO.out, Int.toNat_natCast], HO.out]
  rintro e w3 ⟨rfl, hm, hu⟩
  have HM := Lib.hid hm
  have HU := Lib.hid (HU.out.calm hu HG.out)
  clear hu hm
  go_wp2_with fail
  refine (hPick _ _ _ (by omega) (by omega)).mono ?_
  rintro e w4 ⟨rfl, rfl⟩
  go_wp2_with fail
  have HS0 := Lib.hid (show n / 256 ^ 4 = 0 by have := HN.out; omega)
  go_loop [11, 10, 12, 13] (fun t u _ _ => ∃ i : Nat, i ≤ 4 ∧ t = .int .i64 ((i : Int) - 1) ∧ u = .int .u32 ((n / 256 ^ i : Nat) : Int)) (fun t _ _ _ => (intOf t + 1).toNat)
  case atStart => exact ⟨4, by omega, rfl, by rw [HS0.out]; rfl⟩
  case round =>
    obtain ⟨i, hi, rfl, rfl⟩ := hrel
    have hi5 : i = 4 ∨ i = 3 ∨ i = 2 ∨ i = 1 ∨ i = 0 := by omega
    clear hi
    rcases hi5 with e | hi5
    · subst e
      have HV := Lib.hid (show byP (setWM (fun _ => 0) j n) ((j : Int) + 3) = ((n / 256 ^ 3 % 256 : Nat) : Int) ∧ okBy ((j : Int) + 3) = true by
        have hJ := HJ.out
        have ho : okBy ((j : Int) + 3) = true := by simp only [okBy, decide_eq_true_eq]; omega
        refine ⟨?_, ho⟩
        unfold byP
        rw [if_pos ho, show ((j : Int) + 3).toNat = j + 3 by omega, setW_at _ _ _ 3 (by omega)])
      have hwa : IntKind.i64.wrap ((j : Int) + 3) = (j : Int) + 3 := IntWalk.i64_in _ (by have := HJ.out; omega)
      have HE := Lib.hid (show (((n / 256 ^ 4 : Nat) : Int) * 256 % 4294967296 + (((n / 256 ^ 3 % 256 : Nat) : Int)) % 4294967296) % 4294967296 = ((n / 256 ^ 3 : Nat) : Int) by
        have := HN.out
        omega)
      generalize hx1 : n / 256 ^ 4 = x1 at *
      generalize hx2 : n / 256 ^ 3 % 256 = x2 at *
      clear hx1 hx2
      go_wp2_with fail
      skip
      refine (mByte HM.out ((j : Int) + 3) (by have := HJ.out; unfold rng64; omega)).mono ?_
      rw [HV.out.1, HV.out.2]
      rintro e w5 ⟨rfl, rfl⟩
      go_wp2_with fail
      go_round
      case rel => exact ⟨3, by omega, by rfl, by rw [HE.out]⟩
      case measure => simp [intOf]
    rcases hi5 with e | hi5
    · subst e
      have HV := Lib.hid (show byP (setWM (fun _ => 0) j n) ((j : Int) + 2) = ((n / 256 ^ 2 % 256 : Nat) : Int) ∧ okBy ((j : Int) + 2) = true by
        have hJ := HJ.out
        have ho : okBy ((j : Int) + 2) = true := by simp only [okBy, decide_eq_true_eq]; omega
        refine ⟨?_, ho⟩
        unfold byP
        rw [if_pos ho, show ((j : Int) + 2).toNat = j + 2 by omega, setW_at _ _ _ 2 (by omega)])
      have hwa : IntKind.i64.wrap ((j : Int) + 2) = (j : Int) + 2 := IntWalk.i64_in _ (by have := HJ.out; omega)
      have HE := Lib.hid (show (((n / 256 ^ 3 : Nat) : Int) * 256 % 4294967296 + (((n / 256 ^ 2 % 256 : Nat) : Int)) % 4294967296) % 4294967296 = ((n / 256 ^ 2 : Nat) : Int) by
        have := HN.out
        omega)
      generalize hx1 : n / 256 ^ 3 = x1 at *
      generalize hx2 : n / 256 ^ 2 % 256 = x2 at *
      clear hx1 hx2
      go_wp2_with fail
      skip
      refine (mByte HM.out ((j : Int) + 2) (by have := HJ.out; unfold rng64; omega)).mono ?_
      rw [HV.out.1, HV.out.2]
      rintro e w5 ⟨rfl, rfl⟩
      go_wp2_with fail
      go_round
      case rel => exact ⟨2, by omega, by rfl, by rw [HE.out]⟩
      case measure => simp [intOf]
    rcases hi5 with e | hi5
    · subst e
      have HV := Lib.hid (show byP (setWM (fun _ => 0) j n) ((j : Int) + 1) = ((n / 256 ^ 1 % 256 : Nat) : Int) ∧ okBy ((j : Int) + 1) = true by
        have hJ := HJ.out
        have ho : okBy ((j : Int) + 1) = true := by simp only [okBy, decide_eq_true_eq]; omega
        refine ⟨?_, ho⟩
        unfold byP
        rw [if_pos ho, show ((j : Int) + 1).toNat = j + 1 by omega, setW_at _ _ _ 1 (by omega)])
      have hwa : IntKind.i64.wrap ((j : Int) + 1) = (j : Int) + 1 := IntWalk.i64_in _ (by have := HJ.out; omega)
      have HE := Lib.hid (show (((n / 256 ^ 2 : Nat) : Int) * 256 % 4294967296 + (((n / 256 ^ 1 % 256 : Nat) : Int)) % 4294967296) % 4294967296 = ((n / 256 ^ 1 : Nat) : Int) by
        have := HN.out
        omega)
      generalize hx1 : n / 256 ^ 2 = x1 at *
      generalize hx2 : n / 256 ^ 1 % 256 = x2 at *
      clear hx1 hx2
      go_wp2_with fail
      skip
      refine (mByte HM.out ((j : Int) + 1) (by have := HJ.out; unfold rng64; omega)).mono ?_
      rw [HV.out.1, HV.out.2]
      rintro e w5 ⟨rfl, rfl⟩
      go_wp2_with fail
      go_round
      case rel => exact ⟨1, by omega, by rfl, by rw [HE.out]⟩
      case measure => simp [intOf]
    rcases hi5 with e | hi5
    · subst e
      have HV := Lib.hid (show byP (setWM (fun _ => 0) j n) (j : Int) = ((n / 256 ^ 0 % 256 : Nat) : Int) ∧ okBy (j : Int) = true by
        have hJ := HJ.out
        have ho : okBy (j : Int) = true := by simp only [okBy, decide_eq_true_eq]; omega
        refine ⟨?_, ho⟩
        unfold byP
        rw [if_pos ho, show (j : Int).toNat = j + 0 by omega, setW_at _ _ _ 0 (by omega)])
      have hwa : IntKind.i64.wrap (j : Int) = (j : Int) := IntWalk.i64_in _ (by have := HJ.out; omega)
      have HE := Lib.hid (show (((n / 256 ^ 1 : Nat) : Int) * 256 % 4294967296 + (((n / 256 ^ 0 % 256 : Nat) : Int)) % 4294967296) % 4294967296 = ((n / 256 ^ 0 : Nat) : Int) by
        have := HN.out
        omega)
      generalize hx1 : n / 256 ^ 1 = x1 at *
      generalize hx2 : n / 256 ^ 0 % 256 = x2 at *
      clear hx1 hx2
      go_wp2_with fail
      skip
      refine (mByte HM.out (j : Int) (by have := HJ.out; unfold rng64; omega)).mono ?_
      rw [HV.out.1, HV.out.2]
      rintro e w5 ⟨rfl, rfl⟩
      go_wp2_with fail
      go_round
      case rel => exact ⟨0, by omega, by rfl, by rw [HE.out]⟩
      case measure => simp [intOf]
    · subst hi5
      have hn0 : n / 256 ^ 0 = n := by simp
      rw [hn0]
      clear HS0 hn0
      obtain ⟨a, ha⟩ : ∃ a : Nat, at_ % 4 = (a : Int) := Int.eq_ofNat_of_zero_le (Int.emod_nonneg _ (by omega))
      have ha4 : a < 4 := by have := Int.emod_lt_of_pos at_ (by omega : (0 : Int) < 4); omega
      rw [ha]
      clear ha
      have HA := Lib.hid ha4
      have hwa : IntKind.i64.wrap ((j : Int) + (a : Int)) = ((j + a : Nat) : Int) := by have := HJ.out; rw [IntWalk.i64_in _ (by omega)]; omega
      clear ha4
      go_wp2_with fail
      refine (mSetByte HM.out ((j + a : Nat) : Int) (by have := HJ.out; have := HA.out; unfold rng64; omega) by_ HY.out).mono ?_
      have HSB := Lib.hid (show okSb ((j + a : Nat) : Int) = true by have := HJ.out; have := HA.out; simp only [okSb, decide_eq_true_eq]; omega)
      rw [show sbM (setWM (fun _ => 0) j n) ((j + a : Nat) : Int) by_ = setM (setWM (fun _ => 0) j n) (j + a) by_ by unfold sbM; rw [if_pos HSB.out, Int.toNat_natCast], HSB.out]
      rintro e w5 ⟨rfl, hm, hu⟩
      have HM := Lib.hid hm
      have HU := Lib.hid (HU.out.calm hu HG.out)
      clear hu hm
      go_wp2_with fail
      refine (mWord HM.out (j : Int) (by have := HJ.out; unfold rng64; omega)).mono ?_
      have HWD := Lib.hid (show okWd (j : Int) = true by have := HJ.out; simp only [okWd, decide_eq_true_eq]; omega)
      rw [show wdP (setM (setWM (fun _ => 0) j n) (j + a) by_) (j : Int) = ((n - n / 256 ^ a % 256 * 256 ^ a + by_ * 256 ^ a : Nat) : Int) by
        unfold wdP; rw [if_pos HWD.out, ← setW_word (fun _ => 0) j n HN.out a by_ HA.out HY.out, Int.toNat_natCast], HWD.out]
      rintro e w6 ⟨rfl, hu⟩
      have HU := Lib.hid (HU.out.calm0 hu)
      clear hu
      have HQ := Lib.hid (andNot_or n by_ a HN.out HY.out HA.out)
      have ha3 : a = 0 ∨ a = 1 ∨ a = 2 ∨ a = 3 := by have := HA.out; omega
      generalize hV : n - n / 256 ^ a % 256 * 256 ^ a + by_ * 256 ^ a = V at *
      clear hV
      rcases ha3 with e | e | e | e
      · subst e
        have hq : bits .or .u32 (bits .andNot .u32 (n : Int) 255) ((by_ : Int) % 4294967296) = (V : Int) := by
          have h := HQ.out
          rw [show ((by_ : Int) % 4294967296) = ((by_ * 256 ^ 0 : Nat) : Int) by have := HY.out; omega]
          exact h
        go_wp2_with fail
        go_ret
        exact ⟨rfl, HU.out⟩
      · subst e
        have hq : bits .or .u32 (bits .andNot .u32 (n : Int) 65280) ((by_ : Int) % 4294967296 * 256 % 4294967296) = (V : Int) := by
          have h := HQ.out
          rw [show ((by_ : Int) % 4294967296 * 256 % 4294967296) = ((by_ * 256 ^ 1 : Nat) : Int) by have := HY.out; omega]
          exact h
        go_wp2_with fail
        go_ret
        exact ⟨rfl, HU.out⟩
      · subst e
        have hq : bits .or .u32 (bits .andNot .u32 (n : Int) 16711680) ((by_ : Int) % 4294967296 * 65536 % 4294967296) = (V : Int) := by
          have h := HQ.out
          rw [show ((by_ : Int) % 4294967296 * 65536 % 4294967296) = ((by_ * 256 ^ 2 : Nat) : Int) by have := HY.out; omega]
          exact h
        go_wp2_with fail
        go_ret
        exact ⟨rfl, HU.out⟩
      · subst e
        have hq : bits .or .u32 (bits .andNot .u32 (n : Int) 4278190080) ((by_ : Int) % 4294967296 * 16777216 % 4294967296) = (V : Int) := by
          have h := HQ.out
          rw [show ((by_ : Int) % 4294967296 * 16777216 % 4294967296) = ((by_ * 256 ^ 3 : Nat) : Int) by have := HY.out; omega]
          exact h
        go_wp2_with fail
        go_ret
        exact ⟨rfl, HU.out⟩
theorem memBytes_below (w : World) (k : Int) (n : Nat) (hn : n < 4294967296) (at_ : Int) (by_ : Nat) (hby : by_ < 256) : Calls Try.prog 5 #[.int .i64 k, .int .u32 (n : Int), .int .i64 at_, .int .u8 (by_ : Int)] w fun e w' => e = .returned (.bool true) ∧ Below w.heap.size w w' :=
  (memBytes_walk w k n hn at_ by_ hby).mono fun _ _ h => ⟨h.1, h.2.below (Nat.le_refl _) (fun _ h => h.elim)⟩
end Go.Proofs.Ytplialeggcaplaa

/- The reference's SetWord; Load of both. -/
import Derived.Test.YtplialeggcaplaaYe
import Derived.Deep.RegionHeld3
namespace Go.Proofs.Ytplialeggcaplaa
open Go.RowKit Go.ChangeShapes Go.WideShapes Go.Deep
set_option linter.unusedVariables false
set_option linter.unusedSimpArgs false
def setN (M : Nat → Nat) (k n : Nat) : Nat → (Nat → Nat)
  | 0 => M
  | i + 1 => setM (setN M k n i) (k + i) (n / 256 ^ i % 256)
theorem setN_four (M : Nat → Nat) (k n : Nat) : setN M k n 4 = setWM M k n := by
  simp only [setN, setWM, Nat.pow_zero, Nat.div_one, Nat.add_zero]
section
variable {w : World} {b g : Nat} {M : Nat → Nat}
set_option maxRecDepth 20000 in
set_option maxHeartbeats 1000000 in
theorem qSetWord (h : Mm 52 w b g M) (k : Int) (hk : rng64 k) (n : Nat) (hn : n < 4294967296) : Calls Try.prog 18 #[.pointer (some ⟨b, 0, none⟩), .int .i64 k, .int .u32 (n : Int)] w fun r w' => r = .returned (.bool (okSw k)) ∧ Mm 52 w' b g (swM M k n) ∧ Upd (fun q => q = g) w w' := by
  by_cases h0 : 131072 ≤ k ∧ k < 262144 ∧ k % 4 = 0
  · obtain ⟨j, rfl⟩ := Int.eq_ofNat_of_zero_le (by omega : 0 ≤ k)
    have hj : j + 4 ≤ 262144 := by omega
    have HJ := Lib.hid hj
    have HO := Lib.hid (show okSw (j : Int) = true by simp [okSw]; omega)
    have HP := Lib.hid (show swM M (j : Int) n = setWM M j n by simp [swM, HO.out])
    have HM := Lib.hid h
    have HU := Lib.hid (Upd.refl (fun q => q = g) w)
    have t0 : decide ((j : Int) < 131072) = false := decide_eq_false (by omega)
    have t1 : (((j : Int) % 4) != 0) = false := by simp; omega
    have t5 : decide ((262144 : Int) ≤ (j : Int)) = false := decide_eq_false (by omega)
    have t3 : (0 : Int) ≤ (j : Int) := by omega
    have u1 : IntKind.i64.wrap ((j : Int) + 1) = (j : Int) + 1 := IntWalk.i64_in _ (by omega)
    have u2 : IntKind.i64.wrap ((j : Int) + 2) = (j : Int) + 2 := IntWalk.i64_in _ (by omega)
    have u3 : IntKind.i64.wrap ((j : Int) + 3) = (j : Int) + 3 := IntWalk.i64_in _ (by omega)
    have i0 : (j : Int) < 262144 := by omega
    have i1 : (j : Int) + 1 < 262144 := by omega
    have i2 : (j : Int) + 2 < 262144 := by omega
    have i3 : (j : Int) + 3 < 262144 := by omega
    have e0 : IntKind.u8.wrap (n : Int) = ((n / 256 ^ 0 % 256 : Nat) : Int) := by rw [IntKind.wrap_u8]; omega
    have e1 : IntKind.u8.wrap ((n : Int) / 256) = ((n / 256 ^ 1 % 256 : Nat) : Int) := by rw [IntKind.wrap_u8]; omega
    have e2 : IntKind.u8.wrap ((n : Int) / 65536) = ((n / 256 ^ 2 % 256 : Nat) : Int) := by rw [IntKind.wrap_u8]; omega
    have e3 : IntKind.u8.wrap ((n : Int) / 16777216) = ((n / 256 ^ 3 % 256 : Nat) : Int) := by rw [IntKind.wrap_u8]; omega
    rw [HO.out, HP.out, ← setN_four]
    clear h h0 hk hj hn
    go_enter Try.func18, Try.ntmps18
    go_wp2_with fail
    go_loopw [7] (fun t wr => ∃ i : Nat, i ≤ 4 ∧ t = .int .i64 i ∧ Hid (Mm 52 wr b g (setN M j n i)) ∧ Hid (Upd (fun q => q = g) w wr)) (fun t _ => 4 - (intOf t).toNat)
    case atStart => exact ⟨0, by omega, rfl, HM, HU⟩
    case round =>
      obtain ⟨i, hi, rfl, HM2, HU2⟩ := hrel
      have hbx := HM2.out.bx
      by_cases hlt : i < 4
      · have hc := HM2.out.cell (j + i) (by have := HJ.out; omega)
        have hf := HM2.out.fz (j + i)
        have HM3 : Hid (Mm 52 (wr.setCell ⟨g, j + i, none⟩ (.int .u8 ((n / 256 ^ i % 256 : Nat) : Int))) b g (setN M j n (i + 1))) := Lib.hid (HM2.out.set (j + i) (by have := HJ.out; omega) (v := n / 256 ^ i % 256) (by omega))
        have HU3 := Lib.hid (HU2.out.trans (Mm.setU wr b g (j + i) (.int .u8 ((n / 256 ^ i % 256 : Nat) : Int))) (fun _ h _ => h))
        generalize setN M j n i (j + i) = v0 at *
        have hi4 : i = 0 ∨ i = 1 ∨ i = 2 ∨ i = 3 := by omega
        rcases hi4 with e | hi4
        · subst e
          generalize n / 256 ^ 0 % 256 = y at *
          clear hlt hi e1 e2 e3
          simp only [Nat.add_zero] at hc hf HM3 HU3
          go_wp2_with fail
          go_roundw
          case rel => exact ⟨1, by omega, by rfl, HM3, HU3⟩
          case measure => simp [intOf]
        rcases hi4 with e | hi4
        · subst e
          generalize n / 256 ^ 1 % 256 = y at *
          clear hlt hi e0 e2 e3
          skip
          go_wp2_with fail
          go_roundw
          case rel => exact ⟨2, by omega, by rfl, HM3, HU3⟩
          case measure => simp [intOf]
        rcases hi4 with e | e
        · subst e
          generalize n / 256 ^ 2 % 256 = y at *
          clear hlt hi e0 e1 e3
          skip
          go_wp2_with fail
          go_roundw
          case rel => exact ⟨3, by omega, by rfl, HM3, HU3⟩
          case measure => simp [intOf]
        · subst e
          generalize n / 256 ^ 3 % 256 = y at *
          clear hlt hi e0 e1 e2
          skip
          go_wp2_with fail
          go_roundw
          case rel => exact ⟨4, by omega, by rfl, HM3, HU3⟩
          case measure => simp [intOf]
      · have he : i = 4 := by omega
        subst he
        clear hlt hi e0 e1 e2 e3
        go_wp2_with fail
        go_ret
        exact ⟨rfl, HM2.out, HU2.out⟩
  · have HO := Lib.hid (show okSw k = false by simp [okSw]; omega)
    have HP := Lib.hid (show swM M k n = M by simp [swM, HO.out])
    have HM := Lib.hid h
    rw [HO.out, HP.out]
    by_cases h1 : k < 131072
    · have t1 : decide (k < 131072) = true := decide_eq_true h1
      clear h h0 hk h1
      go_enter Try.func18, Try.ntmps18
      go_wp2_with fail
      go_ret
      exact ⟨rfl, HM.out, Upd.refl _ _⟩
    · have t1 : decide (k < 131072) = false := decide_eq_false h1
      by_cases h2 : k % 4 = 0
      · have t3 : (k.tmod 4 != 0) = false := by rw [Int.tmod_eq_emod_of_nonneg (by omega)]; simp; omega
        have t2 : decide ((262144 : Int) ≤ k) = true := decide_eq_true (by omega)
        clear h h0 hk h1 h2
        go_enter Try.func18, Try.ntmps18
        go_wp2_with fail
        go_ret
        exact ⟨rfl, HM.out, Upd.refl _ _⟩
      · have t3 : (k.tmod 4 != 0) = true := by rw [Int.tmod_eq_emod_of_nonneg (by omega)]; simp; omega
        clear h h0 hk h1 h2
        go_enter Try.func18, Try.ntmps18
        go_wp2_with fail
        go_ret
        exact ⟨rfl, HM.out, Upd.refl _ _⟩
end
end Go.Proofs.Ytplialeggcaplaa

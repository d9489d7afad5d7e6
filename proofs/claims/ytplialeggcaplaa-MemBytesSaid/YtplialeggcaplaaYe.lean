/- The reference's memory: Byte, SetByte, Half, Word, SetWord. -/
import Derived.Test.YtplialeggcaplaaYd
namespace Go.Proofs.Ytplialeggcaplaa
open Go.RowKit Go.ChangeShapes Go.WideShapes Go.Deep
set_option linter.unusedVariables false
set_option linter.unusedSimpArgs false
theorem msum32 (a b c d : Nat) (ha : a < 256) (hb : b < 256) (hc : c < 256) (hd : d < 256) : IntKind.u32.wrap (IntKind.u32.wrap (IntKind.u32.wrap (IntKind.u32.wrap (a : Int) + IntKind.u32.wrap (IntKind.u32.wrap (b : Int) * 256)) + IntKind.u32.wrap (IntKind.u32.wrap (c : Int) * 65536)) + IntKind.u32.wrap (IntKind.u32.wrap (d : Int) * 16777216)) = ((a + 256 * b + 65536 * c + 16777216 * d : Nat) : Int) := by
  simp only [IntKind.wrap_u32]; omega
theorem msum16 (a b : Nat) (ha : a < 256) (hb : b < 256) : IntKind.u16.wrap (IntKind.u16.wrap (a : Int) + IntKind.u16.wrap (IntKind.u16.wrap (b : Int) * 256)) = ((a + 256 * b : Nat) : Int) := by
  simp only [IntKind.wrap_u16]; omega
section
variable {w : World} {b g : Nat} {M : Nat → Nat}
set_option maxRecDepth 20000 in
theorem qByte (h : Mm 52 w b g M) (k : Int) (hk : rng64 k) : Calls Try.prog 21 #[.pointer (some ⟨b, 0, none⟩), .int .i64 k] w fun r w' => r = .returned (.tuple #[.int .u8 (byP M k), .bool (okBy k)]) ∧ Upd (fun _ => False) w w' := by
  by_cases h0 : 0 ≤ k ∧ k < 262144
  · obtain ⟨j, rfl⟩ := Int.eq_ofNat_of_zero_le h0.1
    have hj : j + 1 ≤ 262144 := by omega
    have HO := Lib.hid (show okBy (j : Int) = true by simp [okBy]; omega)
    have HP := Lib.hid (show byP M (j : Int) = ((M j : Nat) : Int) by simp [byP, HO.out])
    have hbx := h.bx
    have hc0 := h.cell j (by omega)
    have H0 := Lib.hid (h.ok j)
    have t0 : decide ((j : Int) < 0) = false := decide_eq_false (by omega)
    have t5 : decide ((262144 : Int) ≤ (j : Int)) = false := by simp; omega
    have i0 : (j : Int) < 262144 := by omega
    have t3 : (0 : Int) ≤ (j : Int) := by omega
    rw [HO.out, HP.out]
    clear h h0 hk hj
    generalize M j = v0 at *
    go_enter Try.func21, Try.ntmps21
    go_wp2_with fail
    refine bodyPost_ret (v := .tuple #[.int .u8 ((v0 : Nat) : Int), .bool true]) (by simp only [results, Try.f21]; simp [go_sem]) rfl ?_
    exact ⟨rfl, Upd.refl _ _⟩
  · have HO := Lib.hid (show okBy k = false by simp [okBy]; omega)
    have HP := Lib.hid (show byP M k = 0 by simp [byP, HO.out])
    rw [HO.out, HP.out]
    by_cases h1 : k < 0
    · have t0 : decide (k < 0) = true := by simp; omega
      clear h h0 hk h1
      go_enter Try.func21, Try.ntmps21
      go_wp2_with fail
      refine bodyPost_ret (v := .tuple #[.int .u8 0, .bool false]) (by simp only [results, Try.f21]; simp [go_sem]) rfl ?_
      exact ⟨rfl, Upd.refl _ _⟩
    have t0 : decide (k < 0) = false := by simp; omega
    have t5 : decide ((262144 : Int) ≤ k) = true := by simp; omega
    clear h h0 hk h1
    go_enter Try.func21, Try.ntmps21
    go_wp2_with fail
    refine bodyPost_ret (v := .tuple #[.int .u8 0, .bool false]) (by simp only [results, Try.f21]; simp [go_sem]) rfl ?_
    exact ⟨rfl, Upd.refl _ _⟩
set_option maxRecDepth 20000 in
theorem qSetByte (h : Mm 52 w b g M) (k : Int) (hk : rng64 k) (v : Nat) (hv : v < 256) : Calls Try.prog 19 #[.pointer (some ⟨b, 0, none⟩), .int .i64 k, .int .u8 (v : Int)] w fun r w' => r = .returned (.bool (okSb k)) ∧ Mm 52 w' b g (sbM M k v) ∧ Upd (fun q => q = g) w w' := by
  by_cases h0 : 131072 ≤ k ∧ k < 262144
  · obtain ⟨j, rfl⟩ := Int.eq_ofNat_of_zero_le (by omega : 0 ≤ k)
    have hj : j < 262144 := by omega
    have t1 : decide ((j : Int) < 131072) = false := by simp; omega
    have t2 : decide ((262144 : Int) ≤ (j : Int)) = false := by simp; omega
    have i0 : (j : Int) < 262144 := by omega
    have HO := Lib.hid (show okSb (j : Int) = true by simp [okSb]; omega)
    have HP := Lib.hid (show sbM M (j : Int) v = setM M j v by simp [sbM, HO.out])
    have hbx := h.bx
    have hc := h.cell j hj
    have hf := h.fz j
    have HM := Lib.hid (h.set j hj hv)
    have HU := Lib.hid (Mm.setU w b g j (.int .u8 ((v : Nat) : Int)))
    clear h h0 hk hj hv
    rw [HO.out, HP.out]
    generalize M j = v0 at *
    go_enter Try.func19, Try.ntmps19
    go_wp2_with fail
    go_ret
    exact ⟨rfl, HM.out, HU.out⟩
  · have HO := Lib.hid (show okSb k = false by simp [okSb]; omega)
    have HP := Lib.hid (show sbM M k v = M by simp [sbM, HO.out])
    have HM := Lib.hid h
    rw [HO.out, HP.out]
    by_cases h1 : k < 131072
    · have t1 : decide (k < 131072) = true := by simp; omega
      clear h h0 hk h1
      go_enter Try.func19, Try.ntmps19
      go_wp2_with fail
      go_ret
      exact ⟨rfl, HM.out, Upd.refl _ _⟩
    · have t1 : decide (k < 131072) = false := by simp; omega
      have t2 : decide ((262144 : Int) ≤ k) = true := by simp; omega
      clear h h0 hk h1
      go_enter Try.func19, Try.ntmps19
      go_wp2_with fail
      go_ret
      exact ⟨rfl, HM.out, Upd.refl _ _⟩
set_option maxRecDepth 20000 in
theorem qHalf (h : Mm 52 w b g M) (k : Int) (hk : rng64 k) : Calls Try.prog 22 #[.pointer (some ⟨b, 0, none⟩), .int .i64 k] w fun r w' => r = .returned (.tuple #[.int .u16 (hfP M k), .bool (okHf k)]) ∧ Upd (fun _ => False) w w' := by
  by_cases h0 : 0 ≤ k ∧ k < 131072 ∧ k % 2 = 0
  · obtain ⟨j, rfl⟩ := Int.eq_ofNat_of_zero_le h0.1
    have hj : j + 2 ≤ 131072 := by omega
    have HO := Lib.hid (show okHf (j : Int) = true by simp [okHf]; omega)
    have HP := Lib.hid (show hfP M (j : Int) = ((halfM M j : Nat) : Int) by simp [hfP, HO.out])
    have hbx := h.bx
    have hc0 := h.cell j (by omega)
    have H0 := Lib.hid (h.ok j)
    have hc1 := h.cell (j + 1) (by omega)
    have H1 := Lib.hid (h.ok (j + 1))
    have HM := Lib.hid (show halfM M j = M j + 256 * M (j + 1) from rfl)
    have t0 : decide ((j : Int) < 0) = false := decide_eq_false (by omega)
    have t1 : (((j : Int) % 2) != 0) = false := by simp; omega
    have t5 : decide ((131072 : Int) ≤ (j : Int)) = false := by simp; omega
    have u1 : IntKind.i64.wrap ((j : Int) + 1) = (j : Int) + 1 := IntWalk.i64_in _ (by omega)
    have i0 : (j : Int) < 262144 := by omega
    have i1 : (j : Int) + 1 < 262144 := by omega
    have t3 : (0 : Int) ≤ (j : Int) := by omega
    rw [HO.out, HP.out, HM.out]
    clear h h0 hk hj
    generalize M j = v0 at *
    generalize M (j + 1) = v1 at *
    go_enter Try.func22, Try.ntmps22
    go_wp2_with fail
    go_quiet (fail)
    go_wp2_with fail
    have z0 := H0.out
    have z1 := H1.out
    have hq := msum16 v0 v1 H0.out H1.out
    refine bodyPost_ret (v := .tuple #[.int .u16 ((v0 + 256 * v1 : Nat) : Int), .bool true]) (by simp only [results, Try.f22]; simp [go_sem]; omega) rfl ?_
    exact ⟨rfl, drewN_upd _ _⟩
  · have HO := Lib.hid (show okHf k = false by simp [okHf]; omega)
    have HP := Lib.hid (show hfP M k = 0 by simp [hfP, HO.out])
    rw [HO.out, HP.out]
    by_cases h1 : k < 0
    · have t0 : decide (k < 0) = true := by simp; omega
      clear h h0 hk h1
      go_enter Try.func22, Try.ntmps22
      go_wp2_with fail
      refine bodyPost_ret (v := .tuple #[.int .u16 0, .bool false]) (by simp only [results, Try.f22]; simp [go_sem]) rfl ?_
      exact ⟨rfl, Upd.refl _ _⟩
    have t0 : decide (k < 0) = false := by simp; omega
    by_cases h2 : k % 2 = 0
    · have t1 : (k % 2 != 0) = false := by simp; omega
      have t1' : (k.tmod 2 != 0) = false := by rw [Int.tmod_eq_emod_of_nonneg (by omega)]; exact t1
      have t5 : decide ((131072 : Int) ≤ k) = true := by simp; omega
      clear h h0 hk h1 h2
      go_enter Try.func22, Try.ntmps22
      go_wp2_with fail
      refine bodyPost_ret (v := .tuple #[.int .u16 0, .bool false]) (by simp only [results, Try.f22]; simp [go_sem]) rfl ?_
      exact ⟨rfl, Upd.refl _ _⟩
    · have t1 : (k % 2 != 0) = true := by simp; omega
      have t1' : (k.tmod 2 != 0) = true := by rw [Int.tmod_eq_emod_of_nonneg (by omega)]; exact t1
      clear h h0 hk h1 h2
      go_enter Try.func22, Try.ntmps22
      go_wp2_with fail
      refine bodyPost_ret (v := .tuple #[.int .u16 0, .bool false]) (by simp only [results, Try.f22]; simp [go_sem]) rfl ?_
      exact ⟨rfl, Upd.refl _ _⟩
set_option maxRecDepth 20000 in
theorem qWord (h : Mm 52 w b g M) (k : Int) (hk : rng64 k) : Calls Try.prog 20 #[.pointer (some ⟨b, 0, none⟩), .int .i64 k] w fun r w' => r = .returned (.tuple #[.int .u32 (wdP M k), .bool (okWd k)]) ∧ Upd (fun _ => False) w w' := by
  by_cases h0 : 0 ≤ k ∧ k < 262144 ∧ k % 4 = 0
  · obtain ⟨j, rfl⟩ := Int.eq_ofNat_of_zero_le h0.1
    have hj : j + 4 ≤ 262144 := by omega
    have HO := Lib.hid (show okWd (j : Int) = true by simp [okWd]; omega)
    have HP := Lib.hid (show wdP M (j : Int) = ((wordM M j : Nat) : Int) by simp [wdP, HO.out])
    have hbx := h.bx
    have hc0 := h.cell j (by omega)
    have H0 := Lib.hid (h.ok j)
    have hc1 := h.cell (j + 1) (by omega)
    have H1 := Lib.hid (h.ok (j + 1))
    have hc2 := h.cell (j + 2) (by omega)
    have H2 := Lib.hid (h.ok (j + 2))
    have hc3 := h.cell (j + 3) (by omega)
    have H3 := Lib.hid (h.ok (j + 3))
    have HM := Lib.hid (show wordM M j = M j + 256 * M (j + 1) + 65536 * M (j + 2) + 16777216 * M (j + 3) from rfl)
    have t0 : decide ((j : Int) < 0) = false := decide_eq_false (by omega)
    have t1 : (((j : Int) % 4) != 0) = false := by simp; omega
    have t5 : decide ((262144 : Int) ≤ (j : Int)) = false := by simp; omega
    have u1 : IntKind.i64.wrap ((j : Int) + 1) = (j : Int) + 1 := IntWalk.i64_in _ (by omega)
    have u2 : IntKind.i64.wrap ((j : Int) + 2) = (j : Int) + 2 := IntWalk.i64_in _ (by omega)
    have u3 : IntKind.i64.wrap ((j : Int) + 3) = (j : Int) + 3 := IntWalk.i64_in _ (by omega)
    have i0 : (j : Int) < 262144 := by omega
    have i1 : (j : Int) + 1 < 262144 := by omega
    have i2 : (j : Int) + 2 < 262144 := by omega
    have i3 : (j : Int) + 3 < 262144 := by omega
    have t3 : (0 : Int) ≤ (j : Int) := by omega
    rw [HO.out, HP.out, HM.out]
    clear h h0 hk hj
    generalize M j = v0 at *
    generalize M (j + 1) = v1 at *
    generalize M (j + 2) = v2 at *
    generalize M (j + 3) = v3 at *
    go_enter Try.func20, Try.ntmps20
    go_wp2_with fail
    go_quiet (fail)
    go_wp2_with fail
    have z0 := H0.out
    have z1 := H1.out
    have z2 := H2.out
    have z3 := H3.out
    refine bodyPost_ret (v := .tuple #[.int .u32 ((v0 + 256 * v1 + 65536 * v2 + 16777216 * v3 : Nat) : Int), .bool true]) (by simp only [results, Try.f20]; simp [go_sem]; omega) rfl ?_
    exact ⟨rfl, drewN_upd _ _⟩
  · have HO := Lib.hid (show okWd k = false by simp [okWd]; omega)
    have HP := Lib.hid (show wdP M k = 0 by simp [wdP, HO.out])
    rw [HO.out, HP.out]
    by_cases h1 : k < 0
    · have t0 : decide (k < 0) = true := by simp; omega
      clear h h0 hk h1
      go_enter Try.func20, Try.ntmps20
      go_wp2_with fail
      refine bodyPost_ret (v := .tuple #[.int .u32 0, .bool false]) (by simp only [results, Try.f20]; simp [go_sem]) rfl ?_
      exact ⟨rfl, Upd.refl _ _⟩
    have t0 : decide (k < 0) = false := by simp; omega
    by_cases h2 : k % 4 = 0
    · have t1 : (k % 4 != 0) = false := by simp; omega
      have t1' : (k.tmod 4 != 0) = false := by rw [Int.tmod_eq_emod_of_nonneg (by omega)]; exact t1
      have t5 : decide ((262144 : Int) ≤ k) = true := by simp; omega
      clear h h0 hk h1 h2
      go_enter Try.func20, Try.ntmps20
      go_wp2_with fail
      refine bodyPost_ret (v := .tuple #[.int .u32 0, .bool false]) (by simp only [results, Try.f20]; simp [go_sem]) rfl ?_
      exact ⟨rfl, Upd.refl _ _⟩
    · have t1 : (k % 4 != 0) = true := by simp; omega
      have t1' : (k.tmod 4 != 0) = true := by rw [Int.tmod_eq_emod_of_nonneg (by omega)]; exact t1
      clear h h0 hk h1 h2
      go_enter Try.func20, Try.ntmps20
      go_wp2_with fail
      refine bodyPost_ret (v := .tuple #[.int .u32 0, .bool false]) (by simp only [results, Try.f20]; simp [go_sem]) rfl ?_
      exact ⟨rfl, Upd.refl _ _⟩
end
end Go.Proofs.Ytplialeggcaplaa

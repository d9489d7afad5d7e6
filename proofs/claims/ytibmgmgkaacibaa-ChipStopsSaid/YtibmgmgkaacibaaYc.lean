/- Package mem: Half, Word, SetWord. -/
import Derived.Test.YtibmgmgkaacibaaYb
import Derived.Laws.BitsLemmas
namespace Go.Proofs.Ytibmgmgkaacibaa
open Go.RowKit Go.ChangeShapes Go.WideShapes Go.Deep
set_option linter.unusedVariables false
set_option linter.unusedSimpArgs false
theorem mw16 (n : Int) (h0 : 0 ≤ n) (h1 : n < 2 ^ 16) : IntKind.u16.wrap n = n := by rw [IntKind.wrap_u16]; omega
theorem mw32 (n : Int) (h0 : 0 ≤ n) (h1 : n < 2 ^ 32) : IntKind.u32.wrap n = n := by rw [IntKind.wrap_u32]; omega
theorem mor16 (a b : Nat) (ha : a < 256) (hb : b < 256) : bits .or .u16 (IntKind.u16.wrap (a : Int)) (IntKind.u16.wrap (IntKind.u16.wrap (b : Int) * 256)) = ((a + 256 * b : Nat) : Int) := by
  rw [mw16 _ (by omega) (by omega), mw16 (b : Int) (by omega) (by omega), mw16 _ (by omega) (by omega), show ((b : Int) * 256) = ((b * 256 : Nat) : Int) by omega, (bits_nat .u16 16 (by decide) mw16 a (b * 256) (by omega) (by omega)).2, or_half a b ha hb]
theorem mor32 (a b c d : Nat) (ha : a < 256) (hb : b < 256) (hc : c < 256) (hd : d < 256) : bits .or .u32 (bits .or .u32 (bits .or .u32 (IntKind.u32.wrap (a : Int)) (IntKind.u32.wrap (IntKind.u32.wrap (b : Int) * 256))) (IntKind.u32.wrap (IntKind.u32.wrap (c : Int) * 65536))) (IntKind.u32.wrap (IntKind.u32.wrap (d : Int) * 16777216)) = ((a + 256 * b + 65536 * c + 16777216 * d : Nat) : Int) := by
  rw [mw32 (a : Int) (by omega) (by omega), mw32 (b : Int) (by omega) (by omega), mw32 (c : Int) (by omega) (by omega), mw32 (d : Int) (by omega) (by omega), mw32 _ (by omega) (by omega), mw32 _ (by omega) (by omega), mw32 _ (by omega) (by omega),
    show ((b : Int) * 256) = ((b * 256 : Nat) : Int) by omega, show ((c : Int) * 65536) = ((c * 65536 : Nat) : Int) by omega, show ((d : Int) * 16777216) = ((d * 16777216 : Nat) : Int) by omega]
  have e1 := (bits_nat .u32 32 (by decide) mw32 a (b * 256) (by omega) (by omega)).2
  have l1 : a ||| b * 256 < 2 ^ 32 := Nat.or_lt_two_pow (by omega) (by omega)
  have e2 := (bits_nat .u32 32 (by decide) mw32 (a ||| b * 256) (c * 65536) l1 (by omega)).2
  have l2 : (a ||| b * 256) ||| c * 65536 < 2 ^ 32 := Nat.or_lt_two_pow l1 (by omega)
  have e3 := (bits_nat .u32 32 (by decide) mw32 ((a ||| b * 256) ||| c * 65536) (d * 16777216) l2 (by omega)).2
  rw [e1, e2, e3, or_bytes a b c d ha hb hc hd]
theorem mor32' (a b c d : Nat) (ha : a < 256) (hb : b < 256) (hc : c < 256) (hd : d < 256) : bits .or .u32 (bits .or .u32 (bits .or .u32 ((a : Int) % 4294967296) ((b : Int) % 4294967296 * 256 % 4294967296)) ((c : Int) % 4294967296 * 65536 % 4294967296)) ((d : Int) % 4294967296 * 16777216 % 4294967296) = (a : Int) + 256 * b + 65536 * c + 16777216 * d := by
  have h := mor32 a b c d ha hb hc hd
  simp only [IntKind.wrap_u32] at h
  rw [h]; omega
theorem drewN_upd (w : World) (n : Nat) : Upd (fun _ => False) w (w.drewN n) := ⟨rfl, rfl, rfl, Nat.le_refl _, fun _ _ _ => rfl⟩
section
variable {w : World} {b g : Nat} {M : Nat → Nat}
set_option maxRecDepth 20000 in
theorem mHalf (h : Mm 72 w b g M) (k : Int) (hk : rng64 k) : Calls Try.prog 46 #[.pointer (some ⟨b, 0, none⟩), .int .i64 k] w fun r w' => r = .returned (.tuple #[.int .u16 (hfP M k), .bool (okHf k)]) ∧ Upd (fun _ => False) w w' := by
  have HH := Lib.hid (mHas h k 2 131072 hk (by omega))
  by_cases h0 : 0 ≤ k ∧ k < 131072 ∧ k % 2 = 0
  · obtain ⟨j, rfl⟩ := Int.eq_ofNat_of_zero_le h0.1
    have hj : j + 2 ≤ 131072 := by omega
    have HB := Lib.hid (show mhasP (j : Int) 2 131072 = true by simp [mhasP]; omega)
    have HO := Lib.hid (show okHf (j : Int) = true by simp [okHf]; omega)
    have HP := Lib.hid (show hfP M (j : Int) = ((halfM M j : Nat) : Int) by simp [hfP, HO.out])
    have hbx := h.bx
    have hc0 := h.cell j (by omega)
    have H0 := Lib.hid (h.ok j)
    have hc1 := h.cell (j + 1) (by omega)
    have H1 := Lib.hid (h.ok (j + 1))
    have HM := Lib.hid (show halfM M j = M j + 256 * M (j + 1) from rfl)
    have t1 : (((j : Int) % 2) != 0) = false := by simp; omega
    have t2 : IntKind.i64.wrap ((j : Int) + 2) = (j : Int) + 2 := IntWalk.i64_in _ (by omega)
    have t3 : (0 : Int) ≤ (j : Int) := by omega
    have t4 : (j : Int) + 2 ≤ 262144 := by omega
    rw [HO.out, HP.out, HM.out]
    clear h h0 hk hj
    generalize M j = v0 at *
    generalize M (j + 1) = v1 at *
    go_enter Try.func46, Try.ntmps46
    go_wp2_with (refine HH.out.mono ?_; rw [HB.out]; rintro r w' ⟨rfl, rfl⟩)
    go_quiet (fail)
    go_wp2_with fail
    refine bodyPost_ret (v := .tuple #[.int .u16 ((v0 + 256 * v1 : Nat) : Int), .bool true]) (by simp only [results, Try.f46]; simp [go_sem, mor16 v0 v1 H0.out H1.out]) rfl ?_
    exact ⟨rfl, drewN_upd _ _⟩
  · have HO := Lib.hid (show okHf k = false by simp [okHf]; omega)
    have HP := Lib.hid (show hfP M k = 0 by simp [hfP, HO.out])
    rw [HO.out, HP.out]
    by_cases h1 : k.tmod 2 = 0
    · have t1 : (k.tmod 2 != 0) = false := by simp [h1]
      have HB := Lib.hid (show mhasP k 2 131072 = false by
        by_cases hn : 0 ≤ k
        · rw [Int.tmod_eq_emod_of_nonneg hn] at h1; simp [mhasP]; omega
        · simp [mhasP]; omega)
      clear h h0 hk h1
      go_enter Try.func46, Try.ntmps46
      go_wp2_with (refine HH.out.mono ?_; rw [HB.out]; rintro r w' ⟨rfl, rfl⟩)
      refine bodyPost_ret (v := .tuple #[.int .u16 0, .bool false]) (by simp only [results, Try.f46]; simp [go_sem]) rfl ?_
      exact ⟨rfl, Upd.refl _ _⟩
    · have t1 : (k.tmod 2 != 0) = true := by simp [h1]
      clear h h0 hk h1 HH
      go_enter Try.func46, Try.ntmps46
      go_wp2_with fail
      refine bodyPost_ret (v := .tuple #[.int .u16 0, .bool false]) (by simp only [results, Try.f46]; simp [go_sem]) rfl ?_
      exact ⟨rfl, Upd.refl _ _⟩
set_option maxRecDepth 20000 in
theorem mWord (h : Mm 72 w b g M) (k : Int) (hk : rng64 k) : Calls Try.prog 23 #[.pointer (some ⟨b, 0, none⟩), .int .i64 k] w fun r w' => r = .returned (.tuple #[.int .u32 (wdP M k), .bool (okWd k)]) ∧ Upd (fun _ => False) w w' := by
  have HH := Lib.hid (mHas h k 4 262144 hk (by omega))
  by_cases h0 : 0 ≤ k ∧ k < 262144 ∧ k % 4 = 0
  · obtain ⟨j, rfl⟩ := Int.eq_ofNat_of_zero_le h0.1
    have hj : j + 4 ≤ 262144 := by omega
    have HB := Lib.hid (show mhasP (j : Int) 4 262144 = true by simp [mhasP]; omega)
    have HO := Lib.hid (show okWd (j : Int) = true by simp [okWd]; omega)
    have HP := Lib.hid (show wdP M (j : Int) = ((wordM M j : Nat) : Int) by simp [wdP, HO.out])
    have hbx := h.bx
    have hc0 := h.cell j (by omega)
    have H0 := Lib.hid (h.ok j)
    have hc1 := h.cell (j + 1) (by omega)
    have H1 := Lib.hid (h.ok (j + 1))
    have hc2 := h.cell (j + 2) (by omega)
    have H2 := Lib.hid (h.ok (j + 2))
    have hc3 := h.cell (j + 3) (by omega)
    have H3 := Lib.hid (h.ok (j + 3))
    have HM := Lib.hid (show wordM M j = M j + 256 * M (j + 1) + 65536 * M (j + 2) + 16777216 * M (j + 3) from rfl)
    have t1 : (((j : Int) % 4) != 0) = false := by simp; omega
    have t2 : IntKind.i64.wrap ((j : Int) + 4) = (j : Int) + 4 := IntWalk.i64_in _ (by omega)
    have t3 : (0 : Int) ≤ (j : Int) := by omega
    have t4 : (j : Int) + 4 ≤ 262144 := by omega
    rw [HO.out, HP.out, HM.out]
    clear h h0 hk hj
    generalize M j = v0 at *
    generalize M (j + 1) = v1 at *
    generalize M (j + 2) = v2 at *
    generalize M (j + 3) = v3 at *
    go_enter Try.func23, Try.ntmps23
    go_wp2_with (refine HH.out.mono ?_; rw [HB.out]; rintro r w' ⟨rfl, rfl⟩)
    go_quiet (fail)
    go_wp2_with fail
    refine bodyPost_ret (v := .tuple #[.int .u32 ((v0 + 256 * v1 + 65536 * v2 + 16777216 * v3 : Nat) : Int), .bool true]) (by simp only [results, Try.f23]; simp [go_sem, mor32' v0 v1 v2 v3 H0.out H1.out H2.out H3.out]) rfl ?_
    exact ⟨rfl, drewN_upd _ _⟩
  · have HO := Lib.hid (show okWd k = false by simp [okWd]; omega)
    have HP := Lib.hid (show wdP M k = 0 by simp [wdP, HO.out])
    rw [HO.out, HP.out]
    by_cases h1 : k.tmod 4 = 0
    · have t1 : (k.tmod 4 != 0) = false := by simp [h1]
      have HB := Lib.hid (show mhasP k 4 262144 = false by
        by_cases hn : 0 ≤ k
        · rw [Int.tmod_eq_emod_of_nonneg hn] at h1; simp [mhasP]; omega
        · simp [mhasP]; omega)
      clear h h0 hk h1
      go_enter Try.func23, Try.ntmps23
      go_wp2_with (refine HH.out.mono ?_; rw [HB.out]; rintro r w' ⟨rfl, rfl⟩)
      refine bodyPost_ret (v := .tuple #[.int .u32 0, .bool false]) (by simp only [results, Try.f23]; simp [go_sem]) rfl ?_
      exact ⟨rfl, Upd.refl _ _⟩
    · have t1 : (k.tmod 4 != 0) = true := by simp [h1]
      clear h h0 hk h1 HH
      go_enter Try.func23, Try.ntmps23
      go_wp2_with fail
      refine bodyPost_ret (v := .tuple #[.int .u32 0, .bool false]) (by simp only [results, Try.f23]; simp [go_sem]) rfl ?_
      exact ⟨rfl, Upd.refl _ _⟩
set_option maxRecDepth 20000 in
theorem mSetWord (h : Mm 72 w b g M) (k : Int) (hk : rng64 k) (n : Nat) (hn : n < 4294967296) : Calls Try.prog 92 #[.pointer (some ⟨b, 0, none⟩), .int .i64 k, .int .u32 (n : Int)] w fun r w' => r = .returned (.bool (okSw k)) ∧ Mm 72 w' b g (swM M k n) ∧ Upd (fun q => q = g) w w' := by
  have HH := Lib.hid (mHas h k 4 262144 hk (by omega))
  by_cases h0 : 131072 ≤ k ∧ k < 262144 ∧ k % 4 = 0
  · obtain ⟨j, rfl⟩ := Int.eq_ofNat_of_zero_le (by omega : 0 ≤ k)
    have hj : j + 4 ≤ 262144 := by omega
    have HB := Lib.hid (show mhasP (j : Int) 4 262144 = true by simp [mhasP]; omega)
    have HO := Lib.hid (show okSw (j : Int) = true by simp [okSw]; omega)
    have HP := Lib.hid (show swM M (j : Int) n = setWM M j n by simp [swM, HO.out])
    have hbx := h.bx
    have hc0 := h.cell j (by omega)
    have hc1 := h.cell (j + 1) (by omega)
    have hc2 := h.cell (j + 2) (by omega)
    have hc3 := h.cell (j + 3) (by omega)
    have hf0 := h.fz j
    have hf1 := h.fz (j + 1)
    have hf2 := h.fz (j + 2)
    have hf3 := h.fz (j + 3)
    have HM := Lib.hid (show Mm 72 ((((w.setCell ⟨g, j, none⟩ (.int .u8 ((n % 256 : Nat) : Int))).setCell ⟨g, j + 1, none⟩ (.int .u8 ((n / 256 % 256 : Nat) : Int))).setCell ⟨g, j + 2, none⟩ (.int .u8 ((n / 65536 % 256 : Nat) : Int))).setCell ⟨g, j + 3, none⟩ (.int .u8 ((n / 16777216 % 256 : Nat) : Int))) b g (setWM M j n) from
      (((h.set j (by omega) (v := n % 256) (by omega)).set (j + 1) (by omega) (v := n / 256 % 256) (by omega)).set (j + 2) (by omega) (v := n / 65536 % 256) (by omega)).set (j + 3) (by omega) (v := n / 16777216 % 256) (by omega))
    have HU := Lib.hid (show Upd (fun q => q = g) w ((((w.setCell ⟨g, j, none⟩ (.int .u8 ((n % 256 : Nat) : Int))).setCell ⟨g, j + 1, none⟩ (.int .u8 ((n / 256 % 256 : Nat) : Int))).setCell ⟨g, j + 2, none⟩ (.int .u8 ((n / 65536 % 256 : Nat) : Int))).setCell ⟨g, j + 3, none⟩ (.int .u8 ((n / 16777216 % 256 : Nat) : Int))) from
      (((Mm.setU w b g j _).trans (Mm.setU _ b g (j + 1) _) (fun _ h _ => h)).trans (Mm.setU _ b g (j + 2) _) (fun _ h _ => h)).trans (Mm.setU _ b g (j + 3) _) (fun _ h _ => h))
    have t0 : decide ((j : Int) < 131072) = false := by simp; omega
    have t1 : (((j : Int) % 4) != 0) = false := by simp; omega
    have t2 : IntKind.i64.wrap ((j : Int) + 4) = (j : Int) + 4 := IntWalk.i64_in _ (by omega)
    have t3 : (0 : Int) ≤ (j : Int) := by omega
    have t4 : (j : Int) + 4 ≤ 262144 := by omega
    have e0 : IntKind.u8.wrap (n : Int) = ((n % 256 : Nat) : Int) := by rw [IntKind.wrap_u8]; omega
    have e1 : IntKind.u8.wrap ((n : Int) / 256) = ((n / 256 % 256 : Nat) : Int) := by rw [IntKind.wrap_u8]; omega
    have e2 : IntKind.u8.wrap ((n : Int) / 65536) = ((n / 65536 % 256 : Nat) : Int) := by rw [IntKind.wrap_u8]; omega
    have e3 : IntKind.u8.wrap ((n : Int) / 16777216) = ((n / 16777216 % 256 : Nat) : Int) := by rw [IntKind.wrap_u8]; omega
    rw [HO.out, HP.out]
    clear h h0 hk hj hn
    generalize M j = v0 at *
    generalize M (j + 1) = v1 at *
    generalize M (j + 2) = v2 at *
    generalize M (j + 3) = v3 at *
    generalize n % 256 = y0 at *
    generalize n / 256 % 256 = y1 at *
    generalize n / 65536 % 256 = y2 at *
    generalize n / 16777216 % 256 = y3 at *
    go_enter Try.func92, Try.ntmps92
    go_wp2_with (refine HH.out.mono ?_; rw [HB.out]; rintro r w' ⟨rfl, rfl⟩)
    go_ret
    exact ⟨rfl, HM.out, HU.out⟩
  · have HO := Lib.hid (show okSw k = false by simp [okSw]; omega)
    have HP := Lib.hid (show swM M k n = M by simp [swM, HO.out])
    have HM := Lib.hid h
    rw [HO.out, HP.out]
    by_cases hc : k < 131072
    · have t0 : decide (k < 131072) = true := by simp; omega
      clear h h0 hk hc HH
      go_enter Try.func92, Try.ntmps92
      go_wp2_with fail
      go_ret
      exact ⟨rfl, HM.out, Upd.refl _ _⟩
    · have t0 : decide (k < 131072) = false := by simp; omega
      by_cases h1 : k.tmod 4 = 0
      · have t1 : (k.tmod 4 != 0) = false := by simp [h1]
        have HB := Lib.hid (show mhasP k 4 262144 = false by rw [Int.tmod_eq_emod_of_nonneg (by omega)] at h1; simp [mhasP]; omega)
        clear h h0 hk h1 hc
        go_enter Try.func92, Try.ntmps92
        go_wp2_with (refine HH.out.mono ?_; rw [HB.out]; rintro r w' ⟨rfl, rfl⟩)
        go_ret
        exact ⟨rfl, HM.out, Upd.refl _ _⟩
      · have t1 : (k.tmod 4 != 0) = true := by simp [h1]
        clear h h0 hk h1 HH hc
        go_enter Try.func92, Try.ntmps92
        go_wp2_with fail
        go_ret
        exact ⟨rfl, HM.out, Upd.refl _ _⟩
end
end Go.Proofs.Ytibmgmgkaacibaa

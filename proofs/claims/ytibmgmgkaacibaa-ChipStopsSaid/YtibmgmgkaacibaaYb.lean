/- Package mem: New, has, Byte, SetByte; the same of the reference's. -/
import Derived.Test.YtibmgmgkaacibaaYa
import Derived.WalkKit
import Derived.WalkSpells
import Derived.Deep.RegionLaw
import Derived.Deep.QuietTactic
namespace Go.Proofs.Ytibmgmgkaacibaa
open Go.RowKit Go.ChangeShapes Go.WideShapes Go.Deep
set_option linter.unusedVariables false
set_option linter.unusedSimpArgs false

theorem mNew (w : World) : Calls Try.prog 9 #[] w fun e w' => e = .returned (.pointer (some ⟨w.heap.size + 1, 0, none⟩)) ∧ Mm 72 w' (w.heap.size + 1) w.heap.size (fun _ => 0) ∧ Upd (fun _ => False) w w' := by
  have hmk := make_262144
  have HN := Lib.hid (mm_new 72 w)
  have HU := Lib.hid ((Upd.alloc (fun _ => False) w (.cells (zeroC 262144) 5)).trans (Upd.alloc (fun _ => False) _ (.cells #[.slice (some ⟨w.heap.size, 0, none⟩) 262144 262144] 72)) (fun _ h _ => h))
  go_enter Try.func9, Try.ntmps9
  go_wp2
  go_ret
  exact ⟨rfl, HN.out, HU.out⟩
theorem qNewM (w : World) : Calls Try.prog 13 #[] w fun e w' => e = .returned (.pointer (some ⟨w.heap.size + 1, 0, none⟩)) ∧ Mm 76 w' (w.heap.size + 1) w.heap.size (fun _ => 0) ∧ Upd (fun _ => False) w w' := by
  have hmk := make_262144
  have HN := Lib.hid (mm_new 76 w)
  have HU := Lib.hid ((Upd.alloc (fun _ => False) w (.cells (zeroC 262144) 5)).trans (Upd.alloc (fun _ => False) _ (.cells #[.slice (some ⟨w.heap.size, 0, none⟩) 262144 262144] 76)) (fun _ h _ => h))
  go_enter Try.func13, Try.ntmps13
  go_wp2
  go_ret
  exact ⟨rfl, HN.out, HU.out⟩

theorem mRet {a b : Bool} (h : a = b) : Ending.returned (.bool a) = Ending.returned (.bool b) := by rw [h]
section
variable {w : World} {b g : Nat} {M : Nat → Nat}
theorem mHas (h : Mm 72 w b g M) (k n e : Int) (hk : rng64 k) (he : 0 ≤ e ∧ e ≤ 262144) : Calls Try.prog 31 #[.pointer (some ⟨b, 0, none⟩), .int .i64 k, .int .i64 n, .int .i64 e] w fun r w' => r = .returned (.bool (mhasP k n e)) ∧ w = w' := by
  have hbx := h.bx
  have HK := Lib.hid hk
  have t1 : decide (e ≤ 262144) = true := by simp; omega
  clear h
  by_cases h0 : k < 0
  · have t2 : decide (0 ≤ k) = false := by simp; omega
    have HN := Lib.hid (show mhasP k n e = false by simp [mhasP, t2])
    clear hk he h0
    go_enter Try.func31, Try.ntmps31
    go_wp2
    go_ret
    exact ⟨mRet HN.out.symm, rfl⟩
  · have t2 : decide (0 ≤ k) = true := by simp; omega
    have hw : IntKind.i64.wrap (e - k) = e - k := IntWalk.i64_in _ (by unfold rng64 at hk; omega)
    have HN := Lib.hid (show mhasP k n e = decide (n ≤ e - k) by simp [mhasP, t2])
    clear hk he h0
    go_enter Try.func31, Try.ntmps31
    go_wp2
    go_ret
    exact ⟨mRet HN.out.symm, rfl⟩
set_option maxRecDepth 20000 in
theorem mByte (h : Mm 72 w b g M) (k : Int) (hk : rng64 k) : Calls Try.prog 91 #[.pointer (some ⟨b, 0, none⟩), .int .i64 k] w fun r w' => r = .returned (.tuple #[.int .u8 (byP M k), .bool (okBy k)]) ∧ w = w' := by
  have HH := Lib.hid (mHas h k 1 262144 hk (by omega))
  by_cases h0 : 0 ≤ k ∧ k < 262144
  · obtain ⟨j, rfl⟩ := Int.eq_ofNat_of_zero_le h0.1
    have hj : j < 262144 := by omega
    have HB := Lib.hid (show mhasP (j : Int) 1 262144 = true by simp [mhasP]; omega)
    have HO := Lib.hid (show okBy (j : Int) = true by simp [okBy]; omega)
    have HP := Lib.hid (show byP M (j : Int) = ((M j : Nat) : Int) by simp [byP, HO.out])
    have hbx := h.bx
    have hc := h.cell j hj
    clear h h0 hk
    rw [HO.out, HP.out]
    generalize M j = v at *
    go_enter Try.func91, Try.ntmps91
    go_wp2_with (refine HH.out.mono ?_; rw [HB.out]; rintro r w' ⟨rfl, rfl⟩)
    all_goals first
      | (refine bodyPost_ret (v := .tuple #[.int .u8 v, .bool true]) (by simp only [results, Try.f91]; simp [go_sem]) rfl ?_; exact ⟨rfl, rfl⟩)
      | (exfalso; omega)
  · have HB := Lib.hid (show mhasP k 1 262144 = false by simp [mhasP]; omega)
    have HO := Lib.hid (show okBy k = false by simp [okBy]; omega)
    have HP := Lib.hid (show byP M k = 0 by simp [byP, HO.out])
    rw [HO.out, HP.out]
    clear h h0 hk
    go_enter Try.func91, Try.ntmps91
    go_wp2_with (refine HH.out.mono ?_; rw [HB.out]; rintro r w' ⟨rfl, rfl⟩)
    refine bodyPost_ret (v := .tuple #[.int .u8 0, .bool false]) (by simp only [results, Try.f91]; simp [go_sem]) rfl ?_
    exact ⟨rfl, rfl⟩
set_option maxRecDepth 20000 in
theorem mSetByte (h : Mm 72 w b g M) (k : Int) (hk : rng64 k) (v : Nat) (hv : v < 256) : Calls Try.prog 93 #[.pointer (some ⟨b, 0, none⟩), .int .i64 k, .int .u8 (v : Int)] w fun r w' => r = .returned (.bool (okSb k)) ∧ Mm 72 w' b g (sbM M k v) ∧ Upd (fun q => q = g) w w' := by
  have HH := Lib.hid (mHas h k 1 262144 hk (by omega))
  by_cases h0 : 131072 ≤ k ∧ k < 262144
  · obtain ⟨j, rfl⟩ := Int.eq_ofNat_of_zero_le (by omega : 0 ≤ k)
    have hj : j < 262144 := by omega
    have t1 : decide ((j : Int) < 131072) = false := by simp; omega
    have HB := Lib.hid (show mhasP (j : Int) 1 262144 = true by simp [mhasP]; omega)
    have HO := Lib.hid (show okSb (j : Int) = true by simp [okSb]; omega)
    have HP := Lib.hid (show sbM M (j : Int) v = setM M j v by simp [sbM, HO.out])
    have hbx := h.bx
    have hc := h.cell j hj
    have hf := h.fz j
    have HM := Lib.hid (h.set j hj hv)
    have HU := Lib.hid (Mm.setU w b g j (.int .u8 ((v : Nat) : Int)))
    clear h h0 hk
    rw [HO.out, HP.out]
    generalize M j = v0 at *
    go_enter Try.func93, Try.ntmps93
    go_wp2_with (refine HH.out.mono ?_; rw [HB.out]; rintro r w' ⟨rfl, rfl⟩)
    all_goals first
      | (go_ret; exact ⟨rfl, HM.out, HU.out⟩)
      | (exfalso; omega)
  · have HO := Lib.hid (show okSb k = false by simp [okSb]; omega)
    have HP := Lib.hid (show sbM M k v = M by simp [sbM, HO.out])
    have HM := Lib.hid h
    rw [HO.out, HP.out]
    by_cases h1 : k < 131072
    · have t1 : decide (k < 131072) = true := by simp; omega
      clear h h0 hk h1
      go_enter Try.func93, Try.ntmps93
      go_wp2
      go_ret
      exact ⟨rfl, HM.out, Upd.refl _ _⟩
    · have t1 : decide (k < 131072) = false := by simp; omega
      have HB := Lib.hid (show mhasP k 1 262144 = false by simp [mhasP]; omega)
      clear h h0 hk h1
      go_enter Try.func93, Try.ntmps93
      go_wp2_with (refine HH.out.mono ?_; rw [HB.out]; rintro r w' ⟨rfl, rfl⟩)
      go_ret
      exact ⟨rfl, HM.out, Upd.refl _ _⟩
end
end Go.Proofs.Ytibmgmgkaacibaa

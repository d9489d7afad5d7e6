/- Load of both. -/
import Derived.Test.YtplialeggcaplaaYf
import Derived.Deep.RegionHeld3
namespace Go.Proofs.Ytplialeggcaplaa
open Go.RowKit Go.ChangeShapes Go.WideShapes Go.Deep
set_option linter.unusedVariables false
set_option linter.unusedSimpArgs false
section
variable {w : World} {b g : Nat} {M : Nat → Nat}
set_option maxRecDepth 20000 in
theorem mLoad (h : Mm 49 w b g M) (k : Int) (hk : rng64 k) (a : Option Addr) (c : Nat) (l : List Nat) (hv : VwM w (.slice a l.length c) l) (hap : l ≠ [] → ∀ q, (Value.slice a l.length c).ownBlock = some q → ¬ q = g) (hl : (l.length : Int) ≤ 4294967296) :
    Calls Try.prog 8 #[.pointer (some ⟨b, 0, none⟩), .int .i64 k, .slice a l.length c] w fun r w' => r = .returned (.bool (okLd k l.length)) ∧ Mm 49 w' b g (ldM M k l) ∧ Upd (fun q => q = g) w w' := by
  by_cases h0 : 0 ≤ k ∧ k % 2 = 0 ∧ k + 2 * (l.length : Int) ≤ 131072
  · obtain ⟨j, rfl⟩ := Int.eq_ofNat_of_zero_le (by omega : 0 ≤ k)
    have HO := Lib.hid (show okLd (j : Int) l.length = true by simp only [okLd, decide_eq_true_eq]; omega)
    have HP := Lib.hid (show ldM M (j : Int) l = loadM M j l by simp [ldM, HO.out])
    rw [HO.out, HP.out]
    exact mLoad_yes h j a c l hv hap (by omega) (by omega)
  · have HO := Lib.hid (show okLd k l.length = false by simp only [okLd, decide_eq_false_iff_not]; omega)
    have HP := Lib.hid (show ldM M k l = M by simp [ldM, HO.out])
    have HM := Lib.hid h
    have HH := Lib.hid (mHas h k (2 * (l.length : Int)) 131072 hk (by omega))
    have t2 : IntKind.i64.wrap (2 * (l.length : Int)) = 2 * (l.length : Int) := IntWalk.i64_in _ (by omega)
    rw [HO.out, HP.out]
    by_cases h1 : k.tmod 2 = 0
    · have t1 : (k.tmod 2 != 0) = false := by simp [h1]
      have HB := Lib.hid (show hasP k (2 * (l.length : Int)) 131072 = false by
        by_cases hn : 0 ≤ k
        · rw [Int.tmod_eq_emod_of_nonneg hn] at h1; simp [hasP]; omega
        · simp [hasP]; omega)
      clear h h0 hk h1 hv hap hl
      generalize l.length = n at *
      go_enter Try.func8, Try.ntmps8
      go_wp2_with (refine HH.out.mono ?_; rw [HB.out]; rintro r w' ⟨rfl, rfl⟩)
      go_ret
      exact ⟨rfl, HM.out, Upd.refl _ _⟩
    · have t1 : (k.tmod 2 != 0) = true := by simp [h1]
      clear h h0 hk h1 hv hap hl HH
      generalize l.length = n at *
      go_enter Try.func8, Try.ntmps8
      go_wp2_with fail
      go_ret
      exact ⟨rfl, HM.out, Upd.refl _ _⟩
set_option maxRecDepth 20000 in
set_option maxHeartbeats 1000000 in
theorem qLoad_yes (h : Mm 52 w b g M) (j : Nat) (a : Option Addr) (c : Nat) (l : List Nat) (hv : VwM w (.slice a l.length c) l) (hap : l ≠ [] → ∀ q, (Value.slice a l.length c).ownBlock = some q → ¬ q = g) (hj2 : j % 2 = 0) (hj : j + 2 * l.length ≤ 131072) :
    Calls Try.prog 17 #[.pointer (some ⟨b, 0, none⟩), .int .i64 j, .slice a l.length c] w fun r w' => r = .returned (.bool true) ∧ Mm 52 w' b g (loadM M j l) ∧ Upd (fun q => q = g) w w' := by
  have HM := Lib.hid h
  have HV := Lib.hid hv
  have HA := Lib.hid hap
  have HJ := Lib.hid hj
  have HU := Lib.hid (Upd.refl (fun q => q = g) w)
  have t0 : decide ((j : Int) < 0) = false := decide_eq_false (by omega)
  have t1 : (((j : Int) % 2) != 0) = false := by simp; omega
  have t2 : decide ((131072 : Int) < (j : Int)) = false := decide_eq_false (by omega)
  have t3 : IntKind.i64.wrap (131072 - (j : Int)) = 131072 - (j : Int) := IntWalk.i64_in _ (by omega)
  obtain ⟨N, hN⟩ : ∃ N : Int, N = (131072 - (j : Int)) / 2 := ⟨_, rfl⟩
  have t4 : (131072 - (j : Int)).tdiv 2 = N := by rw [Int.tdiv_eq_ediv_of_nonneg (by omega)]; exact hN.symm
  have t4' : (131072 - (j : Int)) / 2 = N := hN.symm
  have t6 : IntKind.i64.wrap N = N := IntWalk.i64_in _ (by omega)
  have t5 : decide (N < (l.length : Int)) = false := decide_eq_false (by omega)
  clear h hv hap hj hj2 hN
  go_enter Try.func17, Try.ntmps17
  go_wp2_with fail
  go_loopw [7] (fun t wr => ∃ i : Nat, i ≤ l.length ∧ t = .int .i64 i ∧ Hid (Mm 52 wr b g (loadM M j (l.take i))) ∧ Hid (Upd (fun q => q = g) w wr)) (fun t _ => l.length - (intOf t).toNat)
  case atStart => exact ⟨0, Nat.zero_le _, rfl, HM, HU⟩
  case round =>
    obtain ⟨i, hi, rfl, HM2, HU2⟩ := hrel
    by_cases hlt : i < l.length
    · obtain ⟨g2, off, c2, hv2, hc⟩ := HV.out.at hlt
      have hne := HA.out (List.ne_nil_of_length_pos (by omega))
      simp only [Value.slice.injEq] at hv2
      obtain ⟨rfl, -, rfl⟩ := hv2
      have hb2 := World.block_lt_of_cell? w _ hc
      have hgb : ¬ b = g := HM2.out.ne
      have HS : Hid (∀ u, Upd (fun q => q = g) wr u → u.cell? ⟨b, 0, none⟩ = some (.slice (some ⟨g, 0, none⟩) 262144 262144) ∧ u.cell? ⟨g2, off + i, none⟩ = some (.int .u16 ((l.getD i 0 : Nat) : Int))) := Lib.hid (fun u hu =>
        ⟨(hu.cell (p := ⟨b, 0, none⟩) HM2.out.lt.1 hgb).trans HM2.out.bx, (hu.cell (p := ⟨g2, off + i, none⟩) (Nat.lt_of_lt_of_le hb2 HU2.out.size) (hne g2 rfl)).trans ((HU2.out.cell (p := ⟨g2, off + i, none⟩) hb2 (hne g2 rfl)).trans hc)⟩)
      have hx := VwM.get HV.out.1 hlt
      have hJ := HJ.out
      have hS := Lib.hid (loadM_take M j l i hlt)
      have hm := HM2.out
      have c0 := hm.cell (j + 2 * i) (by omega)
      have f0 := hm.fz (j + 2 * i)
      have hm1 := hm.set (j + 2 * i) (by omega) (v := l.getD i 0 % 256) (by omega)
      have c1 := hm1.cell (j + 2 * i + 1) (by omega)
      have f1 := hm1.fz (j + 2 * i + 1)
      have HM3 := Lib.hid (((hm1.set (j + 2 * i + 1) (by omega) (v := l.getD i 0 / 256 % 256) (by omega)).upd (Upd.drew (fun _ => False) _) (fun h => h) (fun h => h)).upd (Upd.drew (fun _ => False) _) (fun h => h) (fun h => h))
      have HR0 := Lib.hid (Upd.drew (fun q => q = g) wr)
      have hs1 := Mm.setU wr b g (j + 2 * i) (.int .u8 ((l.getD i 0 % 256 : Nat) : Int))
      have HR1 := Lib.hid (hs1.trans (Upd.drew (fun q => q = g) _) (fun _ h _ => h))
      have HR2 := Lib.hid (HR1.out.trans (Upd.drew (fun q => q = g) _) (fun _ h _ => h))
      have HR3 := Lib.hid (((hs1.trans (Mm.setU _ b g (j + 2 * i + 1) (.int .u8 ((l.getD i 0 / 256 % 256 : Nat) : Int))) (fun _ h _ => h)).trans (Upd.drew (fun q => q = g) _) (fun _ h _ => h)).trans (Upd.drew (fun q => q = g) _) (fun _ h _ => h))
      have HU3 := Lib.hid (HU2.out.trans HR3.out (fun _ h _ => h))
      have HS2 : Hid (setM (setM (loadM M j (l.take i)) (j + 2 * i) (l.getD i 0 % 256)) (j + 2 * i + 1) (l.getD i 0 / 256 % 256) = loadM M j (l.take (i + 1))) := Lib.hid (by rw [hS.out]; rfl)
      generalize loadM M j (l.take i) (j + 2 * i) = v0 at *
      generalize setM (loadM M j (l.take i)) (j + 2 * i) (l.getD i 0 % 256) (j + 2 * i + 1) = v1 at *
      have e0 : IntKind.u8.wrap ((l.getD i 0 : Nat) : Int) = ((l.getD i 0 % 256 : Nat) : Int) := by rw [IntKind.wrap_u8]; omega
      have e1 : IntKind.u8.wrap (((l.getD i 0 : Nat) : Int) / 256) = ((l.getD i 0 / 256 % 256 : Nat) : Int) := by rw [IntKind.wrap_u8]; omega
      generalize l.getD i 0 % 256 = y0 at *
      generalize l.getD i 0 / 256 % 256 = y1 at *
      generalize l.getD i 0 = y at *
      have w1 : IntKind.i64.wrap (2 * (i : Int)) = 2 * (i : Int) := IntWalk.i64_in _ (by omega)
      have w2 : IntKind.i64.wrap ((j : Int) + 2 * (i : Int)) = ((j + 2 * i : Nat) : Int) := by rw [IntWalk.i64_in _ (by omega)]; omega
      have w3 : IntKind.i64.wrap (((j + 2 * i : Nat) : Int) + 1) = ((j + 2 * i + 1 : Nat) : Int) := by rw [IntWalk.i64_in _ (by omega)]; omega
      have b1 : ((j + 2 * i : Nat) : Int) < 262144 := by omega
      have b2 : ((j + 2 * i + 1 : Nat) : Int) < 262144 := by omega
      have b3 : (i : Int) < (l.length : Int) := by omega
      generalize j + 2 * i + 1 = p1 at *
      generalize j + 2 * i = p0 at *
      have HW := Lib.hid (show wrap64 ((i : Int) + 1) = ((i + 1 : Nat) : Int) by unfold wrap64; omega)
      clear hx hJ hm hm1 hs1 hc hne hb2 hgb
      go_wp2_with fail
      go_region_held3 (fun u => u.cell? ⟨b, 0, none⟩ = some (.slice (some ⟨g, 0, none⟩) 262144 262144) ∧ u.cell? ⟨g2, off + i, none⟩ = some (.int .u16 (y : Int))) (first
        | with_reducible exact HS.out _ HR0.out
        | with_reducible exact HS.out _ HR1.out) (fail)
      go_wp2_with fail
      go_region_held3 (fun u => u.cell? ⟨b, 0, none⟩ = some (.slice (some ⟨g, 0, none⟩) 262144 262144) ∧ u.cell? ⟨g2, off + i, none⟩ = some (.int .u16 (y : Int))) (first
        | with_reducible exact HS.out _ HR2.out
        | with_reducible exact HS.out _ HR3.out) (fail)
      go_wp2_with fail
      go_roundw
      case rel => exact ⟨i + 1, by omega, by rw [HW.out], Lib.hid (by rw [← HS2.out]; exact HM3.out), HU3⟩
      case measure => rw [HW.out]; exact loop_less hlt
    · have he : i = l.length := by omega
      have HE := Lib.hid (show loadM M j (l.take i) = loadM M j l by rw [he, List.take_length])
      have b3 : ¬ (i : Int) < (l.length : Int) := by omega
      go_wp2_with fail
      go_ret
      exact ⟨rfl, by rw [← HE.out]; exact HM2.out, HU2.out⟩
set_option maxRecDepth 20000 in
theorem qLoad (h : Mm 52 w b g M) (k : Int) (hk : rng64 k) (a : Option Addr) (c : Nat) (l : List Nat) (hv : VwM w (.slice a l.length c) l) (hap : l ≠ [] → ∀ q, (Value.slice a l.length c).ownBlock = some q → ¬ q = g) (hl : (l.length : Int) ≤ 4294967296) :
    Calls Try.prog 17 #[.pointer (some ⟨b, 0, none⟩), .int .i64 k, .slice a l.length c] w fun r w' => r = .returned (.bool (okLd k l.length)) ∧ Mm 52 w' b g (ldM M k l) ∧ Upd (fun q => q = g) w w' := by
  by_cases h0 : 0 ≤ k ∧ k % 2 = 0 ∧ k + 2 * (l.length : Int) ≤ 131072
  · obtain ⟨j, rfl⟩ := Int.eq_ofNat_of_zero_le (by omega : 0 ≤ k)
    have HO := Lib.hid (show okLd (j : Int) l.length = true by simp only [okLd, decide_eq_true_eq]; omega)
    have HP := Lib.hid (show ldM M (j : Int) l = loadM M j l by simp [ldM, HO.out])
    rw [HO.out, HP.out]
    exact qLoad_yes h j a c l hv hap (by omega) (by omega)
  · have HO := Lib.hid (show okLd k l.length = false by simp only [okLd, decide_eq_false_iff_not]; omega)
    have HP := Lib.hid (show ldM M k l = M by simp [ldM, HO.out])
    have HM := Lib.hid h
    rw [HO.out, HP.out]
    by_cases h1 : k < 0
    · have t1 : decide (k < 0) = true := decide_eq_true h1
      clear h h0 hk h1 hv hap hl
      generalize l.length = n at *
      go_enter Try.func17, Try.ntmps17
      go_wp2_with fail
      go_ret
      exact ⟨rfl, HM.out, Upd.refl _ _⟩
    have t1 : decide (k < 0) = false := decide_eq_false h1
    by_cases h2 : k % 2 = 0
    · have t2 : (k.tmod 2 != 0) = false := by rw [Int.tmod_eq_emod_of_nonneg (by omega)]; simp; omega
      by_cases h3 : 131072 < k
      · have t3 : decide (131072 < k) = true := decide_eq_true h3
        clear h h0 hk h1 h2 h3 hv hap hl
        generalize l.length = n at *
        go_enter Try.func17, Try.ntmps17
        go_wp2_with fail
        go_ret
        exact ⟨rfl, HM.out, Upd.refl _ _⟩
      · have t3 : decide (131072 < k) = false := decide_eq_false h3
        have t4 : IntKind.i64.wrap (131072 - k) = 131072 - k := IntWalk.i64_in _ (by omega)
        have e4 : (131072 - k).tdiv 2 = (131072 - k) / 2 := Int.tdiv_eq_ediv_of_nonneg (by omega)
        have t5 : decide ((131072 - k).tdiv 2 < (l.length : Int)) = true := decide_eq_true (by rw [e4]; omega)
        have t6 : IntKind.i64.wrap ((131072 - k).tdiv 2) = (131072 - k).tdiv 2 := IntWalk.i64_in _ (by rw [e4]; omega)
        clear h h0 hk h1 h2 h3 hv hap hl e4
        generalize l.length = n at *
        go_enter Try.func17, Try.ntmps17
        go_wp2_with fail
        go_ret
        exact ⟨rfl, HM.out, Upd.refl _ _⟩
    · have t2 : (k.tmod 2 != 0) = true := by rw [Int.tmod_eq_emod_of_nonneg (by omega)]; simp; omega
      clear h h0 hk h1 h2 hv hap hl
      generalize l.length = n at *
      go_enter Try.func17, Try.ntmps17
      go_wp2_with fail
      go_ret
      exact ⟨rfl, HM.out, Upd.refl _ _⟩
end
end Go.Proofs.Ytplialeggcaplaa

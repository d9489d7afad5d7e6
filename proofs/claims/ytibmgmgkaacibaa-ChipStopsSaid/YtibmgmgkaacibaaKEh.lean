/- Several texts in one. -/
import Derived.Test.YtibmgmgkaacibaaKEf
import Derived.Deep.QuietTactic
import Derived.Test.YtibmgmgkaacibaaRl
/- Package chip: Push. -/
namespace Go.Proofs.Ytibmgmgkaacibaa
open Go.RowKit Go.ChangeShapes Go.WideShapes Go.Deep Go.IntWalk
set_option linter.unusedVariables false
set_option linter.unusedSimpArgs false
theorem setWM_same {M : Nat → Nat} (hM : MOk M) (k : Nat) : setWM M k (wordM M k) = M := by
  funext j
  have h0 := hM k; have h1 := hM (k + 1); have h2 := hM (k + 2); have h3 := hM (k + 3)
  unfold setWM setM wordM
  (repeat' split) <;> (subst_vars; omega)
theorem okSw_wd {k : Int} (h : okSw k = true) : okWd k = true := by
  unfold okSw at h; unfold okWd
  simp only [decide_eq_true_eq] at h ⊢; omega
section
variable {w w' : World} {b bm g : Nat} {x : Ch} {i : I6} {t_ c : Int} {M : Nat → Nat}
theorem sMay (h : Stp w b bm g i x t_ c M) (a : Int) (ha : rng64 a) : Calls Try.prog 96 #[.pointer (some ⟨b, 0, none⟩), .int .i64 a] w fun e w' => e = .returned (.bool (okSw a)) ∧ Stp w' b bm g i x t_ c M ∧ Upd (BG b g) w w' := by
  have h23 := h.sp.c23
  have HM := Lib.hid (mWord h.mm a ha)
  have H := Lib.hid h
  have HA := Lib.hid ha
  clear h ha
  cases hok : okWd a
  · have HF : Hid (okSw a = false) := Lib.hid (by
      cases h : okSw a
      · rfl
      · rw [okSw_wd h] at hok; exact hok)
    rw [hok] at HM
    clear hok
    go_enter Try.func96, Try.ntmps96
    go_wp2_with fail
    refine HM.out.mono ?_
    rintro e w1 ⟨rfl, hu⟩
    have H1 := Lib.hid (H.out.calm hu)
    have HU := Lib.hid (bg_n (b := b) (g := g) hu)
    clear hu h23
    go_wp2_with fail
    go_ret
    rw [HF.out]
    exact ⟨rfl, H1.out, HU.out⟩
  · have HP : Hid (wdP M a = ((wordM M a.toNat : Nat) : Int)) := Lib.hid (by simp [wdP, hok])
    have HS : Hid (swM M a (wordM M a.toNat) = M) := Lib.hid (by
      unfold swM; split
      · exact setWM_same H.out.mm.ok _
      · rfl)
    have hlt := wordM_lt H.out.mm.ok a.toNat
    rw [hok] at HM
    rw [HP.out] at HM
    generalize wordM M a.toNat = n at *
    clear hok HP
    go_enter Try.func96, Try.ntmps96
    go_wp2_with fail
    refine HM.out.mono ?_
    rintro e w1 ⟨rfl, hu⟩
    have H1 := Lib.hid (H.out.calm hu)
    have HU := Lib.hid (bg_n (b := b) (g := g) hu)
    clear hu h23
    have h23 := H1.out.sp.c23
    go_wp2_with fail
    refine (mSetWord H1.out.mm a HA.out n hlt).mono ?_
    rintro e w2 ⟨rfl, hm, hu⟩
    rw [HS.out] at hm
    have H2 := Lib.hid (H1.out.mem hm hu)
    have HU2 := Lib.hid (bg_tr HU.out (bg_g hu))
    clear hm hu h23
    go_wp2_with fail
    go_ret
    exact ⟨rfl, H2.out, HU2.out⟩
/-- may all of n words from low on be laid? -/
def allSw (low : Nat) : Nat → Bool
  | 0 => true
  | n + 1 => allSw low n && okSw ((low : Int) + 4 * (n : Int))
def pushM (M : Nat → Nat) (R : Nat → Nat) (low : Nat) (L : List Nat) : Nat → (Nat → Nat)
  | 0 => M
  | n + 1 => swM (pushM M R low L n) ((low : Int) + 4 * (n : Int)) (R (L.getD n 0))
def spLow (r n : Nat) : Nat := (r + (4294967296 - 4 * n)) % 4294967296
theorem need_true (x : Ch) : x.need true = x := rfl
set_option maxRecDepth 20000 in
set_option maxHeartbeats 1000000 in
theorem sPush (h : Stp w b bm g i x t_ c M) (list : Nat) (hl : list < 512) (hi : i.imm = (list : Int)) (hst : x.st ≠ 2) (hc : 0 ≤ c ∧ c ≤ 100) (L : List Nat) (hL : regsP list 14 = L) (low : Nat) (hlow : spLow (x.R 13) L.length = low) : Calls Try.prog 73 #[.pointer (some ⟨b, 0, none⟩)] w fun e w' => e = .returned (.tuple #[]) ∧ (allSw low L.length = true → Stp w' b bm g i (x.withR 13 low) (low : Int) (c + L.length) (pushM M x.R low L L.length)) ∧ (allSw low L.length = false → Stp w' b bm g i (x.need false) t_ c M) ∧ Upd (BG b g) w w' := by
  have h28 := h.sp.c28
  rw [hi] at h28
  have hlen := regsP_len list 14
  have hin := fun r (hr : r ∈ L) => regsP_lt (list := list) (by decide : 14 < 16) (hL ▸ hr)
  rw [hL] at hlen
  have h13 := h.sp.c13
  have hx13 := h.sp.ok 13
  have HR := Lib.hid (cRegs list 14 hl (by decide) w)
  rw [hL] at HR
  have H := Lib.hid h
  have HIN := Lib.hid hin
  have HB := Lib.hid h.sp.lt
  have HG := Lib.hid h.mm.lt
  have HST := Lib.hid hst
  have hsub : ((x.R 13 : Int) - 4 * (L.length : Int)) % 4294967296 = (low : Int) := by
    rw [← hlow]; unfold spLow; omega
  have hlow2 : low < 4294967296 := by rw [← hlow]; unfold spLow; omega
  generalize hn : L.length = n at *
  have HN := Lib.hid hn
  have hx13' := hx13
  obtain ⟨r13, hr13⟩ : ∃ r13, x.R 13 = r13 := ⟨_, rfl⟩
  have HX13 := Lib.hid hr13
  rw [hr13] at h13 hx13 hsub
  have HSUB := Lib.hid hsub
  clear hx13' hr13 hsub
  clear h hin hi hL hst hlow hn
  go_enter Try.func73, Try.ntmps73
  go_wp2_with fail
  refine HR.out.mono ?_
  rintro e w1 ⟨v, q, rfl, hrg, hq, hu⟩
  have HRG := Lib.hid hrg
  obtain ⟨cv, rfl, hc1, hc2, hc3, -⟩ := hrg
  rw [HN.out] at hc1 HRG ⊢
  have H1 := Lib.hid (H.out.calm hu)
  have HU1 := Lib.hid (bg_n (b := b) (g := g) hu)
  have hqb : ¬ BG b g q := by
    have := HB.out; have := HG.out.2
    unfold BG; omega
  have HQ := Lib.hid hqb
  have hw := hu.size
  clear hu hqb hq h28 h13 HR H hc3
  have h13 := H1.out.sp.c13
  rw [HX13.out] at h13
  go_wp2_with fail
  rw [HSUB.out]
  clear h13
  go_loopw [26, 4] (fun t _ wr => ∃ k : Nat, k ≤ n ∧ t = .int .i64 k ∧ Hid (Stp wr b bm g i (x.need (allSw low k)) t_ c M) ∧ Hid (RgI wr (.slice (some ⟨q, 0, none⟩) n cv) q L) ∧ Hid (Upd (BG b g) w wr)) (fun t _ _ => n - (intOf t).toNat)
  case atStart => exact ⟨0, by omega, rfl, H1, HRG, HU1⟩
  case round =>
    obtain ⟨k, hk, rfl, HS, HR, HU⟩ := hrel
    by_cases hlt : k < n
    · have hm1 : IntKind.i64.wrap (4 * (k : Int)) = 4 * (k : Int) := i64_in _ (by omega)
      have hm2 : IntKind.i64.wrap ((low : Int) + 4 * (k : Int)) = (low : Int) + 4 * (k : Int) := i64_in _ (by omega)
      have HM := Lib.hid (sMay HS.out ((low : Int) + 4 * (k : Int)) (by unfold rng64; omega))
      go_wp2_with fail
      refine HM.out.mono ?_
      rintro e w2 ⟨rfl, hs, hu⟩
      have HS2 := Lib.hid hs
      have HR2 := Lib.hid (HR.out.upd hu HQ.out)
      have HU2 := Lib.hid (bg_tr HU.out hu)
      clear hs hu HM
      go_wp2_with fail
      refine (sNeed HS2.out.sp (okSw ((low : Int) + 4 * (k : Int)))).mono ?_
      rintro e w3 ⟨rfl, hs, hu⟩
      have HS3 : Hid (Stp w3 b bm g i (x.need (allSw low (k + 1))) t_ c M) := Lib.hid (by
        have e := needs x (allSw low k) (okSw ((low : Int) + 4 * (k : Int)))
        show Stp w3 b bm g i (x.need (allSw low k && okSw ((low : Int) + 4 * (k : Int)))) t_ c M
        rw [← e]
        exact HS2.out.box hs hu)
      have HR3 := Lib.hid (HR2.out.upd (bg_b (g := g) hu) HQ.out)
      have HU3 := Lib.hid (bg_tr HU2.out (bg_b hu))
      clear hs hu
      go_wp2_with fail
      go_roundw
      case rel => exact ⟨k + 1, by omega, by go_num, HS3, HR3, HU3⟩
      case measure => simp [intOf]; omega
    · have hkn : k = n := by omega
      subst hkn
      have h20 := HS.out.sp.c20
      cases hall : allSw low k
      · rw [hall] at HS h20
        replace h20 : wr.cell? ⟨b, 20, none⟩ = some (.int .i64 2) := h20
        have HALL := Lib.hid hall
        clear hall
        go_wp2_with fail
        refine bodyPost_ret (results_none rfl _ _ _) rfl ?_
        exact ⟨rfl, fun h => absurd (h.symm.trans HALL.out) (by decide), fun _ => HS.out, HU.out⟩
      · rw [hall] at HS h20
        have HS0 : Hid (Stp wr b bm g i x t_ c M) := HS
        replace h20 : wr.cell? ⟨b, 20, none⟩ = some (.int .i64 x.st) := h20
        have hst : (x.st == 2) = false := by have := HST.out; simpa using this
        have HALL := Lib.hid hall
        clear hall HS
        go_wp2_with fail
        clear h20 hst
        obtain ⟨wo, hwo⟩ : ∃ wo, wo = wr := ⟨_, rfl⟩
        subst hwo
        clear hlt hk
        obtain ⟨n', hn'⟩ : ∃ n', n' = k := ⟨_, rfl⟩
        subst hn'
        go_loopw [47, 5, 6] (fun t _ _ wr => ∃ k : Nat, k ≤ n' ∧ t = .int .i64 k ∧ Hid (Stp wr b bm g i x t_ c (pushM M x.R low L k)) ∧ Hid (RgI wr (.slice (some ⟨q, 0, none⟩) n' cv) q L) ∧ Hid (Upd (BG b g) w wr)) (fun t _ _ _ => n' - (intOf t).toNat)
        case atStart => exact ⟨0, by omega, rfl, HS0, HR, HU⟩
        case round =>
          obtain ⟨k, hk, rfl, HS, HR, HU⟩ := hrel
          by_cases hlt : k < n'
          · have hm1 : IntKind.i64.wrap (4 * (k : Int)) = 4 * (k : Int) := i64_in _ (by omega)
            have hm2 : IntKind.i64.wrap ((low : Int) + 4 * (k : Int)) = (low : Int) + 4 * (k : Int) := i64_in _ (by omega)
            have hm3 : IntKind.i64.wrap (low : Int) = (low : Int) := i64_in _ (by omega)
            have hgl : ∃ r, L.getD k 0 = r ∧ r < 16 := by
              refine ⟨_, rfl, HIN.out _ ?_⟩
              have : k < L.length := by rw [HN.out]; exact hlt
              simp only [List.getD, List.getElem?_eq_getElem this, Option.getD_some]
              exact List.getElem_mem this
            obtain ⟨r, hr, hr16⟩ := hgl
            have hcr : wr.cell? ⟨q, k, none⟩ = some (.int .i64 (r : Int)) := by
              obtain ⟨_, _, _, _, _, h5⟩ := HR.out
              rw [← hr]
              exact h5 k (by rw [HN.out]; exact hlt)
            have hr0 : (0 : Int) ≤ (r : Int) := by omega
            have hr1 : (r : Int) < 16 := by omega
            have H0 := Lib.hid (HS.out.calm (Upd.drew (fun _ => False) wr))
            have HM := Lib.hid (mSetWord H0.out.mm ((low : Int) + 4 * (k : Int)) (by unfold rng64; omega) (x.R r) (H0.out.sp.ok r))
            have HC0 : Hid (wr.drew.cell? ⟨b, 23, none⟩ = some (.pointer (some ⟨bm, 0, none⟩)) ∧ wr.drew.cell? ⟨b, r, none⟩ = some (.int .u32 (x.R r : Int))) := Lib.hid ⟨H0.out.sp.c23, H0.out.sp.reg r hr16⟩
            have HRR := Lib.hid hr
            have HRD := Lib.hid (HR.out.upd (Upd.drew (fun _ => False) wr) (fun h => h))
            have HUD := Lib.hid (bg_tr HU.out (bg_n (b := b) (g := g) (Upd.drew (fun _ => False) wr)))
            clear hr
            go_wp2_with fail
            go_region_held3 (fun u => u.cell? ⟨b, 23, none⟩ = some (.pointer (some ⟨bm, 0, none⟩)) ∧ u.cell? ⟨b, r, none⟩ = some (.int .u32 (x.R r : Int))) (first | with_reducible exact HC0.out | with_reducible exact HC1.out) (first
              | (go_at_call 92; (with_reducible refine HM.out.mono ?_); rintro e w2 ⟨rfl, hm, hu⟩; have H1 := Lib.hid (H0.out.mem hm hu); have HU1 := Lib.hid (bg_tr HUD.out (bg_g (b := b) hu)); have HR1 := Lib.hid (HRD.out.upd (bg_g (b := b) hu) HQ.out); have HC1 : Hid (w2.cell? ⟨b, 23, none⟩ = some (.pointer (some ⟨bm, 0, none⟩)) ∧ w2.cell? ⟨b, r, none⟩ = some (.int .u32 (x.R r : Int))) := Lib.hid ⟨H1.out.sp.c23, H1.out.sp.reg r hr16⟩; clear hm hu))
            all_goals
              have HS2 : Hid (Stp w2 b bm g i x t_ c (pushM M x.R low L (k + 1))) := Lib.hid (by
                show Stp w2 b bm g i x t_ c (swM (pushM M x.R low L k) ((low : Int) + 4 * (k : Int)) (x.R (L.getD k 0)))
                rw [HRR.out]; exact H1.out)
              go_wp2_with fail
              go_roundw
              case rel => exact ⟨k + 1, by omega, by go_num, HS2, HR1, HU1⟩
              case measure => simp [intOf]; omega
          · have hkn : k = n' := by omega
            subst hkn
            have f13 := HS.out.sp.fz 13
            have f30 := HS.out.sp.fz 30
            have f31 := HS.out.sp.fz 31
            have c13 := HS.out.sp.c13
            have c30 := HS.out.sp.c30
            have c31 := HS.out.sp.c31
            have hsum : IntKind.i64.wrap (c + (k : Int)) = c + (k : Int) := i64_in _ (by omega)
            have HE := Lib.hid (((HS.out.sp.setR 13 (by decide) low hlow2).set_t (low : Int)).set_c (c + (k : Int)))
            go_wp2_with fail
            go_end0
            exact ⟨rfl, fun _ => ⟨HE.out, HS.out.mm.upd (((Sp.setU _ b 13 _).putU 30 _).putU 31 _) (fun e => HS.out.n1 e.symm) (fun e => HS.out.n2 e.symm), HS.out.n1, HS.out.n2⟩, fun h => absurd (HALL.out.symm.trans h) (by decide), bg_tr HU.out (bg_b (((Sp.setU _ b 13 _).putU 30 _).putU 31 _))⟩
end
end Go.Proofs.Ytibmgmgkaacibaa
/- Package chip: Pop. -/
namespace Go.Proofs.Ytibmgmgkaacibaa
open Go.RowKit Go.ChangeShapes Go.WideShapes Go.Deep Go.IntWalk
set_option linter.unusedVariables false
set_option linter.unusedSimpArgs false
def allWd (low : Nat) : Nat → Bool
  | 0 => true
  | n + 1 => allWd low n && okWd ((low : Int) + 4 * (n : Int))
def popW (M : Nat → Nat) (low k : Nat) : Nat := (wdP M ((low : Int) + 4 * (k : Int))).toNat
def popV (r v : Nat) : Nat := if r = 15 then v / 2 * 2 else v
def popR (M : Nat → Nat) (R : Nat → Nat) (low : Nat) (L : List Nat) : Nat → (Nat → Nat)
  | 0 => R
  | n + 1 => rSet (popR M R low L n) (L.getD n 0) (popV (L.getD n 0) (popW M low n))
def popC (c : Int) (L : List Nat) : Nat → Int
  | 0 => c
  | n + 1 => popC c L n + if L.getD n 0 = 15 then 3 else 0
theorem popC_le (c : Int) (L : List Nat) : ∀ n, c ≤ popC c L n ∧ popC c L n ≤ c + 3 * (n : Int)
  | 0 => by simp [popC]
  | n + 1 => by
    have := popC_le c L n
    simp only [popC]
    split <;> omega
theorem popW_lt {M : Nat → Nat} (h : MOk M) (low k : Nat) : popW M low k < 4294967296 := by
  unfold popW wdP; split
  · have := wordM_lt h ((low : Int) + 4 * (k : Int)).toNat; simpa using this
  · simp
theorem popW_eq (M : Nat → Nat) (low k : Nat) : wdP M ((low : Int) + 4 * (k : Int)) = ((popW M low k : Nat) : Int) := by
  unfold popW wdP; split <;> simp
theorem rSet_rSet (R : Nat → Nat) (k u v : Nat) : rSet (rSet R k u) k v = rSet R k v := by
  funext j; unfold rSet; split <;> rfl
theorem andn1 (v : Nat) (h : v < 4294967296) : bits .andNot .u32 (v : Int) 1 = ((v / 2 * 2 : Nat) : Int) := by
  have := u32_andNot_nat v 1 h (by omega)
  rw [show ((1 : Nat) : Int) = 1 from rfl] at this
  rw [this, show (4294967295 - 1 : Nat) = 2 ^ 32 - 2 ^ 1 from rfl, nat_midmask 32 1 v (by omega), show (2 : Nat) ^ 32 = 4294967296 from rfl, Nat.mod_eq_of_lt h]
theorem needsR (x : Ch) (R0 : Nat → Nat) (p q : Bool) : ({ (x.need p) with R := R0 } : Ch).need q = { (x.need (p && q)) with R := R0 } := by cases p <;> cases q <;> rfl
theorem Sp.cast {w : World} {b : Nat} {mp : Value} {i : I6} {x x' : Ch} {t c c' : Int} (h : Sp w b mp i x t c) (e : x = x') (e2 : c = c') : Sp w b mp i x' t c' := by subst e; subst e2; exact h
section
variable {w w' : World} {b bm g : Nat} {x : Ch} {i : I6} {t_ c : Int} {M : Nat → Nat}
set_option maxRecDepth 20000 in
set_option maxHeartbeats 1000000 in
theorem sPop (h : Stp w b bm g i x t_ c M) (list : Nat) (hl : list < 512) (hi : i.imm = (list : Int)) (hc : 0 ≤ c ∧ c ≤ 100) (L : List Nat) (hL : regsP list 15 = L) (low : Nat) (hlow : x.R 13 = low) : Calls Try.prog 74 #[.pointer (some ⟨b, 0, none⟩)] w fun e w' => e = .returned (.tuple #[]) ∧ Stp w' b bm g i { (x.need (allWd low L.length)) with R := rSet (popR M x.R low L L.length) 13 ((low + 4 * L.length) % 4294967296) } (low : Int) (popC c L L.length + L.length) M ∧ Upd (BG b g) w w' := by
  have h28 := h.sp.c28
  rw [hi] at h28
  have hlen := regsP_len list 15
  have hin := fun r (hr : r ∈ L) => regsP_lt (list := list) (by decide : 15 < 16) (hL ▸ hr)
  rw [hL] at hlen
  have hlow2 := h.sp.ok 13
  rw [hlow] at hlow2
  have HR := Lib.hid (cRegs list 15 hl (by decide) w)
  rw [hL] at HR
  have H := Lib.hid h
  have HIN := Lib.hid hin
  have HB := Lib.hid h.sp.lt
  have HG := Lib.hid h.mm.lt
  have HX13 := Lib.hid hlow
  have HMO := Lib.hid h.mm.ok
  obtain ⟨n, hn⟩ : ∃ n, L.length = n := ⟨_, rfl⟩
  rw [hn] at hlen ⊢
  have HN := Lib.hid hn
  obtain ⟨n13, hn13⟩ : ∃ n13, (low + 4 * n) % 4294967296 = n13 := ⟨_, rfl⟩
  have HN13 := Lib.hid (show ((low : Int) + 4 * (n : Int)) % 4294967296 = (n13 : Int) by omega)
  have hn13l : n13 < 4294967296 := by omega
  rw [hn13]
  clear h hin hi hL hlow hn hn13
  go_enter Try.func74, Try.ntmps74
  go_wp2_with fail
  refine HR.out.mono ?_
  rintro e w1 ⟨v, q, rfl, hrg, hq, hu⟩
  have HRG := Lib.hid hrg
  obtain ⟨cv, rfl, hc1, hc2, hc3, -⟩ := hrg
  rw [HN.out] at hc1 HRG ⊢
  have H1 : Hid (Stp w1 b bm g i { (x.need (allWd low 0)) with R := popR M x.R low L 0 } t_ (popC c L 0) M) := Lib.hid (H.out.calm hu)
  have HU1 := Lib.hid (bg_n (b := b) (g := g) hu)
  have hqb : ¬ BG b g q := by
    have := HB.out; have := HG.out.2
    unfold BG; omega
  have HQ := Lib.hid hqb
  have hw := hu.size
  have h13 := (H.out.calm hu).sp.c13
  clear hu hqb hq h28 HR H hc3
  rw [HX13.out] at h13
  go_wp2_with fail
  clear h13
  go_loopw [22, 4, 5, 6, 7] (fun t _ _ _ _ wr => ∃ k : Nat, k ≤ n ∧ t = .int .i64 k ∧ Hid (Stp wr b bm g i { (x.need (allWd low k)) with R := popR M x.R low L k } t_ (popC c L k) M) ∧ Hid (RgI wr (.slice (some ⟨q, 0, none⟩) n cv) q L) ∧ Hid (Upd (BG b g) w wr)) (fun t _ _ _ _ _ => n - (intOf t).toNat)
  case atStart => exact ⟨0, by omega, rfl, H1, HRG, HU1⟩
  case round =>
    obtain ⟨k, hk, rfl, HS, HR, HU⟩ := hrel
    by_cases hlt : k < n
    · have hm1 : IntKind.i64.wrap (4 * (k : Int)) = 4 * (k : Int) := i64_in _ (by omega)
      have hm2 : IntKind.i64.wrap ((low : Int) + 4 * (k : Int)) = (low : Int) + 4 * (k : Int) := i64_in _ (by omega)
      have hm3 : IntKind.i64.wrap (low : Int) = (low : Int) := i64_in _ (by omega)
      have hgl : ∃ r, L.getD k 0 = r ∧ r < 16 := by
        refine ⟨_, rfl, HIN.out _ ?_⟩
        have : k < L.length := by rw [HN.out]; exact hlt
        simp only [List.getD, List.getElem?_eq_getElem this, Option.getD_some]
        exact List.getElem_mem this
      obtain ⟨r, hr, hr16⟩ := hgl
      have hcr : wr.cell? ⟨q, k, none⟩ = some (.int .i64 (r : Int)) := by
        obtain ⟨_, _, _, _, _, h5⟩ := HR.out
        rw [← hr]
        exact h5 k (by rw [HN.out]; exact hlt)
      have hr0 : (0 : Int) ≤ (r : Int) := by omega
      have hr1 : (r : Int) < 16 := by omega
      have HRR := Lib.hid hr
      have c23 := HS.out.sp.c23
      obtain ⟨v, hv⟩ : ∃ v, popW M low k = v := ⟨_, rfl⟩
      have hvl : v < 4294967296 := by rw [← hv]; exact popW_lt HMO.out low k
      have HM := Lib.hid (mWord HS.out.mm ((low : Int) + 4 * (k : Int)) (by unfold rng64; omega))
      rw [popW_eq, hv] at HM
      have HV := Lib.hid hv
      clear hr hv
      go_wp2_with fail
      refine HM.out.mono ?_
      rintro e w2 ⟨rfl, hu⟩
      have HS2 := Lib.hid (HS.out.calm hu)
      have HR2 := Lib.hid (HR.out.upd hu (fun h => h))
      have HU2 := Lib.hid (bg_tr HU.out (bg_n hu))
      clear hu HM c23 hcr
      go_wp2_with fail
      refine (sNeed HS2.out.sp (okWd ((low : Int) + 4 * (k : Int)))).mono ?_
      rintro e w3 ⟨rfl, hs, hu⟩
      have HS3 : Hid (Stp w3 b bm g i { (x.need (allWd low (k + 1))) with R := popR M x.R low L k } t_ (popC c L k) M) := Lib.hid (by
        have hs2 : Sp w3 b (.pointer (some ⟨bm, 0, none⟩)) i (({ (x.need (allWd low k)) with R := popR M x.R low L k } : Ch).need (okWd ((low : Int) + 4 * (k : Int)))) t_ (popC c L k) := hs
        rw [needsR] at hs2
        exact HS2.out.box hs2 hu)
      have HR3 := Lib.hid (HR2.out.upd (bg_b (g := g) hu) HQ.out)
      have HU3 := Lib.hid (bg_tr HU2.out (bg_b hu))
      clear hs hu HS HS2
      have fz := HS3.out.sp.fz
      have fr := HS3.out.sp.fz r
      have cr := HS3.out.sp.reg r hr16
      have HS4 := Lib.hid (HS3.out.sp.setR r hr16 v hvl)
      have HU4 := Lib.hid (Sp.setU w3 b r (.int .u32 (v : Int)))
      clear fz
      by_cases h15 : r = 15
      · have HVV : Hid (popV r v = v / 2 * 2) := Lib.hid (by unfold popV; rw [if_pos h15])
        have HCC : Hid (popC c L (k + 1) = popC c L k + 3) := Lib.hid (by simp only [popC]; rw [HRR.out, if_pos h15])
        subst h15
        obtain ⟨v2, hv2⟩ : ∃ v2, v / 2 * 2 = v2 := ⟨_, rfl⟩
        have hv2l : v2 < 4294967296 := by omega
        have hand := andn1 v hvl
        rw [hv2] at hand HVV
        clear hv2
        have hpc := popC_le c L k
        have hm4 : IntKind.i64.wrap (popC c L k + 3) = popC c L k + 3 := i64_in _ (by omega)
        go_wp2_with fail
        have hHeld : (w3.setCell ⟨b, 15, none⟩ (.int .u32 (v : Int))).drew.cell? ⟨b, 15, none⟩ = some (.int .u32 (v : Int)) := by
          have := (HS4.out.upd (Upd.drew (fun _ => False) _) (fun h => h)).c15
          simpa [rSet] using this
        have HS5 := Lib.hid (HS4.out.upd (Upd.drew (fun _ => False) _) (fun h => h))
        have f15 := HS5.out.fz 15
        refine wp_region_last (S := fun u => u.cell? ⟨b, 15, none⟩ = some (.int .u32 (v : Int))) 12 _ (by kernel_rfl) (by kernel_rfl) rfl ?_
        change wpHL _ _ _ _ _ _ _ _ _ _ (w3.setCell ⟨b, 15, none⟩ (.int .u32 (v : Int))).drew
        refine wpHL_take (i := 0) (v := ?_) rfl (by kernel_rfl) (fun _ _ _ h => h) hHeld (Or.inl ⟨by rfl, ?_⟩) ?_
        rotate_left
        · (intro u hSw; obtain y0 := hSw; go_simp; try with_reducible rfl)
        try simp only [Act.put, List.getElem_toArray, List.getElem_cons_succ, List.getElem_cons_zero, List.setIfInBounds_toArray, List.set_cons_zero, List.set_cons_succ]
        refine wpHL_take (i := 1) (v := ?_) rfl (by kernel_rfl) (fun _ _ _ h => h) hHeld (Or.inl ⟨by rfl, ?_⟩) ?_
        rotate_left
        · (intro u hSw; obtain y0 := hSw; go_simp; try with_reducible rfl)
        try simp only [Act.put, List.getElem_toArray, List.getElem_cons_succ, List.getElem_cons_zero, List.setIfInBounds_toArray, List.set_cons_zero, List.set_cons_succ]
        refine wpHL_take (i := 2) (v := ?_) rfl (by kernel_rfl) (fun _ _ _ h => h) hHeld (Or.inl ⟨by rfl, ?_⟩) ?_
        rotate_left
        · (intro u hSw; obtain y0 := hSw; go_simp; try with_reducible rfl)
        try simp only [Act.put, List.getElem_toArray, List.getElem_cons_succ, List.getElem_cons_zero, List.setIfInBounds_toArray, List.set_cons_zero, List.set_cons_succ]
        refine wpHL_take (i := 3) (v := ?_) rfl (by kernel_rfl) (fun _ _ _ h => h) hHeld (Or.inl ⟨by rfl, ?_⟩) ?_
        rotate_left
        · (intro u hSw; obtain y0 := hSw; go_simp; try with_reducible rfl)
        try simp only [Act.put, List.getElem_toArray, List.getElem_cons_succ, List.getElem_cons_zero, List.setIfInBounds_toArray, List.set_cons_zero, List.set_cons_succ]
        refine wpHL_take (i := 4) (v := ?_) rfl (by kernel_rfl) (fun _ _ _ h => h) hHeld (Or.inl ⟨by rfl, ?_⟩) ?_
        rotate_left
        · (intro u hSw; obtain y0 := hSw; go_simp; try with_reducible rfl)
        try simp only [Act.put, List.getElem_toArray, List.getElem_cons_succ, List.getElem_cons_zero, List.setIfInBounds_toArray, List.set_cons_zero, List.set_cons_succ]
        refine wpHL_take (i := 5) (v := ?_) rfl (by kernel_rfl) (fun _ _ _ h => h) hHeld (Or.inl ⟨by rfl, ?_⟩) ?_
        rotate_left
        · (intro u hSw; obtain y0 := hSw; go_simp; try with_reducible rfl)
        try simp only [Act.put, List.getElem_toArray, List.getElem_cons_succ, List.getElem_cons_zero, List.setIfInBounds_toArray, List.set_cons_zero, List.set_cons_succ]
        refine wpHL_take (i := 6) (v := ?_) rfl (by kernel_rfl) (fun _ _ _ h => h) hHeld (Or.inl ⟨by rfl, ?_⟩) ?_
        rotate_left
        · (intro u hSw; obtain y0 := hSw; go_simp; try with_reducible rfl)
        try simp only [Act.put, List.getElem_toArray, List.getElem_cons_succ, List.getElem_cons_zero, List.setIfInBounds_toArray, List.set_cons_zero, List.set_cons_succ]
        refine wpHL_take (i := 7) (v := ?_) rfl (by kernel_rfl) (fun _ _ _ h => h) hHeld (Or.inl ⟨by rfl, ?_⟩) ?_
        rotate_left
        · (intro u hSw; obtain y0 := hSw; go_simp; try with_reducible rfl)
        try simp only [Act.put, List.getElem_toArray, List.getElem_cons_succ, List.getElem_cons_zero, List.setIfInBounds_toArray, List.set_cons_zero, List.set_cons_succ]
        refine wpHL_take (i := 8) (v := ?_) rfl (by kernel_rfl) (fun _ _ _ h => h) hHeld (Or.inl ⟨by rfl, ?_⟩) ?_
        rotate_left
        · (intro u hSw; obtain y0 := hSw; go_simp; try with_reducible rfl)
        try simp only [Act.put, List.getElem_toArray, List.getElem_cons_succ, List.getElem_cons_zero, List.setIfInBounds_toArray, List.set_cons_zero, List.set_cons_succ]
        refine wpHL_take (i := 9) (v := ?_) rfl (by kernel_rfl) (fun _ _ _ h => h) hHeld (Or.inl ⟨by rfl, ?_⟩) ?_
        rotate_left
        · (intro u hSw; obtain y0 := hSw; go_simp; try with_reducible rfl)
        try simp only [Act.put, List.getElem_toArray, List.getElem_cons_succ, List.getElem_cons_zero, List.setIfInBounds_toArray, List.set_cons_zero, List.set_cons_succ]
        refine wpHL_take (i := 10) (v := ?_) rfl (by kernel_rfl) (fun _ _ _ h => h) hHeld (Or.inl ⟨by rfl, ?_⟩) ?_
        rotate_left
        · (intro u hSw; obtain y0 := hSw; go_simp; try with_reducible rfl)
        try simp only [Act.put, List.getElem_toArray, List.getElem_cons_succ, List.getElem_cons_zero, List.setIfInBounds_toArray, List.set_cons_zero, List.set_cons_succ]
        refine wpHL_take (i := 11) (v := ?_) rfl (by kernel_rfl) (fun _ _ _ h => h) hHeld (Or.inl ⟨by rfl, ?_⟩) ?_
        rotate_left
        · (intro u hSw; obtain y0 := hSw; go_simp; try with_reducible rfl)
        try simp only [Act.put, List.getElem_toArray, List.getElem_cons_succ, List.getElem_cons_zero, List.setIfInBounds_toArray, List.set_cons_zero, List.set_cons_succ]
        refine wpHL_last (by kernel_rfl) ?_
        obtain ⟨w4, hw4⟩ : ∃ w4, w4 = (w3.setCell ⟨b, 15, none⟩ (.int .u32 (v : Int))).drew := ⟨_, rfl⟩
        rw [← hw4] at HS5 hHeld f15 ⊢
        have HU5 : Hid (Upd (fun q => q = b) w3 w4) := Lib.hid (by rw [hw4]; exact HU4.out.trans (Upd.drew (fun q => q = b) _) (fun _ h _ => h))
        clear hw4 HS4 HU4 cr fr
        have c31 := HS5.out.c31
        have f31 := HS5.out.fz 31
        have HE := Lib.hid ((HS5.out.setR 15 (by decide) v2 hv2l).set_c (popC c L k + 3))
        have HUE := Lib.hid ((HU5.out.putU 15 (.int .u32 (v2 : Int))).putU 31 (.int .i64 (popC c L k + 3)))
        go_wp2_with fail
        refine ⟨⟨k + 1, by omega, by go_num, Lib.hid (HS3.out.box (HE.out.cast ?_ HCC.out.symm) HUE.out), Lib.hid (HR3.out.upd (bg_b (g := g) HUE.out) HQ.out), Lib.hid (bg_tr HU3.out (bg_b HUE.out))⟩, by simp [intOf]; omega⟩
        show ({ (x.need (allWd low (k + 1))) with R := rSet (rSet (popR M x.R low L k) 15 v) 15 v2 } : Ch) = { (x.need (allWd low (k + 1))) with R := rSet (popR M x.R low L k) (L.getD k 0) (popV (L.getD k 0) (popW M low k)) }
        rw [HRR.out, HV.out, HVV.out, rSet_rSet]
      · have HVV : Hid (popV r v = v) := Lib.hid (by unfold popV; rw [if_neg h15])
        have HCC : Hid (popC c L (k + 1) = popC c L k) := Lib.hid (by simp only [popC]; rw [HRR.out, if_neg h15]; simp)
        have hb15 : ((r : Int) == 15) = false := by simp; omega
        clear h15
        go_wp2_with fail
        have HR6 := Lib.hid (HR3.out.upd (bg_b (g := g) HU4.out) HQ.out)
        have HU6 := Lib.hid (bg_tr HU3.out (bg_b (g := g) HU4.out))
        have HS6 : Hid (Stp (w3.setCell ⟨b, r, none⟩ (.int .u32 (v : Int))) b bm g i { (x.need (allWd low (k + 1))) with R := popR M x.R low L (k + 1) } t_ (popC c L (k + 1)) M) := Lib.hid (by
          refine HS3.out.box (HS4.out.cast ?_ HCC.out.symm) HU4.out
          show ({ (x.need (allWd low (k + 1))) with R := rSet (popR M x.R low L k) r v } : Ch) = { (x.need (allWd low (k + 1))) with R := rSet (popR M x.R low L k) (L.getD k 0) (popV (L.getD k 0) (popW M low k)) }
          rw [HRR.out, HV.out, HVV.out])
        go_roundw
        case rel => exact ⟨k + 1, by omega, by go_num, HS6, HR6, HU6⟩
        case measure => simp [intOf]; omega
    · have hkn : k = n := by omega
      subst hkn
      have f13 := HS.out.sp.fz 13
      have f30 := HS.out.sp.fz 30
      have f31 := HS.out.sp.fz 31
      have c13 := HS.out.sp.c13
      have c30 := HS.out.sp.c30
      have c31 := HS.out.sp.c31
      have hpc := popC_le c L k
      have hsum : IntKind.i64.wrap (popC c L k + (k : Int)) = popC c L k + (k : Int) := i64_in _ (by omega)
      clear hlt hk
      have HE := Lib.hid (((HS.out.sp.setR 13 (by decide) n13 hn13l).set_t (low : Int)).set_c (popC c L k + (k : Int)))
      go_wp2_with fail
      go_end0
      rw [HN13.out]
      exact ⟨rfl, HS.out.box HE.out (((Sp.setU _ b 13 _).putU 30 _).putU 31 _), bg_tr HU.out (bg_b (((Sp.setU _ b 13 _).putU 30 _).putU 31 _))⟩
end
end Go.Proofs.Ytibmgmgkaacibaa

/- ImageReads: the reference's Read, walked. -/
import Derived.Test.YtmbdfmgidnjgeaaGreatDoorRye
import Derived.Test.YtmbdfmgidnjgeaaGreatDoorRz
namespace Go.Proofs.YtmbdfmgidnjgeaaGreatDoor
open Go.RowKit Go.Lib
set_option linter.unusedVariables false
set_option linter.unusedSimpArgs false

theorem rdBoxes {w wB u : World} {b : Nat} (hR : Is5 32 wB w.heap.size (.string { data := #[] }) (.slice none 0 0) (.slice none 0 0) (.slice none 0 0) (.slice none 0 0)) (hN : Is5 32 wB (w.heap.size + 1) (.string { data := #[] }) (.slice none 0 0) (.slice none 0 0) (.slice none 0 0) (.slice none 0 0)) (hw : Upd (fun _ => False) w wB) (hu : Upd (fun k => k = b) wB u) (h1 : w.heap.size < b) (h2 : w.heap.size + 1 < b) :
    Is5 32 u w.heap.size (.string { data := #[] }) (.slice none 0 0) (.slice none 0 0) (.slice none 0 0) (.slice none 0 0) ∧ Is5 32 u (w.heap.size + 1) (.string { data := #[] }) (.slice none 0 0) (.slice none 0 0) (.slice none 0 0) (.slice none 0 0) ∧ Upd (fun k => w.heap.size ≤ k) w u :=
  ⟨hR.upd hu (fun e => by omega), hN.upd hu (fun e => by omega), (hw.mono (T := fun k => w.heap.size ≤ k) (fun _ h _ => h.elim)).trans hu (fun i hi hlt => by omega)⟩
theorem fin5e {t : TypeId} {w : World} {b : Nat} {x y z u s : Value} (h : Is5 t w b x y z u s) (u0 u1 u2 u3 u4 : Value) :
    ∃ w', w' = (((((w.setCell ⟨b, 0, none⟩ u0).setCell ⟨b, 1, none⟩ u1).setCell ⟨b, 2, none⟩ u2).setCell ⟨b, 3, none⟩ u3).setCell ⟨b, 4, none⟩ u4) ∧ Is5 t w' b u0 u1 u2 u3 u4 ∧ Upd (fun k => k = b) w w' := ⟨_, rfl, fin5 h u0 u1 u2 u3 u4⟩
set_option maxRecDepth 100000 in
set_option maxHeartbeats 8000000 in
theorem rImgRead (w : World) (x : Value) (ys : List Int) (h : Vw w x ys) (hx : ∀ k, x.ownBlock = some k → k < w.heap.size) (hN : NameOk w) :
    Calls Tryz.prog 9 #[x] w fun e w' => ∃ r, e = .returned (.tuple #[r, .int .i64 (rReadP ys).1]) ∧ Img w' r (rReadP ys).2 ∧ Upd (fun _ => False) w w' := by
  obtain ⟨i0, hi, hz0, hz1, hz2⟩ := info_parts infoImp
  obtain ⟨i1, hi', hz0', hz1', hz2'⟩ := info_parts infoMet
  obtain ⟨i2, hi'', hz0'', hz1'', hz2''⟩ := info_parts infoIns
  obtain ⟨a, c, rfl, h1, h2⟩ := h.slice
  unfold maxLen at h2
  have HNO := Lib.hid hN
  have HV := Lib.hid h
  have HX := Lib.hid hx
  clear h hx hN
  by_cases hbig : 8192 < ys.length
  · as_aux_lemma =>
    have HP := Lib.hid (show rReadP ys = (6, imgN) by unfold rReadP; rw [if_pos hbig])
    have HA := Lib.hid ((Upd.alloc (fun _ => False) w zImg).trans (Upd.alloc (fun _ => False) (w.alloc zImg) zImg) (fun _ h _ => h))
    have HI : Is5 32 (w.alloc zImg) w.heap.size (.string { data := #[] }) (.slice none 0 0) (.slice none 0 0) (.slice none 0 0) (.slice none 0 0) := cells5_new (w := w) (t := 32)
    have HI2 := Lib.hid (HI.upd (Upd.alloc (fun _ => False) (w.alloc zImg) zImg) (fun h => h))
    clear HI
    go_enter Tryz.func9, Tryz.ntmps9
    --D{0
    go_wp2_with fail
    have j0 := HI2.out.c0
    have j1 := HI2.out.c1
    have j2 := HI2.out.c2
    have j3 := HI2.out.c3
    have j4 := HI2.out.c4
    refine bodyPost_ret (v := .tuple #[img0, .int .i64 6]) (by simp only [results, Tryz.f9]; simp [go_sem, j0, j1, j2, j3, j4]) rfl ?_
    exact ⟨_, by rw [HP.out], by rw [HP.out]; exact img0_is _, HA.out⟩
    --D}0
  · have HST := Lib.hid (read_start w a c ys HV.out HX.out (by omega))
    have HPB := Lib.hid (show rReadP ys = if markE ys ≠ 0 then (markE ys, imgN) else
      if (rPartsP false (takeP 5 false ys).2.2).1 ≠ 0 then ((rPartsP false (takeP 5 false ys).2.2).1, imgN) else
      if (rPartsP false (takeP 5 false ys).2.2).2.2.1 = true then (7, imgN) else
      if (rPartsP false (takeP 5 false ys).2.2).2.2.2 ≠ [] ∨ imgB insB (rPartsP false (takeP 5 false ys).2.2).2.1 = false then (5, imgN) else (0, (rPartsP false (takeP 5 false ys).2.2).2.1) by unfold rReadP; rw [if_neg hbig])
    obtain ⟨wB, hwB⟩ : ∃ wB, wB = (((w.alloc zImg).alloc zImg).alloc (.cells #[.slice a ys.length c, .bool false] RR)) := ⟨_, rfl⟩
    rw [← hwB] at HST
    have HWB := Lib.hid hwB
    clear hwB
    go_enter Tryz.func9, Tryz.ntmps9
    go_wp2_with fail
    rw [← HWB.out]
    --CUT a
    obtain ⟨b, hb⟩ : ∃ b, b = w.heap.size + 1 + 1 := ⟨_, rfl⟩
    rw [← hb] at HST ⊢
    have hb1 : w.heap.size < b := by omega
    have hb2 : w.heap.size + 1 < b := by omega
    clear hb
    have HRB := Lib.hid HST.out.2.1
    have HNB := Lib.hid HST.out.2.2.1
    have HUB := Lib.hid HST.out.2.2.2.1
    obtain ⟨V, hV⟩ : ∃ V, V = Value.slice a ys.length c := ⟨_, rfl⟩
    have HK0 : Hid (RdW RR wB wB b V false ys) := Lib.hid (by rw [hV]; exact HST.out.1)
    clear HST hV
    --CUT b
    refine (fRaw5 HK0.out).mono ?_
    obtain ⟨A, hA⟩ : ∃ A, A = takeP 5 false ys := ⟨_, rfl⟩
    rw [← hA]
    have HE := Lib.hid (show markE ys = if A.2.1 = true then 7 else if A.1 = markL then 0 else 5 by rw [hA]; rfl)
    have HAE := Lib.hid hA
    rintro e w1 ⟨r, rfl, k1, k2, k3⟩
    have hs := str3 k3
    obtain ⟨ra, rc, rfl, -, -⟩ := k3.slice
    have HB := Lib.hid k3.1
    have K1 := Lib.hid k1
    have c1 := k1.cell1
    clear k1 k2 k3 hA
    --CUT c
    cases hl : A.2.1 with
    | true => as_aux_lemma =>
      rw [hl] at c1
      have HM7 : markE ys = 7 := by rw [HE.out, if_pos hl]
      have HP := Lib.hid (show rReadP ys = (7, imgN) by rw [HPB.out, HM7, if_pos (by decide)])
      clear HM7
      have HUK := Lib.hid K1.out.upd
      clear hl hs
      --D{7
      have HJR := Lib.hid (rdBoxes HRB.out HNB.out HUB.out HUK.out (by omega) (by omega))
      have j0 := HJR.out.1.c0
      have j1 := HJR.out.1.c1
      have j2 := HJR.out.1.c2
      have j3 := HJR.out.1.c3
      have j4 := HJR.out.1.c4
      have g0 := HJR.out.1.fr 0
      have g1 := HJR.out.1.fr 1
      have g2 := HJR.out.1.fr 2
      have g3 := HJR.out.1.fr 3
      have g4 := HJR.out.1.fr 4
      have n0 := HJR.out.2.1.c0
      have n1 := HJR.out.2.1.c1
      have n2 := HJR.out.2.1.c2
      have n3 := HJR.out.2.1.c3
      have n4 := HJR.out.2.1.c4
      have hrn : ¬ w.heap.size = w.heap.size + 1 := by omega
      have hrn' : ¬ w.heap.size + 1 = w.heap.size := by omega
      obtain ⟨wF, hwF, hF1, hF2⟩ := fin5e HJR.out.1 (.string { data := #[] }) (.slice none 0 0) (.slice none 0 0) (.slice none 0 0) (.slice none 0 0)
      have HWF := Lib.hid hwF
      have HFI := Lib.hid hF1
      have HUP := Lib.hid (upd_new (HJR.out.2.2.trans hF2 (fun i hi hlt => by omega)))
      clear hwF hF1 hF2
      generalize w.heap.size + 1 = N0 at *
      generalize w.heap.size = R0 at *
      --CUT r
      go_wp2_with fail
      --CUT q
      rw [← HWF.out]
      have JF := HFI.out
      clear j0 j1 j2 j3 j4
      have j0 := JF.c0
      have j1 := JF.c1
      have j2 := JF.c2
      have j3 := JF.c3
      have j4 := JF.c4
      --CUT z
      --TRACE
      refine bodyPost_ret (v := .tuple #[img0, .int .i64 (7)]) (by simp only [results, Tryz.f9]; simp [go_sem, j0, j1, j2, j3, j4]) rfl ?_
      --CUT y
      exact ⟨_, by rw [HP.out], by rw [HP.out]; exact img0_is _, HUP.out⟩
      --D}7
    | false =>
      rw [hl] at c1
      have HL := Lib.hid hl
      have K2 : Hid (RdW RR wB w1 b V false A.2.2) := Lib.hid (by rw [← HL.out]; exact K1.out)
      clear hl
      obtain ⟨s0, hs0⟩ : ∃ s0, s0 = strOfNums A.1 := ⟨_, rfl⟩
      rw [← hs0] at hs
      have HQ := Lib.hid (show (s0.toList == [84, 65, 67, 73, 1]) = decide (A.1 = markL) by
        have h := str_same A.1 markL HB.out (by decide)
        rw [str_markL, ← hs0] at h
        rw [← h, ByteArray.toList_eq ({ data := #[84, 65, 67, 73, 1] } : ByteArray)])
      clear hs0
      by_cases hm : A.1 = markL
      · have hq : (s0.toList == [84, 65, 67, 73, 1]) = true := by rw [HQ.out]; simp [hm]
        have hq' : (s0.toList != [84, 65, 67, 73, 1]) = false := by simp only [bne, hq]; rfl
        have HME0 : Hid (markE ys = 0) := Lib.hid (by rw [HE.out, if_neg (by rw [HL.out]; decide), if_pos hm])
        clear hm
        --CUT d
        obtain ⟨R, hR⟩ : ∃ R, R = rPartsP false A.2.2 := ⟨_, rfl⟩
        have HPM := Lib.hid (show rReadP ys = if R.1 ≠ 0 then (R.1, imgN) else if R.2.2.1 = true then (7, imgN) else if R.2.2.2 ≠ [] ∨ imgB insB R.2.1 = false then (5, imgN) else (0, R.2.1) by
          rw [HPB.out, if_neg (by rw [HME0.out]; decide), ← HAE.out, ← hR])
        obtain ⟨oA, hoA⟩ : ∃ oA, oA = shortP false A.2.2 := ⟨_, rfl⟩
        obtain ⟨oF, hoF⟩ : ∃ oF, oF = rListP oA.2.1 oA.2.2 := ⟨_, rfl⟩
        obtain ⟨oD, hoD⟩ : ∃ oD, oD = takeP 1 oF.2.1 oF.2.2 := ⟨_, rfl⟩
        obtain ⟨J, hJ⟩ : ∃ J, J = rImpsGo (beN oD.1).toNat oD.2.1 oD.2.2 := ⟨_, rfl⟩
        obtain ⟨E, hE⟩ : ∃ E, E = takeP 1 J.2.1 J.2.2 := ⟨_, rfl⟩
        obtain ⟨M, hM⟩ : ∃ M, M = rMetsGo (beN E.1).toNat E.2.1 E.2.2 := ⟨_, rfl⟩
        have HPR := Lib.hid (show R = (M.1, ⟨strOfNums oA.1, oF.1, J.1, M.2.1, (rListP M.2.2.1 M.2.2.2).1⟩, (rListP M.2.2.1 M.2.2.2).2) by rw [hR, hM, hE, hJ, hoD, hoF, hoA]; rfl)
        have HoA := Lib.hid hoA
        have HoF := Lib.hid hoF
        have HoD := Lib.hid hoD
        have HEJ := Lib.hid hJ
        have HEE := Lib.hid hE
        have HEM := Lib.hid hM
        clear hR hoA hoF hoD hJ hE hM HAE HE HQ HPB HK0 K1 HWB
        --CUT e
        go_wp2_with fail
        --CUT f
        refine (fShort K2.out).mono ?_
        rw [← HoA.out]
        rintro e w2 ⟨r, rfl, k1, k2, k3, k4⟩
        have hs := str3 k3
        obtain ⟨ra, rc, rfl, -, -⟩ := k3.slice
        obtain ⟨nm, hnm⟩ : ∃ nm, nm = strOfNums oA.1 := ⟨_, rfl⟩
        rw [← hnm] at hs
        have HNM := Lib.hid hnm
        have HNL := Lib.hid k4
        have H3 : Hid (IX wB (w2.alloc (.cells #[.string nm, .slice none 0 0, .slice none 0 0, .slice none 0 0, .slice none 0 0] 32)) b w2.heap.size V oA.2.1 oA.2.2 (.string nm) (.slice none 0 0) (.slice none 0 0) (.slice none 0 0) (.slice none 0 0)) := Lib.hid ⟨cells5_new, k1.mono (Upd.alloc _ _ _), k1.size⟩
        clear k1 k2 k3 k4 hnm
        go_wp2_with fail
        clear hs
        refine (rReadList _ _ _ _ _ _ H3.out.K).mono ?_
        rw [← HoF.out]
        rintro e w3 ⟨r, rfl, k1, k2, k3, k4⟩
        obtain ⟨fa, fc, rfl⟩ := ownsRow_slice k3.row.1
        have H4 := Lib.hid (H3.out.rd k1 k2)
        have F4 : Hid (NF (w2.heap.size + 1) w3 (.slice fa oF.1.length fc) oF.1) := Lib.hid (k3.low H3.out.I.lt)
        clear k1 k2 k3 k4 H3
        obtain ⟨p, hp⟩ : ∃ p, p = w2.heap.size := ⟨_, rfl⟩
        rw [← hp] at H4 F4 ⊢
        have x1 := H4.out.I.c1
        have f1 := H4.out.I.fr 1
        have hbp := H4.out.bp
        clear hp
        go_wp2_with fail
        have H5 := Lib.hid (H4.out.set1 (.slice fa oF.1.length fc))
        have F5 := Lib.hid (F4.out.stay (box_upd w3 p 1 (.slice fa oF.1.length fc)) (fun k hk => by omega))
        clear x1 f1 H4 F4
        refine (fU8 H5.out.K).mono ?_
        rw [← HoD.out]
        rintro e w4 ⟨rfl, k1, k2, hb3, hb4⟩
        have H6 := Lib.hid (H5.out.rd k1 k2)
        have F6 := Lib.hid (F5.out.stay k2 (fun k hk => by omega))
        obtain ⟨N, hN⟩ : ∃ N : Nat, beN oD.1 = N := ⟨(beN oD.1).toNat, by omega⟩
        rw [hN] at hb4 ⊢
        have HEJ2 : Hid (J = preL [] (rImpsGo N oD.2.1 oD.2.2)) := Lib.hid (by rw [preL_nil, HEJ.out, hN]; rfl)
        have HNL1 := Lib.hid (show N ≤ 255 by omega)
        have R6 : Hid (ImpRow (p + 1) w4 (.slice none 0 0) []) := Lib.hid ⟨World.ownsRow_nil _ _ _ _, by simp [From, Value.ownBlock], by simp⟩
        have HL0 : Hid (([] : List (ImpM × Value)).length = 0) := Lib.hid rfl
        clear k1 k2 hb3 hb4 hN HEJ H5 F5 hbp
        go_wp2_with fail
        go_loopw [8] (fun n wr => ∃ (k m : Nat) (lk' : Bool) (ys' : List Int) (Q : List (ImpM × Value)) (va : Option Addr) (vc : Nat), k + m ≤ N ∧ N ≤ k + m ∧ n = .int .i64 m ∧ Hid (Q.length = k) ∧
          Hid (IX wB wr b p V lk' ys' (.string nm) (.slice fa oF.1.length fc) (.slice va k vc) (.slice none 0 0) (.slice none 0 0)) ∧
          Hid (NF (p + 1) wr (.slice fa oF.1.length fc) oF.1) ∧ Hid (ImpRow (p + 1) wr (.slice va k vc) Q) ∧
          Hid (J = preL (Q.map (·.1)) (rImpsGo m lk' ys'))) (fun n _ => (RowKit.intOf n).toNat)
        case atStart => exact ⟨0, N, _, _, [], none, 0, by omega, by omega, rfl, HL0, H6, F6, R6, HEJ2⟩
        case round =>
          obtain ⟨k, m, lk', ys', Q, va, vc, hm1, hm2, rfl, HQL, HM, HF, HR, HJJ⟩ := hrel
          have c1 := HM.out.K.cell1
          by_cases hgo : 0 < m ∧ lk' = false
          · as_aux_lemma =>
            --D{1
            obtain ⟨hm0, rfl⟩ := hgo
            obtain ⟨m', rfl⟩ : ∃ m', m = m' + 1 := ⟨m - 1, by omega⟩
            have hbp := HM.out.bp
            have hBW := HM.out.pl
            have hpw := HM.out.I.lt
            go_wp2_with fail
            refine (fShort HM.out.K).mono ?_
            obtain ⟨A, hA⟩ : ∃ A, A = shortP false ys' := ⟨_, rfl⟩
            rw [← hA]
            have HEA := Lib.hid hA
            rintro e w3 ⟨r, rfl, k1, k2, k3, k4⟩
            have hs := str3 k3
            obtain ⟨ra, rc, rfl, -, -⟩ := k3.slice
            obtain ⟨nm1, hnm1⟩ : ∃ nm1, nm1 = strOfNums A.1 := ⟨_, rfl⟩
            rw [← hnm1] at hs
            have HNM1 := Lib.hid hnm1
            have HAL := Lib.hid k4
            have H2 := Lib.hid (BX.start (t := 49) k1 k2 (by have := HM.out.K.size; omega) (.string nm1) (.int .i64 0) (.slice none 0 0) (.int .i64 0))
            clear k1 k2 k3 k4 hA hnm1 c1
            go_wp2_with fail
            clear hs
            refine (fU8 H2.out.K).mono ?_
            obtain ⟨B, hB⟩ : ∃ B, B = takeP 1 A.2.1 A.2.2 := ⟨_, rfl⟩
            rw [← hB]
            have HEB := Lib.hid hB
            rintro e w4 ⟨rfl, k1, k2, hb1, hb2⟩
            have H3 := Lib.hid (H2.out.rd k1 k2)
            obtain ⟨n1, hn1⟩ : ∃ n1, n1 = beN B.1 := ⟨_, rfl⟩
            rw [← hn1] at hb1 hb2 ⊢
            have HN1 := Lib.hid hn1
            have HBN1 := Lib.hid (And.intro hb1 hb2)
            have x1 := H3.out.I.c1
            have f1 := H3.out.I.fr 1
            clear k1 k2 hb1 hb2 hn1 hB
            go_wp2_with fail
            have H4 := Lib.hid (H3.out.set1 (.int .i64 n1))
            clear x1 f1
            refine (rReadList _ _ _ _ _ _ H4.out.K).mono ?_
            obtain ⟨C, hC⟩ : ∃ C, C = rListP B.2.1 B.2.2 := ⟨_, rfl⟩
            rw [← hC]
            have HEC := Lib.hid hC
            rintro e w5 ⟨r, rfl, k1, k2, k3, k4⟩
            obtain ⟨pa, pc, rfl⟩ := ownsRow_slice k3.row.1
            have H5 := Lib.hid (H4.out.rd k1 k2)
            have hs4 := H4.out.I.lt
            have P5 : Hid (NF (w3.heap.size + 1) w5 (.slice pa C.1.length pc) C.1) := Lib.hid (k3.low hs4)
            have x2 := H5.out.I.c2
            have f2 := H5.out.I.fr 2
            clear k1 k2 k3 k4 hC hs4
            go_wp2_with fail
            have H6 := Lib.hid (H5.out.set2 (.slice pa C.1.length pc))
            have P6 := Lib.hid (P5.out.box H5.out.I (by decide) 2 (.slice pa C.1.length pc))
            have hbx := H5.out.bx
            clear x2 f2
            refine (fU8 H6.out.K).mono ?_
            obtain ⟨D, hD⟩ : ∃ D, D = takeP 1 C.2.1 C.2.2 := ⟨_, rfl⟩
            rw [← hD]
            have HED := Lib.hid hD
            rintro e w6 ⟨rfl, k1, k2, hb1, hb2⟩
            have H7 := Lib.hid (H6.out.rd k1 k2)
            have P7 := Lib.hid (P6.out.stay k2 (fun k hk => by omega))
            obtain ⟨n2, hn2⟩ : ∃ n2, n2 = beN D.1 := ⟨_, rfl⟩
            rw [← hn2] at hb1 hb2 ⊢
            have HN2 := Lib.hid hn2
            have HBN2 := Lib.hid (And.intro hb1 hb2)
            have HRI : Hid (rImpP false ys' = (⟨nm1, n1, C.1, n2⟩, D.2)) := Lib.hid (by rw [HNM1.out, HN1.out, HN2.out, HED.out, HEC.out, HEB.out, HEA.out]; rfl)
            have H8 := Lib.hid (H7.out.set3 (.int .i64 n2))
            have P8 := Lib.hid (P7.out.box H7.out.I (by decide) 3 (.int .i64 n2))
            have M8 := Lib.hid (HM.out.rd H8.out.K H8.out.U)
            have F8 := Lib.hid (HF.out.stay H8.out.U (fun k hk => by omega))
            have R8 := Lib.hid (HR.out.stay H8.out.U (fun k hk => by omega))
            have hown := R8.out.row
            rw [HQL.out] at hown
            have HOWN := Lib.hid hown
            have HX8 : Hid (ImpOk (p + 1) (w6.setCell ⟨w3.heap.size, 3, none⟩ (.int .i64 n2)) (⟨nm1, n1, C.1, n2⟩, .slice pa C.1.length pc)) := Lib.hid ⟨P8.out.row, fun k hk => by have := P8.out.new k hk; have := H5.out.nx; omega, HBN1.out, HBN2.out, by show nm1.size ≤ 255; rw [HNM1.out, strOfNums_size]; exact HAL.out⟩
            have HSRC := Lib.hid (srcAt (w6.setCell ⟨w3.heap.size, 3, none⟩ (.int .i64 n2)) 49 #[.string nm1, .int .i64 n1, .slice pa C.1.length pc, .int .i64 n2] (ipc (⟨nm1, n1, C.1, n2⟩, .slice pa C.1.length pc)) rfl 4 (by simp [ipc, Value.oneCell']) 1 1 w6.heap.size (by simp [World.setCell]) rfl)
            have HU8 := Lib.hid (M8.out.K.upd)
            have x0 := H7.out.I.c0
            have x1 := H7.out.I.c1
            have x2 := H7.out.I.c2
            have x3 := H7.out.I.c3
            have f3 := H7.out.I.fr 3
            have y2 := (HM.out.rd H7.out.K H7.out.U).I.c2
            have y2' := M8.out.I.c2
            have hxp : ¬ p = w3.heap.size := by have := H7.out.nx; omega
            have hxp' : ¬ w3.heap.size = p := by omega
            have hNL := HNL1.out
            clear k1 k2 hb1 hb2 hn2 hown hD
            go_wp2_with (at_builtin; go_loud (refine wpList_append_mine _ rfl _ _ 29 rfl 0 49 i0 (.agg #[.string { data := #[] }, .int .i64 0, .slice none 0 0, .int .i64 0]) 4 56 Tryz.underlying29 hi hz0 hz1 hz2 rfl (by decide) (.slice va k vc) k (Q.flatMap ipc) rfl (HOWN.out.alloc _) 1 (ipc (⟨nm1, n1, C.1, n2⟩, .slice pa C.1.length pc)) HSRC.out (by unfold maxLen; omega) (by omega) (Nat.zero_le _) ?_))
            intro v' w7 ho hg hf
            have hu7 := Upd.row (Upd.alloc _ (w6.setCell ⟨w3.heap.size, 3, none⟩ (.int .i64 n2)) _) hg
            obtain ⟨na, nc, rfl⟩ := ownsRow_slice ho
            have hpw8 := M8.out.I.lt
            have hF7 : From (p + 1) (.slice na (k + 1) nc) := fun j hj => by
              rcases hf j hj with h | h
              · exact HR.out.new j h
              · simp at h hpw8; omega
            have HM7 := Lib.hid (M8.out.step hu7 (fun j hj => R8.out.new j hj))
            have hQ7 := F8.out.apart HOWN.out (by decide) hu7
            have hR7 : ImpRow (p + 1) w7 (.slice na (k + 1) nc) (Q ++ [(⟨nm1, n1, C.1, n2⟩, .slice pa C.1.length pc)]) := ⟨by
              rw [List.length_append, HQL.out, List.flatMap_append]
              simpa using ho, hF7, fun x hx => by
              rcases List.mem_append.1 hx with h | h
              · exact (R8.out.each x h).upd hu7 (fun j hj => row_ne (R8.out.each x h).row.1 HOWN.out (by decide) j hj)
              · simp at h; rw [h]; exact HX8.out.upd hu7 (fun j hj => row_ne HX8.out.row.1 HOWN.out (by decide) j hj)⟩
            have HM8 := Lib.hid (HM7.out.set2 (.slice na (k + 1) nc))
            have HQ8 := Lib.hid (hQ7.stay (box_upd w7 p 2 (.slice na (k + 1) nc)) (fun j hj => by omega))
            have HR8 := Lib.hid (hR7.stay (box_upd w7 p 2 (.slice na (k + 1) nc)) (fun j hj => by omega))
            have HL8 : Hid ((Q ++ [((⟨nm1, n1, C.1, n2⟩ : ImpM), Value.slice pa C.1.length pc)]).length = k + 1) := Lib.hid (by rw [List.length_append, HQL.out]; rfl)
            have HJ8 : Hid (J = preL ((Q ++ [((⟨nm1, n1, C.1, n2⟩ : ImpM), Value.slice pa C.1.length pc)]).map (·.1)) (rImpsGo m' D.2.1 D.2.2)) := Lib.hid (by rw [HJJ.out, rImps_step, List.map_append, HRI.out]; rfl)
            have c7 := HM7.out.I.c2
            have f7 := HM7.out.I.fr 2
            have HKK : Hid (D.2.1 = D.2.1) := Lib.hid rfl
            clear ho hg hf hu7 hF7 hQ7 hR7 x0 x1 x2 x3 f3 y2 y2'
            go_wp2_with fail
            go_roundw
            case rel => exact ⟨k + 1, m', _, _, _, na, nc, by omega, by omega, by go_num, HL8, HM8, HQ8, HR8, HJ8⟩
            case measure => simp [RowKit.intOf]
            --D}1
          · skip
            --D{m
            have hor : (m = 0) ∨ (0 < m ∧ lk' = true) := by
              by_cases h0 : m = 0
              · exact .inl h0
              · refine .inr ⟨by omega, ?_⟩
                cases lk' with
                | true => rfl
                | false => exact absurd ⟨by omega, rfl⟩ hgo
            clear hgo
            have HJE := Lib.hid (show J = (Q.map (·.1), lk', ys') by rw [HJJ.out]; exact rImps_stop (Q.map (·.1)) (hor.imp id (fun h => h.2)))
            obtain ⟨lk2, hlk2⟩ : ∃ lk2, lk2 = lk' := ⟨_, rfl⟩
            obtain ⟨ys2, hys2⟩ : ∃ ys2, ys2 = ys' := ⟨_, rfl⟩
            rw [← hlk2, ← hys2] at HM HJE
            rw [← hlk2] at c1
            rcases hor with rfl | ⟨hm0, hlt'⟩
            · as_aux_lemma =>
              clear hlk2 hys2
              have hbp := HM.out.bp
              have hBW := HM.out.pl
              have hpw := HM.out.I.lt
              go_wp2_with fail
              clear c1
              refine (fU8 HM.out.K).mono ?_
              rw [show takeP 1 lk2 ys2 = E by rw [HEE.out, HJE.out]]
              rintro e w4 ⟨rfl, k1, k2, hb3, hb4⟩
              have H6 := Lib.hid (HM.out.rd k1 k2)
              have F6 := Lib.hid (HF.out.stay k2 (fun j hj => by omega))
              have R6 := Lib.hid (HR.out.stay k2 (fun j hj => by omega))
              obtain ⟨G, hG⟩ : ∃ G : Nat, beN E.1 = G := ⟨(beN E.1).toNat, by omega⟩
              rw [hG] at hb4 ⊢
              have HEM2 : Hid (M = pre [] (rMetsGo G E.2.1 E.2.2)) := Lib.hid (by rw [pre_nil, HEM.out, hG]; rfl)
              have HGL := Lib.hid (show G ≤ 255 by omega)
              have T6 : Hid (MetRow (p + 1) w4 (.slice none 0 0) []) := Lib.hid ⟨World.ownsRow_nil _ _ _ _, by simp [From, Value.ownBlock], by simp⟩
              have HT0 : Hid (([] : List (MetM × Value × Value × Value)).length = 0) := Lib.hid rfl
              clear k1 k2 hb3 hb4 hG HEM
              go_wp2_with fail
              go_loopw [10] (fun n wr => ∃ (g m : Nat) (lk' : Bool) (ys' : List Int) (T : List (MetM × Value × Value × Value)) (ta : Option Addr) (tc : Nat), g + m ≤ G ∧ G ≤ g + m ∧ n = .int .i64 m ∧ Hid (T.length = g) ∧
                Hid (IX wB wr b p V lk' ys' (.string nm) (.slice fa oF.1.length fc) (.slice va k vc) (.slice ta g tc) (.slice none 0 0)) ∧
                Hid (NF (p + 1) wr (.slice fa oF.1.length fc) oF.1) ∧ Hid (ImpRow (p + 1) wr (.slice va k vc) Q) ∧ Hid (MetRow (p + 1) wr (.slice ta g tc) T) ∧
                Hid (M = pre (T.map (·.1)) (rMetsGo m lk' ys'))) (fun n _ => (RowKit.intOf n).toNat)
              case atStart => exact ⟨0, G, _, _, [], none, 0, by omega, by omega, rfl, HT0, H6, F6, R6, T6, HEM2⟩
              case round =>
                obtain ⟨g, m, lk', ys', T, ta, tc, hm1, hm2, rfl, HTL, HM, HF, HR, HT, HMM⟩ := hrel
                have c1 := HM.out.K.cell1
                by_cases hgo : 0 < m ∧ lk' = false
                · as_aux_lemma =>
                  --D{2
                  obtain ⟨wo, hwo⟩ : ∃ wo : World, wo = wr := ⟨_, rfl⟩
                  subst hwo
                  obtain ⟨hm0, rfl⟩ := hgo
                  obtain ⟨m', rfl⟩ : ∃ m', m = m' + 1 := ⟨m - 1, by omega⟩
                  have hbp := HM.out.bp
                  have hBW := HM.out.pl
                  have hpw := HM.out.I.lt
                  have H0 := Lib.hid (BX.start (t := 52) HM.out.K (Upd.refl _ _) (by omega) (.slice none 0 0) (.int .i64 0) (.slice none 0 0) (.slice none 0 0))
                  go_wp2_with fail
                  clear c1
                  refine (rReadList _ _ _ _ _ _ H0.out.K).mono ?_
                  obtain ⟨A, hA⟩ : ∃ A, A = rListP false ys' := ⟨_, rfl⟩
                  rw [← hA]
                  have HEA := Lib.hid hA
                  rintro e w3 ⟨r, rfl, k1, k2, k3, k4⟩
                  obtain ⟨pa, pc, rfl⟩ := ownsRow_slice k3.row.1
                  have H1 := Lib.hid (H0.out.rd k1 k2)
                  have P1 : Hid (NF (wo.heap.size + 1) w3 (.slice pa A.1.length pc) A.1) := Lib.hid (k3.low H0.out.I.lt)
                  have x0 := H1.out.I.c0
                  have f0 := H1.out.I.fr 0
                  clear k1 k2 k3 k4 hA
                  go_wp2_with fail
                  have H2 := Lib.hid (H1.out.set0 (.slice pa A.1.length pc))
                  have P2 := Lib.hid (P1.out.box H1.out.I (by decide) 0 (.slice pa A.1.length pc))
                  have hbx := H1.out.bx
                  clear x0 f0
                  refine (fU8 H2.out.K).mono ?_
                  obtain ⟨B, hB⟩ : ∃ B, B = takeP 1 A.2.1 A.2.2 := ⟨_, rfl⟩
                  rw [← hB]
                  have HEB := Lib.hid hB
                  rintro e w4 ⟨rfl, k1, k2, hb1, hb2⟩
                  have H3 := Lib.hid (H2.out.rd k1 k2)
                  have P3 := Lib.hid (P2.out.stay k2 (fun k hk => by omega))
                  obtain ⟨n1, hn1⟩ : ∃ n1, n1 = beN B.1 := ⟨_, rfl⟩
                  rw [← hn1] at hb1 hb2 ⊢
                  have HN1 := Lib.hid hn1
                  have HBN1 := Lib.hid (And.intro hb1 hb2)
                  have x1 := H3.out.I.c1
                  have f1 := H3.out.I.fr 1
                  clear k1 k2 hb1 hb2 hn1 hB
                  go_wp2_with fail
                  have H4 := Lib.hid (H3.out.set1 (.int .i64 n1))
                  have P4 := Lib.hid (P3.out.box H3.out.I (by decide) 1 (.int .i64 n1))
                  clear x1 f1
                  refine (rReadList _ _ _ _ _ _ H4.out.K).mono ?_
                  obtain ⟨C, hC⟩ : ∃ C, C = rListP B.2.1 B.2.2 := ⟨_, rfl⟩
                  rw [← hC]
                  have HEC := Lib.hid hC
                  rintro e w5 ⟨r, rfl, k1, k2, k3, k4⟩
                  obtain ⟨qa, qc, rfl⟩ := ownsRow_slice k3.row.1
                  have H5 := Lib.hid (H4.out.rd k1 k2)
                  have P5 := Lib.hid (P4.out.stay k2 (fun k hk => by omega))
                  have Q5 : Hid (NF (wo.heap.size + 1) w5 (.slice qa C.1.length qc) C.1) := Lib.hid (k3.low H4.out.I.lt)
                  have x2 := H5.out.I.c2
                  have f2 := H5.out.I.fr 2
                  clear k1 k2 k3 k4 hC
                  go_wp2_with fail
                  have H6 := Lib.hid (H5.out.set2 (.slice qa C.1.length qc))
                  have P6 := Lib.hid (P5.out.box H5.out.I (by decide) 2 (.slice qa C.1.length qc))
                  have Q6 := Lib.hid (Q5.out.box H5.out.I (by decide) 2 (.slice qa C.1.length qc))
                  clear x2 f2
                  refine (fU8 H6.out.K).mono ?_
                  obtain ⟨D, hD⟩ : ∃ D, D = takeP 1 C.2.1 C.2.2 := ⟨_, rfl⟩
                  rw [← hD]
                  have HED := Lib.hid hD
                  rintro e w6 ⟨rfl, k1, k2, hb1, hb2⟩
                  have H7 := Lib.hid (H6.out.rd k1 k2)
                  have P7 := Lib.hid (P6.out.stay k2 (fun k hk => by omega))
                  have Q7 := Lib.hid (Q6.out.stay k2 (fun k hk => by omega))
                  obtain ⟨N2, hN2⟩ : ∃ N2 : Nat, beN D.1 = N2 := ⟨(beN D.1).toNat, by omega⟩
                  have HLK7 : Hid (D.2.1 = true → N2 = 0) := Lib.hid (fun hl => by
                    have h := take_lack (n := 1) (lk := C.2.1) (ys := C.2.2) H6.out.K.st (by omega) (by rw [← hD]; exact hl)
                    rw [← hD] at h
                    rw [h] at hN2
                    simp [beN] at hN2
                    omega)
                  rw [hN2] at hb2 ⊢
                  have HRM7 : Hid (rMetP false ys' = ((pre [] (codeGo N2 D.2.1 D.2.2)).1, ⟨A.1, n1, C.1, (pre [] (codeGo N2 D.2.1 D.2.2)).2.1⟩, (pre [] (codeGo N2 D.2.1 D.2.2)).2.2)) := Lib.hid (by
                    rw [pre_nil, HN1.out]
                    unfold rMetP
                    simp only
                    rw [← HEA.out, ← HEB.out, ← HEC.out, ← HED.out, hN2]
                    rfl)
                  have HN2L := Lib.hid (show N2 ≤ 255 by omega)
                  have R7 : Hid (IRow w6 (.slice none 0 0) []) := Lib.hid ⟨World.ownsRow_nil _ _ _ _, by simp⟩
                  have G7 : Hid (From (wo.heap.size + 1) (.slice none 0 0)) := Lib.hid (by simp [From, Value.ownBlock])
                  have HL7 : Hid (([] : List InsM).length = 0) := Lib.hid rfl
                  clear k1 k2 hb1 hb2 hN2 hD H0 H1 H2 H3 H4 H5 H6 P1 P2 P3 P4 P5 P6 Q5 Q6
                  go_wp2_with fail
                  go_loopw [12] (fun n wi => ∃ (j m2 : Nat) (lk2 : Bool) (ys2 : List Int) (L : List InsM) (ra : Option Addr) (rc : Nat), j + m2 ≤ N2 ∧ N2 ≤ j + m2 ∧ n = .int .i64 m2 ∧ Hid (L.length = j) ∧
                    Hid (BX 52 wB wo wi b wo.heap.size V lk2 ys2 (.slice pa A.1.length pc) (.int .i64 n1) (.slice qa C.1.length qc) (.slice ra j rc)) ∧
                    Hid (NF (wo.heap.size + 1) wi (.slice pa A.1.length pc) A.1) ∧ Hid (NF (wo.heap.size + 1) wi (.slice qa C.1.length qc) C.1) ∧ Hid (IRow wi (.slice ra j rc) L) ∧ Hid (From (wo.heap.size + 1) (.slice ra j rc)) ∧
                    Hid (rMetP false ys' = ((pre L (codeGo m2 lk2 ys2)).1, ⟨A.1, n1, C.1, (pre L (codeGo m2 lk2 ys2)).2.1⟩, (pre L (codeGo m2 lk2 ys2)).2.2)) ∧ Hid (lk2 = true → m2 = 0)) (fun n _ => (RowKit.intOf n).toNat)
                  case atStart => exact ⟨0, N2, _, _, [], none, 0, by omega, by omega, rfl, HL7, H7, P7, Q7, R7, G7, HRM7, HLK7⟩
                  case round =>
                    obtain ⟨j, m2, lk2, ys2, L, ra, rc, hj1, hj2, rfl, HLL, HB, HPV, HQV, HCR, HCF, HPP, HLK⟩ := hrel
                    by_cases hgo2 : 0 < m2
                    · obtain ⟨m3, rfl⟩ : ∃ m3, m2 = m3 + 1 := ⟨m2 - 1, by omega⟩
                      obtain rfl : lk2 = false := by
                        cases lk2 with
                        | false => rfl
                        | true => have := HLK.out rfl; omega
                      have c1 := HB.out.K.cell1
                      go_wp2_with fail
                      refine (fRead HB.out.K).mono ?_
                      rintro e w7 (⟨he, rfl, hu⟩ | ⟨he, rfl, k1, k2⟩)
                      · as_aux_lemma =>
                        have e1 : R.1 = M.1 := by rw [HPR.out]
                        have e2 : M.1 = (rMetP false ys').1 := by
                          rw [HMM.out]
                          exact rMets_err (T.map (·.1)) (by rw [HPP.out, codeGo_err L he]; exact he)
                        have e3 : (rMetP false ys').1 = errI false ys2 := by rw [HPP.out]; exact codeGo_err L he
                        obtain ⟨er, her⟩ : ∃ er, er = errI false ys2 := ⟨_, rfl⟩
                        rw [← her] at he e3 ⊢
                        have HP := Lib.hid (show rReadP ys = (er, imgN) by rw [HPM.out, e1, e2, e3, if_pos he])
                        have hb : (er == 0) = false := beq_eq_false_iff_ne.2 he
                        have hb' : (er != 0) = true := by simp [bne, hb]
                        have HUE := Lib.hid ((HB.out.K.upd.trans hu (fun _ h _ => h)).trans (Upd.alloc (fun _ => False) w7 (.cells #[.int .i64 0, .int .i64 0, .int .i64 0] 55)) (fun _ h _ => h.elim))
                        clear e1 e2 e3 her he hu c1
                        have HJR := Lib.hid (rdBoxes HRB.out HNB.out HUB.out HUE.out (by omega) (by omega))
                        have j0 := HJR.out.1.c0
                        have j1 := HJR.out.1.c1
                        have j2 := HJR.out.1.c2
                        have j3 := HJR.out.1.c3
                        have j4 := HJR.out.1.c4
                        have g0 := HJR.out.1.fr 0
                        have g1 := HJR.out.1.fr 1
                        have g2 := HJR.out.1.fr 2
                        have g3 := HJR.out.1.fr 3
                        have g4 := HJR.out.1.fr 4
                        have n0 := HJR.out.2.1.c0
                        have n1 := HJR.out.2.1.c1
                        have n2 := HJR.out.2.1.c2
                        have n3 := HJR.out.2.1.c3
                        have n4 := HJR.out.2.1.c4
                        have hrn : ¬ w.heap.size = w.heap.size + 1 := by omega
                        have hrn' : ¬ w.heap.size + 1 = w.heap.size := by omega
                        obtain ⟨wF, hwF, hF1, hF2⟩ := fin5e HJR.out.1 (.string { data := #[] }) (.slice none 0 0) (.slice none 0 0) (.slice none 0 0) (.slice none 0 0)
                        have HWF := Lib.hid hwF
                        have HFI := Lib.hid hF1
                        have HUP := Lib.hid (upd_new (HJR.out.2.2.trans hF2 (fun i hi hlt => by omega)))
                        clear hwF hF1 hF2
                        generalize w.heap.size + 1 = N0 at *
                        generalize w.heap.size = R0 at *
                        --CUT r
                        go_wp2_with fail
                        --CUT q
                        rw [← HWF.out]
                        have JF := HFI.out
                        clear j0 j1 j2 j3 j4
                        have j0 := JF.c0
                        have j1 := JF.c1
                        have j2 := JF.c2
                        have j3 := JF.c3
                        have j4 := JF.c4
                        --CUT z
                        --TRACE
                        refine bodyPost_ret (v := .tuple #[img0, .int .i64 (er)]) (by simp only [results, Tryz.f9]; simp [go_sem, j0, j1, j2, j3, j4]) rfl ?_
                        --CUT y
                        exact ⟨_, by rw [HP.out], by rw [HP.out]; exact img0_is _, HUP.out⟩
                      · have HE := Lib.hid he
                        have HM5 := Lib.hid (HB.out.rd k1 k2)
                        have HP5 := Lib.hid (HPV.out.stay k2 (fun k hk => by omega))
                        have HQ5 := Lib.hid (HQV.out.stay k2 (fun k hk => by omega))
                        have HR5 := Lib.hid (HCR.out.upd k2 (fun k hk hk2 => by have := HCF.out k hk; omega))
                        obtain ⟨n, hn⟩ : ∃ n : InsM, n = ⟨opI false ys2, (restI false ys2).1, (restI false ys2).2.1⟩ := ⟨_, rfl⟩
                        have HNR := Lib.hid (show insR n = true by rw [hn]; exact err_right he)
                        rw [show ins (opI false ys2) (restI false ys2).1 (restI false ys2).2.1 = ins n.op n.a n.b by rw [hn]]
                        have HPS := Lib.hid (codeGo_step (n := m3) L he)
                        rw [← hn] at HPS
                        have ha := Upd.alloc (fun _ => False) w7 (.cells #[.int .i64 n.op, .int .i64 n.a, .int .i64 n.b] 55)
                        have HM6 := Lib.hid (HM5.out.mono ha)
                        have HP6 := Lib.hid (HP5.out.mono ha)
                        have HQ6 := Lib.hid (HQ5.out.mono ha)
                        have hr6 := HR5.out.upd ha (fun _ _ h => h)
                        have HR6 := Lib.hid hr6
                        have hown := hr6.1
                        rw [HLL.out] at hown
                        have HOWN := Lib.hid hown
                        have c3 := HM5.out.I.c3
                        have c3' := HM6.out.I.c3
                        have hNL := HN2L.out
                        have hlt5 := HM5.out.I.lt
                        have HSRC := Lib.hid (srcAt (w7.alloc (.cells #[.int .i64 n.op, .int .i64 n.a, .int .i64 n.b] 55)) 55 #[.int .i64 n.op, .int .i64 n.a, .int .i64 n.b] (icl n) rfl 3 (by simp [icl, Value.oneCell']) 1 1 (w7.heap.size + 1) (by simp) rfl)
                        clear he k1 k2 hn ha hr6 hown c1
                        go_wp2_with (at_builtin; go_loud (refine wpList_append_mine _ rfl _ _ 50 rfl 0 55 i2 (.agg #[.int .i64 0, .int .i64 0, .int .i64 0]) 3 24 Tryz.underlying50 hi'' hz0'' hz1'' hz2'' rfl (by decide) (.slice ra j rc) j (L.flatMap icl) rfl (HOWN.out.alloc _) 1 (icl n) HSRC.out (by unfold maxLen; omega) (by omega) (Nat.zero_le _) ?_))
                        intro v' w8 ho hg hf
                        have hu7 := Upd.row (Upd.alloc _ (w7.alloc (.cells #[.int .i64 n.op, .int .i64 n.a, .int .i64 n.b] 55)) _) hg
                        obtain ⟨va2, vc2, rfl⟩ := ownsRow_slice ho
                        have hF7 : From (wo.heap.size + 1) (.slice va2 (j + 1) vc2) := fun i hi => by
                          rcases hf i hi with h | h
                          · exact HCF.out i h
                          · simp at h; omega
                        have HM7 := Lib.hid (HM6.out.step hu7 (fun i hi => HCF.out i hi))
                        have HP7 := Lib.hid (HP6.out.apart HOWN.out (by decide) hu7)
                        have HQ7 := Lib.hid (HQ6.out.apart HOWN.out (by decide) hu7)
                        have hR7 : IRow w8 (.slice va2 (j + 1) vc2) (L ++ [n]) := ⟨by
                          rw [List.length_append, HLL.out, List.flatMap_append]
                          simpa using ho, fun i hi => by
                          rcases List.mem_append.1 hi with h | h
                          · exact HCR.out.2 i h
                          · simp at h; rw [h]; exact HNR.out⟩
                        have HM8 := Lib.hid (HM7.out.set3 (.slice va2 (j + 1) vc2))
                        have HP8 := Lib.hid (HP7.out.box HM7.out.I (by decide) 3 (.slice va2 (j + 1) vc2))
                        have HQ8 := Lib.hid (HQ7.out.box HM7.out.I (by decide) 3 (.slice va2 (j + 1) vc2))
                        have HR8 := Lib.hid (hR7.box HM7.out.I (by decide) 3 (.slice va2 (j + 1) vc2))
                        have HF8 := Lib.hid hF7
                        have HL8 : Hid ((L ++ [n]).length = j + 1) := Lib.hid (by rw [List.length_append, HLL.out]; rfl)
                        have HPP8 : Hid (rMetP false ys' = ((pre (L ++ [n]) (codeGo m3 false (restI false ys2).2.2.2)).1, ⟨A.1, n1, C.1, (pre (L ++ [n]) (codeGo m3 false (restI false ys2).2.2.2)).2.1⟩, (pre (L ++ [n]) (codeGo m3 false (restI false ys2).2.2.2)).2.2)) := Lib.hid (by rw [HPP.out, HPS.out])
                        have HLK8 : Hid (false = true → m3 = 0) := Lib.hid (fun h => by cases h)
                        have c7 := HM7.out.I.c3
                        have f7 := HM7.out.I.fr 3
                        clear ho hg hf hu7 hF7 hR7 c3 c3'
                        go_wp2_with fail
                        go_roundw
                        case rel => exact ⟨j + 1, m3, _, _, _, va2, vc2, by omega, by omega, by go_num, HL8, HM8, HP8, HQ8, HR8, HF8, HPP8, HLK8⟩
                        case measure => simp [RowKit.intOf]
                    · obtain rfl : m2 = 0 := by omega
                      have HRE : Hid (rMetP false ys' = (0, ⟨A.1, n1, C.1, L⟩, lk2, ys2)) := Lib.hid (by rw [HPP.out]; simp [pre, codeGo])
                      have M8 := Lib.hid (HM.out.rd HB.out.K HB.out.U)
                      have F8 := Lib.hid (HF.out.stay HB.out.U (fun k hk => by omega))
                      have R8 := Lib.hid (HR.out.stay HB.out.U (fun k hk => by omega))
                      have T8 := Lib.hid (HT.out.stay HB.out.U (fun k hk => by omega))
                      have HX8 : Hid (MetOk (p + 1) wr (⟨A.1, n1, C.1, L⟩, .slice pa A.1.length pc, .slice qa C.1.length qc, .slice ra j rc)) := Lib.hid ⟨HPV.out.row, HQV.out.row, HCR.out, fun k hk => by have := HPV.out.new k hk; omega, fun k hk => by have := HQV.out.new k hk; omega, fun k hk => by have := HCF.out k hk; omega, HBN1.out⟩
                      have hown := T8.out.row
                      rw [HTL.out] at hown
                      have HOWN := Lib.hid hown
                      have HSRC := Lib.hid (srcAt wr 52 #[.slice pa A.1.length pc, .int .i64 n1, .slice qa C.1.length qc, .slice ra j rc] (mtc (⟨A.1, n1, C.1, L⟩, .slice pa A.1.length pc, .slice qa C.1.length qc, .slice ra j rc)) rfl 4 (by simp [mtc, Value.oneCell']) 1 1 wr.heap.size rfl rfl)
                      have x0 := HB.out.I.c0
                      have x1 := HB.out.I.c1
                      have x2 := HB.out.I.c2
                      have x3 := HB.out.I.c3
                      have y3 := M8.out.I.c3
                      have hGL := HGL.out
                      have hlt5 := HB.out.I.lt
                      clear hown
                      go_wp2_with (at_builtin; go_loud (refine wpList_append_mine _ rfl _ _ 30 rfl 0 52 i1 (.agg #[.slice none 0 0, .int .i64 0, .slice none 0 0, .slice none 0 0]) 4 80 Tryz.underlying30 hi' hz0' hz1' hz2' rfl (by decide) (.slice ta g tc) g (T.flatMap mtc) rfl (HOWN.out.alloc _) 1 (mtc (⟨A.1, n1, C.1, L⟩, .slice pa A.1.length pc, .slice qa C.1.length qc, .slice ra j rc)) HSRC.out (by unfold maxLen; omega) (by omega) (Nat.zero_le _) ?_))
                      intro v' w9 ho hg hf
                      have hu7 := Upd.row (Upd.alloc _ wr _) hg
                      obtain ⟨na, nc, rfl⟩ := ownsRow_slice ho
                      have hF7 : From (p + 1) (.slice na (g + 1) nc) := fun i hi => by
                        rcases hf i hi with h | h
                        · exact HT.out.new i h
                        · simp at h; omega
                      have HM7 := Lib.hid (M8.out.step hu7 (fun i hi => HT.out.new i hi))
                      have hQ7 := F8.out.apart HOWN.out (by decide) hu7
                      have hR7 := R8.out.apart HOWN.out (by decide) (by decide) hu7
                      have hT7 : MetRow (p + 1) w9 (.slice na (g + 1) nc) (T ++ [(⟨A.1, n1, C.1, L⟩, .slice pa A.1.length pc, .slice qa C.1.length qc, .slice ra j rc)]) := ⟨by
                        rw [List.length_append, HTL.out, List.flatMap_append]
                        simpa using ho, hF7, fun x hx => by
                        rcases List.mem_append.1 hx with h | h
                        · exact (T8.out.each x h).upd hu7 (fun i hi => row_ne (T8.out.each x h).p.1 HOWN.out (by decide) i hi) (fun i hi => row_ne (T8.out.each x h).q.1 HOWN.out (by decide) i hi) (fun i hi => row_ne (T8.out.each x h).r.1 HOWN.out (by decide) i hi)
                        · simp at h; rw [h]; exact HX8.out.upd hu7 (fun i hi => row_ne HX8.out.p.1 HOWN.out (by decide) i hi) (fun i hi => row_ne HX8.out.q.1 HOWN.out (by decide) i hi) (fun i hi => row_ne HX8.out.r.1 HOWN.out (by decide) i hi)⟩
                      have HM8 := Lib.hid (HM7.out.set3 (.slice na (g + 1) nc))
                      have HF8 := Lib.hid (hQ7.stay (box_upd w9 p 3 (.slice na (g + 1) nc)) (fun i hi => by omega))
                      have HR8 := Lib.hid (hR7.stay (box_upd w9 p 3 (.slice na (g + 1) nc)) (fun i hi => by omega))
                      have HT8 := Lib.hid (hT7.stay (box_upd w9 p 3 (.slice na (g + 1) nc)) (fun i hi => by omega))
                      have HL8 : Hid ((T ++ [((⟨A.1, n1, C.1, L⟩ : MetM), Value.slice pa A.1.length pc, Value.slice qa C.1.length qc, Value.slice ra j rc)]).length = g + 1) := Lib.hid (by rw [List.length_append, HTL.out]; rfl)
                      have HM9 : Hid (M = pre ((T ++ [((⟨A.1, n1, C.1, L⟩ : MetM), Value.slice pa A.1.length pc, Value.slice qa C.1.length qc, Value.slice ra j rc)]).map (·.1)) (rMetsGo m' lk2 ys2)) := Lib.hid (by rw [HMM.out, rMets_step _ (by rw [HRE.out]), List.map_append, HRE.out]; rfl)
                      have c7 := HM7.out.I.c3
                      have f7 := HM7.out.I.fr 3
                      clear ho hg hf hu7 hF7 hQ7 hR7 hT7 x0 x1 x2 x3 y3
                      go_wp2_with fail
                      go_roundw
                      case rel => exact ⟨g + 1, m', _, _, _, na, nc, by omega, by omega, by go_num, HL8, HM8, HF8, HR8, HT8, HM9⟩
                      case measure => simp [RowKit.intOf]
                  --D}2
                · skip
                  --D{t
                  have hor : (m = 0) ∨ (0 < m ∧ lk' = true) := by
                    by_cases h0 : m = 0
                    · exact .inl h0
                    · refine .inr ⟨by omega, ?_⟩
                      cases lk' with
                      | true => rfl
                      | false => exact absurd ⟨by omega, rfl⟩ hgo
                  clear hgo
                  have HME := Lib.hid (show M = (0, T.map (·.1), lk', ys') by rw [HMM.out]; exact rMets_stop (T.map (·.1)) (hor.imp id (fun h => h.2)))
                  obtain ⟨lk2, hlk2⟩ : ∃ lk2, lk2 = lk' := ⟨_, rfl⟩
                  obtain ⟨ys2, hys2⟩ : ∃ ys2, ys2 = ys' := ⟨_, rfl⟩
                  rw [← hlk2, ← hys2] at HM HME
                  rw [← hlk2] at c1
                  rcases hor with rfl | ⟨hm0, hlt'⟩
                  · as_aux_lemma =>
                    clear hlk2 hys2
                    have hbp := HM.out.bp
                    have hBW := HM.out.pl
                    have hpw := HM.out.I.lt
                    go_wp2_with fail
                    clear c1
                    refine (rReadList _ _ _ _ _ _ HM.out.K).mono ?_
                    obtain ⟨X, hX⟩ : ∃ X, X = rListP lk2 ys2 := ⟨_, rfl⟩
                    rw [← hX]
                    have HXE := Lib.hid hX
                    rintro e w5 ⟨r, rfl, k1, k2, k3, k4⟩
                    obtain ⟨xa, xc, rfl⟩ := ownsRow_slice k3.row.1
                    have H7 := Lib.hid (HM.out.rd k1 k2)
                    have F7 := Lib.hid (HF.out.stay k2 (fun k hk => by omega))
                    have R7 := Lib.hid (HR.out.stay k2 (fun k hk => by omega))
                    have T7 := Lib.hid (HT.out.stay k2 (fun k hk => by omega))
                    have X7 : Hid (NF (p + 1) w5 (.slice xa X.1.length xc) X.1) := Lib.hid (k3.low hpw)
                    have i4 := H7.out.I.c4
                    have h4 := H7.out.I.fr 4
                    have q1 := H7.out.K.cell1
                    obtain ⟨qa, qc, q0⟩ := H7.out.K.cell0
                    have H8 := Lib.hid (H7.out.set4 (.slice xa X.1.length xc))
                    have hbne : ¬ b = p := by omega
                    have hbne' : ¬ p = b := by omega
                    have F8 := Lib.hid (F7.out.stay (box_upd w5 p 4 (.slice xa X.1.length xc)) (fun i hi => by omega))
                    have R8 := Lib.hid (R7.out.stay (box_upd w5 p 4 (.slice xa X.1.length xc)) (fun i hi => by omega))
                    have T8 := Lib.hid (T7.out.stay (box_upd w5 p 4 (.slice xa X.1.length xc)) (fun i hi => by omega))
                    have X8 := Lib.hid (X7.out.stay (box_upd w5 p 4 (.slice xa X.1.length xc)) (fun i hi => by omega))
                    have q1' := H8.out.K.cell1
                    obtain ⟨qa', qc', q0'⟩ := H8.out.K.cell0
                    have HRE := Lib.hid (show R = (0, ⟨nm, oF.1, Q.map (·.1), T.map (·.1), X.1⟩, X.2) by rw [HPR.out, HME.out, HNM.out, HJE.out, HXE.out])
                    have HP0 := Lib.hid (show rReadP ys = if X.2.1 = true then (7, imgN) else if X.2.2 ≠ [] ∨ imgB insB ⟨nm, oF.1, Q.map (·.1), T.map (·.1), X.1⟩ = false then (5, imgN) else (0, ⟨nm, oF.1, Q.map (·.1), T.map (·.1), X.1⟩) by
                      rw [HPM.out, HRE.out, if_neg (by simp)])
                    obtain ⟨I, hI⟩ : ∃ I : ImgM, I = ⟨nm, oF.1, Q.map (·.1), T.map (·.1), X.1⟩ := ⟨_, rfl⟩
                    rw [← hI] at HP0
                    have hnm : nm.size ≤ maxLen := by
                      rw [HNM.out, strOfNums_size]
                      have := HNL.out
                      unfold maxLen
                      omega
                    have HIF : Hid (ImgFrom (p + 1) (w5.setCell ⟨p, 4, none⟩ (.slice xa X.1.length xc)) (img5 nm (.slice fa oF.1.length fc) (.slice va k vc) (.slice ta g tc) (.slice xa X.1.length xc)) I) := Lib.hid (by
                      rw [hI]
                      exact ⟨_, _, _, _, rfl, ⟨F8.out.row.ints, F8.out.new⟩, R8.out.imps, T8.out.mets, ⟨X8.out.row.ints, X8.out.new⟩, hnm⟩)
                    have HIMG : Hid (Img (w5.setCell ⟨p, 4, none⟩ (.slice xa X.1.length xc)) (img5 nm (.slice fa oF.1.length fc) (.slice va k vc) (.slice ta g tc) (.slice xa X.1.length xc)) I) := Lib.hid (by
                      exact HIF.out.is)
                    have HUK := Lib.hid (H8.out.K.upd)
                    clear k1 k2 k3 k4 hX hI hnm HRE
                    cases hlx : X.2.1 with
                    | true => as_aux_lemma =>
                      rw [hlx] at q1 q1'
                      have HP := Lib.hid (show rReadP ys = (7, imgN) by rw [HP0.out, if_pos hlx])
                      clear hlx
                      have HJR := Lib.hid (rdBoxes HRB.out HNB.out HUB.out HUK.out (by omega) (by omega))
                      have j0 := HJR.out.1.c0
                      have j1 := HJR.out.1.c1
                      have j2 := HJR.out.1.c2
                      have j3 := HJR.out.1.c3
                      have j4 := HJR.out.1.c4
                      have g0 := HJR.out.1.fr 0
                      have g1 := HJR.out.1.fr 1
                      have g2 := HJR.out.1.fr 2
                      have g3 := HJR.out.1.fr 3
                      have g4 := HJR.out.1.fr 4
                      have n0 := HJR.out.2.1.c0
                      have n1 := HJR.out.2.1.c1
                      have n2 := HJR.out.2.1.c2
                      have n3 := HJR.out.2.1.c3
                      have n4 := HJR.out.2.1.c4
                      have hrn : ¬ w.heap.size = w.heap.size + 1 := by omega
                      have hrn' : ¬ w.heap.size + 1 = w.heap.size := by omega
                      obtain ⟨wF, hwF, hF1, hF2⟩ := fin5e HJR.out.1 (.string { data := #[] }) (.slice none 0 0) (.slice none 0 0) (.slice none 0 0) (.slice none 0 0)
                      have HWF := Lib.hid hwF
                      have HFI := Lib.hid hF1
                      have HUP := Lib.hid (upd_new (HJR.out.2.2.trans hF2 (fun i hi hlt => by omega)))
                      clear hwF hF1 hF2
                      generalize w.heap.size + 1 = N0 at *
                      generalize w.heap.size = R0 at *
                      --CUT r
                      go_wp2_with fail
                      --CUT q
                      rw [← HWF.out]
                      have JF := HFI.out
                      clear j0 j1 j2 j3 j4
                      have j0 := JF.c0
                      have j1 := JF.c1
                      have j2 := JF.c2
                      have j3 := JF.c3
                      have j4 := JF.c4
                      --CUT z
                      --TRACE
                      refine bodyPost_ret (v := .tuple #[img0, .int .i64 (7)]) (by simp only [results, Tryz.f9]; simp [go_sem, j0, j1, j2, j3, j4]) rfl ?_
                      --CUT y
                      exact ⟨_, by rw [HP.out], by rw [HP.out]; exact img0_is _, HUP.out⟩
                    | false =>
                      rw [hlx] at q1 q1'
                      have HP1 := Lib.hid (show rReadP ys = if X.2.2 ≠ [] ∨ imgB insB I = false then (5, imgN) else (0, I) by rw [HP0.out, if_neg (by rw [hlx]; decide)])
                      obtain ⟨zs, hzs⟩ : ∃ zs, zs = X.2.2 := ⟨_, rfl⟩
                      rw [← hzs] at q0 q0' HP1
                      clear hlx hzs
                      by_cases hz : zs = []
                      · subst hz
                        have z0 := H8.out.I.c0
                        have z1 := H8.out.I.c1
                        have z2 := H8.out.I.c2
                        have z3 := H8.out.I.c3
                        have z4 := H8.out.I.c4
                        have i0 := H7.out.I.c0
                        have i1 := H7.out.I.c1
                        have i2 := H7.out.I.c2
                        have i3 := H7.out.I.c3
                        have HUW := Lib.hid (rdBoxes HRB.out HNB.out HUB.out HUK.out (by omega) (by omega)).2.2
                        have HRG := Lib.hid (rRightI _ _ I HIMG.out (HNO.out.later (upd_below (upd_new HUW.out))))
                        have HXL : Hid (w.heap.size < (w5.setCell ⟨p, 4, none⟩ (.slice xa X.1.length xc)).heap.size) := Lib.hid (by have := H8.out.I.lt; omega)
                        go_wp2_with fail
                        refine HRG.out.mono ?_
                        rintro e w6 ⟨r, rfl, hr, hu⟩
                        have H9 := Lib.hid (H8.out.mono hu)
                        have HFIN : Hid (∀ u, Upd (fun k => k = w.heap.size) w6 u → Img u (img5 nm (.slice fa oF.1.length fc) (.slice va k vc) (.slice ta g tc) (.slice xa X.1.length xc)) I) := Lib.hid (fun u hu2 => by
                          have h : ImgFrom (p + 1) u (img5 nm (.slice fa oF.1.length fc) (.slice va k vc) (.slice ta g tc) (.slice xa X.1.length xc)) I := (HIF.out.upd hu (fun _ h => h.elim)).upd hu2 (fun i hi => by omega)
                          exact h.is)
                        have HU9 := Lib.hid (HUK.out.trans hu (fun _ h _ => h.elim))
                        clear hu z0 z1 z2 z3 z4 i0 i1 i2 i3 i4 h4 q0 q1 q0' q1'
                        cases r with
                        | false => as_aux_lemma =>
                          have HP := Lib.hid (show rReadP ys = (5, imgN) by rw [HP1.out, if_pos (.inr (by cases h : imgB insB I; rfl; exact absurd (hr.2 h) (by decide)))])
                          clear hr
                          have HJR := Lib.hid (rdBoxes HRB.out HNB.out HUB.out HU9.out (by omega) (by omega))
                          have j0 := HJR.out.1.c0
                          have j1 := HJR.out.1.c1
                          have j2 := HJR.out.1.c2
                          have j3 := HJR.out.1.c3
                          have j4 := HJR.out.1.c4
                          have g0 := HJR.out.1.fr 0
                          have g1 := HJR.out.1.fr 1
                          have g2 := HJR.out.1.fr 2
                          have g3 := HJR.out.1.fr 3
                          have g4 := HJR.out.1.fr 4
                          have n0 := HJR.out.2.1.c0
                          have n1 := HJR.out.2.1.c1
                          have n2 := HJR.out.2.1.c2
                          have n3 := HJR.out.2.1.c3
                          have n4 := HJR.out.2.1.c4
                          have hrn : ¬ w.heap.size = w.heap.size + 1 := by omega
                          have hrn' : ¬ w.heap.size + 1 = w.heap.size := by omega
                          obtain ⟨wF, hwF, hF1, hF2⟩ := fin5e HJR.out.1 (.string { data := #[] }) (.slice none 0 0) (.slice none 0 0) (.slice none 0 0) (.slice none 0 0)
                          have HWF := Lib.hid hwF
                          have HFI := Lib.hid hF1
                          have HUP := Lib.hid (upd_new (HJR.out.2.2.trans hF2 (fun i hi hlt => by omega)))
                          clear hwF hF1 hF2
                          generalize w.heap.size + 1 = N0 at *
                          generalize w.heap.size = R0 at *
                          --CUT r
                          go_wp2_with fail
                          --CUT q
                          rw [← HWF.out]
                          have JF := HFI.out
                          clear j0 j1 j2 j3 j4
                          have j0 := JF.c0
                          have j1 := JF.c1
                          have j2 := JF.c2
                          have j3 := JF.c3
                          have j4 := JF.c4
                          --CUT z
                          --TRACE
                          refine bodyPost_ret (v := .tuple #[img0, .int .i64 (5)]) (by simp only [results, Tryz.f9]; simp [go_sem, j0, j1, j2, j3, j4]) rfl ?_
                          --CUT y
                          exact ⟨_, by rw [HP.out], by rw [HP.out]; exact img0_is _, HUP.out⟩
                        | true => as_aux_lemma =>
                          have HP := Lib.hid (show rReadP ys = (0, I) by rw [HP1.out, if_neg (by rw [hr.1 rfl]; simp)])
                          clear hr
                          have z0 := H9.out.I.c0
                          have z1 := H9.out.I.c1
                          have z2 := H9.out.I.c2
                          have z3 := H9.out.I.c3
                          have z4 := H9.out.I.c4
                          have HJR := Lib.hid (rdBoxes HRB.out HNB.out HUB.out HU9.out (by omega) (by omega))
                          have j0 := HJR.out.1.c0
                          have j1 := HJR.out.1.c1
                          have j2 := HJR.out.1.c2
                          have j3 := HJR.out.1.c3
                          have j4 := HJR.out.1.c4
                          have g0 := HJR.out.1.fr 0
                          have g1 := HJR.out.1.fr 1
                          have g2 := HJR.out.1.fr 2
                          have g3 := HJR.out.1.fr 3
                          have g4 := HJR.out.1.fr 4
                          obtain ⟨wF, hwF, hF1, hF2⟩ := fin5e HJR.out.1 (.string nm) (.slice fa oF.1.length fc) (.slice va k vc) (.slice ta g tc) (.slice xa X.1.length xc)
                          have HWF := Lib.hid hwF
                          have HFI := Lib.hid hF1
                          have HUP := Lib.hid (upd_new (HJR.out.2.2.trans hF2 (fun i hi hlt => by omega)))
                          have HIM := Lib.hid (HFIN.out _ hF2)
                          clear hwF hF1 hF2
                          generalize w.heap.size + 1 = N0 at *
                          generalize w.heap.size = R0 at *
                          go_wp2_with fail
                          rw [← HWF.out]
                          have JF := HFI.out
                          clear j0 j1 j2 j3 j4
                          have j0 := JF.c0
                          have j1 := JF.c1
                          have j2 := JF.c2
                          have j3 := JF.c3
                          have j4 := JF.c4
                          refine bodyPost_ret (v := .tuple #[img5 nm (.slice fa oF.1.length fc) (.slice va k vc) (.slice ta g tc) (.slice xa X.1.length xc), .int .i64 0]) (by simp only [results, Tryz.f9]; simp [go_sem, j0, j1, j2, j3, j4]) rfl ?_
                          refine ⟨_, by rw [HP.out], ?_, HUP.out⟩
                          rw [HP.out]
                          exact HIM.out
                      · as_aux_lemma =>
                        have HP := Lib.hid (show rReadP ys = (5, imgN) by rw [HP1.out, if_pos (.inl hz)])
                        have hzl : 0 < zs.length := List.length_pos_iff.2 hz
                        clear hz
                        have HJR := Lib.hid (rdBoxes HRB.out HNB.out HUB.out HUK.out (by omega) (by omega))
                        have j0 := HJR.out.1.c0
                        have j1 := HJR.out.1.c1
                        have j2 := HJR.out.1.c2
                        have j3 := HJR.out.1.c3
                        have j4 := HJR.out.1.c4
                        have g0 := HJR.out.1.fr 0
                        have g1 := HJR.out.1.fr 1
                        have g2 := HJR.out.1.fr 2
                        have g3 := HJR.out.1.fr 3
                        have g4 := HJR.out.1.fr 4
                        have n0 := HJR.out.2.1.c0
                        have n1 := HJR.out.2.1.c1
                        have n2 := HJR.out.2.1.c2
                        have n3 := HJR.out.2.1.c3
                        have n4 := HJR.out.2.1.c4
                        have hrn : ¬ w.heap.size = w.heap.size + 1 := by omega
                        have hrn' : ¬ w.heap.size + 1 = w.heap.size := by omega
                        obtain ⟨wF, hwF, hF1, hF2⟩ := fin5e HJR.out.1 (.string { data := #[] }) (.slice none 0 0) (.slice none 0 0) (.slice none 0 0) (.slice none 0 0)
                        have HWF := Lib.hid hwF
                        have HFI := Lib.hid hF1
                        have HUP := Lib.hid (upd_new (HJR.out.2.2.trans hF2 (fun i hi hlt => by omega)))
                        clear hwF hF1 hF2
                        generalize w.heap.size + 1 = N0 at *
                        generalize w.heap.size = R0 at *
                        --CUT r
                        go_wp2_with fail
                        --CUT q
                        rw [← HWF.out]
                        have JF := HFI.out
                        clear j0 j1 j2 j3 j4
                        have j0 := JF.c0
                        have j1 := JF.c1
                        have j2 := JF.c2
                        have j3 := JF.c3
                        have j4 := JF.c4
                        --CUT z
                        --TRACE
                        refine bodyPost_ret (v := .tuple #[img0, .int .i64 (5)]) (by simp only [results, Tryz.f9]; simp [go_sem, j0, j1, j2, j3, j4]) rfl ?_
                        --CUT y
                        exact ⟨_, by rw [HP.out], by rw [HP.out]; exact img0_is _, HUP.out⟩
                  · as_aux_lemma =>
                    obtain rfl : lk2 = true := by rw [hlk2]; exact hlt'
                    clear hlk2 hys2 hlt'
                    have hbp := HM.out.bp
                    have hBW := HM.out.pl
                    have hpw := HM.out.I.lt
                    go_wp2_with fail
                    clear c1
                    refine (rReadList _ _ _ _ _ _ HM.out.K).mono ?_
                    obtain ⟨X, hX⟩ : ∃ X, X = rListP true ys2 := ⟨_, rfl⟩
                    rw [← hX]
                    have HXE := Lib.hid hX
                    rintro e w5 ⟨r, rfl, k1, k2, k3, k4⟩
                    obtain ⟨xa, xc, rfl⟩ := ownsRow_slice k3.row.1
                    have H7 := Lib.hid (HM.out.rd k1 k2)
                    have F7 := Lib.hid (HF.out.stay k2 (fun k hk => by omega))
                    have R7 := Lib.hid (HR.out.stay k2 (fun k hk => by omega))
                    have T7 := Lib.hid (HT.out.stay k2 (fun k hk => by omega))
                    have X7 : Hid (NF (p + 1) w5 (.slice xa X.1.length xc) X.1) := Lib.hid (k3.low hpw)
                    have i4 := H7.out.I.c4
                    have h4 := H7.out.I.fr 4
                    have q1 := H7.out.K.cell1
                    obtain ⟨qa, qc, q0⟩ := H7.out.K.cell0
                    have H8 := Lib.hid (H7.out.set4 (.slice xa X.1.length xc))
                    have hbne : ¬ b = p := by omega
                    have hbne' : ¬ p = b := by omega
                    have F8 := Lib.hid (F7.out.stay (box_upd w5 p 4 (.slice xa X.1.length xc)) (fun i hi => by omega))
                    have R8 := Lib.hid (R7.out.stay (box_upd w5 p 4 (.slice xa X.1.length xc)) (fun i hi => by omega))
                    have T8 := Lib.hid (T7.out.stay (box_upd w5 p 4 (.slice xa X.1.length xc)) (fun i hi => by omega))
                    have X8 := Lib.hid (X7.out.stay (box_upd w5 p 4 (.slice xa X.1.length xc)) (fun i hi => by omega))
                    have q1' := H8.out.K.cell1
                    obtain ⟨qa', qc', q0'⟩ := H8.out.K.cell0
                    have HRE := Lib.hid (show R = (0, ⟨nm, oF.1, Q.map (·.1), T.map (·.1), X.1⟩, X.2) by rw [HPR.out, HME.out, HNM.out, HJE.out, HXE.out])
                    have HP0 := Lib.hid (show rReadP ys = if X.2.1 = true then (7, imgN) else if X.2.2 ≠ [] ∨ imgB insB ⟨nm, oF.1, Q.map (·.1), T.map (·.1), X.1⟩ = false then (5, imgN) else (0, ⟨nm, oF.1, Q.map (·.1), T.map (·.1), X.1⟩) by
                      rw [HPM.out, HRE.out, if_neg (by simp)])
                    obtain ⟨I, hI⟩ : ∃ I : ImgM, I = ⟨nm, oF.1, Q.map (·.1), T.map (·.1), X.1⟩ := ⟨_, rfl⟩
                    rw [← hI] at HP0
                    have hnm : nm.size ≤ maxLen := by
                      rw [HNM.out, strOfNums_size]
                      have := HNL.out
                      unfold maxLen
                      omega
                    have HIF : Hid (ImgFrom (p + 1) (w5.setCell ⟨p, 4, none⟩ (.slice xa X.1.length xc)) (img5 nm (.slice fa oF.1.length fc) (.slice va k vc) (.slice ta g tc) (.slice xa X.1.length xc)) I) := Lib.hid (by
                      rw [hI]
                      exact ⟨_, _, _, _, rfl, ⟨F8.out.row.ints, F8.out.new⟩, R8.out.imps, T8.out.mets, ⟨X8.out.row.ints, X8.out.new⟩, hnm⟩)
                    have HIMG : Hid (Img (w5.setCell ⟨p, 4, none⟩ (.slice xa X.1.length xc)) (img5 nm (.slice fa oF.1.length fc) (.slice va k vc) (.slice ta g tc) (.slice xa X.1.length xc)) I) := Lib.hid (by
                      exact HIF.out.is)
                    have HUK := Lib.hid (H8.out.K.upd)
                    clear k1 k2 k3 k4 hX hI hnm HRE
                    cases hlx : X.2.1 with
                    | true => as_aux_lemma =>
                      rw [hlx] at q1 q1'
                      have HP := Lib.hid (show rReadP ys = (7, imgN) by rw [HP0.out, if_pos hlx])
                      clear hlx
                      have HJR := Lib.hid (rdBoxes HRB.out HNB.out HUB.out HUK.out (by omega) (by omega))
                      have j0 := HJR.out.1.c0
                      have j1 := HJR.out.1.c1
                      have j2 := HJR.out.1.c2
                      have j3 := HJR.out.1.c3
                      have j4 := HJR.out.1.c4
                      have g0 := HJR.out.1.fr 0
                      have g1 := HJR.out.1.fr 1
                      have g2 := HJR.out.1.fr 2
                      have g3 := HJR.out.1.fr 3
                      have g4 := HJR.out.1.fr 4
                      have n0 := HJR.out.2.1.c0
                      have n1 := HJR.out.2.1.c1
                      have n2 := HJR.out.2.1.c2
                      have n3 := HJR.out.2.1.c3
                      have n4 := HJR.out.2.1.c4
                      have hrn : ¬ w.heap.size = w.heap.size + 1 := by omega
                      have hrn' : ¬ w.heap.size + 1 = w.heap.size := by omega
                      obtain ⟨wF, hwF, hF1, hF2⟩ := fin5e HJR.out.1 (.string { data := #[] }) (.slice none 0 0) (.slice none 0 0) (.slice none 0 0) (.slice none 0 0)
                      have HWF := Lib.hid hwF
                      have HFI := Lib.hid hF1
                      have HUP := Lib.hid (upd_new (HJR.out.2.2.trans hF2 (fun i hi hlt => by omega)))
                      clear hwF hF1 hF2
                      generalize w.heap.size + 1 = N0 at *
                      generalize w.heap.size = R0 at *
                      --CUT r
                      go_wp2_with fail
                      --CUT q
                      rw [← HWF.out]
                      have JF := HFI.out
                      clear j0 j1 j2 j3 j4
                      have j0 := JF.c0
                      have j1 := JF.c1
                      have j2 := JF.c2
                      have j3 := JF.c3
                      have j4 := JF.c4
                      --CUT z
                      --TRACE
                      refine bodyPost_ret (v := .tuple #[img0, .int .i64 (7)]) (by simp only [results, Tryz.f9]; simp [go_sem, j0, j1, j2, j3, j4]) rfl ?_
                      --CUT y
                      exact ⟨_, by rw [HP.out], by rw [HP.out]; exact img0_is _, HUP.out⟩
                    | false =>
                      rw [hlx] at q1 q1'
                      have HP1 := Lib.hid (show rReadP ys = if X.2.2 ≠ [] ∨ imgB insB I = false then (5, imgN) else (0, I) by rw [HP0.out, if_neg (by rw [hlx]; decide)])
                      obtain ⟨zs, hzs⟩ : ∃ zs, zs = X.2.2 := ⟨_, rfl⟩
                      rw [← hzs] at q0 q0' HP1
                      clear hlx hzs
                      by_cases hz : zs = []
                      · subst hz
                        have z0 := H8.out.I.c0
                        have z1 := H8.out.I.c1
                        have z2 := H8.out.I.c2
                        have z3 := H8.out.I.c3
                        have z4 := H8.out.I.c4
                        have i0 := H7.out.I.c0
                        have i1 := H7.out.I.c1
                        have i2 := H7.out.I.c2
                        have i3 := H7.out.I.c3
                        have HUW := Lib.hid (rdBoxes HRB.out HNB.out HUB.out HUK.out (by omega) (by omega)).2.2
                        have HRG := Lib.hid (rRightI _ _ I HIMG.out (HNO.out.later (upd_below (upd_new HUW.out))))
                        have HXL : Hid (w.heap.size < (w5.setCell ⟨p, 4, none⟩ (.slice xa X.1.length xc)).heap.size) := Lib.hid (by have := H8.out.I.lt; omega)
                        go_wp2_with fail
                        refine HRG.out.mono ?_
                        rintro e w6 ⟨r, rfl, hr, hu⟩
                        have H9 := Lib.hid (H8.out.mono hu)
                        have HFIN : Hid (∀ u, Upd (fun k => k = w.heap.size) w6 u → Img u (img5 nm (.slice fa oF.1.length fc) (.slice va k vc) (.slice ta g tc) (.slice xa X.1.length xc)) I) := Lib.hid (fun u hu2 => by
                          have h : ImgFrom (p + 1) u (img5 nm (.slice fa oF.1.length fc) (.slice va k vc) (.slice ta g tc) (.slice xa X.1.length xc)) I := (HIF.out.upd hu (fun _ h => h.elim)).upd hu2 (fun i hi => by omega)
                          exact h.is)
                        have HU9 := Lib.hid (HUK.out.trans hu (fun _ h _ => h.elim))
                        clear hu z0 z1 z2 z3 z4 i0 i1 i2 i3 i4 h4 q0 q1 q0' q1'
                        cases r with
                        | false => as_aux_lemma =>
                          have HP := Lib.hid (show rReadP ys = (5, imgN) by rw [HP1.out, if_pos (.inr (by cases h : imgB insB I; rfl; exact absurd (hr.2 h) (by decide)))])
                          clear hr
                          have HJR := Lib.hid (rdBoxes HRB.out HNB.out HUB.out HU9.out (by omega) (by omega))
                          have j0 := HJR.out.1.c0
                          have j1 := HJR.out.1.c1
                          have j2 := HJR.out.1.c2
                          have j3 := HJR.out.1.c3
                          have j4 := HJR.out.1.c4
                          have g0 := HJR.out.1.fr 0
                          have g1 := HJR.out.1.fr 1
                          have g2 := HJR.out.1.fr 2
                          have g3 := HJR.out.1.fr 3
                          have g4 := HJR.out.1.fr 4
                          have n0 := HJR.out.2.1.c0
                          have n1 := HJR.out.2.1.c1
                          have n2 := HJR.out.2.1.c2
                          have n3 := HJR.out.2.1.c3
                          have n4 := HJR.out.2.1.c4
                          have hrn : ¬ w.heap.size = w.heap.size + 1 := by omega
                          have hrn' : ¬ w.heap.size + 1 = w.heap.size := by omega
                          obtain ⟨wF, hwF, hF1, hF2⟩ := fin5e HJR.out.1 (.string { data := #[] }) (.slice none 0 0) (.slice none 0 0) (.slice none 0 0) (.slice none 0 0)
                          have HWF := Lib.hid hwF
                          have HFI := Lib.hid hF1
                          have HUP := Lib.hid (upd_new (HJR.out.2.2.trans hF2 (fun i hi hlt => by omega)))
                          clear hwF hF1 hF2
                          generalize w.heap.size + 1 = N0 at *
                          generalize w.heap.size = R0 at *
                          --CUT r
                          go_wp2_with fail
                          --CUT q
                          rw [← HWF.out]
                          have JF := HFI.out
                          clear j0 j1 j2 j3 j4
                          have j0 := JF.c0
                          have j1 := JF.c1
                          have j2 := JF.c2
                          have j3 := JF.c3
                          have j4 := JF.c4
                          --CUT z
                          --TRACE
                          refine bodyPost_ret (v := .tuple #[img0, .int .i64 (5)]) (by simp only [results, Tryz.f9]; simp [go_sem, j0, j1, j2, j3, j4]) rfl ?_
                          --CUT y
                          exact ⟨_, by rw [HP.out], by rw [HP.out]; exact img0_is _, HUP.out⟩
                        | true => as_aux_lemma =>
                          have HP := Lib.hid (show rReadP ys = (0, I) by rw [HP1.out, if_neg (by rw [hr.1 rfl]; simp)])
                          clear hr
                          have z0 := H9.out.I.c0
                          have z1 := H9.out.I.c1
                          have z2 := H9.out.I.c2
                          have z3 := H9.out.I.c3
                          have z4 := H9.out.I.c4
                          have HJR := Lib.hid (rdBoxes HRB.out HNB.out HUB.out HU9.out (by omega) (by omega))
                          have j0 := HJR.out.1.c0
                          have j1 := HJR.out.1.c1
                          have j2 := HJR.out.1.c2
                          have j3 := HJR.out.1.c3
                          have j4 := HJR.out.1.c4
                          have g0 := HJR.out.1.fr 0
                          have g1 := HJR.out.1.fr 1
                          have g2 := HJR.out.1.fr 2
                          have g3 := HJR.out.1.fr 3
                          have g4 := HJR.out.1.fr 4
                          obtain ⟨wF, hwF, hF1, hF2⟩ := fin5e HJR.out.1 (.string nm) (.slice fa oF.1.length fc) (.slice va k vc) (.slice ta g tc) (.slice xa X.1.length xc)
                          have HWF := Lib.hid hwF
                          have HFI := Lib.hid hF1
                          have HUP := Lib.hid (upd_new (HJR.out.2.2.trans hF2 (fun i hi hlt => by omega)))
                          have HIM := Lib.hid (HFIN.out _ hF2)
                          clear hwF hF1 hF2
                          generalize w.heap.size + 1 = N0 at *
                          generalize w.heap.size = R0 at *
                          go_wp2_with fail
                          rw [← HWF.out]
                          have JF := HFI.out
                          clear j0 j1 j2 j3 j4
                          have j0 := JF.c0
                          have j1 := JF.c1
                          have j2 := JF.c2
                          have j3 := JF.c3
                          have j4 := JF.c4
                          refine bodyPost_ret (v := .tuple #[img5 nm (.slice fa oF.1.length fc) (.slice va k vc) (.slice ta g tc) (.slice xa X.1.length xc), .int .i64 0]) (by simp only [results, Tryz.f9]; simp [go_sem, j0, j1, j2, j3, j4]) rfl ?_
                          refine ⟨_, by rw [HP.out], ?_, HUP.out⟩
                          rw [HP.out]
                          exact HIM.out
                      · as_aux_lemma =>
                        have HP := Lib.hid (show rReadP ys = (5, imgN) by rw [HP1.out, if_pos (.inl hz)])
                        have hzl : 0 < zs.length := List.length_pos_iff.2 hz
                        clear hz
                        have HJR := Lib.hid (rdBoxes HRB.out HNB.out HUB.out HUK.out (by omega) (by omega))
                        have j0 := HJR.out.1.c0
                        have j1 := HJR.out.1.c1
                        have j2 := HJR.out.1.c2
                        have j3 := HJR.out.1.c3
                        have j4 := HJR.out.1.c4
                        have g0 := HJR.out.1.fr 0
                        have g1 := HJR.out.1.fr 1
                        have g2 := HJR.out.1.fr 2
                        have g3 := HJR.out.1.fr 3
                        have g4 := HJR.out.1.fr 4
                        have n0 := HJR.out.2.1.c0
                        have n1 := HJR.out.2.1.c1
                        have n2 := HJR.out.2.1.c2
                        have n3 := HJR.out.2.1.c3
                        have n4 := HJR.out.2.1.c4
                        have hrn : ¬ w.heap.size = w.heap.size + 1 := by omega
                        have hrn' : ¬ w.heap.size + 1 = w.heap.size := by omega
                        obtain ⟨wF, hwF, hF1, hF2⟩ := fin5e HJR.out.1 (.string { data := #[] }) (.slice none 0 0) (.slice none 0 0) (.slice none 0 0) (.slice none 0 0)
                        have HWF := Lib.hid hwF
                        have HFI := Lib.hid hF1
                        have HUP := Lib.hid (upd_new (HJR.out.2.2.trans hF2 (fun i hi hlt => by omega)))
                        clear hwF hF1 hF2
                        generalize w.heap.size + 1 = N0 at *
                        generalize w.heap.size = R0 at *
                        --CUT r
                        go_wp2_with fail
                        --CUT q
                        rw [← HWF.out]
                        have JF := HFI.out
                        clear j0 j1 j2 j3 j4
                        have j0 := JF.c0
                        have j1 := JF.c1
                        have j2 := JF.c2
                        have j3 := JF.c3
                        have j4 := JF.c4
                        --CUT z
                        --TRACE
                        refine bodyPost_ret (v := .tuple #[img0, .int .i64 (5)]) (by simp only [results, Tryz.f9]; simp [go_sem, j0, j1, j2, j3, j4]) rfl ?_
                        --CUT y
                        exact ⟨_, by rw [HP.out], by rw [HP.out]; exact img0_is _, HUP.out⟩
                  --D}t
            · as_aux_lemma =>
              obtain rfl : lk2 = true := by rw [hlk2]; exact hlt'
              clear hlk2 hys2 hlt'
              --D{M
              have hbp := HM.out.bp
              have hBW := HM.out.pl
              have hpw := HM.out.I.lt
              go_wp2_with fail
              clear c1
              refine (fU8 HM.out.K).mono ?_
              rw [show takeP 1 true ys2 = E by rw [HEE.out, HJE.out]]
              rintro e w4 ⟨rfl, k1, k2, hb3, hb4⟩
              have H6 := Lib.hid (HM.out.rd k1 k2)
              have F6 := Lib.hid (HF.out.stay k2 (fun j hj => by omega))
              have R6 := Lib.hid (HR.out.stay k2 (fun j hj => by omega))
              obtain ⟨G, hG⟩ : ∃ G : Nat, beN E.1 = G := ⟨(beN E.1).toNat, by omega⟩
              rw [hG] at hb4 ⊢
              have HEM2 : Hid (M = pre [] (rMetsGo G E.2.1 E.2.2)) := Lib.hid (by rw [pre_nil, HEM.out, hG]; rfl)
              have HGL := Lib.hid (show G ≤ 255 by omega)
              have T6 : Hid (MetRow (p + 1) w4 (.slice none 0 0) []) := Lib.hid ⟨World.ownsRow_nil _ _ _ _, by simp [From, Value.ownBlock], by simp⟩
              have HT0 : Hid (([] : List (MetM × Value × Value × Value)).length = 0) := Lib.hid rfl
              clear k1 k2 hb3 hb4 hG HEM
              go_wp2_with fail
              go_loopw [10] (fun n wr => ∃ (g m : Nat) (lk' : Bool) (ys' : List Int) (T : List (MetM × Value × Value × Value)) (ta : Option Addr) (tc : Nat), g + m ≤ G ∧ G ≤ g + m ∧ n = .int .i64 m ∧ Hid (T.length = g) ∧
                Hid (IX wB wr b p V lk' ys' (.string nm) (.slice fa oF.1.length fc) (.slice va k vc) (.slice ta g tc) (.slice none 0 0)) ∧
                Hid (NF (p + 1) wr (.slice fa oF.1.length fc) oF.1) ∧ Hid (ImpRow (p + 1) wr (.slice va k vc) Q) ∧ Hid (MetRow (p + 1) wr (.slice ta g tc) T) ∧
                Hid (M = pre (T.map (·.1)) (rMetsGo m lk' ys'))) (fun n _ => (RowKit.intOf n).toNat)
              case atStart => exact ⟨0, G, _, _, [], none, 0, by omega, by omega, rfl, HT0, H6, F6, R6, T6, HEM2⟩
              case round =>
                obtain ⟨g, m, lk', ys', T, ta, tc, hm1, hm2, rfl, HTL, HM, HF, HR, HT, HMM⟩ := hrel
                have c1 := HM.out.K.cell1
                by_cases hgo : 0 < m ∧ lk' = false
                · as_aux_lemma =>
                  --D{2
                  obtain ⟨wo, hwo⟩ : ∃ wo : World, wo = wr := ⟨_, rfl⟩
                  subst hwo
                  obtain ⟨hm0, rfl⟩ := hgo
                  obtain ⟨m', rfl⟩ : ∃ m', m = m' + 1 := ⟨m - 1, by omega⟩
                  have hbp := HM.out.bp
                  have hBW := HM.out.pl
                  have hpw := HM.out.I.lt
                  have H0 := Lib.hid (BX.start (t := 52) HM.out.K (Upd.refl _ _) (by omega) (.slice none 0 0) (.int .i64 0) (.slice none 0 0) (.slice none 0 0))
                  go_wp2_with fail
                  clear c1
                  refine (rReadList _ _ _ _ _ _ H0.out.K).mono ?_
                  obtain ⟨A, hA⟩ : ∃ A, A = rListP false ys' := ⟨_, rfl⟩
                  rw [← hA]
                  have HEA := Lib.hid hA
                  rintro e w3 ⟨r, rfl, k1, k2, k3, k4⟩
                  obtain ⟨pa, pc, rfl⟩ := ownsRow_slice k3.row.1
                  have H1 := Lib.hid (H0.out.rd k1 k2)
                  have P1 : Hid (NF (wo.heap.size + 1) w3 (.slice pa A.1.length pc) A.1) := Lib.hid (k3.low H0.out.I.lt)
                  have x0 := H1.out.I.c0
                  have f0 := H1.out.I.fr 0
                  clear k1 k2 k3 k4 hA
                  go_wp2_with fail
                  have H2 := Lib.hid (H1.out.set0 (.slice pa A.1.length pc))
                  have P2 := Lib.hid (P1.out.box H1.out.I (by decide) 0 (.slice pa A.1.length pc))
                  have hbx := H1.out.bx
                  clear x0 f0
                  refine (fU8 H2.out.K).mono ?_
                  obtain ⟨B, hB⟩ : ∃ B, B = takeP 1 A.2.1 A.2.2 := ⟨_, rfl⟩
                  rw [← hB]
                  have HEB := Lib.hid hB
                  rintro e w4 ⟨rfl, k1, k2, hb1, hb2⟩
                  have H3 := Lib.hid (H2.out.rd k1 k2)
                  have P3 := Lib.hid (P2.out.stay k2 (fun k hk => by omega))
                  obtain ⟨n1, hn1⟩ : ∃ n1, n1 = beN B.1 := ⟨_, rfl⟩
                  rw [← hn1] at hb1 hb2 ⊢
                  have HN1 := Lib.hid hn1
                  have HBN1 := Lib.hid (And.intro hb1 hb2)
                  have x1 := H3.out.I.c1
                  have f1 := H3.out.I.fr 1
                  clear k1 k2 hb1 hb2 hn1 hB
                  go_wp2_with fail
                  have H4 := Lib.hid (H3.out.set1 (.int .i64 n1))
                  have P4 := Lib.hid (P3.out.box H3.out.I (by decide) 1 (.int .i64 n1))
                  clear x1 f1
                  refine (rReadList _ _ _ _ _ _ H4.out.K).mono ?_
                  obtain ⟨C, hC⟩ : ∃ C, C = rListP B.2.1 B.2.2 := ⟨_, rfl⟩
                  rw [← hC]
                  have HEC := Lib.hid hC
                  rintro e w5 ⟨r, rfl, k1, k2, k3, k4⟩
                  obtain ⟨qa, qc, rfl⟩ := ownsRow_slice k3.row.1
                  have H5 := Lib.hid (H4.out.rd k1 k2)
                  have P5 := Lib.hid (P4.out.stay k2 (fun k hk => by omega))
                  have Q5 : Hid (NF (wo.heap.size + 1) w5 (.slice qa C.1.length qc) C.1) := Lib.hid (k3.low H4.out.I.lt)
                  have x2 := H5.out.I.c2
                  have f2 := H5.out.I.fr 2
                  clear k1 k2 k3 k4 hC
                  go_wp2_with fail
                  have H6 := Lib.hid (H5.out.set2 (.slice qa C.1.length qc))
                  have P6 := Lib.hid (P5.out.box H5.out.I (by decide) 2 (.slice qa C.1.length qc))
                  have Q6 := Lib.hid (Q5.out.box H5.out.I (by decide) 2 (.slice qa C.1.length qc))
                  clear x2 f2
                  refine (fU8 H6.out.K).mono ?_
                  obtain ⟨D, hD⟩ : ∃ D, D = takeP 1 C.2.1 C.2.2 := ⟨_, rfl⟩
                  rw [← hD]
                  have HED := Lib.hid hD
                  rintro e w6 ⟨rfl, k1, k2, hb1, hb2⟩
                  have H7 := Lib.hid (H6.out.rd k1 k2)
                  have P7 := Lib.hid (P6.out.stay k2 (fun k hk => by omega))
                  have Q7 := Lib.hid (Q6.out.stay k2 (fun k hk => by omega))
                  obtain ⟨N2, hN2⟩ : ∃ N2 : Nat, beN D.1 = N2 := ⟨(beN D.1).toNat, by omega⟩
                  have HLK7 : Hid (D.2.1 = true → N2 = 0) := Lib.hid (fun hl => by
                    have h := take_lack (n := 1) (lk := C.2.1) (ys := C.2.2) H6.out.K.st (by omega) (by rw [← hD]; exact hl)
                    rw [← hD] at h
                    rw [h] at hN2
                    simp [beN] at hN2
                    omega)
                  rw [hN2] at hb2 ⊢
                  have HRM7 : Hid (rMetP false ys' = ((pre [] (codeGo N2 D.2.1 D.2.2)).1, ⟨A.1, n1, C.1, (pre [] (codeGo N2 D.2.1 D.2.2)).2.1⟩, (pre [] (codeGo N2 D.2.1 D.2.2)).2.2)) := Lib.hid (by
                    rw [pre_nil, HN1.out]
                    unfold rMetP
                    simp only
                    rw [← HEA.out, ← HEB.out, ← HEC.out, ← HED.out, hN2]
                    rfl)
                  have HN2L := Lib.hid (show N2 ≤ 255 by omega)
                  have R7 : Hid (IRow w6 (.slice none 0 0) []) := Lib.hid ⟨World.ownsRow_nil _ _ _ _, by simp⟩
                  have G7 : Hid (From (wo.heap.size + 1) (.slice none 0 0)) := Lib.hid (by simp [From, Value.ownBlock])
                  have HL7 : Hid (([] : List InsM).length = 0) := Lib.hid rfl
                  clear k1 k2 hb1 hb2 hN2 hD H0 H1 H2 H3 H4 H5 H6 P1 P2 P3 P4 P5 P6 Q5 Q6
                  go_wp2_with fail
                  go_loopw [12] (fun n wi => ∃ (j m2 : Nat) (lk2 : Bool) (ys2 : List Int) (L : List InsM) (ra : Option Addr) (rc : Nat), j + m2 ≤ N2 ∧ N2 ≤ j + m2 ∧ n = .int .i64 m2 ∧ Hid (L.length = j) ∧
                    Hid (BX 52 wB wo wi b wo.heap.size V lk2 ys2 (.slice pa A.1.length pc) (.int .i64 n1) (.slice qa C.1.length qc) (.slice ra j rc)) ∧
                    Hid (NF (wo.heap.size + 1) wi (.slice pa A.1.length pc) A.1) ∧ Hid (NF (wo.heap.size + 1) wi (.slice qa C.1.length qc) C.1) ∧ Hid (IRow wi (.slice ra j rc) L) ∧ Hid (From (wo.heap.size + 1) (.slice ra j rc)) ∧
                    Hid (rMetP false ys' = ((pre L (codeGo m2 lk2 ys2)).1, ⟨A.1, n1, C.1, (pre L (codeGo m2 lk2 ys2)).2.1⟩, (pre L (codeGo m2 lk2 ys2)).2.2)) ∧ Hid (lk2 = true → m2 = 0)) (fun n _ => (RowKit.intOf n).toNat)
                  case atStart => exact ⟨0, N2, _, _, [], none, 0, by omega, by omega, rfl, HL7, H7, P7, Q7, R7, G7, HRM7, HLK7⟩
                  case round =>
                    obtain ⟨j, m2, lk2, ys2, L, ra, rc, hj1, hj2, rfl, HLL, HB, HPV, HQV, HCR, HCF, HPP, HLK⟩ := hrel
                    by_cases hgo2 : 0 < m2
                    · obtain ⟨m3, rfl⟩ : ∃ m3, m2 = m3 + 1 := ⟨m2 - 1, by omega⟩
                      obtain rfl : lk2 = false := by
                        cases lk2 with
                        | false => rfl
                        | true => have := HLK.out rfl; omega
                      have c1 := HB.out.K.cell1
                      go_wp2_with fail
                      refine (fRead HB.out.K).mono ?_
                      rintro e w7 (⟨he, rfl, hu⟩ | ⟨he, rfl, k1, k2⟩)
                      · as_aux_lemma =>
                        have e1 : R.1 = M.1 := by rw [HPR.out]
                        have e2 : M.1 = (rMetP false ys').1 := by
                          rw [HMM.out]
                          exact rMets_err (T.map (·.1)) (by rw [HPP.out, codeGo_err L he]; exact he)
                        have e3 : (rMetP false ys').1 = errI false ys2 := by rw [HPP.out]; exact codeGo_err L he
                        obtain ⟨er, her⟩ : ∃ er, er = errI false ys2 := ⟨_, rfl⟩
                        rw [← her] at he e3 ⊢
                        have HP := Lib.hid (show rReadP ys = (er, imgN) by rw [HPM.out, e1, e2, e3, if_pos he])
                        have hb : (er == 0) = false := beq_eq_false_iff_ne.2 he
                        have hb' : (er != 0) = true := by simp [bne, hb]
                        have HUE := Lib.hid ((HB.out.K.upd.trans hu (fun _ h _ => h)).trans (Upd.alloc (fun _ => False) w7 (.cells #[.int .i64 0, .int .i64 0, .int .i64 0] 55)) (fun _ h _ => h.elim))
                        clear e1 e2 e3 her he hu c1
                        have HJR := Lib.hid (rdBoxes HRB.out HNB.out HUB.out HUE.out (by omega) (by omega))
                        have j0 := HJR.out.1.c0
                        have j1 := HJR.out.1.c1
                        have j2 := HJR.out.1.c2
                        have j3 := HJR.out.1.c3
                        have j4 := HJR.out.1.c4
                        have g0 := HJR.out.1.fr 0
                        have g1 := HJR.out.1.fr 1
                        have g2 := HJR.out.1.fr 2
                        have g3 := HJR.out.1.fr 3
                        have g4 := HJR.out.1.fr 4
                        have n0 := HJR.out.2.1.c0
                        have n1 := HJR.out.2.1.c1
                        have n2 := HJR.out.2.1.c2
                        have n3 := HJR.out.2.1.c3
                        have n4 := HJR.out.2.1.c4
                        have hrn : ¬ w.heap.size = w.heap.size + 1 := by omega
                        have hrn' : ¬ w.heap.size + 1 = w.heap.size := by omega
                        obtain ⟨wF, hwF, hF1, hF2⟩ := fin5e HJR.out.1 (.string { data := #[] }) (.slice none 0 0) (.slice none 0 0) (.slice none 0 0) (.slice none 0 0)
                        have HWF := Lib.hid hwF
                        have HFI := Lib.hid hF1
                        have HUP := Lib.hid (upd_new (HJR.out.2.2.trans hF2 (fun i hi hlt => by omega)))
                        clear hwF hF1 hF2
                        generalize w.heap.size + 1 = N0 at *
                        generalize w.heap.size = R0 at *
                        --CUT r
                        go_wp2_with fail
                        --CUT q
                        rw [← HWF.out]
                        have JF := HFI.out
                        clear j0 j1 j2 j3 j4
                        have j0 := JF.c0
                        have j1 := JF.c1
                        have j2 := JF.c2
                        have j3 := JF.c3
                        have j4 := JF.c4
                        --CUT z
                        --TRACE
                        refine bodyPost_ret (v := .tuple #[img0, .int .i64 (er)]) (by simp only [results, Tryz.f9]; simp [go_sem, j0, j1, j2, j3, j4]) rfl ?_
                        --CUT y
                        exact ⟨_, by rw [HP.out], by rw [HP.out]; exact img0_is _, HUP.out⟩
                      · have HE := Lib.hid he
                        have HM5 := Lib.hid (HB.out.rd k1 k2)
                        have HP5 := Lib.hid (HPV.out.stay k2 (fun k hk => by omega))
                        have HQ5 := Lib.hid (HQV.out.stay k2 (fun k hk => by omega))
                        have HR5 := Lib.hid (HCR.out.upd k2 (fun k hk hk2 => by have := HCF.out k hk; omega))
                        obtain ⟨n, hn⟩ : ∃ n : InsM, n = ⟨opI false ys2, (restI false ys2).1, (restI false ys2).2.1⟩ := ⟨_, rfl⟩
                        have HNR := Lib.hid (show insR n = true by rw [hn]; exact err_right he)
                        rw [show ins (opI false ys2) (restI false ys2).1 (restI false ys2).2.1 = ins n.op n.a n.b by rw [hn]]
                        have HPS := Lib.hid (codeGo_step (n := m3) L he)
                        rw [← hn] at HPS
                        have ha := Upd.alloc (fun _ => False) w7 (.cells #[.int .i64 n.op, .int .i64 n.a, .int .i64 n.b] 55)
                        have HM6 := Lib.hid (HM5.out.mono ha)
                        have HP6 := Lib.hid (HP5.out.mono ha)
                        have HQ6 := Lib.hid (HQ5.out.mono ha)
                        have hr6 := HR5.out.upd ha (fun _ _ h => h)
                        have HR6 := Lib.hid hr6
                        have hown := hr6.1
                        rw [HLL.out] at hown
                        have HOWN := Lib.hid hown
                        have c3 := HM5.out.I.c3
                        have c3' := HM6.out.I.c3
                        have hNL := HN2L.out
                        have hlt5 := HM5.out.I.lt
                        have HSRC := Lib.hid (srcAt (w7.alloc (.cells #[.int .i64 n.op, .int .i64 n.a, .int .i64 n.b] 55)) 55 #[.int .i64 n.op, .int .i64 n.a, .int .i64 n.b] (icl n) rfl 3 (by simp [icl, Value.oneCell']) 1 1 (w7.heap.size + 1) (by simp) rfl)
                        clear he k1 k2 hn ha hr6 hown c1
                        go_wp2_with (at_builtin; go_loud (refine wpList_append_mine _ rfl _ _ 50 rfl 0 55 i2 (.agg #[.int .i64 0, .int .i64 0, .int .i64 0]) 3 24 Tryz.underlying50 hi'' hz0'' hz1'' hz2'' rfl (by decide) (.slice ra j rc) j (L.flatMap icl) rfl (HOWN.out.alloc _) 1 (icl n) HSRC.out (by unfold maxLen; omega) (by omega) (Nat.zero_le _) ?_))
                        intro v' w8 ho hg hf
                        have hu7 := Upd.row (Upd.alloc _ (w7.alloc (.cells #[.int .i64 n.op, .int .i64 n.a, .int .i64 n.b] 55)) _) hg
                        obtain ⟨va2, vc2, rfl⟩ := ownsRow_slice ho
                        have hF7 : From (wo.heap.size + 1) (.slice va2 (j + 1) vc2) := fun i hi => by
                          rcases hf i hi with h | h
                          · exact HCF.out i h
                          · simp at h; omega
                        have HM7 := Lib.hid (HM6.out.step hu7 (fun i hi => HCF.out i hi))
                        have HP7 := Lib.hid (HP6.out.apart HOWN.out (by decide) hu7)
                        have HQ7 := Lib.hid (HQ6.out.apart HOWN.out (by decide) hu7)
                        have hR7 : IRow w8 (.slice va2 (j + 1) vc2) (L ++ [n]) := ⟨by
                          rw [List.length_append, HLL.out, List.flatMap_append]
                          simpa using ho, fun i hi => by
                          rcases List.mem_append.1 hi with h | h
                          · exact HCR.out.2 i h
                          · simp at h; rw [h]; exact HNR.out⟩
                        have HM8 := Lib.hid (HM7.out.set3 (.slice va2 (j + 1) vc2))
                        have HP8 := Lib.hid (HP7.out.box HM7.out.I (by decide) 3 (.slice va2 (j + 1) vc2))
                        have HQ8 := Lib.hid (HQ7.out.box HM7.out.I (by decide) 3 (.slice va2 (j + 1) vc2))
                        have HR8 := Lib.hid (hR7.box HM7.out.I (by decide) 3 (.slice va2 (j + 1) vc2))
                        have HF8 := Lib.hid hF7
                        have HL8 : Hid ((L ++ [n]).length = j + 1) := Lib.hid (by rw [List.length_append, HLL.out]; rfl)
                        have HPP8 : Hid (rMetP false ys' = ((pre (L ++ [n]) (codeGo m3 false (restI false ys2).2.2.2)).1, ⟨A.1, n1, C.1, (pre (L ++ [n]) (codeGo m3 false (restI false ys2).2.2.2)).2.1⟩, (pre (L ++ [n]) (codeGo m3 false (restI false ys2).2.2.2)).2.2)) := Lib.hid (by rw [HPP.out, HPS.out])
                        have HLK8 : Hid (false = true → m3 = 0) := Lib.hid (fun h => by cases h)
                        have c7 := HM7.out.I.c3
                        have f7 := HM7.out.I.fr 3
                        clear ho hg hf hu7 hF7 hR7 c3 c3'
                        go_wp2_with fail
                        go_roundw
                        case rel => exact ⟨j + 1, m3, _, _, _, va2, vc2, by omega, by omega, by go_num, HL8, HM8, HP8, HQ8, HR8, HF8, HPP8, HLK8⟩
                        case measure => simp [RowKit.intOf]
                    · obtain rfl : m2 = 0 := by omega
                      have HRE : Hid (rMetP false ys' = (0, ⟨A.1, n1, C.1, L⟩, lk2, ys2)) := Lib.hid (by rw [HPP.out]; simp [pre, codeGo])
                      have M8 := Lib.hid (HM.out.rd HB.out.K HB.out.U)
                      have F8 := Lib.hid (HF.out.stay HB.out.U (fun k hk => by omega))
                      have R8 := Lib.hid (HR.out.stay HB.out.U (fun k hk => by omega))
                      have T8 := Lib.hid (HT.out.stay HB.out.U (fun k hk => by omega))
                      have HX8 : Hid (MetOk (p + 1) wr (⟨A.1, n1, C.1, L⟩, .slice pa A.1.length pc, .slice qa C.1.length qc, .slice ra j rc)) := Lib.hid ⟨HPV.out.row, HQV.out.row, HCR.out, fun k hk => by have := HPV.out.new k hk; omega, fun k hk => by have := HQV.out.new k hk; omega, fun k hk => by have := HCF.out k hk; omega, HBN1.out⟩
                      have hown := T8.out.row
                      rw [HTL.out] at hown
                      have HOWN := Lib.hid hown
                      have HSRC := Lib.hid (srcAt wr 52 #[.slice pa A.1.length pc, .int .i64 n1, .slice qa C.1.length qc, .slice ra j rc] (mtc (⟨A.1, n1, C.1, L⟩, .slice pa A.1.length pc, .slice qa C.1.length qc, .slice ra j rc)) rfl 4 (by simp [mtc, Value.oneCell']) 1 1 wr.heap.size rfl rfl)
                      have x0 := HB.out.I.c0
                      have x1 := HB.out.I.c1
                      have x2 := HB.out.I.c2
                      have x3 := HB.out.I.c3
                      have y3 := M8.out.I.c3
                      have hGL := HGL.out
                      have hlt5 := HB.out.I.lt
                      clear hown
                      go_wp2_with (at_builtin; go_loud (refine wpList_append_mine _ rfl _ _ 30 rfl 0 52 i1 (.agg #[.slice none 0 0, .int .i64 0, .slice none 0 0, .slice none 0 0]) 4 80 Tryz.underlying30 hi' hz0' hz1' hz2' rfl (by decide) (.slice ta g tc) g (T.flatMap mtc) rfl (HOWN.out.alloc _) 1 (mtc (⟨A.1, n1, C.1, L⟩, .slice pa A.1.length pc, .slice qa C.1.length qc, .slice ra j rc)) HSRC.out (by unfold maxLen; omega) (by omega) (Nat.zero_le _) ?_))
                      intro v' w9 ho hg hf
                      have hu7 := Upd.row (Upd.alloc _ wr _) hg
                      obtain ⟨na, nc, rfl⟩ := ownsRow_slice ho
                      have hF7 : From (p + 1) (.slice na (g + 1) nc) := fun i hi => by
                        rcases hf i hi with h | h
                        · exact HT.out.new i h
                        · simp at h; omega
                      have HM7 := Lib.hid (M8.out.step hu7 (fun i hi => HT.out.new i hi))
                      have hQ7 := F8.out.apart HOWN.out (by decide) hu7
                      have hR7 := R8.out.apart HOWN.out (by decide) (by decide) hu7
                      have hT7 : MetRow (p + 1) w9 (.slice na (g + 1) nc) (T ++ [(⟨A.1, n1, C.1, L⟩, .slice pa A.1.length pc, .slice qa C.1.length qc, .slice ra j rc)]) := ⟨by
                        rw [List.length_append, HTL.out, List.flatMap_append]
                        simpa using ho, hF7, fun x hx => by
                        rcases List.mem_append.1 hx with h | h
                        · exact (T8.out.each x h).upd hu7 (fun i hi => row_ne (T8.out.each x h).p.1 HOWN.out (by decide) i hi) (fun i hi => row_ne (T8.out.each x h).q.1 HOWN.out (by decide) i hi) (fun i hi => row_ne (T8.out.each x h).r.1 HOWN.out (by decide) i hi)
                        · simp at h; rw [h]; exact HX8.out.upd hu7 (fun i hi => row_ne HX8.out.p.1 HOWN.out (by decide) i hi) (fun i hi => row_ne HX8.out.q.1 HOWN.out (by decide) i hi) (fun i hi => row_ne HX8.out.r.1 HOWN.out (by decide) i hi)⟩
                      have HM8 := Lib.hid (HM7.out.set3 (.slice na (g + 1) nc))
                      have HF8 := Lib.hid (hQ7.stay (box_upd w9 p 3 (.slice na (g + 1) nc)) (fun i hi => by omega))
                      have HR8 := Lib.hid (hR7.stay (box_upd w9 p 3 (.slice na (g + 1) nc)) (fun i hi => by omega))
                      have HT8 := Lib.hid (hT7.stay (box_upd w9 p 3 (.slice na (g + 1) nc)) (fun i hi => by omega))
                      have HL8 : Hid ((T ++ [((⟨A.1, n1, C.1, L⟩ : MetM), Value.slice pa A.1.length pc, Value.slice qa C.1.length qc, Value.slice ra j rc)]).length = g + 1) := Lib.hid (by rw [List.length_append, HTL.out]; rfl)
                      have HM9 : Hid (M = pre ((T ++ [((⟨A.1, n1, C.1, L⟩ : MetM), Value.slice pa A.1.length pc, Value.slice qa C.1.length qc, Value.slice ra j rc)]).map (·.1)) (rMetsGo m' lk2 ys2)) := Lib.hid (by rw [HMM.out, rMets_step _ (by rw [HRE.out]), List.map_append, HRE.out]; rfl)
                      have c7 := HM7.out.I.c3
                      have f7 := HM7.out.I.fr 3
                      clear ho hg hf hu7 hF7 hQ7 hR7 hT7 x0 x1 x2 x3 y3
                      go_wp2_with fail
                      go_roundw
                      case rel => exact ⟨g + 1, m', _, _, _, na, nc, by omega, by omega, by go_num, HL8, HM8, HF8, HR8, HT8, HM9⟩
                      case measure => simp [RowKit.intOf]
                  --D}2
                · skip
                  --D{t
                  have hor : (m = 0) ∨ (0 < m ∧ lk' = true) := by
                    by_cases h0 : m = 0
                    · exact .inl h0
                    · refine .inr ⟨by omega, ?_⟩
                      cases lk' with
                      | true => rfl
                      | false => exact absurd ⟨by omega, rfl⟩ hgo
                  clear hgo
                  have HME := Lib.hid (show M = (0, T.map (·.1), lk', ys') by rw [HMM.out]; exact rMets_stop (T.map (·.1)) (hor.imp id (fun h => h.2)))
                  obtain ⟨lk2, hlk2⟩ : ∃ lk2, lk2 = lk' := ⟨_, rfl⟩
                  obtain ⟨ys2, hys2⟩ : ∃ ys2, ys2 = ys' := ⟨_, rfl⟩
                  rw [← hlk2, ← hys2] at HM HME
                  rw [← hlk2] at c1
                  rcases hor with rfl | ⟨hm0, hlt'⟩
                  · as_aux_lemma =>
                    clear hlk2 hys2
                    have hbp := HM.out.bp
                    have hBW := HM.out.pl
                    have hpw := HM.out.I.lt
                    go_wp2_with fail
                    clear c1
                    refine (rReadList _ _ _ _ _ _ HM.out.K).mono ?_
                    obtain ⟨X, hX⟩ : ∃ X, X = rListP lk2 ys2 := ⟨_, rfl⟩
                    rw [← hX]
                    have HXE := Lib.hid hX
                    rintro e w5 ⟨r, rfl, k1, k2, k3, k4⟩
                    obtain ⟨xa, xc, rfl⟩ := ownsRow_slice k3.row.1
                    have H7 := Lib.hid (HM.out.rd k1 k2)
                    have F7 := Lib.hid (HF.out.stay k2 (fun k hk => by omega))
                    have R7 := Lib.hid (HR.out.stay k2 (fun k hk => by omega))
                    have T7 := Lib.hid (HT.out.stay k2 (fun k hk => by omega))
                    have X7 : Hid (NF (p + 1) w5 (.slice xa X.1.length xc) X.1) := Lib.hid (k3.low hpw)
                    have i4 := H7.out.I.c4
                    have h4 := H7.out.I.fr 4
                    have q1 := H7.out.K.cell1
                    obtain ⟨qa, qc, q0⟩ := H7.out.K.cell0
                    have H8 := Lib.hid (H7.out.set4 (.slice xa X.1.length xc))
                    have hbne : ¬ b = p := by omega
                    have hbne' : ¬ p = b := by omega
                    have F8 := Lib.hid (F7.out.stay (box_upd w5 p 4 (.slice xa X.1.length xc)) (fun i hi => by omega))
                    have R8 := Lib.hid (R7.out.stay (box_upd w5 p 4 (.slice xa X.1.length xc)) (fun i hi => by omega))
                    have T8 := Lib.hid (T7.out.stay (box_upd w5 p 4 (.slice xa X.1.length xc)) (fun i hi => by omega))
                    have X8 := Lib.hid (X7.out.stay (box_upd w5 p 4 (.slice xa X.1.length xc)) (fun i hi => by omega))
                    have q1' := H8.out.K.cell1
                    obtain ⟨qa', qc', q0'⟩ := H8.out.K.cell0
                    have HRE := Lib.hid (show R = (0, ⟨nm, oF.1, Q.map (·.1), T.map (·.1), X.1⟩, X.2) by rw [HPR.out, HME.out, HNM.out, HJE.out, HXE.out])
                    have HP0 := Lib.hid (show rReadP ys = if X.2.1 = true then (7, imgN) else if X.2.2 ≠ [] ∨ imgB insB ⟨nm, oF.1, Q.map (·.1), T.map (·.1), X.1⟩ = false then (5, imgN) else (0, ⟨nm, oF.1, Q.map (·.1), T.map (·.1), X.1⟩) by
                      rw [HPM.out, HRE.out, if_neg (by simp)])
                    obtain ⟨I, hI⟩ : ∃ I : ImgM, I = ⟨nm, oF.1, Q.map (·.1), T.map (·.1), X.1⟩ := ⟨_, rfl⟩
                    rw [← hI] at HP0
                    have hnm : nm.size ≤ maxLen := by
                      rw [HNM.out, strOfNums_size]
                      have := HNL.out
                      unfold maxLen
                      omega
                    have HIF : Hid (ImgFrom (p + 1) (w5.setCell ⟨p, 4, none⟩ (.slice xa X.1.length xc)) (img5 nm (.slice fa oF.1.length fc) (.slice va k vc) (.slice ta g tc) (.slice xa X.1.length xc)) I) := Lib.hid (by
                      rw [hI]
                      exact ⟨_, _, _, _, rfl, ⟨F8.out.row.ints, F8.out.new⟩, R8.out.imps, T8.out.mets, ⟨X8.out.row.ints, X8.out.new⟩, hnm⟩)
                    have HIMG : Hid (Img (w5.setCell ⟨p, 4, none⟩ (.slice xa X.1.length xc)) (img5 nm (.slice fa oF.1.length fc) (.slice va k vc) (.slice ta g tc) (.slice xa X.1.length xc)) I) := Lib.hid (by
                      exact HIF.out.is)
                    have HUK := Lib.hid (H8.out.K.upd)
                    clear k1 k2 k3 k4 hX hI hnm HRE
                    cases hlx : X.2.1 with
                    | true => as_aux_lemma =>
                      rw [hlx] at q1 q1'
                      have HP := Lib.hid (show rReadP ys = (7, imgN) by rw [HP0.out, if_pos hlx])
                      clear hlx
                      have HJR := Lib.hid (rdBoxes HRB.out HNB.out HUB.out HUK.out (by omega) (by omega))
                      have j0 := HJR.out.1.c0
                      have j1 := HJR.out.1.c1
                      have j2 := HJR.out.1.c2
                      have j3 := HJR.out.1.c3
                      have j4 := HJR.out.1.c4
                      have g0 := HJR.out.1.fr 0
                      have g1 := HJR.out.1.fr 1
                      have g2 := HJR.out.1.fr 2
                      have g3 := HJR.out.1.fr 3
                      have g4 := HJR.out.1.fr 4
                      have n0 := HJR.out.2.1.c0
                      have n1 := HJR.out.2.1.c1
                      have n2 := HJR.out.2.1.c2
                      have n3 := HJR.out.2.1.c3
                      have n4 := HJR.out.2.1.c4
                      have hrn : ¬ w.heap.size = w.heap.size + 1 := by omega
                      have hrn' : ¬ w.heap.size + 1 = w.heap.size := by omega
                      obtain ⟨wF, hwF, hF1, hF2⟩ := fin5e HJR.out.1 (.string { data := #[] }) (.slice none 0 0) (.slice none 0 0) (.slice none 0 0) (.slice none 0 0)
                      have HWF := Lib.hid hwF
                      have HFI := Lib.hid hF1
                      have HUP := Lib.hid (upd_new (HJR.out.2.2.trans hF2 (fun i hi hlt => by omega)))
                      clear hwF hF1 hF2
                      generalize w.heap.size + 1 = N0 at *
                      generalize w.heap.size = R0 at *
                      --CUT r
                      go_wp2_with fail
                      --CUT q
                      rw [← HWF.out]
                      have JF := HFI.out
                      clear j0 j1 j2 j3 j4
                      have j0 := JF.c0
                      have j1 := JF.c1
                      have j2 := JF.c2
                      have j3 := JF.c3
                      have j4 := JF.c4
                      --CUT z
                      --TRACE
                      refine bodyPost_ret (v := .tuple #[img0, .int .i64 (7)]) (by simp only [results, Tryz.f9]; simp [go_sem, j0, j1, j2, j3, j4]) rfl ?_
                      --CUT y
                      exact ⟨_, by rw [HP.out], by rw [HP.out]; exact img0_is _, HUP.out⟩
                    | false =>
                      rw [hlx] at q1 q1'
                      have HP1 := Lib.hid (show rReadP ys = if X.2.2 ≠ [] ∨ imgB insB I = false then (5, imgN) else (0, I) by rw [HP0.out, if_neg (by rw [hlx]; decide)])
                      obtain ⟨zs, hzs⟩ : ∃ zs, zs = X.2.2 := ⟨_, rfl⟩
                      rw [← hzs] at q0 q0' HP1
                      clear hlx hzs
                      by_cases hz : zs = []
                      · subst hz
                        have z0 := H8.out.I.c0
                        have z1 := H8.out.I.c1
                        have z2 := H8.out.I.c2
                        have z3 := H8.out.I.c3
                        have z4 := H8.out.I.c4
                        have i0 := H7.out.I.c0
                        have i1 := H7.out.I.c1
                        have i2 := H7.out.I.c2
                        have i3 := H7.out.I.c3
                        have HUW := Lib.hid (rdBoxes HRB.out HNB.out HUB.out HUK.out (by omega) (by omega)).2.2
                        have HRG := Lib.hid (rRightI _ _ I HIMG.out (HNO.out.later (upd_below (upd_new HUW.out))))
                        have HXL : Hid (w.heap.size < (w5.setCell ⟨p, 4, none⟩ (.slice xa X.1.length xc)).heap.size) := Lib.hid (by have := H8.out.I.lt; omega)
                        go_wp2_with fail
                        refine HRG.out.mono ?_
                        rintro e w6 ⟨r, rfl, hr, hu⟩
                        have H9 := Lib.hid (H8.out.mono hu)
                        have HFIN : Hid (∀ u, Upd (fun k => k = w.heap.size) w6 u → Img u (img5 nm (.slice fa oF.1.length fc) (.slice va k vc) (.slice ta g tc) (.slice xa X.1.length xc)) I) := Lib.hid (fun u hu2 => by
                          have h : ImgFrom (p + 1) u (img5 nm (.slice fa oF.1.length fc) (.slice va k vc) (.slice ta g tc) (.slice xa X.1.length xc)) I := (HIF.out.upd hu (fun _ h => h.elim)).upd hu2 (fun i hi => by omega)
                          exact h.is)
                        have HU9 := Lib.hid (HUK.out.trans hu (fun _ h _ => h.elim))
                        clear hu z0 z1 z2 z3 z4 i0 i1 i2 i3 i4 h4 q0 q1 q0' q1'
                        cases r with
                        | false => as_aux_lemma =>
                          have HP := Lib.hid (show rReadP ys = (5, imgN) by rw [HP1.out, if_pos (.inr (by cases h : imgB insB I; rfl; exact absurd (hr.2 h) (by decide)))])
                          clear hr
                          have HJR := Lib.hid (rdBoxes HRB.out HNB.out HUB.out HU9.out (by omega) (by omega))
                          have j0 := HJR.out.1.c0
                          have j1 := HJR.out.1.c1
                          have j2 := HJR.out.1.c2
                          have j3 := HJR.out.1.c3
                          have j4 := HJR.out.1.c4
                          have g0 := HJR.out.1.fr 0
                          have g1 := HJR.out.1.fr 1
                          have g2 := HJR.out.1.fr 2
                          have g3 := HJR.out.1.fr 3
                          have g4 := HJR.out.1.fr 4
                          have n0 := HJR.out.2.1.c0
                          have n1 := HJR.out.2.1.c1
                          have n2 := HJR.out.2.1.c2
                          have n3 := HJR.out.2.1.c3
                          have n4 := HJR.out.2.1.c4
                          have hrn : ¬ w.heap.size = w.heap.size + 1 := by omega
                          have hrn' : ¬ w.heap.size + 1 = w.heap.size := by omega
                          obtain ⟨wF, hwF, hF1, hF2⟩ := fin5e HJR.out.1 (.string { data := #[] }) (.slice none 0 0) (.slice none 0 0) (.slice none 0 0) (.slice none 0 0)
                          have HWF := Lib.hid hwF
                          have HFI := Lib.hid hF1
                          have HUP := Lib.hid (upd_new (HJR.out.2.2.trans hF2 (fun i hi hlt => by omega)))
                          clear hwF hF1 hF2
                          generalize w.heap.size + 1 = N0 at *
                          generalize w.heap.size = R0 at *
                          --CUT r
                          go_wp2_with fail
                          --CUT q
                          rw [← HWF.out]
                          have JF := HFI.out
                          clear j0 j1 j2 j3 j4
                          have j0 := JF.c0
                          have j1 := JF.c1
                          have j2 := JF.c2
                          have j3 := JF.c3
                          have j4 := JF.c4
                          --CUT z
                          --TRACE
                          refine bodyPost_ret (v := .tuple #[img0, .int .i64 (5)]) (by simp only [results, Tryz.f9]; simp [go_sem, j0, j1, j2, j3, j4]) rfl ?_
                          --CUT y
                          exact ⟨_, by rw [HP.out], by rw [HP.out]; exact img0_is _, HUP.out⟩
                        | true => as_aux_lemma =>
                          have HP := Lib.hid (show rReadP ys = (0, I) by rw [HP1.out, if_neg (by rw [hr.1 rfl]; simp)])
                          clear hr
                          have z0 := H9.out.I.c0
                          have z1 := H9.out.I.c1
                          have z2 := H9.out.I.c2
                          have z3 := H9.out.I.c3
                          have z4 := H9.out.I.c4
                          have HJR := Lib.hid (rdBoxes HRB.out HNB.out HUB.out HU9.out (by omega) (by omega))
                          have j0 := HJR.out.1.c0
                          have j1 := HJR.out.1.c1
                          have j2 := HJR.out.1.c2
                          have j3 := HJR.out.1.c3
                          have j4 := HJR.out.1.c4
                          have g0 := HJR.out.1.fr 0
                          have g1 := HJR.out.1.fr 1
                          have g2 := HJR.out.1.fr 2
                          have g3 := HJR.out.1.fr 3
                          have g4 := HJR.out.1.fr 4
                          obtain ⟨wF, hwF, hF1, hF2⟩ := fin5e HJR.out.1 (.string nm) (.slice fa oF.1.length fc) (.slice va k vc) (.slice ta g tc) (.slice xa X.1.length xc)
                          have HWF := Lib.hid hwF
                          have HFI := Lib.hid hF1
                          have HUP := Lib.hid (upd_new (HJR.out.2.2.trans hF2 (fun i hi hlt => by omega)))
                          have HIM := Lib.hid (HFIN.out _ hF2)
                          clear hwF hF1 hF2
                          generalize w.heap.size + 1 = N0 at *
                          generalize w.heap.size = R0 at *
                          go_wp2_with fail
                          rw [← HWF.out]
                          have JF := HFI.out
                          clear j0 j1 j2 j3 j4
                          have j0 := JF.c0
                          have j1 := JF.c1
                          have j2 := JF.c2
                          have j3 := JF.c3
                          have j4 := JF.c4
                          refine bodyPost_ret (v := .tuple #[img5 nm (.slice fa oF.1.length fc) (.slice va k vc) (.slice ta g tc) (.slice xa X.1.length xc), .int .i64 0]) (by simp only [results, Tryz.f9]; simp [go_sem, j0, j1, j2, j3, j4]) rfl ?_
                          refine ⟨_, by rw [HP.out], ?_, HUP.out⟩
                          rw [HP.out]
                          exact HIM.out
                      · as_aux_lemma =>
                        have HP := Lib.hid (show rReadP ys = (5, imgN) by rw [HP1.out, if_pos (.inl hz)])
                        have hzl : 0 < zs.length := List.length_pos_iff.2 hz
                        clear hz
                        have HJR := Lib.hid (rdBoxes HRB.out HNB.out HUB.out HUK.out (by omega) (by omega))
                        have j0 := HJR.out.1.c0
                        have j1 := HJR.out.1.c1
                        have j2 := HJR.out.1.c2
                        have j3 := HJR.out.1.c3
                        have j4 := HJR.out.1.c4
                        have g0 := HJR.out.1.fr 0
                        have g1 := HJR.out.1.fr 1
                        have g2 := HJR.out.1.fr 2
                        have g3 := HJR.out.1.fr 3
                        have g4 := HJR.out.1.fr 4
                        have n0 := HJR.out.2.1.c0
                        have n1 := HJR.out.2.1.c1
                        have n2 := HJR.out.2.1.c2
                        have n3 := HJR.out.2.1.c3
                        have n4 := HJR.out.2.1.c4
                        have hrn : ¬ w.heap.size = w.heap.size + 1 := by omega
                        have hrn' : ¬ w.heap.size + 1 = w.heap.size := by omega
                        obtain ⟨wF, hwF, hF1, hF2⟩ := fin5e HJR.out.1 (.string { data := #[] }) (.slice none 0 0) (.slice none 0 0) (.slice none 0 0) (.slice none 0 0)
                        have HWF := Lib.hid hwF
                        have HFI := Lib.hid hF1
                        have HUP := Lib.hid (upd_new (HJR.out.2.2.trans hF2 (fun i hi hlt => by omega)))
                        clear hwF hF1 hF2
                        generalize w.heap.size + 1 = N0 at *
                        generalize w.heap.size = R0 at *
                        --CUT r
                        go_wp2_with fail
                        --CUT q
                        rw [← HWF.out]
                        have JF := HFI.out
                        clear j0 j1 j2 j3 j4
                        have j0 := JF.c0
                        have j1 := JF.c1
                        have j2 := JF.c2
                        have j3 := JF.c3
                        have j4 := JF.c4
                        --CUT z
                        --TRACE
                        refine bodyPost_ret (v := .tuple #[img0, .int .i64 (5)]) (by simp only [results, Tryz.f9]; simp [go_sem, j0, j1, j2, j3, j4]) rfl ?_
                        --CUT y
                        exact ⟨_, by rw [HP.out], by rw [HP.out]; exact img0_is _, HUP.out⟩
                  · as_aux_lemma =>
                    obtain rfl : lk2 = true := by rw [hlk2]; exact hlt'
                    clear hlk2 hys2 hlt'
                    have hbp := HM.out.bp
                    have hBW := HM.out.pl
                    have hpw := HM.out.I.lt
                    go_wp2_with fail
                    clear c1
                    refine (rReadList _ _ _ _ _ _ HM.out.K).mono ?_
                    obtain ⟨X, hX⟩ : ∃ X, X = rListP true ys2 := ⟨_, rfl⟩
                    rw [← hX]
                    have HXE := Lib.hid hX
                    rintro e w5 ⟨r, rfl, k1, k2, k3, k4⟩
                    obtain ⟨xa, xc, rfl⟩ := ownsRow_slice k3.row.1
                    have H7 := Lib.hid (HM.out.rd k1 k2)
                    have F7 := Lib.hid (HF.out.stay k2 (fun k hk => by omega))
                    have R7 := Lib.hid (HR.out.stay k2 (fun k hk => by omega))
                    have T7 := Lib.hid (HT.out.stay k2 (fun k hk => by omega))
                    have X7 : Hid (NF (p + 1) w5 (.slice xa X.1.length xc) X.1) := Lib.hid (k3.low hpw)
                    have i4 := H7.out.I.c4
                    have h4 := H7.out.I.fr 4
                    have q1 := H7.out.K.cell1
                    obtain ⟨qa, qc, q0⟩ := H7.out.K.cell0
                    have H8 := Lib.hid (H7.out.set4 (.slice xa X.1.length xc))
                    have hbne : ¬ b = p := by omega
                    have hbne' : ¬ p = b := by omega
                    have F8 := Lib.hid (F7.out.stay (box_upd w5 p 4 (.slice xa X.1.length xc)) (fun i hi => by omega))
                    have R8 := Lib.hid (R7.out.stay (box_upd w5 p 4 (.slice xa X.1.length xc)) (fun i hi => by omega))
                    have T8 := Lib.hid (T7.out.stay (box_upd w5 p 4 (.slice xa X.1.length xc)) (fun i hi => by omega))
                    have X8 := Lib.hid (X7.out.stay (box_upd w5 p 4 (.slice xa X.1.length xc)) (fun i hi => by omega))
                    have q1' := H8.out.K.cell1
                    obtain ⟨qa', qc', q0'⟩ := H8.out.K.cell0
                    have HRE := Lib.hid (show R = (0, ⟨nm, oF.1, Q.map (·.1), T.map (·.1), X.1⟩, X.2) by rw [HPR.out, HME.out, HNM.out, HJE.out, HXE.out])
                    have HP0 := Lib.hid (show rReadP ys = if X.2.1 = true then (7, imgN) else if X.2.2 ≠ [] ∨ imgB insB ⟨nm, oF.1, Q.map (·.1), T.map (·.1), X.1⟩ = false then (5, imgN) else (0, ⟨nm, oF.1, Q.map (·.1), T.map (·.1), X.1⟩) by
                      rw [HPM.out, HRE.out, if_neg (by simp)])
                    obtain ⟨I, hI⟩ : ∃ I : ImgM, I = ⟨nm, oF.1, Q.map (·.1), T.map (·.1), X.1⟩ := ⟨_, rfl⟩
                    rw [← hI] at HP0
                    have hnm : nm.size ≤ maxLen := by
                      rw [HNM.out, strOfNums_size]
                      have := HNL.out
                      unfold maxLen
                      omega
                    have HIF : Hid (ImgFrom (p + 1) (w5.setCell ⟨p, 4, none⟩ (.slice xa X.1.length xc)) (img5 nm (.slice fa oF.1.length fc) (.slice va k vc) (.slice ta g tc) (.slice xa X.1.length xc)) I) := Lib.hid (by
                      rw [hI]
                      exact ⟨_, _, _, _, rfl, ⟨F8.out.row.ints, F8.out.new⟩, R8.out.imps, T8.out.mets, ⟨X8.out.row.ints, X8.out.new⟩, hnm⟩)
                    have HIMG : Hid (Img (w5.setCell ⟨p, 4, none⟩ (.slice xa X.1.length xc)) (img5 nm (.slice fa oF.1.length fc) (.slice va k vc) (.slice ta g tc) (.slice xa X.1.length xc)) I) := Lib.hid (by
                      exact HIF.out.is)
                    have HUK := Lib.hid (H8.out.K.upd)
                    clear k1 k2 k3 k4 hX hI hnm HRE
                    cases hlx : X.2.1 with
                    | true => as_aux_lemma =>
                      rw [hlx] at q1 q1'
                      have HP := Lib.hid (show rReadP ys = (7, imgN) by rw [HP0.out, if_pos hlx])
                      clear hlx
                      have HJR := Lib.hid (rdBoxes HRB.out HNB.out HUB.out HUK.out (by omega) (by omega))
                      have j0 := HJR.out.1.c0
                      have j1 := HJR.out.1.c1
                      have j2 := HJR.out.1.c2
                      have j3 := HJR.out.1.c3
                      have j4 := HJR.out.1.c4
                      have g0 := HJR.out.1.fr 0
                      have g1 := HJR.out.1.fr 1
                      have g2 := HJR.out.1.fr 2
                      have g3 := HJR.out.1.fr 3
                      have g4 := HJR.out.1.fr 4
                      have n0 := HJR.out.2.1.c0
                      have n1 := HJR.out.2.1.c1
                      have n2 := HJR.out.2.1.c2
                      have n3 := HJR.out.2.1.c3
                      have n4 := HJR.out.2.1.c4
                      have hrn : ¬ w.heap.size = w.heap.size + 1 := by omega
                      have hrn' : ¬ w.heap.size + 1 = w.heap.size := by omega
                      obtain ⟨wF, hwF, hF1, hF2⟩ := fin5e HJR.out.1 (.string { data := #[] }) (.slice none 0 0) (.slice none 0 0) (.slice none 0 0) (.slice none 0 0)
                      have HWF := Lib.hid hwF
                      have HFI := Lib.hid hF1
                      have HUP := Lib.hid (upd_new (HJR.out.2.2.trans hF2 (fun i hi hlt => by omega)))
                      clear hwF hF1 hF2
                      generalize w.heap.size + 1 = N0 at *
                      generalize w.heap.size = R0 at *
                      --CUT r
                      go_wp2_with fail
                      --CUT q
                      rw [← HWF.out]
                      have JF := HFI.out
                      clear j0 j1 j2 j3 j4
                      have j0 := JF.c0
                      have j1 := JF.c1
                      have j2 := JF.c2
                      have j3 := JF.c3
                      have j4 := JF.c4
                      --CUT z
                      --TRACE
                      refine bodyPost_ret (v := .tuple #[img0, .int .i64 (7)]) (by simp only [results, Tryz.f9]; simp [go_sem, j0, j1, j2, j3, j4]) rfl ?_
                      --CUT y
                      exact ⟨_, by rw [HP.out], by rw [HP.out]; exact img0_is _, HUP.out⟩
                    | false =>
                      rw [hlx] at q1 q1'
                      have HP1 := Lib.hid (show rReadP ys = if X.2.2 ≠ [] ∨ imgB insB I = false then (5, imgN) else (0, I) by rw [HP0.out, if_neg (by rw [hlx]; decide)])
                      obtain ⟨zs, hzs⟩ : ∃ zs, zs = X.2.2 := ⟨_, rfl⟩
                      rw [← hzs] at q0 q0' HP1
                      clear hlx hzs
                      by_cases hz : zs = []
                      · subst hz
                        have z0 := H8.out.I.c0
                        have z1 := H8.out.I.c1
                        have z2 := H8.out.I.c2
                        have z3 := H8.out.I.c3
                        have z4 := H8.out.I.c4
                        have i0 := H7.out.I.c0
                        have i1 := H7.out.I.c1
                        have i2 := H7.out.I.c2
                        have i3 := H7.out.I.c3
                        have HUW := Lib.hid (rdBoxes HRB.out HNB.out HUB.out HUK.out (by omega) (by omega)).2.2
                        have HRG := Lib.hid (rRightI _ _ I HIMG.out (HNO.out.later (upd_below (upd_new HUW.out))))
                        have HXL : Hid (w.heap.size < (w5.setCell ⟨p, 4, none⟩ (.slice xa X.1.length xc)).heap.size) := Lib.hid (by have := H8.out.I.lt; omega)
                        go_wp2_with fail
                        refine HRG.out.mono ?_
                        rintro e w6 ⟨r, rfl, hr, hu⟩
                        have H9 := Lib.hid (H8.out.mono hu)
                        have HFIN : Hid (∀ u, Upd (fun k => k = w.heap.size) w6 u → Img u (img5 nm (.slice fa oF.1.length fc) (.slice va k vc) (.slice ta g tc) (.slice xa X.1.length xc)) I) := Lib.hid (fun u hu2 => by
                          have h : ImgFrom (p + 1) u (img5 nm (.slice fa oF.1.length fc) (.slice va k vc) (.slice ta g tc) (.slice xa X.1.length xc)) I := (HIF.out.upd hu (fun _ h => h.elim)).upd hu2 (fun i hi => by omega)
                          exact h.is)
                        have HU9 := Lib.hid (HUK.out.trans hu (fun _ h _ => h.elim))
                        clear hu z0 z1 z2 z3 z4 i0 i1 i2 i3 i4 h4 q0 q1 q0' q1'
                        cases r with
                        | false => as_aux_lemma =>
                          have HP := Lib.hid (show rReadP ys = (5, imgN) by rw [HP1.out, if_pos (.inr (by cases h : imgB insB I; rfl; exact absurd (hr.2 h) (by decide)))])
                          clear hr
                          have HJR := Lib.hid (rdBoxes HRB.out HNB.out HUB.out HU9.out (by omega) (by omega))
                          have j0 := HJR.out.1.c0
                          have j1 := HJR.out.1.c1
                          have j2 := HJR.out.1.c2
                          have j3 := HJR.out.1.c3
                          have j4 := HJR.out.1.c4
                          have g0 := HJR.out.1.fr 0
                          have g1 := HJR.out.1.fr 1
                          have g2 := HJR.out.1.fr 2
                          have g3 := HJR.out.1.fr 3
                          have g4 := HJR.out.1.fr 4
                          have n0 := HJR.out.2.1.c0
                          have n1 := HJR.out.2.1.c1
                          have n2 := HJR.out.2.1.c2
                          have n3 := HJR.out.2.1.c3
                          have n4 := HJR.out.2.1.c4
                          have hrn : ¬ w.heap.size = w.heap.size + 1 := by omega
                          have hrn' : ¬ w.heap.size + 1 = w.heap.size := by omega
                          obtain ⟨wF, hwF, hF1, hF2⟩ := fin5e HJR.out.1 (.string { data := #[] }) (.slice none 0 0) (.slice none 0 0) (.slice none 0 0) (.slice none 0 0)
                          have HWF := Lib.hid hwF
                          have HFI := Lib.hid hF1
                          have HUP := Lib.hid (upd_new (HJR.out.2.2.trans hF2 (fun i hi hlt => by omega)))
                          clear hwF hF1 hF2
                          generalize w.heap.size + 1 = N0 at *
                          generalize w.heap.size = R0 at *
                          --CUT r
                          go_wp2_with fail
                          --CUT q
                          rw [← HWF.out]
                          have JF := HFI.out
                          clear j0 j1 j2 j3 j4
                          have j0 := JF.c0
                          have j1 := JF.c1
                          have j2 := JF.c2
                          have j3 := JF.c3
                          have j4 := JF.c4
                          --CUT z
                          --TRACE
                          refine bodyPost_ret (v := .tuple #[img0, .int .i64 (5)]) (by simp only [results, Tryz.f9]; simp [go_sem, j0, j1, j2, j3, j4]) rfl ?_
                          --CUT y
                          exact ⟨_, by rw [HP.out], by rw [HP.out]; exact img0_is _, HUP.out⟩
                        | true => as_aux_lemma =>
                          have HP := Lib.hid (show rReadP ys = (0, I) by rw [HP1.out, if_neg (by rw [hr.1 rfl]; simp)])
                          clear hr
                          have z0 := H9.out.I.c0
                          have z1 := H9.out.I.c1
                          have z2 := H9.out.I.c2
                          have z3 := H9.out.I.c3
                          have z4 := H9.out.I.c4
                          have HJR := Lib.hid (rdBoxes HRB.out HNB.out HUB.out HU9.out (by omega) (by omega))
                          have j0 := HJR.out.1.c0
                          have j1 := HJR.out.1.c1
                          have j2 := HJR.out.1.c2
                          have j3 := HJR.out.1.c3
                          have j4 := HJR.out.1.c4
                          have g0 := HJR.out.1.fr 0
                          have g1 := HJR.out.1.fr 1
                          have g2 := HJR.out.1.fr 2
                          have g3 := HJR.out.1.fr 3
                          have g4 := HJR.out.1.fr 4
                          obtain ⟨wF, hwF, hF1, hF2⟩ := fin5e HJR.out.1 (.string nm) (.slice fa oF.1.length fc) (.slice va k vc) (.slice ta g tc) (.slice xa X.1.length xc)
                          have HWF := Lib.hid hwF
                          have HFI := Lib.hid hF1
                          have HUP := Lib.hid (upd_new (HJR.out.2.2.trans hF2 (fun i hi hlt => by omega)))
                          have HIM := Lib.hid (HFIN.out _ hF2)
                          clear hwF hF1 hF2
                          generalize w.heap.size + 1 = N0 at *
                          generalize w.heap.size = R0 at *
                          go_wp2_with fail
                          rw [← HWF.out]
                          have JF := HFI.out
                          clear j0 j1 j2 j3 j4
                          have j0 := JF.c0
                          have j1 := JF.c1
                          have j2 := JF.c2
                          have j3 := JF.c3
                          have j4 := JF.c4
                          refine bodyPost_ret (v := .tuple #[img5 nm (.slice fa oF.1.length fc) (.slice va k vc) (.slice ta g tc) (.slice xa X.1.length xc), .int .i64 0]) (by simp only [results, Tryz.f9]; simp [go_sem, j0, j1, j2, j3, j4]) rfl ?_
                          refine ⟨_, by rw [HP.out], ?_, HUP.out⟩
                          rw [HP.out]
                          exact HIM.out
                      · as_aux_lemma =>
                        have HP := Lib.hid (show rReadP ys = (5, imgN) by rw [HP1.out, if_pos (.inl hz)])
                        have hzl : 0 < zs.length := List.length_pos_iff.2 hz
                        clear hz
                        have HJR := Lib.hid (rdBoxes HRB.out HNB.out HUB.out HUK.out (by omega) (by omega))
                        have j0 := HJR.out.1.c0
                        have j1 := HJR.out.1.c1
                        have j2 := HJR.out.1.c2
                        have j3 := HJR.out.1.c3
                        have j4 := HJR.out.1.c4
                        have g0 := HJR.out.1.fr 0
                        have g1 := HJR.out.1.fr 1
                        have g2 := HJR.out.1.fr 2
                        have g3 := HJR.out.1.fr 3
                        have g4 := HJR.out.1.fr 4
                        have n0 := HJR.out.2.1.c0
                        have n1 := HJR.out.2.1.c1
                        have n2 := HJR.out.2.1.c2
                        have n3 := HJR.out.2.1.c3
                        have n4 := HJR.out.2.1.c4
                        have hrn : ¬ w.heap.size = w.heap.size + 1 := by omega
                        have hrn' : ¬ w.heap.size + 1 = w.heap.size := by omega
                        obtain ⟨wF, hwF, hF1, hF2⟩ := fin5e HJR.out.1 (.string { data := #[] }) (.slice none 0 0) (.slice none 0 0) (.slice none 0 0) (.slice none 0 0)
                        have HWF := Lib.hid hwF
                        have HFI := Lib.hid hF1
                        have HUP := Lib.hid (upd_new (HJR.out.2.2.trans hF2 (fun i hi hlt => by omega)))
                        clear hwF hF1 hF2
                        generalize w.heap.size + 1 = N0 at *
                        generalize w.heap.size = R0 at *
                        --CUT r
                        go_wp2_with fail
                        --CUT q
                        rw [← HWF.out]
                        have JF := HFI.out
                        clear j0 j1 j2 j3 j4
                        have j0 := JF.c0
                        have j1 := JF.c1
                        have j2 := JF.c2
                        have j3 := JF.c3
                        have j4 := JF.c4
                        --CUT z
                        --TRACE
                        refine bodyPost_ret (v := .tuple #[img0, .int .i64 (5)]) (by simp only [results, Tryz.f9]; simp [go_sem, j0, j1, j2, j3, j4]) rfl ?_
                        --CUT y
                        exact ⟨_, by rw [HP.out], by rw [HP.out]; exact img0_is _, HUP.out⟩
                  --D}t
              --D}M
            --D}m
      · as_aux_lemma =>
        have hq : (s0.toList == [84, 65, 67, 73, 1]) = false := by rw [HQ.out]; simp [hm]
        have hq' : (s0.toList != [84, 65, 67, 73, 1]) = true := by simp only [bne, hq]; rfl
        have HM5 : markE ys = 5 := by rw [HE.out, if_neg (by rw [HL.out]; decide), if_neg hm]
        have HP := Lib.hid (show rReadP ys = (5, imgN) by rw [HPB.out, HM5, if_pos (by decide)])
        clear HM5
        have HUK := Lib.hid K1.out.upd
        clear hm
        --D{5
        have HJR := Lib.hid (rdBoxes HRB.out HNB.out HUB.out HUK.out (by omega) (by omega))
        have j0 := HJR.out.1.c0
        have j1 := HJR.out.1.c1
        have j2 := HJR.out.1.c2
        have j3 := HJR.out.1.c3
        have j4 := HJR.out.1.c4
        have g0 := HJR.out.1.fr 0
        have g1 := HJR.out.1.fr 1
        have g2 := HJR.out.1.fr 2
        have g3 := HJR.out.1.fr 3
        have g4 := HJR.out.1.fr 4
        have n0 := HJR.out.2.1.c0
        have n1 := HJR.out.2.1.c1
        have n2 := HJR.out.2.1.c2
        have n3 := HJR.out.2.1.c3
        have n4 := HJR.out.2.1.c4
        have hrn : ¬ w.heap.size = w.heap.size + 1 := by omega
        have hrn' : ¬ w.heap.size + 1 = w.heap.size := by omega
        obtain ⟨wF, hwF, hF1, hF2⟩ := fin5e HJR.out.1 (.string { data := #[] }) (.slice none 0 0) (.slice none 0 0) (.slice none 0 0) (.slice none 0 0)
        have HWF := Lib.hid hwF
        have HFI := Lib.hid hF1
        have HUP := Lib.hid (upd_new (HJR.out.2.2.trans hF2 (fun i hi hlt => by omega)))
        clear hwF hF1 hF2
        generalize w.heap.size + 1 = N0 at *
        generalize w.heap.size = R0 at *
        --CUT r
        go_wp2_with fail
        --CUT q
        rw [← HWF.out]
        have JF := HFI.out
        clear j0 j1 j2 j3 j4
        have j0 := JF.c0
        have j1 := JF.c1
        have j2 := JF.c2
        have j3 := JF.c3
        have j4 := JF.c4
        --CUT z
        --TRACE
        refine bodyPost_ret (v := .tuple #[img0, .int .i64 (5)]) (by simp only [results, Tryz.f9]; simp [go_sem, j0, j1, j2, j3, j4]) rfl ?_
        --CUT y
        exact ⟨_, by rw [HP.out], by rw [HP.out]; exact img0_is _, HUP.out⟩
        --D}5
end Go.Proofs.YtmbdfmgidnjgeaaGreatDoor

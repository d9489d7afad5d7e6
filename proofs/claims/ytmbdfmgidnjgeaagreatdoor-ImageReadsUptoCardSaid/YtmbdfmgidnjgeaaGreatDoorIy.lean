/- Package image's Read. -/
import Derived.Test.YtmbdfmgidnjgeaaGreatDoorIx
import Derived.Test.YtmbdfmgidnjgeaaGreatDoorIl
namespace Go.Proofs.YtmbdfmgidnjgeaaGreatDoor
open Go.RowKit Go.Lib
set_option linter.unusedVariables false

theorem eRaw {W w : World} {b : Nat} {V : Value} {lk : Bool} {ys : List Int} (n : Int) (h : RdW 88 W w b V lk ys) (hlo : 0 ≤ n) (hhi : n ≤ 9223372036854775807) :
    Calls Tryz.prog 46 #[.pointer (some ⟨b, 0, none⟩), .int .i64 n] w fun e w' => ∃ r, e = .returned r ∧ RdW 88 W w' b V (takeP n lk ys).2.1 (takeP n lk ys).2.2 ∧ Upd (fun k => k = b) w w' ∧ w'.ownsRow 0 5 1 r (takeP n lk ys).1.length (bv (takeP n lk ys).1) ∧ ∀ y ∈ (takeP n lk ys).1, 0 ≤ y ∧ y ≤ 255 := by
  obtain ⟨h0, v, h1, h2, h3⟩ := h
  exact (rRaw w b v n lk ys h1 (by omega) hhi).mono fun e w' ⟨r, he, v1, k1, k2, k3, k4, k5⟩ => ⟨r, he, RdW.call h0 h2 h3 k1 k3 k4, k3, k2, takeP_bd h1.vw.1 _ _⟩
theorem eLack {W w : World} {b : Nat} {V : Value} {lk : Bool} {ys : List Int} (h : RdW 88 W w b V lk ys) :
    Calls Tryz.prog 23 #[.pointer (some ⟨b, 0, none⟩)] w fun e w' => e = .returned (.bool lk) ∧ w = w' := by
  obtain ⟨_, v, h1, _⟩ := h
  exact rLack w b v lk ys h1
theorem eLeft {W w : World} {b : Nat} {V : Value} {lk : Bool} {ys : List Int} (h : RdW 88 W w b V lk ys) :
    Calls Tryz.prog 24 #[.pointer (some ⟨b, 0, none⟩)] w fun e w' => e = .returned (.int .i64 ys.length) ∧ w = w' := by
  obtain ⟨_, v, h1, _⟩ := h
  exact rLeft w b v lk ys h1

/-- what the mark's look answers -/
def markE (ys : List Int) : Int := if (takeP 5 false ys).2.1 = true then 7 else if (takeP 5 false ys).1 = markL then 0 else 5
theorem str_markL : strOfNums markL = { data := #[84, 65, 67, 73, 1] } := by kernel_rfl

set_option maxRecDepth 100000 in
set_option maxHeartbeats 1000000 in
theorem cTakeMark (W w : World) (b : Nat) (V : Value) (ys : List Int) (h : RdW 88 W w b V false ys) :
    Calls Tryz.prog 21 #[.pointer (some ⟨b, 0, none⟩)] w fun e w' => e = .returned (.int .i64 (markE ys)) ∧ RdW 88 W w' b V (takeP 5 false ys).2.1 (takeP 5 false ys).2.2 ∧ Upd (fun k => k = b) w w' := by
  have HH := Lib.hid h
  obtain ⟨A, hA⟩ : ∃ A, A = takeP 5 false ys := ⟨_, rfl⟩
  have HE := Lib.hid (show markE ys = if A.2.1 = true then 7 else if A.1 = markL then 0 else 5 by rw [hA]; rfl)
  have HAE := Lib.hid hA
  clear h hA
  go_enter Tryz.func21, Tryz.ntmps21
  go_wp2_with fail
  refine (eRaw 5 HH.out (by omega) (by omega)).mono ?_
  rw [← HAE.out]
  rintro e w1 ⟨r, rfl, k1, k2, k3, k4⟩
  have hs := str3 (vw_of_row k3 k4)
  obtain ⟨ra, rc, rfl⟩ := ownsRow_slice k3
  have K1 := Lib.hid k1
  have U1 := Lib.hid k2
  have HB := Lib.hid k4
  clear k1 k2 k3 k4
  obtain ⟨s0, hs0⟩ : ∃ s0, s0 = strOfNums A.1 := ⟨_, rfl⟩
  rw [← hs0] at hs
  have HS0 := Lib.hid hs0
  clear hs0
  go_wp2_with fail
  clear hs
  refine (eLack K1.out).mono ?_
  rintro e w2 ⟨rfl, rfl⟩
  cases hl : A.2.1 with
  | true =>
    have HL := Lib.hid hl
    go_wp2_with fail
    go_ret
    exact ⟨by rw [HE.out, HL.out]; rfl, by have := K1.out; rw [HAE.out] at this; exact this, U1.out⟩
  | false =>
    have HL := Lib.hid hl
    have HQ := Lib.hid (show (s0.toList == [84, 65, 67, 73, 1]) = decide (A.1 = markL) by
      have h := str_same A.1 markL HB.out (by decide)
      rw [str_markL, ← HS0.out] at h
      rw [← h, ByteArray.toList_eq ({ data := #[84, 65, 67, 73, 1] } : ByteArray)])
    by_cases hm : A.1 = markL
    · have hq : (s0.toList == [84, 65, 67, 73, 1]) = true := by rw [HQ.out]; simp [hm]
      have HM := Lib.hid hm
      clear hm
      go_wp2_with fail
      go_ret
      exact ⟨by rw [HE.out, HL.out, HM.out]; rfl, by have := K1.out; rw [HAE.out] at this; exact this, U1.out⟩
    · have hq : (s0.toList == [84, 65, 67, 73, 1]) = false := by rw [HQ.out]; simp [hm]
      have HM := Lib.hid hm
      clear hm
      go_wp2_with fail
      go_ret
      exact ⟨by rw [HE.out, HL.out]; simp [HM.out], by have := K1.out; rw [HAE.out] at this; exact this, U1.out⟩

theorem upd_new {w w' : World} (h : Upd (fun k => w.heap.size ≤ k) w w') : Upd (fun _ => False) w w' := ⟨h.os, h.tape, h.output, h.size, fun k hk _ => h.block k hk (fun h => by omega)⟩
/-- the image that is none -/
abbrev imgN : ImgM := ⟨{ data := #[] }, [], [], [], []⟩
/-- what Read answers: the error, or 0; the image -/
def readP (ys : List Int) : Int × ImgM :=
  if 8192 < ys.length then (6, imgN) else if markE ys ≠ 0 then (markE ys, imgN) else
  if (partsP false (takeP 5 false ys).2.2).1 ≠ 0 then ((partsP false (takeP 5 false ys).2.2).1, imgN) else
  if (partsP false (takeP 5 false ys).2.2).2.2.1 = true then (7, imgN) else
  if (partsP false (takeP 5 false ys).2.2).2.2.2 ≠ [] ∨ imgB insB (partsP false (takeP 5 false ys).2.2).2.1 = false then (5, imgN) else (0, (partsP false (takeP 5 false ys).2.2).2.1)
theorem mark_lack {ys : List Int} (h : markE ys = 0) : (takeP 5 false ys).2.1 = false := by
  unfold markE at h
  split at h
  · omega
  · rename_i h1
    simpa using h1

theorem img0_is (w : World) : Img w img0 imgN :=
  ⟨_, _, _, _, rfl, ⟨Sl.nil _ _ _, by simp⟩, ⟨fun _ => .slice none 0 0, Sl.nil _ _ _, by simp, by simp⟩, ⟨fun _ => .slice none 0 0, fun _ => .slice none 0 0, fun _ => .slice none 0 0, Sl.nil _ _ _, by simp, by simp⟩, ⟨Sl.nil _ _ _, by simp⟩, by decide⟩

set_option maxRecDepth 100000 in
set_option maxHeartbeats 8000000 in
theorem cImgRead (w : World) (x : Value) (ys : List Int) (h : Vw w x ys) :
    Calls Tryz.prog 8 #[x] w fun e w' => ∃ r, e = .returned (.tuple #[r, .int .i64 (readP ys).1]) ∧ Img w' r (readP ys).2 ∧ Upd (fun _ => False) w w' := by
  obtain ⟨a, c, rfl, h1, h2⟩ := h.slice
  unfold maxLen at h2
  have HA := Lib.hid (Upd.alloc (fun _ => False) w (.cells #[.string { data := #[] }, .slice none 0 0, .slice none 0 0, .slice none 0 0, .slice none 0 0] 32))
  have HI : Hid (Is5 32 _ _ _ _ _ _ _) := Lib.hid (cells5_new (w := w) (x := .string { data := #[] }) (y := .slice none 0 0) (z := .slice none 0 0) (u := .slice none 0 0) (s := .slice none 0 0) (t := 32))
  have HV := Lib.hid h
  clear h
  by_cases hbig : 8192 < ys.length
  · have HP := Lib.hid (show readP ys = (6, imgN) by unfold readP; rw [if_pos hbig])
    have g0 := HI.out.fr 0
    go_enter Tryz.func8, Tryz.ntmps8
    go_wp2_with fail
    have j0 := HI.out.c0
    have j1 := HI.out.c1
    have j2 := HI.out.c2
    have j3 := HI.out.c3
    have j4 := HI.out.c4
    refine bodyPost_ret (v := .tuple #[img0, .int .i64 6]) (by simp only [results, Tryz.f8]; simp [go_sem, j0, j1, j2, j3, j4]) rfl ?_
    exact ⟨_, by rw [HP.out], by rw [HP.out]; exact img0_is _, HA.out⟩
  · have HV1 := Lib.hid (HV.out.upd HA.out (fun _ _ h => h))
    go_enter Tryz.func8, Tryz.ntmps8
    go_wp2_with fail
    refine (newReader _ _ _ HV1.out (by omega)).mono ?_
    rintro e w2 ⟨b, v, rfl, k1, k2, k3⟩
    have HJ2 := Lib.hid (HI.out.upd k2 (fun h => h))
    have HU2 : Hid (Upd (fun k => w.heap.size ≤ k) w w2) := Lib.hid ((HA.out.trans k2 (fun _ h _ => h)).mono (fun _ h _ => h.elim))
    have hbw : w.heap.size < b := by have := k3 b (.inl rfl); simp at this; omega
    have HK2 := Lib.hid (RdW.of k1)
    clear k1 k2 k3
    go_wp2_with fail
    refine (cTakeMark _ _ _ _ _ HK2.out).mono ?_
    rintro e w3 ⟨rfl, k1, k2⟩
    have HJ3 := Lib.hid (HJ2.out.upd k2 (fun e => by omega))
    have HU : Hid (Upd (fun k => w.heap.size ≤ k) w w3) := Lib.hid (HU2.out.trans k2 (fun i hi hlt => by omega))
    have HK3 := Lib.hid k1
    clear k1 k2
    obtain ⟨me, hme⟩ : ∃ me, me = markE ys := ⟨_, rfl⟩
    rw [← hme]
    by_cases h0 : me = 0
    · have HME := Lib.hid (hme.symm.trans h0)
      have hlk := mark_lack HME.out
      have HK4 : Hid (RdW 88 w2 w3 b v false (takeP 5 false ys).2.2) := Lib.hid (by have := HK3.out; rw [hlk] at this; exact this)
      obtain ⟨P, hP⟩ : ∃ P, P = partsP false (takeP 5 false ys).2.2 := ⟨_, rfl⟩
      have HPP := Lib.hid (show readP ys = if P.1 ≠ 0 then (P.1, imgN) else if P.2.2.1 = true then (7, imgN) else if P.2.2.2 ≠ [] ∨ imgB insB P.2.1 = false then (5, imgN) else (0, P.2.1) by
        rw [hP]; unfold readP; rw [if_neg hbig, if_neg (by rw [HME.out]; decide)])
      have HPE := Lib.hid hP
      clear hP hlk hme HK3
      subst h0
      go_wp2_with fail
      refine (cTakeParts _ _ _ _ _ _ HK4.out).mono ?_
      rw [← HPE.out]
      rintro e w4 (⟨he, rfl, k2⟩ | ⟨he, x, rfl, k1, k2, k3⟩)
      · have ha := Upd.alloc (fun _ => False) w4 (.cells #[.string { data := #[] }, .slice none 0 0, .slice none 0 0, .slice none 0 0, .slice none 0 0] 32)
        have HJ4 := Lib.hid ((HJ3.out.upd k2 (fun e => by omega)).upd ha (fun h => h))
        have HU4 : Hid (Upd (fun k => w.heap.size ≤ k) w _) := Lib.hid ((HU.out.trans k2 (fun i hi hlt => by omega)).trans ha (fun _ h _ => h.elim))
        clear HU
        have HU := HU4
        obtain ⟨er, her⟩ : ∃ er, er = P.1 := ⟨_, rfl⟩
        rw [← her] at he ⊢
        have HP := Lib.hid (show readP ys = (er, imgN) by rw [HPP.out, ← her, if_pos he])
        have hb : (er == 0) = false := beq_eq_false_iff_ne.2 he
        have hb' : (er != 0) = true := by simp [bne, hb]
        clear her he k2 ha
        have j0 := HJ4.out.c0
        have j1 := HJ4.out.c1
        have j2 := HJ4.out.c2
        have j3 := HJ4.out.c3
        have j4 := HJ4.out.c4
        have g0 := HJ4.out.fr 0
        have g1 := HJ4.out.fr 1
        have g2 := HJ4.out.fr 2
        have g3 := HJ4.out.fr 3
        have g4 := HJ4.out.fr 4
        go_wp2_with fail
        obtain ⟨JF, UF⟩ := fin5 HJ4.out (.string { data := #[] }) (.slice none 0 0) (.slice none 0 0) (.slice none 0 0) (.slice none 0 0)
        have j0 := JF.c0
        have j1 := JF.c1
        have j2 := JF.c2
        have j3 := JF.c3
        have j4 := JF.c4
        refine bodyPost_ret (v := .tuple #[img0, .int .i64 (er)]) (by simp only [results, Tryz.f8]; simp [go_sem, j0, j1, j2, j3, j4]) rfl ?_
        exact ⟨_, by rw [HP.out], by rw [HP.out]; exact img0_is _, upd_new (HU.out.trans UF (fun i hi hlt => by omega))⟩
      · obtain ⟨f, i, m, x, rfl, hf, hi, hm, hx, hsz⟩ := k3
        obtain ⟨fa, fc, rfl, -, -⟩ := hf.is.slice
        obtain ⟨ia, ic, rfl, -, -⟩ := hi.is.slice
        obtain ⟨ma, mc, rfl, -, -⟩ := hm.is.slice
        obtain ⟨xa, xc, rfl, -, -⟩ := hx.is.slice
        obtain ⟨I, hI⟩ : ∃ I, I = P.2.1 := ⟨_, rfl⟩
        rw [← hI] at hf hi hm hx hsz ⊢
        have HIM : Hid (ImgFrom w3.heap.size w4 (img5 I.name (.slice fa I.fields.length fc) (.slice ia I.imports.length ic) (.slice ma I.methods.length mc) (.slice xa I.exports.length xc)) I) := Lib.hid ⟨_, _, _, _, rfl, hf, hi, hm, hx, hsz⟩
        obtain ⟨lk, hlk⟩ : ∃ lk, lk = P.2.2.1 := ⟨_, rfl⟩
        obtain ⟨zs, hzs⟩ : ∃ zs, zs = P.2.2.2 := ⟨_, rfl⟩
        have HP0 := Lib.hid (show readP ys = if lk = true then (7, imgN) else if zs ≠ [] ∨ imgB insB I = false then (5, imgN) else (0, I) by
          rw [HPP.out, if_neg (by rw [he]; decide), hlk, hzs, hI])
        rw [← hlk, ← hzs] at k1
        have ha := Upd.alloc (fun _ => False) w4 (.cells #[.string I.name, .slice fa I.fields.length fc, .slice ia I.imports.length ic, .slice ma I.methods.length mc, .slice xa I.exports.length xc] 32)
        have HJ4 := Lib.hid ((HJ3.out.upd k2 (fun e => by omega)).upd ha (fun h => h))
        have HB4 : Hid (Is5 32 _ _ _ _ _ _ _) := Lib.hid (cells5_new (w := w4) (x := .string I.name) (y := .slice fa I.fields.length fc) (z := .slice ia I.imports.length ic) (u := .slice ma I.methods.length mc) (s := .slice xa I.exports.length xc) (t := 32))
        have HU4 : Hid (Upd (fun k => w.heap.size ≤ k) w _) := Lib.hid ((HU.out.trans k2 (fun i hi hlt => by omega)).trans ha (fun _ h _ => h.elim))
        have HK5 := Lib.hid (k1.mono ha)
        have HIM5 := Lib.hid (HIM.out.upd ha (fun _ h => h.elim))
        have hw34 := k2.size
        have hlt3 : w.heap.size < w3.heap.size := HJ3.out.lt
        clear HU
        have HU := HU4
        clear hf hi hm hx hsz k1 k2 he hI hlk hzs ha HPP HPE HIM
        go_wp2_with fail
        refine (eLack HK5.out).mono ?_
        rintro e w5 ⟨rfl, rfl⟩
        cases lk with
        | true =>
          have HP := Lib.hid (show readP ys = (7, imgN) by rw [HP0.out, if_pos rfl])
          have j0 := HJ4.out.c0
          have j1 := HJ4.out.c1
          have j2 := HJ4.out.c2
          have j3 := HJ4.out.c3
          have j4 := HJ4.out.c4
          have g0 := HJ4.out.fr 0
          have g1 := HJ4.out.fr 1
          have g2 := HJ4.out.fr 2
          have g3 := HJ4.out.fr 3
          have g4 := HJ4.out.fr 4
          go_wp2_with fail
          obtain ⟨JF, UF⟩ := fin5 HJ4.out (.string { data := #[] }) (.slice none 0 0) (.slice none 0 0) (.slice none 0 0) (.slice none 0 0)
          have j0 := JF.c0
          have j1 := JF.c1
          have j2 := JF.c2
          have j3 := JF.c3
          have j4 := JF.c4
          refine bodyPost_ret (v := .tuple #[img0, .int .i64 (7)]) (by simp only [results, Tryz.f8]; simp [go_sem, j0, j1, j2, j3, j4]) rfl ?_
          exact ⟨_, by rw [HP.out], by rw [HP.out]; exact img0_is _, upd_new (HU.out.trans UF (fun i hi hlt => by omega))⟩
        | false =>
          go_wp2_with fail
          refine (eLeft HK5.out).mono ?_
          rintro e w5 ⟨rfl, rfl⟩
          by_cases hz : zs = []
          · subst hz
            have b0 := HB4.out.c0
            have b1 := HB4.out.c1
            have b2 := HB4.out.c2
            have b3 := HB4.out.c3
            have b4 := HB4.out.c4
            go_wp2_with fail
            refine (cImgRight _ _ I HIM5.out.is).mono ?_
            rintro e w6 ⟨rfl, hu⟩
            have HJ6 := Lib.hid (HJ4.out.upd hu (fun h => h))
            have HB6 := Lib.hid (HB4.out.upd hu (fun h => h))
            have HIM6 := Lib.hid (HIM5.out.upd hu (fun _ h => h.elim))
            have HU6 := Lib.hid (HU.out.trans hu (fun _ h _ => h.elim))
            clear HU
            have HU := HU6
            clear hu b0 b1 b2 b3 b4
            cases hr : imgB insB I with
            | false =>
              have HP := Lib.hid (show readP ys = (5, imgN) by rw [HP0.out, if_neg (by decide), if_pos (.inr hr)])
              clear hr
              have j0 := HJ6.out.c0
              have j1 := HJ6.out.c1
              have j2 := HJ6.out.c2
              have j3 := HJ6.out.c3
              have j4 := HJ6.out.c4
              have g0 := HJ6.out.fr 0
              have g1 := HJ6.out.fr 1
              have g2 := HJ6.out.fr 2
              have g3 := HJ6.out.fr 3
              have g4 := HJ6.out.fr 4
              go_wp2_with fail
              obtain ⟨JF, UF⟩ := fin5 HJ6.out (.string { data := #[] }) (.slice none 0 0) (.slice none 0 0) (.slice none 0 0) (.slice none 0 0)
              have j0 := JF.c0
              have j1 := JF.c1
              have j2 := JF.c2
              have j3 := JF.c3
              have j4 := JF.c4
              refine bodyPost_ret (v := .tuple #[img0, .int .i64 (5)]) (by simp only [results, Tryz.f8]; simp [go_sem, j0, j1, j2, j3, j4]) rfl ?_
              exact ⟨_, by rw [HP.out], by rw [HP.out]; exact img0_is _, upd_new (HU.out.trans UF (fun i hi hlt => by omega))⟩
            | true =>
              have HP := Lib.hid (show readP ys = (0, I) by rw [HP0.out, if_neg (by decide), if_neg (by rw [hr]; simp)])
              clear hr
              have b0 := HB6.out.c0
              have b1 := HB6.out.c1
              have b2 := HB6.out.c2
              have b3 := HB6.out.c3
              have b4 := HB6.out.c4
              have j0 := HJ6.out.c0
              have j1 := HJ6.out.c1
              have j2 := HJ6.out.c2
              have j3 := HJ6.out.c3
              have j4 := HJ6.out.c4
              have g0 := HJ6.out.fr 0
              have g1 := HJ6.out.fr 1
              have g2 := HJ6.out.fr 2
              have g3 := HJ6.out.fr 3
              have g4 := HJ6.out.fr 4
              go_wp2_with fail
              obtain ⟨JF, UF⟩ := fin5 HJ6.out (.string I.name) (.slice fa I.fields.length fc) (.slice ia I.imports.length ic) (.slice ma I.methods.length mc) (.slice xa I.exports.length xc)
              have j0 := JF.c0
              have j1 := JF.c1
              have j2 := JF.c2
              have j3 := JF.c3
              have j4 := JF.c4
              refine bodyPost_ret (v := .tuple #[img5 I.name (.slice fa I.fields.length fc) (.slice ia I.imports.length ic) (.slice ma I.methods.length mc) (.slice xa I.exports.length xc), .int .i64 0]) (by simp only [results, Tryz.f8]; simp [go_sem, j0, j1, j2, j3, j4]) rfl ?_
              exact ⟨_, by rw [HP.out], by rw [HP.out]; exact (HIM6.out.upd UF (fun j hj => by omega)).is, upd_new (HU.out.trans UF (fun i hi hlt => by omega))⟩
          · have HP := Lib.hid (show readP ys = (5, imgN) by rw [HP0.out, if_neg (by decide), if_pos (.inl hz)])
            have hzl : 0 < zs.length := List.length_pos_iff.2 hz
            clear hz
            have j0 := HJ4.out.c0
            have j1 := HJ4.out.c1
            have j2 := HJ4.out.c2
            have j3 := HJ4.out.c3
            have j4 := HJ4.out.c4
            have g0 := HJ4.out.fr 0
            have g1 := HJ4.out.fr 1
            have g2 := HJ4.out.fr 2
            have g3 := HJ4.out.fr 3
            have g4 := HJ4.out.fr 4
            go_wp2_with fail
            obtain ⟨JF, UF⟩ := fin5 HJ4.out (.string { data := #[] }) (.slice none 0 0) (.slice none 0 0) (.slice none 0 0) (.slice none 0 0)
            have j0 := JF.c0
            have j1 := JF.c1
            have j2 := JF.c2
            have j3 := JF.c3
            have j4 := JF.c4
            refine bodyPost_ret (v := .tuple #[img0, .int .i64 (5)]) (by simp only [results, Tryz.f8]; simp [go_sem, j0, j1, j2, j3, j4]) rfl ?_
            exact ⟨_, by rw [HP.out], by rw [HP.out]; exact img0_is _, upd_new (HU.out.trans UF (fun i hi hlt => by omega))⟩

    · have HP := Lib.hid (show readP ys = (me, imgN) by unfold readP; rw [if_neg hbig, ← hme, if_pos h0])
      have hb : (me == 0) = false := beq_eq_false_iff_ne.2 h0
      have hb' : (me != 0) = true := by simp [bne, hb]
      clear hme h0
      have j0 := HJ3.out.c0
      have j1 := HJ3.out.c1
      have j2 := HJ3.out.c2
      have j3 := HJ3.out.c3
      have j4 := HJ3.out.c4
      have g0 := HJ3.out.fr 0
      have g1 := HJ3.out.fr 1
      have g2 := HJ3.out.fr 2
      have g3 := HJ3.out.fr 3
      have g4 := HJ3.out.fr 4
      go_wp2_with fail
      obtain ⟨JF, UF⟩ := fin5 HJ3.out (.string { data := #[] }) (.slice none 0 0) (.slice none 0 0) (.slice none 0 0) (.slice none 0 0)
      have j0 := JF.c0
      have j1 := JF.c1
      have j2 := JF.c2
      have j3 := JF.c3
      have j4 := JF.c4
      refine bodyPost_ret (v := .tuple #[img0, .int .i64 (me)]) (by simp only [results, Tryz.f8]; simp [go_sem, j0, j1, j2, j3, j4]) rfl ?_
      exact ⟨_, by rw [HP.out], by rw [HP.out]; exact img0_is _, upd_new (HU.out.trans UF (fun i hi hlt => by omega))⟩
      end Go.Proofs.YtmbdfmgidnjgeaaGreatDoor

/- The walks of LabelOrder and LabelLists. -/
import Derived.Test.YtbdnebcalklphaaLc
namespace Go.Proofs.Ytbdnebcalklphaa
open Go.RowKit Go.Lib
set_option linter.unusedVariables false

def Kd (L : List Int) : Prop := ∀ y ∈ L, y = 1 ∨ y = 2 ∨ y = 3 ∨ y = 4
theorem Kd.at {L : List Int} (h : Kd L) {j : Nat} (hj : j < L.length) : L.getD j 0 = 1 ∨ L.getD j 0 = 2 ∨ L.getD j 0 = 3 ∨ L.getD j 0 = 4 := h _ (lbMem hj)
theorem Kd.take {L : List Int} (h : Kd L) (n : Nat) : Kd (L.take n) := fun y hy => h y (List.mem_of_mem_take hy)
theorem joinB_comm (a b : Int) : joinB a b = joinB b a := Bool.or_comm _ _
theorem joinV_comm (a b : Int) : joinV a b = joinV b a := by
  unfold joinV
  simp only [fit_iff]
  split <;> split <;> omega
theorem allB_comm {A B : List Int} : allB joinB A B = allB joinB B A := by
  rw [Bool.eq_iff_iff, allB_iff, allB_iff]
  constructor
  · rintro ⟨h1, h2⟩
    exact ⟨h1.symm, fun j hj => by rw [joinB_comm]; exact h2 j (by omega)⟩
  · rintro ⟨h1, h2⟩
    exact ⟨h1.symm, fun j hj => by rw [joinB_comm]; exact h2 j (by omega)⟩
theorem joinL_comm {A B : List Int} (h : A.length = B.length) : joinL A B = joinL B A := by
  unfold joinL
  rw [h]
  refine List.map_congr_left fun j _ => joinV_comm _ _
def asP (a b c : Int) : Prop := joinB a b = true → (joinB (joinV a b) c = (joinB b c && joinB a (joinV b c)) ∧ (joinB (joinV a b) c = true → joinV (joinV a b) c = joinV a (joinV b c)) ∧ fitB a (joinV a b) = true ∧ fitB b (joinV a b) = true)
instance (x y z : Int) : Decidable (asP x y z) := by unfold asP; infer_instance
theorem as_one {x y z : Int} (hx : x = 1 ∨ x = 2 ∨ x = 3 ∨ x = 4) (hy : y = 1 ∨ y = 2 ∨ y = 3 ∨ y = 4) (hz : z = 1 ∨ z = 2 ∨ z = 3 ∨ z = 4) : asP x y z := by
  rcases hx with rfl | rfl | rfl | rfl <;> rcases hy with rfl | rfl | rfl | rfl <;> rcases hz with rfl | rfl | rfl | rfl <;> decide
section
variable {X Y Z : List Int} (kx : Kd X) (ky : Kd Y) (kz : Kd Z) (hxy : X.length = Y.length) (hyz : Y.length = Z.length)
include kx ky kz hxy hyz
theorem assoc_B (ok : allB joinB X Y = true) : allB joinB (joinL X Y) Z = (allB joinB Y Z && allB joinB X (if allB joinB Y Z = true then joinL Y Z else [])) := by
  have hp := allB_iff.1 ok
  have hone : ∀ j, j < X.length → asP (X.getD j 0) (Y.getD j 0) (Z.getD j 0) := fun j hj => as_one (kx.at hj) (ky.at (by omega)) (kz.at (j := j) (by omega))
  cases hYZ : allB joinB Y Z with
  | true =>
    have hq := allB_iff.1 hYZ
    simp only [if_true, Bool.true_and]
    rw [Bool.eq_iff_iff, allB_iff, allB_iff, joinL_len, joinL_len]
    constructor
    · rintro ⟨h1, h2⟩
      refine ⟨hxy, fun j hj => ?_⟩
      have h := h2 j hj
      rw [joinL_at hj, (hone j hj (hp.2 j hj)).1, Bool.and_eq_true] at h
      rw [joinL_at (by omega)]
      exact h.2
    · rintro ⟨h1, h2⟩
      refine ⟨by omega, fun j hj => ?_⟩
      have h := h2 j hj
      rw [joinL_at (by omega)] at h
      rw [joinL_at hj, (hone j hj (hp.2 j hj)).1, hq.2 j (by omega), h]
      rfl
  | false =>
    simp only [Bool.false_and]
    cases hL : allB joinB (joinL X Y) Z with
    | false => rfl
    | true =>
      have hq := allB_iff.1 hL
      have : allB joinB Y Z = true := allB_iff.2 ⟨hyz, fun j hj => by
        have h := hq.2 j (by rw [joinL_len]; omega)
        rw [joinL_at (by omega), (hone j (by omega) (hp.2 j (by omega))).1, Bool.and_eq_true] at h
        exact h.1⟩
      rw [this] at hYZ
      cases hYZ
theorem assoc_L (ok : allB joinB X Y = true) (hL : allB joinB (joinL X Y) Z = true) : joinL (joinL X Y) Z = joinL X (joinL Y Z) := by
  have hp := allB_iff.1 ok
  have hq := allB_iff.1 hL
  refine List.ext_getElem (by rw [joinL_len, joinL_len, joinL_len]) fun j h1 h2 => ?_
  have hj : j < X.length := by rw [joinL_len, joinL_len] at h1; exact h1
  have e1 := joinL_at (A := joinL X Y) (B := Z) (k := j) (by rw [joinL_len]; exact hj)
  have e2 := joinL_at (A := X) (B := joinL Y Z) hj
  have e3 := joinL_at (A := X) (B := Y) hj
  have e4 := joinL_at (A := Y) (B := Z) (k := j) (by omega)
  have hone := as_one (kx.at hj) (ky.at (by omega)) (kz.at (j := j) (by omega)) (hp.2 j hj)
  have h := hq.2 j (by rw [joinL_len]; exact hj)
  rw [e3] at h e1
  rw [e4] at e2
  have h3 := hone.2.1 h
  have g1 : (joinL (joinL X Y) Z).getD j 0 = (joinL (joinL X Y) Z)[j] := by simp [List.getD, h1]
  have g2 : (joinL X (joinL Y Z)).getD j 0 = (joinL X (joinL Y Z))[j] := by simp [List.getD, h2]
  rw [← g1, ← g2, e1, e2, h3]
theorem fits_X (ok : allB joinB X Y = true) : allB fitB X (joinL X Y) = true := by
  have hp := allB_iff.1 ok
  exact allB_iff.2 ⟨(joinL_len X Y).symm, fun j hj => by rw [joinL_at hj]; exact (as_one (kx.at hj) (ky.at (by omega)) (kz.at (j := j) (by omega)) (hp.2 j hj)).2.2.1⟩
theorem fits_Y (ok : allB joinB X Y = true) : allB fitB Y (joinL X Y) = true := by
  have hp := allB_iff.1 ok
  exact allB_iff.2 ⟨by rw [joinL_len]; omega, fun j hj => by rw [joinL_at (by omega)]; exact (as_one (kx.at (by omega)) (ky.at hj) (kz.at (j := j) (by omega)) (hp.2 j (by omega))).2.2.2⟩
end
theorem joinR_comm {A B : List Int} (h : A.length = B.length) : joinR A B = joinR B A := by
  unfold joinR
  rw [allB_comm, joinL_comm h]
theorem eq_self (A : List Int) : allB eqB A A = true := allB_eq.2 rfl
theorem len0 {A : List Int} (h : A = []) : ((A.length : Int) == 0) = true := by rw [h]; rfl
theorem mod_one (N : Int) : (N % 1 == 0) = true := by simp [Int.emod_one]

set_option maxRecDepth 100000 in
set_option maxHeartbeats 20000000 in
theorem order_walk (w : World) (v1 v2 v3 : Value) (A B C : List Int) (h1 : Ints w v1 A) (h2 : Ints w v2 B) (h3 : Ints w v3 C) :
    Calls Try.prog 6 #[v1, v2, v3] w fun e w' => e = .returned (.bool true) ∧ Upd (fun _ => False) w w' := by
  have HA := Lib.hid h1
  have HB := Lib.hid h2
  have HC := Lib.hid h3
  obtain ⟨a1, c1, rfl, -, -⟩ := h1.slice
  obtain ⟨a2, c2, rfl, -, -⟩ := h2.slice
  obtain ⟨a3, c3, rfl, -, -⟩ := h3.slice
  clear h1 h2 h3
  go_enter Try.func6, Try.ntmps6
  go_wp2_with fail
  refine (cFew _ _ _ A HA.out).mono ?_
  rintro e w1 ⟨r1, rfl, ho1, hu1, -⟩
  have KX := Lib.hid (show Kd (fewL false A) from fewL_kind)
  have LX := fewL_len false A
  obtain ⟨X, hX⟩ : ∃ X, X = fewL false A := ⟨_, rfl⟩
  rw [← hX] at ho1 KX LX
  obtain ⟨x1, y1, rfl, hy1, hz1⟩ := ho1.ints.slice
  have HX1 := Lib.hid ho1.ints
  have HB1 := Lib.hid (HB.out.later (lbBelow hu1))
  have HC1 := Lib.hid (HC.out.later (lbBelow hu1))
  have HU1 := Lib.hid hu1
  clear hX ho1 hu1 HB HC HA
  go_wp2_with fail
  refine (cFew _ _ _ B HB1.out).mono ?_
  rintro e w2 ⟨r2, rfl, ho2, hu2, -⟩
  have KY := Lib.hid (show Kd (fewL false B) from fewL_kind)
  have LY := fewL_len false B
  obtain ⟨Y, hY⟩ : ∃ Y, Y = fewL false B := ⟨_, rfl⟩
  rw [← hY] at ho2 KY LY
  obtain ⟨x2, y2, rfl, hy2, hz2⟩ := ho2.ints.slice
  have HX2 := Lib.hid (HX1.out.later (lbBelow hu2))
  have HY2 := Lib.hid ho2.ints
  have HC2 := Lib.hid (HC1.out.later (lbBelow hu2))
  have HU2 := Lib.hid (HU1.out.trans hu2 (fun _ h _ => h))
  clear hY ho2 hu2 HB1 HC1 HX1 HU1
  go_wp2_with fail
  refine (cFew _ _ _ C HC2.out).mono ?_
  rintro e w3 ⟨r3, rfl, ho3, hu3, -⟩
  have KZ := Lib.hid (show Kd (fewL false C) from fewL_kind)
  have LZ := fewL_len false C
  obtain ⟨Z, hZ⟩ : ∃ Z, Z = fewL false C := ⟨_, rfl⟩
  rw [← hZ] at ho3 KZ LZ
  obtain ⟨x3, y3, rfl, hy3, hz3⟩ := ho3.ints.slice
  have HX3 := Lib.hid (HX2.out.later (lbBelow hu3))
  have HY3 := Lib.hid (HY2.out.later (lbBelow hu3))
  have HZ3 := Lib.hid ho3.ints
  have HU3 := Lib.hid (HU2.out.trans hu3 (fun _ h _ => h))
  clear hZ ho3 hu3 HC2 HX2 HY2 HU2
  unfold maxLen at hz1 hz2 hz3
  have hmin : (Z.length < X.length ∧ Z.length < Y.length) ∨ (Y.length < X.length ∧ Y.length ≤ Z.length) ∨ (X.length ≤ Y.length ∧ X.length ≤ Z.length) := by omega
  rcases hmin with ⟨m1, m2⟩ | ⟨m1, m2⟩ | ⟨m1, m2⟩
  · skip
    have n1 : Z.length ≤ X.length := by omega
    have n2 : Z.length ≤ Y.length := by omega
    have n3 : Z.length ≤ Z.length := by omega
    have HX4 := Lib.hid (ints_take HX3.out n1)
    have HY4 := Lib.hid (ints_take HY3.out n2)
    have HZ4 := Lib.hid (ints_take HZ3.out n3)
    have KX4 := Lib.hid (KX.out.take (Z.length))
    have KY4 := Lib.hid (KY.out.take (Z.length))
    have KZ4 := Lib.hid (KZ.out.take (Z.length))
    have lx : (X.take (Z.length)).length = Z.length := by rw [List.length_take]; omega
    have ly : (Y.take (Z.length)).length = Z.length := by rw [List.length_take]; omega
    have lz : (Z.take (Z.length)).length = Z.length := by rw [List.length_take]; omega
    obtain ⟨X4, eX⟩ : ∃ L, L = X.take (Z.length) := ⟨_, rfl⟩
    rw [← eX] at HX4 KX4 lx
    clear eX
    obtain ⟨Y4, eY⟩ : ∃ L, L = Y.take (Z.length) := ⟨_, rfl⟩
    rw [← eY] at HY4 KY4 ly
    clear eY
    obtain ⟨Z4, eZ⟩ : ∃ L, L = Z.take (Z.length) := ⟨_, rfl⟩
    rw [← eZ] at HZ4 KZ4 lz
    clear eZ
    have hmo := mod_one ((Z.length : Nat) : Int)
    have lxy : X4.length = Y4.length := by omega
    have lyz : Y4.length = Z4.length := by omega
    have HLXY := Lib.hid lxy
    have HLYZ := Lib.hid lyz
    have lx10 : X4.length ≤ 10 := by omega
    have ly10 : Y4.length ≤ 10 := by omega
    have HAB := Lib.hid (assoc_B KX4.out KY4.out KZ4.out lxy lyz)
    have HAL := Lib.hid (assoc_L KX4.out KY4.out KZ4.out lxy lyz)
    have HFX := Lib.hid (fits_X KX4.out KY4.out KZ4.out lxy lyz)
    have HFY := Lib.hid (fits_Y KX4.out KY4.out KZ4.out lxy lyz)
    clear lx ly lz lxy lyz HX3 HY3 HZ3 KX KY KZ
    go_wp2_with fail
    obtain ⟨ok, hok⟩ : ∃ b, b = allB joinB X4 Y4 := ⟨_, rfl⟩
    refine (lJoinAll _ _ _ _ _ HX4.out HY4.out (by omega)).mono ?_
    rw [← hok]
    rintro e w4 ⟨r, rfl, hp, hu⟩
    obtain ⟨P, hP⟩ : ∃ P, P = joinR X4 Y4 := ⟨_, rfl⟩
    rw [← hP] at hp
    replace HX4 := Lib.hid (HX4.out.later (lbBelow hu))
    replace HY4 := Lib.hid (HY4.out.later (lbBelow hu))
    replace HZ4 := Lib.hid (HZ4.out.later (lbBelow hu))
    replace HU3 := Lib.hid (HU3.out.trans hu (fun _ h _ => h))
    have HP := Lib.hid hp.ints
    obtain ⟨pa, pc, rfl, -, -⟩ := hp.ints.slice
    have HPE := Lib.hid hP
    have HOK := Lib.hid hok
    clear hp hu hP hok
    go_wp2_with fail
    refine (lJoinAll _ _ _ _ _ HY4.out HX4.out (by omega)).mono ?_
    rw [← (HOK.out.trans allB_comm)]
    rintro e w5 ⟨r, rfl, hp, hu⟩
    rw [joinR_comm HLXY.out.symm, ← HPE.out] at hp
    replace HX4 := Lib.hid (HX4.out.later (lbBelow hu))
    replace HY4 := Lib.hid (HY4.out.later (lbBelow hu))
    replace HZ4 := Lib.hid (HZ4.out.later (lbBelow hu))
    replace HP := Lib.hid (HP.out.later (lbBelow hu))
    replace HU3 := Lib.hid (HU3.out.trans hu (fun _ h _ => h))
    have HQ := Lib.hid hp.ints
    obtain ⟨qa, qc, rfl, -, -⟩ := hp.ints.slice
    clear hp hu
    have hself := eq_self P
    cases ok with
    | false =>
      have hl0 := len0 (HPE.out.trans (joinR_no HOK.out.symm))
      go_wp2_with (with_reducible refine (known6 _).mono ?_; rintro e _ ⟨rfl, rfl⟩)
      refine (lbInts _ _ _ P P HP.out HQ.out).mono ?_
      rw [hself]
      rintro e w6 ⟨rfl, hu⟩
      replace HU3 := Lib.hid (HU3.out.trans hu (fun _ h _ => h))
      clear hu hself
      go_wp2_with fail
      go_ret
      exact ⟨rfl, HU3.out⟩
    | true =>
      have HPJ : Hid (P = joinL X4 Y4) := Lib.hid (HPE.out.trans (joinR_yes HOK.out.symm))
      have lp10 : P.length ≤ 10 := by rw [HPJ.out, joinL_len]; omega
      go_wp2_with (with_reducible refine (known6 _).mono ?_; rintro e _ ⟨rfl, rfl⟩)
      refine (lbInts _ _ _ P P HP.out HQ.out).mono ?_
      rw [hself]
      rintro e w7 ⟨rfl, hu⟩
      replace HX4 := Lib.hid (HX4.out.later (lbBelow hu))
      replace HY4 := Lib.hid (HY4.out.later (lbBelow hu))
      replace HZ4 := Lib.hid (HZ4.out.later (lbBelow hu))
      replace HP := Lib.hid (HP.out.later (lbBelow hu))
      replace HU3 := Lib.hid (HU3.out.trans hu (fun _ h _ => h))
      clear hu hself HQ
      go_wp2_with fail
      obtain ⟨b1, hb1⟩ : ∃ b, b = allB joinB P Z4 := ⟨_, rfl⟩
      refine (lJoinAll _ _ _ _ _ HP.out HZ4.out (by omega)).mono ?_
      rw [← hb1]
      rintro e w8 ⟨r, rfl, hp, hu⟩
      obtain ⟨U, hUU⟩ : ∃ L, L = joinR P Z4 := ⟨_, rfl⟩
      rw [← hUU] at hp
      replace HX4 := Lib.hid (HX4.out.later (lbBelow hu))
      replace HY4 := Lib.hid (HY4.out.later (lbBelow hu))
      replace HZ4 := Lib.hid (HZ4.out.later (lbBelow hu))
      replace HP := Lib.hid (HP.out.later (lbBelow hu))
      replace HU3 := Lib.hid (HU3.out.trans hu (fun _ h _ => h))
      have HUL := Lib.hid hp.ints
      obtain ⟨ua, uc, rfl, -, -⟩ := hp.ints.slice
      have HB1 := Lib.hid hb1
      have HUE := Lib.hid hUU
      clear hp hu hb1 hUU
      go_wp2_with fail
      obtain ⟨b2, hb2⟩ : ∃ b, b = allB joinB Y4 Z4 := ⟨_, rfl⟩
      refine (lJoinAll _ _ _ _ _ HY4.out HZ4.out (by omega)).mono ?_
      rw [← hb2]
      rintro e w9 ⟨r, rfl, hp, hu⟩
      obtain ⟨V, hUU⟩ : ∃ P, P = joinR Y4 Z4 := ⟨_, rfl⟩
      rw [← hUU] at hp
      replace HX4 := Lib.hid (HX4.out.later (lbBelow hu))
      replace HY4 := Lib.hid (HY4.out.later (lbBelow hu))
      replace HZ4 := Lib.hid (HZ4.out.later (lbBelow hu))
      replace HP := Lib.hid (HP.out.later (lbBelow hu))
      replace HUL := Lib.hid (HUL.out.later (lbBelow hu))
      replace HU3 := Lib.hid (HU3.out.trans hu (fun _ h _ => h))
      have HVL := Lib.hid hp.ints
      obtain ⟨va, vc, rfl, -, -⟩ := hp.ints.slice
      have HB2 := Lib.hid hb2
      have HVE := Lib.hid hUU
      clear hp hu hb2 hUU
      go_wp2_with fail
      obtain ⟨b3, hb3⟩ : ∃ b, b = allB joinB X4 V := ⟨_, rfl⟩
      refine (lJoinAll _ _ _ _ _ HX4.out HVL.out (by omega)).mono ?_
      rw [← hb3]
      rintro e w10 ⟨r, rfl, hp, hu⟩
      obtain ⟨T, hUU⟩ : ∃ P, P = joinR X4 V := ⟨_, rfl⟩
      rw [← hUU] at hp
      replace HX4 := Lib.hid (HX4.out.later (lbBelow hu))
      replace HY4 := Lib.hid (HY4.out.later (lbBelow hu))
      replace HZ4 := Lib.hid (HZ4.out.later (lbBelow hu))
      replace HP := Lib.hid (HP.out.later (lbBelow hu))
      replace HUL := Lib.hid (HUL.out.later (lbBelow hu))
      replace HVL := Lib.hid (HVL.out.later (lbBelow hu))
      replace HU3 := Lib.hid (HU3.out.trans hu (fun _ h _ => h))
      have HTL := Lib.hid hp.ints
      obtain ⟨ta, tc, rfl, -, -⟩ := hp.ints.slice
      have HB3 := Lib.hid hb3
      have HTE := Lib.hid hUU
      clear hp hu hb3 hUU
      have hb : b1 = (b2 && b3) := by
        have h := HAB.out HOK.out.symm
        rw [← HPJ.out, ← HB1.out, ← HB2.out] at h
        rw [h]
        have h2 : (if b2 = true then joinL Y4 Z4 else []) = V := by rw [HVE.out]; unfold joinR; rw [← HB2.out]
        rw [h2, ← HB3.out]
      have HB := Lib.hid hb
      clear hb
      have hfx : allB fitB X4 P = true := by rw [HPJ.out]; exact HFX.out HOK.out.symm
      have hfy : allB fitB Y4 P = true := by rw [HPJ.out]; exact HFY.out HOK.out.symm
      have HFX2 := Lib.hid hfx
      have HFY2 := Lib.hid hfy
      clear hfx hfy HFX HFY
      cases b1 with
      | true =>
        obtain ⟨q2, q3⟩ : b2 = true ∧ b3 = true := by have := HB.out; revert this; cases b2 <;> cases b3 <;> simp
        subst q2 q3
        have hself : allB eqB U T = true := allB_eq.2 (by
          rw [HUE.out, HTE.out, joinR_yes HB1.out.symm, joinR_yes HB3.out.symm, HVE.out, joinR_yes HB2.out.symm, HPJ.out]
          exact HAL.out HOK.out.symm (by rw [← HPJ.out]; exact HB1.out.symm))
        have HSE := Lib.hid hself
        clear hself
        go_wp2_with fail
        refine (lbInts _ _ _ U T HUL.out HTL.out).mono ?_
        rw [HSE.out]
        rintro e w11 ⟨rfl, hu⟩
        replace HX4 := Lib.hid (HX4.out.later (lbBelow hu))
        replace HY4 := Lib.hid (HY4.out.later (lbBelow hu))
        replace HP := Lib.hid (HP.out.later (lbBelow hu))
        replace HU3 := Lib.hid (HU3.out.trans hu (fun _ h _ => h))
        clear hu HTL HUL HVL HZ4
        go_wp2_with fail
        refine (lFitsAll _ _ _ _ _ HX4.out HP.out).mono ?_
        rw [HFX2.out]
        rintro e w12 ⟨rfl, hu⟩
        replace HX4 := Lib.hid (HX4.out.later (lbBelow hu))
        replace HY4 := Lib.hid (HY4.out.later (lbBelow hu))
        replace HP := Lib.hid (HP.out.later (lbBelow hu))
        replace HU3 := Lib.hid (HU3.out.trans hu (fun _ h _ => h))
        clear hu
        go_wp2_with fail
        refine (lFitsAll _ _ _ _ _ HY4.out HP.out).mono ?_
        rw [HFY2.out]
        rintro e w13 ⟨rfl, hu⟩
        replace HX4 := Lib.hid (HX4.out.later (lbBelow hu))
        replace HY4 := Lib.hid (HY4.out.later (lbBelow hu))
        replace HP := Lib.hid (HP.out.later (lbBelow hu))
        replace HU3 := Lib.hid (HU3.out.trans hu (fun _ h _ => h))
        clear hu
        go_wp2_with (with_reducible refine (hPick _ 1 _ (by omega) (by omega)).mono ?_; rintro e _ ⟨rfl, rfl⟩)
        go_ret
        exact ⟨rfl, HU3.out⟩
      | false =>
        have hb23 : (b2 && b3) = false := HB.out.symm
        clear HTL HUL HVL HZ4 HB1 HB2 HB3
        cases b2 <;> cases b3
        all_goals first | (exfalso; cases hb23; done) | skip
        all_goals
          clear hb23
          go_wp2_with fail
          refine (lFitsAll _ _ _ _ _ HX4.out HP.out).mono ?_
          rw [HFX2.out]
          rintro e w14 ⟨rfl, hu⟩
          replace HX4 := Lib.hid (HX4.out.later (lbBelow hu))
          replace HY4 := Lib.hid (HY4.out.later (lbBelow hu))
          replace HP := Lib.hid (HP.out.later (lbBelow hu))
          replace HU3 := Lib.hid (HU3.out.trans hu (fun _ h _ => h))
          clear hu
          go_wp2_with fail
          refine (lFitsAll _ _ _ _ _ HY4.out HP.out).mono ?_
          rw [HFY2.out]
          rintro e w15 ⟨rfl, hu⟩
          replace HX4 := Lib.hid (HX4.out.later (lbBelow hu))
          replace HY4 := Lib.hid (HY4.out.later (lbBelow hu))
          replace HP := Lib.hid (HP.out.later (lbBelow hu))
          replace HU3 := Lib.hid (HU3.out.trans hu (fun _ h _ => h))
          clear hu
          go_wp2_with (with_reducible refine (hPick _ 1 _ (by omega) (by omega)).mono ?_; rintro e _ ⟨rfl, rfl⟩)
          go_ret
          exact ⟨rfl, HU3.out⟩
  · skip
    have n1 : Y.length ≤ X.length := by omega
    have n2 : Y.length ≤ Y.length := by omega
    have n3 : Y.length ≤ Z.length := by omega
    have HX4 := Lib.hid (ints_take HX3.out n1)
    have HY4 := Lib.hid (ints_take HY3.out n2)
    have HZ4 := Lib.hid (ints_take HZ3.out n3)
    have KX4 := Lib.hid (KX.out.take (Y.length))
    have KY4 := Lib.hid (KY.out.take (Y.length))
    have KZ4 := Lib.hid (KZ.out.take (Y.length))
    have lx : (X.take (Y.length)).length = Y.length := by rw [List.length_take]; omega
    have ly : (Y.take (Y.length)).length = Y.length := by rw [List.length_take]; omega
    have lz : (Z.take (Y.length)).length = Y.length := by rw [List.length_take]; omega
    obtain ⟨X4, eX⟩ : ∃ L, L = X.take (Y.length) := ⟨_, rfl⟩
    rw [← eX] at HX4 KX4 lx
    clear eX
    obtain ⟨Y4, eY⟩ : ∃ L, L = Y.take (Y.length) := ⟨_, rfl⟩
    rw [← eY] at HY4 KY4 ly
    clear eY
    obtain ⟨Z4, eZ⟩ : ∃ L, L = Z.take (Y.length) := ⟨_, rfl⟩
    rw [← eZ] at HZ4 KZ4 lz
    clear eZ
    have hmo := mod_one ((Y.length : Nat) : Int)
    have lxy : X4.length = Y4.length := by omega
    have lyz : Y4.length = Z4.length := by omega
    have HLXY := Lib.hid lxy
    have HLYZ := Lib.hid lyz
    have lx10 : X4.length ≤ 10 := by omega
    have ly10 : Y4.length ≤ 10 := by omega
    have HAB := Lib.hid (assoc_B KX4.out KY4.out KZ4.out lxy lyz)
    have HAL := Lib.hid (assoc_L KX4.out KY4.out KZ4.out lxy lyz)
    have HFX := Lib.hid (fits_X KX4.out KY4.out KZ4.out lxy lyz)
    have HFY := Lib.hid (fits_Y KX4.out KY4.out KZ4.out lxy lyz)
    clear lx ly lz lxy lyz HX3 HY3 HZ3 KX KY KZ
    go_wp2_with fail
    obtain ⟨ok, hok⟩ : ∃ b, b = allB joinB X4 Y4 := ⟨_, rfl⟩
    refine (lJoinAll _ _ _ _ _ HX4.out HY4.out (by omega)).mono ?_
    rw [← hok]
    rintro e w4 ⟨r, rfl, hp, hu⟩
    obtain ⟨P, hP⟩ : ∃ P, P = joinR X4 Y4 := ⟨_, rfl⟩
    rw [← hP] at hp
    replace HX4 := Lib.hid (HX4.out.later (lbBelow hu))
    replace HY4 := Lib.hid (HY4.out.later (lbBelow hu))
    replace HZ4 := Lib.hid (HZ4.out.later (lbBelow hu))
    replace HU3 := Lib.hid (HU3.out.trans hu (fun _ h _ => h))
    have HP := Lib.hid hp.ints
    obtain ⟨pa, pc, rfl, -, -⟩ := hp.ints.slice
    have HPE := Lib.hid hP
    have HOK := Lib.hid hok
    clear hp hu hP hok
    go_wp2_with fail
    refine (lJoinAll _ _ _ _ _ HY4.out HX4.out (by omega)).mono ?_
    rw [← (HOK.out.trans allB_comm)]
    rintro e w5 ⟨r, rfl, hp, hu⟩
    rw [joinR_comm HLXY.out.symm, ← HPE.out] at hp
    replace HX4 := Lib.hid (HX4.out.later (lbBelow hu))
    replace HY4 := Lib.hid (HY4.out.later (lbBelow hu))
    replace HZ4 := Lib.hid (HZ4.out.later (lbBelow hu))
    replace HP := Lib.hid (HP.out.later (lbBelow hu))
    replace HU3 := Lib.hid (HU3.out.trans hu (fun _ h _ => h))
    have HQ := Lib.hid hp.ints
    obtain ⟨qa, qc, rfl, -, -⟩ := hp.ints.slice
    clear hp hu
    have hself := eq_self P
    cases ok with
    | false =>
      have hl0 := len0 (HPE.out.trans (joinR_no HOK.out.symm))
      go_wp2_with (with_reducible refine (known6 _).mono ?_; rintro e _ ⟨rfl, rfl⟩)
      refine (lbInts _ _ _ P P HP.out HQ.out).mono ?_
      rw [hself]
      rintro e w6 ⟨rfl, hu⟩
      replace HU3 := Lib.hid (HU3.out.trans hu (fun _ h _ => h))
      clear hu hself
      go_wp2_with fail
      go_ret
      exact ⟨rfl, HU3.out⟩
    | true =>
      have HPJ : Hid (P = joinL X4 Y4) := Lib.hid (HPE.out.trans (joinR_yes HOK.out.symm))
      have lp10 : P.length ≤ 10 := by rw [HPJ.out, joinL_len]; omega
      go_wp2_with (with_reducible refine (known6 _).mono ?_; rintro e _ ⟨rfl, rfl⟩)
      refine (lbInts _ _ _ P P HP.out HQ.out).mono ?_
      rw [hself]
      rintro e w7 ⟨rfl, hu⟩
      replace HX4 := Lib.hid (HX4.out.later (lbBelow hu))
      replace HY4 := Lib.hid (HY4.out.later (lbBelow hu))
      replace HZ4 := Lib.hid (HZ4.out.later (lbBelow hu))
      replace HP := Lib.hid (HP.out.later (lbBelow hu))
      replace HU3 := Lib.hid (HU3.out.trans hu (fun _ h _ => h))
      clear hu hself HQ
      go_wp2_with fail
      obtain ⟨b1, hb1⟩ : ∃ b, b = allB joinB P Z4 := ⟨_, rfl⟩
      refine (lJoinAll _ _ _ _ _ HP.out HZ4.out (by omega)).mono ?_
      rw [← hb1]
      rintro e w8 ⟨r, rfl, hp, hu⟩
      obtain ⟨U, hUU⟩ : ∃ L, L = joinR P Z4 := ⟨_, rfl⟩
      rw [← hUU] at hp
      replace HX4 := Lib.hid (HX4.out.later (lbBelow hu))
      replace HY4 := Lib.hid (HY4.out.later (lbBelow hu))
      replace HZ4 := Lib.hid (HZ4.out.later (lbBelow hu))
      replace HP := Lib.hid (HP.out.later (lbBelow hu))
      replace HU3 := Lib.hid (HU3.out.trans hu (fun _ h _ => h))
      have HUL := Lib.hid hp.ints
      obtain ⟨ua, uc, rfl, -, -⟩ := hp.ints.slice
      have HB1 := Lib.hid hb1
      have HUE := Lib.hid hUU
      clear hp hu hb1 hUU
      go_wp2_with fail
      obtain ⟨b2, hb2⟩ : ∃ b, b = allB joinB Y4 Z4 := ⟨_, rfl⟩
      refine (lJoinAll _ _ _ _ _ HY4.out HZ4.out (by omega)).mono ?_
      rw [← hb2]
      rintro e w9 ⟨r, rfl, hp, hu⟩
      obtain ⟨V, hUU⟩ : ∃ P, P = joinR Y4 Z4 := ⟨_, rfl⟩
      rw [← hUU] at hp
      replace HX4 := Lib.hid (HX4.out.later (lbBelow hu))
      replace HY4 := Lib.hid (HY4.out.later (lbBelow hu))
      replace HZ4 := Lib.hid (HZ4.out.later (lbBelow hu))
      replace HP := Lib.hid (HP.out.later (lbBelow hu))
      replace HUL := Lib.hid (HUL.out.later (lbBelow hu))
      replace HU3 := Lib.hid (HU3.out.trans hu (fun _ h _ => h))
      have HVL := Lib.hid hp.ints
      obtain ⟨va, vc, rfl, -, -⟩ := hp.ints.slice
      have HB2 := Lib.hid hb2
      have HVE := Lib.hid hUU
      clear hp hu hb2 hUU
      go_wp2_with fail
      obtain ⟨b3, hb3⟩ : ∃ b, b = allB joinB X4 V := ⟨_, rfl⟩
      refine (lJoinAll _ _ _ _ _ HX4.out HVL.out (by omega)).mono ?_
      rw [← hb3]
      rintro e w10 ⟨r, rfl, hp, hu⟩
      obtain ⟨T, hUU⟩ : ∃ P, P = joinR X4 V := ⟨_, rfl⟩
      rw [← hUU] at hp
      replace HX4 := Lib.hid (HX4.out.later (lbBelow hu))
      replace HY4 := Lib.hid (HY4.out.later (lbBelow hu))
      replace HZ4 := Lib.hid (HZ4.out.later (lbBelow hu))
      replace HP := Lib.hid (HP.out.later (lbBelow hu))
      replace HUL := Lib.hid (HUL.out.later (lbBelow hu))
      replace HVL := Lib.hid (HVL.out.later (lbBelow hu))
      replace HU3 := Lib.hid (HU3.out.trans hu (fun _ h _ => h))
      have HTL := Lib.hid hp.ints
      obtain ⟨ta, tc, rfl, -, -⟩ := hp.ints.slice
      have HB3 := Lib.hid hb3
      have HTE := Lib.hid hUU
      clear hp hu hb3 hUU
      have hb : b1 = (b2 && b3) := by
        have h := HAB.out HOK.out.symm
        rw [← HPJ.out, ← HB1.out, ← HB2.out] at h
        rw [h]
        have h2 : (if b2 = true then joinL Y4 Z4 else []) = V := by rw [HVE.out]; unfold joinR; rw [← HB2.out]
        rw [h2, ← HB3.out]
      have HB := Lib.hid hb
      clear hb
      have hfx : allB fitB X4 P = true := by rw [HPJ.out]; exact HFX.out HOK.out.symm
      have hfy : allB fitB Y4 P = true := by rw [HPJ.out]; exact HFY.out HOK.out.symm
      have HFX2 := Lib.hid hfx
      have HFY2 := Lib.hid hfy
      clear hfx hfy HFX HFY
      cases b1 with
      | true =>
        obtain ⟨q2, q3⟩ : b2 = true ∧ b3 = true := by have := HB.out; revert this; cases b2 <;> cases b3 <;> simp
        subst q2 q3
        have hself : allB eqB U T = true := allB_eq.2 (by
          rw [HUE.out, HTE.out, joinR_yes HB1.out.symm, joinR_yes HB3.out.symm, HVE.out, joinR_yes HB2.out.symm, HPJ.out]
          exact HAL.out HOK.out.symm (by rw [← HPJ.out]; exact HB1.out.symm))
        have HSE := Lib.hid hself
        clear hself
        go_wp2_with fail
        refine (lbInts _ _ _ U T HUL.out HTL.out).mono ?_
        rw [HSE.out]
        rintro e w11 ⟨rfl, hu⟩
        replace HX4 := Lib.hid (HX4.out.later (lbBelow hu))
        replace HY4 := Lib.hid (HY4.out.later (lbBelow hu))
        replace HP := Lib.hid (HP.out.later (lbBelow hu))
        replace HU3 := Lib.hid (HU3.out.trans hu (fun _ h _ => h))
        clear hu HTL HUL HVL HZ4
        go_wp2_with fail
        refine (lFitsAll _ _ _ _ _ HX4.out HP.out).mono ?_
        rw [HFX2.out]
        rintro e w12 ⟨rfl, hu⟩
        replace HX4 := Lib.hid (HX4.out.later (lbBelow hu))
        replace HY4 := Lib.hid (HY4.out.later (lbBelow hu))
        replace HP := Lib.hid (HP.out.later (lbBelow hu))
        replace HU3 := Lib.hid (HU3.out.trans hu (fun _ h _ => h))
        clear hu
        go_wp2_with fail
        refine (lFitsAll _ _ _ _ _ HY4.out HP.out).mono ?_
        rw [HFY2.out]
        rintro e w13 ⟨rfl, hu⟩
        replace HX4 := Lib.hid (HX4.out.later (lbBelow hu))
        replace HY4 := Lib.hid (HY4.out.later (lbBelow hu))
        replace HP := Lib.hid (HP.out.later (lbBelow hu))
        replace HU3 := Lib.hid (HU3.out.trans hu (fun _ h _ => h))
        clear hu
        go_wp2_with (with_reducible refine (hPick _ 1 _ (by omega) (by omega)).mono ?_; rintro e _ ⟨rfl, rfl⟩)
        go_ret
        exact ⟨rfl, HU3.out⟩
      | false =>
        have hb23 : (b2 && b3) = false := HB.out.symm
        clear HTL HUL HVL HZ4 HB1 HB2 HB3
        cases b2 <;> cases b3
        all_goals first | (exfalso; cases hb23; done) | skip
        all_goals
          clear hb23
          go_wp2_with fail
          refine (lFitsAll _ _ _ _ _ HX4.out HP.out).mono ?_
          rw [HFX2.out]
          rintro e w14 ⟨rfl, hu⟩
          replace HX4 := Lib.hid (HX4.out.later (lbBelow hu))
          replace HY4 := Lib.hid (HY4.out.later (lbBelow hu))
          replace HP := Lib.hid (HP.out.later (lbBelow hu))
          replace HU3 := Lib.hid (HU3.out.trans hu (fun _ h _ => h))
          clear hu
          go_wp2_with fail
          refine (lFitsAll _ _ _ _ _ HY4.out HP.out).mono ?_
          rw [HFY2.out]
          rintro e w15 ⟨rfl, hu⟩
          replace HX4 := Lib.hid (HX4.out.later (lbBelow hu))
          replace HY4 := Lib.hid (HY4.out.later (lbBelow hu))
          replace HP := Lib.hid (HP.out.later (lbBelow hu))
          replace HU3 := Lib.hid (HU3.out.trans hu (fun _ h _ => h))
          clear hu
          go_wp2_with (with_reducible refine (hPick _ 1 _ (by omega) (by omega)).mono ?_; rintro e _ ⟨rfl, rfl⟩)
          go_ret
          exact ⟨rfl, HU3.out⟩
  · skip
    have n1 : X.length ≤ X.length := by omega
    have n2 : X.length ≤ Y.length := by omega
    have n3 : X.length ≤ Z.length := by omega
    have HX4 := Lib.hid (ints_take HX3.out n1)
    have HY4 := Lib.hid (ints_take HY3.out n2)
    have HZ4 := Lib.hid (ints_take HZ3.out n3)
    have KX4 := Lib.hid (KX.out.take (X.length))
    have KY4 := Lib.hid (KY.out.take (X.length))
    have KZ4 := Lib.hid (KZ.out.take (X.length))
    have lx : (X.take (X.length)).length = X.length := by rw [List.length_take]; omega
    have ly : (Y.take (X.length)).length = X.length := by rw [List.length_take]; omega
    have lz : (Z.take (X.length)).length = X.length := by rw [List.length_take]; omega
    obtain ⟨X4, eX⟩ : ∃ L, L = X.take (X.length) := ⟨_, rfl⟩
    rw [← eX] at HX4 KX4 lx
    clear eX
    obtain ⟨Y4, eY⟩ : ∃ L, L = Y.take (X.length) := ⟨_, rfl⟩
    rw [← eY] at HY4 KY4 ly
    clear eY
    obtain ⟨Z4, eZ⟩ : ∃ L, L = Z.take (X.length) := ⟨_, rfl⟩
    rw [← eZ] at HZ4 KZ4 lz
    clear eZ
    have hmo := mod_one ((X.length : Nat) : Int)
    have lxy : X4.length = Y4.length := by omega
    have lyz : Y4.length = Z4.length := by omega
    have HLXY := Lib.hid lxy
    have HLYZ := Lib.hid lyz
    have lx10 : X4.length ≤ 10 := by omega
    have ly10 : Y4.length ≤ 10 := by omega
    have HAB := Lib.hid (assoc_B KX4.out KY4.out KZ4.out lxy lyz)
    have HAL := Lib.hid (assoc_L KX4.out KY4.out KZ4.out lxy lyz)
    have HFX := Lib.hid (fits_X KX4.out KY4.out KZ4.out lxy lyz)
    have HFY := Lib.hid (fits_Y KX4.out KY4.out KZ4.out lxy lyz)
    clear lx ly lz lxy lyz HX3 HY3 HZ3 KX KY KZ
    go_wp2_with fail
    obtain ⟨ok, hok⟩ : ∃ b, b = allB joinB X4 Y4 := ⟨_, rfl⟩
    refine (lJoinAll _ _ _ _ _ HX4.out HY4.out (by omega)).mono ?_
    rw [← hok]
    rintro e w4 ⟨r, rfl, hp, hu⟩
    obtain ⟨P, hP⟩ : ∃ P, P = joinR X4 Y4 := ⟨_, rfl⟩
    rw [← hP] at hp
    replace HX4 := Lib.hid (HX4.out.later (lbBelow hu))
    replace HY4 := Lib.hid (HY4.out.later (lbBelow hu))
    replace HZ4 := Lib.hid (HZ4.out.later (lbBelow hu))
    replace HU3 := Lib.hid (HU3.out.trans hu (fun _ h _ => h))
    have HP := Lib.hid hp.ints
    obtain ⟨pa, pc, rfl, -, -⟩ := hp.ints.slice
    have HPE := Lib.hid hP
    have HOK := Lib.hid hok
    clear hp hu hP hok
    go_wp2_with fail
    refine (lJoinAll _ _ _ _ _ HY4.out HX4.out (by omega)).mono ?_
    rw [← (HOK.out.trans allB_comm)]
    rintro e w5 ⟨r, rfl, hp, hu⟩
    rw [joinR_comm HLXY.out.symm, ← HPE.out] at hp
    replace HX4 := Lib.hid (HX4.out.later (lbBelow hu))
    replace HY4 := Lib.hid (HY4.out.later (lbBelow hu))
    replace HZ4 := Lib.hid (HZ4.out.later (lbBelow hu))
    replace HP := Lib.hid (HP.out.later (lbBelow hu))
    replace HU3 := Lib.hid (HU3.out.trans hu (fun _ h _ => h))
    have HQ := Lib.hid hp.ints
    obtain ⟨qa, qc, rfl, -, -⟩ := hp.ints.slice
    clear hp hu
    have hself := eq_self P
    cases ok with
    | false =>
      have hl0 := len0 (HPE.out.trans (joinR_no HOK.out.symm))
      go_wp2_with (with_reducible refine (known6 _).mono ?_; rintro e _ ⟨rfl, rfl⟩)
      refine (lbInts _ _ _ P P HP.out HQ.out).mono ?_
      rw [hself]
      rintro e w6 ⟨rfl, hu⟩
      replace HU3 := Lib.hid (HU3.out.trans hu (fun _ h _ => h))
      clear hu hself
      go_wp2_with fail
      go_ret
      exact ⟨rfl, HU3.out⟩
    | true =>
      have HPJ : Hid (P = joinL X4 Y4) := Lib.hid (HPE.out.trans (joinR_yes HOK.out.symm))
      have lp10 : P.length ≤ 10 := by rw [HPJ.out, joinL_len]; omega
      go_wp2_with (with_reducible refine (known6 _).mono ?_; rintro e _ ⟨rfl, rfl⟩)
      refine (lbInts _ _ _ P P HP.out HQ.out).mono ?_
      rw [hself]
      rintro e w7 ⟨rfl, hu⟩
      replace HX4 := Lib.hid (HX4.out.later (lbBelow hu))
      replace HY4 := Lib.hid (HY4.out.later (lbBelow hu))
      replace HZ4 := Lib.hid (HZ4.out.later (lbBelow hu))
      replace HP := Lib.hid (HP.out.later (lbBelow hu))
      replace HU3 := Lib.hid (HU3.out.trans hu (fun _ h _ => h))
      clear hu hself HQ
      go_wp2_with fail
      obtain ⟨b1, hb1⟩ : ∃ b, b = allB joinB P Z4 := ⟨_, rfl⟩
      refine (lJoinAll _ _ _ _ _ HP.out HZ4.out (by omega)).mono ?_
      rw [← hb1]
      rintro e w8 ⟨r, rfl, hp, hu⟩
      obtain ⟨U, hUU⟩ : ∃ L, L = joinR P Z4 := ⟨_, rfl⟩
      rw [← hUU] at hp
      replace HX4 := Lib.hid (HX4.out.later (lbBelow hu))
      replace HY4 := Lib.hid (HY4.out.later (lbBelow hu))
      replace HZ4 := Lib.hid (HZ4.out.later (lbBelow hu))
      replace HP := Lib.hid (HP.out.later (lbBelow hu))
      replace HU3 := Lib.hid (HU3.out.trans hu (fun _ h _ => h))
      have HUL := Lib.hid hp.ints
      obtain ⟨ua, uc, rfl, -, -⟩ := hp.ints.slice
      have HB1 := Lib.hid hb1
      have HUE := Lib.hid hUU
      clear hp hu hb1 hUU
      go_wp2_with fail
      obtain ⟨b2, hb2⟩ : ∃ b, b = allB joinB Y4 Z4 := ⟨_, rfl⟩
      refine (lJoinAll _ _ _ _ _ HY4.out HZ4.out (by omega)).mono ?_
      rw [← hb2]
      rintro e w9 ⟨r, rfl, hp, hu⟩
      obtain ⟨V, hUU⟩ : ∃ P, P = joinR Y4 Z4 := ⟨_, rfl⟩
      rw [← hUU] at hp
      replace HX4 := Lib.hid (HX4.out.later (lbBelow hu))
      replace HY4 := Lib.hid (HY4.out.later (lbBelow hu))
      replace HZ4 := Lib.hid (HZ4.out.later (lbBelow hu))
      replace HP := Lib.hid (HP.out.later (lbBelow hu))
      replace HUL := Lib.hid (HUL.out.later (lbBelow hu))
      replace HU3 := Lib.hid (HU3.out.trans hu (fun _ h _ => h))
      have HVL := Lib.hid hp.ints
      obtain ⟨va, vc, rfl, -, -⟩ := hp.ints.slice
      have HB2 := Lib.hid hb2
      have HVE := Lib.hid hUU
      clear hp hu hb2 hUU
      go_wp2_with fail
      obtain ⟨b3, hb3⟩ : ∃ b, b = allB joinB X4 V := ⟨_, rfl⟩
      refine (lJoinAll _ _ _ _ _ HX4.out HVL.out (by omega)).mono ?_
      rw [← hb3]
      rintro e w10 ⟨r, rfl, hp, hu⟩
      obtain ⟨T, hUU⟩ : ∃ P, P = joinR X4 V := ⟨_, rfl⟩
      rw [← hUU] at hp
      replace HX4 := Lib.hid (HX4.out.later (lbBelow hu))
      replace HY4 := Lib.hid (HY4.out.later (lbBelow hu))
      replace HZ4 := Lib.hid (HZ4.out.later (lbBelow hu))
      replace HP := Lib.hid (HP.out.later (lbBelow hu))
      replace HUL := Lib.hid (HUL.out.later (lbBelow hu))
      replace HVL := Lib.hid (HVL.out.later (lbBelow hu))
      replace HU3 := Lib.hid (HU3.out.trans hu (fun _ h _ => h))
      have HTL := Lib.hid hp.ints
      obtain ⟨ta, tc, rfl, -, -⟩ := hp.ints.slice
      have HB3 := Lib.hid hb3
      have HTE := Lib.hid hUU
      clear hp hu hb3 hUU
      have hb : b1 = (b2 && b3) := by
        have h := HAB.out HOK.out.symm
        rw [← HPJ.out, ← HB1.out, ← HB2.out] at h
        rw [h]
        have h2 : (if b2 = true then joinL Y4 Z4 else []) = V := by rw [HVE.out]; unfold joinR; rw [← HB2.out]
        rw [h2, ← HB3.out]
      have HB := Lib.hid hb
      clear hb
      have hfx : allB fitB X4 P = true := by rw [HPJ.out]; exact HFX.out HOK.out.symm
      have hfy : allB fitB Y4 P = true := by rw [HPJ.out]; exact HFY.out HOK.out.symm
      have HFX2 := Lib.hid hfx
      have HFY2 := Lib.hid hfy
      clear hfx hfy HFX HFY
      cases b1 with
      | true =>
        obtain ⟨q2, q3⟩ : b2 = true ∧ b3 = true := by have := HB.out; revert this; cases b2 <;> cases b3 <;> simp
        subst q2 q3
        have hself : allB eqB U T = true := allB_eq.2 (by
          rw [HUE.out, HTE.out, joinR_yes HB1.out.symm, joinR_yes HB3.out.symm, HVE.out, joinR_yes HB2.out.symm, HPJ.out]
          exact HAL.out HOK.out.symm (by rw [← HPJ.out]; exact HB1.out.symm))
        have HSE := Lib.hid hself
        clear hself
        go_wp2_with fail
        refine (lbInts _ _ _ U T HUL.out HTL.out).mono ?_
        rw [HSE.out]
        rintro e w11 ⟨rfl, hu⟩
        replace HX4 := Lib.hid (HX4.out.later (lbBelow hu))
        replace HY4 := Lib.hid (HY4.out.later (lbBelow hu))
        replace HP := Lib.hid (HP.out.later (lbBelow hu))
        replace HU3 := Lib.hid (HU3.out.trans hu (fun _ h _ => h))
        clear hu HTL HUL HVL HZ4
        go_wp2_with fail
        refine (lFitsAll _ _ _ _ _ HX4.out HP.out).mono ?_
        rw [HFX2.out]
        rintro e w12 ⟨rfl, hu⟩
        replace HX4 := Lib.hid (HX4.out.later (lbBelow hu))
        replace HY4 := Lib.hid (HY4.out.later (lbBelow hu))
        replace HP := Lib.hid (HP.out.later (lbBelow hu))
        replace HU3 := Lib.hid (HU3.out.trans hu (fun _ h _ => h))
        clear hu
        go_wp2_with fail
        refine (lFitsAll _ _ _ _ _ HY4.out HP.out).mono ?_
        rw [HFY2.out]
        rintro e w13 ⟨rfl, hu⟩
        replace HX4 := Lib.hid (HX4.out.later (lbBelow hu))
        replace HY4 := Lib.hid (HY4.out.later (lbBelow hu))
        replace HP := Lib.hid (HP.out.later (lbBelow hu))
        replace HU3 := Lib.hid (HU3.out.trans hu (fun _ h _ => h))
        clear hu
        go_wp2_with (with_reducible refine (hPick _ 1 _ (by omega) (by omega)).mono ?_; rintro e _ ⟨rfl, rfl⟩)
        go_ret
        exact ⟨rfl, HU3.out⟩
      | false =>
        have hb23 : (b2 && b3) = false := HB.out.symm
        clear HTL HUL HVL HZ4 HB1 HB2 HB3
        cases b2 <;> cases b3
        all_goals first | (exfalso; cases hb23; done) | skip
        all_goals
          clear hb23
          go_wp2_with fail
          refine (lFitsAll _ _ _ _ _ HX4.out HP.out).mono ?_
          rw [HFX2.out]
          rintro e w14 ⟨rfl, hu⟩
          replace HX4 := Lib.hid (HX4.out.later (lbBelow hu))
          replace HY4 := Lib.hid (HY4.out.later (lbBelow hu))
          replace HP := Lib.hid (HP.out.later (lbBelow hu))
          replace HU3 := Lib.hid (HU3.out.trans hu (fun _ h _ => h))
          clear hu
          go_wp2_with fail
          refine (lFitsAll _ _ _ _ _ HY4.out HP.out).mono ?_
          rw [HFY2.out]
          rintro e w15 ⟨rfl, hu⟩
          replace HX4 := Lib.hid (HX4.out.later (lbBelow hu))
          replace HY4 := Lib.hid (HY4.out.later (lbBelow hu))
          replace HP := Lib.hid (HP.out.later (lbBelow hu))
          replace HU3 := Lib.hid (HU3.out.trans hu (fun _ h _ => h))
          clear hu
          go_wp2_with (with_reducible refine (hPick _ 1 _ (by omega) (by omega)).mono ?_; rintro e _ ⟨rfl, rfl⟩)
          go_ret
          exact ⟨rfl, HU3.out⟩
theorem order_below (w : World) (v1 v2 v3 : Value) (A B C : List Int) (h1 : Ints w v1 A) (h2 : Ints w v2 B) (h3 : Ints w v3 C) :
    Calls Try.prog 6 #[v1, v2, v3] w fun e w' => e = .returned (.bool true) ∧ Below w.heap.size w w' := (order_walk w v1 v2 v3 A B C h1 h2 h3).mono fun _ _ h => ⟨h.1, lbBelow h.2⟩
end Go.Proofs.Ytbdnebcalklphaa

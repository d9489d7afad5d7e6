/- Package verify's law: applets of one method; known. -/
import Derived.Test.YtebgmpggedeplaaVn
namespace Go.Proofs.Ytebgmpggedeplaa
open Go.RowKit Go.Lib Go.ChangeShapes Go.WideShapes
set_option linter.unusedVariables false
set_option linter.unusedSimpArgs false

def insCells : List InsM → List Value
  | [] => []
  | x :: r => .int .i64 x.op :: .int .i64 x.a :: .int .i64 x.b :: insCells r
theorem insCells_len : ∀ C : List InsM, (insCells C).length = C.length * 3
  | [] => rfl
  | x :: r => by simp [insCells, insCells_len r]; omega
theorem insCells_append (A B : List InsM) : insCells (A ++ B) = insCells A ++ insCells B := by
  induction A with
  | nil => rfl
  | cons x r ih => simp [insCells, ih]
theorem insCells_at : ∀ (C : List InsM) (i j : Nat), i < C.length → j < 3 → (insCells C).getD (i * 3 + j) (.int .i64 0) = insF C i j
  | [], i, j, h, _ => by simp at h
  | x :: r, 0, j, _, hj => by
    have : j = 0 ∨ j = 1 ∨ j = 2 := by omega
    rcases this with rfl | rfl | rfl <;> rfl
  | x :: r, i + 1, j, h, hj => by
    have e := insCells_at r i j (by simpa using h) hj
    rw [show (i + 1) * 3 + j = (i * 3 + j) + 3 by omega]
    show (insCells r).getD (i * 3 + j) (.int .i64 0) = _
    rw [e]
    rfl
def wiI (x : InsM) : Bool := decide (-1000 ≤ x.op ∧ x.op ≤ 1000 ∧ -1000 ≤ x.a ∧ x.a ≤ 1000 ∧ -1000 ≤ x.b ∧ x.b ≤ 1000)
theorem wiI_all {C : List InsM} (h : C.all wiI = true) : ∀ x ∈ C, wi64 x.op ∧ wi64 x.a ∧ wi64 x.b := fun x hx => by
  have := List.all_eq_true.1 h x hx
  simp [wiI] at this
  refine ⟨⟨by omega, by omega⟩, ⟨by omega, by omega⟩, ⟨by omega, by omega⟩⟩
/-- instructions, written out -/
theorem inss_lit (w : World) (e : TypeId) (fr : Nat × Nat) (CC : Array Value) (C : List InsM) (n g : Nat) (hg : g = w.heap.size) (hC : CC.toList = insCells C) (hn : C.length = n) (hw : C.all wiI = true) (hm : n ≤ maxLen) :
    Inss (w.alloc (.cells CC e fr)) (.slice (some ⟨g, 0, none⟩) n n) C := by
  subst hg hn
  have hs : CC.size = C.length * 3 := by rw [← Array.length_toList, hC, insCells_len]
  refine ⟨(Sl.lit w e fr CC 3 C.length C.length (by omega) (Nat.le_refl _) hm).congr (fun i hi j hj => ?_), wiI_all hw⟩
  have : CC = (insCells C).toArray := by rw [← hC]
  subst this
  rw [← insCells_at C i j hi hj]
  simp [List.getD]
/-- one method, written out -/
theorem mets_lit1 {w : World} {e : TypeId} {fr : Nat × Nat} {P Q R : Value} {M : MetM} {g : Nat} (hg : g = w.heap.size)
    (hp : Ints (w.alloc (.cells #[P, .int .i64 M.res, Q, R] e fr)) P M.params) (hq : Ints (w.alloc (.cells #[P, .int .i64 M.res, Q, R] e fr)) Q M.locals) (hr : Inss (w.alloc (.cells #[P, .int .i64 M.res, Q, R] e fr)) R M.code) (hw : wi64 M.res) :
    Mets (w.alloc (.cells #[P, .int .i64 M.res, Q, R] e fr)) (.slice (some ⟨g, 0, none⟩) 1 1) [M] := by
  subst hg
  refine ⟨fun _ => P, fun _ => Q, fun _ => R, (Sl.lit w e fr _ 4 1 1 (by simp) (Nat.le_refl _) (by unfold maxLen; omega)).congr (fun i hi j hj => ?_), fun i hi => ?_, by simpa using hw⟩
  · obtain rfl : i = 0 := by omega
    have : j = 0 ∨ j = 1 ∨ j = 2 ∨ j = 3 := by omega
    rcases this with rfl | rfl | rfl | rfl <;> rfl
  · obtain rfl : i = 0 := by simpa using hi
    exact ⟨hp, hq, hr⟩
/-- two methods, written out -/
theorem mets_lit2 {w : World} {e : TypeId} {fr : Nat × Nat} {P Q R P' Q' R' : Value} {M M' : MetM} {g : Nat} (hg : g = w.heap.size) {W : World} (hW : W = w.alloc (.cells #[P, .int .i64 M.res, Q, R, P', .int .i64 M'.res, Q', R'] e fr))
    (hp : Ints W P M.params) (hq : Ints W Q M.locals) (hr : Inss W R M.code) (hw : wi64 M.res) (hp' : Ints W P' M'.params) (hq' : Ints W Q' M'.locals) (hr' : Inss W R' M'.code) (hw' : wi64 M'.res) :
    Mets W (.slice (some ⟨g, 0, none⟩) 2 2) [M, M'] := by
  subst hg hW
  refine ⟨fun i => if i = 0 then P else P', fun i => if i = 0 then Q else Q', fun i => if i = 0 then R else R', (Sl.lit w e fr _ 4 2 2 (by simp) (Nat.le_refl _) (by unfold maxLen; omega)).congr (fun i hi j hj => ?_), fun i hi => ?_, by simpa using ⟨hw, hw'⟩⟩
  · have hi' : i = 0 ∨ i = 1 := by omega
    have : j = 0 ∨ j = 1 ∨ j = 2 ∨ j = 3 := by omega
    rcases hi' with rfl | rfl <;> rcases this with rfl | rfl | rfl | rfl <;> rfl
  · have hi' : i = 0 ∨ i = 1 := by simp at hi; omega
    rcases hi' with rfl | rfl
    · exact ⟨hp, hq, hr⟩
    · exact ⟨hp', hq', hr'⟩

def aName : ByteArray := { data := #[97] }
def oneI (C : List InsM) : ImgM := ⟨aName, [], [], [⟨[], 0, [], C⟩], []⟩
theorem Imps.nil (w : World) : Imps w (.slice none 0 0) [] := ⟨fun _ => .slice none 0 0, Sl.nil _ _ _, by simp, by simp⟩
set_option maxRecDepth 100000 in
set_option maxHeartbeats 4000000 in
theorem lOne (w : World) (v : Value) (C : List InsM) (h : Inss w v C) : Calls Try.prog 7 #[v] w fun e w' => ∃ iv, e = .returned iv ∧ Img w' iv (oneI C) ∧ Upd (fun _ => False) w w' := by
  have HC := Lib.hid h
  obtain ⟨a, c, rfl, -, -⟩ := h.slice
  clear h
  go_enter Try.func7, Try.ntmps7
  go_wp2_with fail
  have HU := Lib.hid ((Upd.alloc (fun _ => False) w (.cells #[.string aName, .slice none 0 0, .slice none 0 0, .slice (some ⟨w.heap.size + 1, 0, none⟩) 1 1, .slice none 0 0] 31)).trans (Upd.alloc (fun _ => False) _ (.cells #[.slice none 0 0, .int .i64 0, .slice none 0 0, .slice a C.length c] 43)) (fun _ h _ => h))
  refine bodyPost_ret (v := img5 aName (.slice none 0 0) (.slice none 0 0) (.slice (some ⟨w.heap.size + 1, 0, none⟩) 1 1) (.slice none 0 0)) (by simp [results, Try.f7, go_sem, aName]) rfl ?_
  refine ⟨_, rfl, ⟨_, _, _, _, rfl, Ints.nil _, Imps.nil _, ?_, Ints.nil _, by show (1 : Nat) ≤ maxLen; unfold maxLen; omega⟩, HU.out⟩
  exact mets_lit1 (M := ⟨[], 0, [], C⟩) (by simp) (Ints.nil _) (Ints.nil _) (HC.out.later (lbBelow HU.out)) (show wi64 0 from wi_small (by omega) (by omega))

def c1 : List InsM := [⟨35, 2, 0⟩, ⟨1, 0, 0⟩, ⟨29, 0, 0⟩, ⟨24, 0, 0⟩]
theorem vc1 : verifyP (oneI c1) 20 = some (0, 3, 12) := by kernel_rfl
def c2 : List InsM := [⟨1, 0, 0⟩, ⟨4, 0, 0⟩, ⟨39, 0, 0⟩]
theorem vc2 : verifyP (oneI c2) 20 = some (0, 0, 0) := by kernel_rfl
def cb : List InsM := [⟨2, 0, 0⟩, ⟨39, 0, 0⟩]
theorem vcb : verifyP (oneI cb) 20 = some (0, 0, 9) := by kernel_rfl
def cc : List InsM := [⟨4, 0, 0⟩, ⟨39, 0, 0⟩]
theorem vcc : verifyP (oneI cc) 20 = some (0, 0, 10) := by kernel_rfl
def cd : List InsM := [⟨35, 1, 0⟩, ⟨15, 0, 0⟩, ⟨39, 0, 0⟩]
theorem vcd : verifyP (oneI cd) 20 = some (0, 1, 11) := by kernel_rfl
def ce : List InsM := [⟨1, 0, 0⟩]
theorem vce : verifyP (oneI ce) 20 = some (0, 0, 13) := by kernel_rfl
def cf : List InsM := [⟨1, 0, 0⟩, ⟨24, 3, 0⟩, ⟨1, 0, 0⟩, ⟨39, 0, 0⟩]
theorem vcf : verifyP (oneI cf) 20 = some (0, 2, 14) := by kernel_rfl
def cl : List InsM := [⟨1, 0, 0⟩, ⟨39, 0, 0⟩, ⟨39, 0, 0⟩]
theorem vcl : verifyP (oneI cl) 20 = some (0, 0, 0) := by kernel_rfl
def ch : List InsM := [⟨39, 0, 0⟩, ⟨39, 0, 0⟩]
theorem vch : verifyP (oneI ch) 20 = some (0, 0, 0) := by kernel_rfl
def ci : List InsM := [⟨39, 0, 0⟩]
theorem vci : verifyP (oneI ci) 20 = some (0, 0, 0) := by kernel_rfl
theorem vnil : verifyP ⟨{ data := #[] }, [], [], [], []⟩ 20 = some (0, 0, 1) := by kernel_rfl
theorem mcl : methP (oneI cl) 0 20 = some ([⟨[], true, false⟩, ⟨[1], true, false⟩, ⟨[], false, false⟩], 0, 0) := by kernel_rfl
theorem mch : methP (oneI ch) 0 20 = some ([⟨[], true, false⟩, ⟨[], false, false⟩], 0, 0) := by kernel_rfl
theorem mci : methP (oneI ci) 0 20 = some ([⟨[], true, false⟩], 0, 0) := by kernel_rfl
/-- a box of two cells -/
theorem box2c {w w' : World} {x0 x1 : Value} {t : TypeId} (hu : Upd (fun _ => False) (w.alloc (.cells #[x0, x1] t)) w') : w'.cell? ⟨w.heap.size, 0, none⟩ = some x0 ∧ w'.cell? ⟨w.heap.size, 1, none⟩ = some x1 := by
  have h0 : ∀ q, w'.cell? ⟨w.heap.size, q, none⟩ = (#[x0, x1] : Array Value)[q]? := fun q => by
    rw [hu.cell (p := ⟨w.heap.size, q, none⟩) (by simp) (fun h => h), World.cell?_alloc_new]
  exact ⟨h0 0, h0 1⟩
theorem up1 {w w' : World} {o : Obj} (h : Upd (fun _ => False) (w.alloc o) w') : Upd (fun _ => False) w w' := (Upd.alloc _ _ _).trans h (fun _ h _ => h)
theorem up2 {w w' : World} {o o' : Obj} (h : Upd (fun _ => False) ((w.alloc o).alloc o') w') : Upd (fun _ => False) w w' := up1 (up1 h)

set_option maxRecDepth 100000 in
set_option maxHeartbeats 8000000 in
theorem known7 (w : World) : Calls Try.prog 9 #[] w fun e w' => e = .returned (.bool true) ∧ Upd (fun _ => False) w w' := by
  go_enter Try.func9, Try.ntmps9
  have HU0 := Lib.hid (Upd.refl (fun _ => False) w)
  go_wp2_with fail
  refine (lOne _ _ c1 (inss_lit _ _ _ _ c1 4 _ (by simp) rfl rfl rfl (by unfold maxLen; omega))).mono ?_
  rintro e w1 ⟨iv, rfl, hi, hu⟩
  have HU1 := Lib.hid (HU0.out.trans (up1 hu) (fun _ h _ => h))
  obtain ⟨f1, i1, m1, x1, hv, -⟩ := id hi
  have HV1 := Lib.hid hi
  clear hi hu
  subst hv
  go_wp2_with fail
  refine (vVerify _ _ (oneI c1) HV1.out 20 0 3 12 vc1).mono ?_
  rintro e w2 ⟨rfl, hu⟩
  have HU2 := Lib.hid (HU1.out.trans (hu) (fun _ h _ => h))
  clear hu
  go_wp2_with fail
  refine (lOne _ _ c2 (inss_lit _ _ _ _ c2 3 _ (by simp) rfl rfl rfl (by unfold maxLen; omega))).mono ?_
  rintro e w3 ⟨iv, rfl, hi, hu⟩
  have HU3 := Lib.hid (HU2.out.trans (up2 hu) (fun _ h _ => h))
  have HX2_3 := Lib.hid (up1 hu)
  obtain ⟨f3, i3, m3, x3, hv, -⟩ := id hi
  have HV3 := Lib.hid hi
  clear hi hu
  subst hv
  go_wp2_with fail
  refine (vVerify _ _ (oneI c2) HV3.out 20 0 0 0 vc2).mono ?_
  rintro e w4 ⟨rfl, hu⟩
  have HU4 := Lib.hid (HU3.out.trans (hu) (fun _ h _ => h))
  have HX2_4 := Lib.hid (HX2_3.out.trans (hu) (fun _ h _ => h))
  clear hu
  have HX2_5 := Lib.hid (HX2_4.out.trans (Upd.alloc (fun _ => False) w4 (.cells #[.int .i64 0, .int .i64 0] 23)) (fun _ h _ => h))
  have HUF := Lib.hid (HU4.out.trans (Upd.alloc (fun _ => False) w4 (.cells #[.int .i64 0, .int .i64 0] 23)) (fun _ h _ => h))
  obtain ⟨b0, b1⟩ := box2c HX2_5.out
  go_wp2_with fail
  go_ret
  exact ⟨rfl, HUF.out⟩

theorem Mets.nil (w : World) : Mets w (.slice none 0 0) [] := ⟨fun _ => .slice none 0 0, fun _ => .slice none 0 0, fun _ => .slice none 0 0, Sl.nil _ _ _, by simp, by simp⟩
set_option maxRecDepth 100000 in
set_option maxHeartbeats 16000000 in
theorem verifyKnown_walk (w : World) : Calls Try.prog 3 #[] w fun e w' => e = .returned (.bool true) ∧ Upd (fun _ => False) w w' := by
  go_enter Try.func3, Try.ntmps3
  have HU0 := Lib.hid (Upd.refl (fun _ => False) w)
  go_wp2_with fail
  refine (vVerify _ _ ⟨{ data := #[] }, [], [], [], []⟩ ⟨_, _, _, _, rfl, Ints.nil _, Imps.nil _, Mets.nil _, Ints.nil _, by show (0 : Nat) ≤ maxLen; unfold maxLen; omega⟩ 20 0 0 1 vnil).mono ?_
  rintro e w1 ⟨rfl, hu⟩
  have HU1 := Lib.hid (HU0.out.trans (hu) (fun _ h _ => h))
  clear hu
  go_wp2_with fail
  refine (lOne _ _ cb (inss_lit _ _ _ _ cb 2 _ (by simp) rfl rfl rfl (by unfold maxLen; omega))).mono ?_
  rintro e w2 ⟨iv, rfl, hi, hu⟩
  have HU2 := Lib.hid (HU1.out.trans (up2 hu) (fun _ h _ => h))
  obtain ⟨f2, i2, m2, x2, hv, -⟩ := id hi
  have HV2 := Lib.hid hi
  clear hi hu
  subst hv
  go_wp2_with fail
  refine (vVerify _ _ (oneI cb) HV2.out 20 0 0 9 vcb).mono ?_
  rintro e w3 ⟨rfl, hu⟩
  have HU3 := Lib.hid (HU2.out.trans (hu) (fun _ h _ => h))
  clear hu
  go_wp2_with fail
  refine (lOne _ _ cc (inss_lit _ _ _ _ cc 2 _ (by simp) rfl rfl rfl (by unfold maxLen; omega))).mono ?_
  rintro e w4 ⟨iv, rfl, hi, hu⟩
  have HU4 := Lib.hid (HU3.out.trans (up2 hu) (fun _ h _ => h))
  have HX3_4 := Lib.hid (up1 hu)
  obtain ⟨f4, i4, m4, x4, hv, -⟩ := id hi
  have HV4 := Lib.hid hi
  clear hi hu
  subst hv
  go_wp2_with fail
  refine (vVerify _ _ (oneI cc) HV4.out 20 0 0 10 vcc).mono ?_
  rintro e w5 ⟨rfl, hu⟩
  have HU5 := Lib.hid (HU4.out.trans (hu) (fun _ h _ => h))
  have HX3_5 := Lib.hid (HX3_4.out.trans (hu) (fun _ h _ => h))
  clear hu
  go_wp2_with fail
  refine (lOne _ _ cd (inss_lit _ _ _ _ cd 3 _ (by simp) rfl rfl rfl (by unfold maxLen; omega))).mono ?_
  rintro e w6 ⟨iv, rfl, hi, hu⟩
  have HU6 := Lib.hid (HU5.out.trans (up2 hu) (fun _ h _ => h))
  have HX3_6 := Lib.hid (HX3_5.out.trans (up2 hu) (fun _ h _ => h))
  have HX5_6 := Lib.hid (up1 hu)
  obtain ⟨f6, i6, m6, x6, hv, -⟩ := id hi
  have HV6 := Lib.hid hi
  clear hi hu
  subst hv
  go_wp2_with fail
  refine (vVerify _ _ (oneI cd) HV6.out 20 0 1 11 vcd).mono ?_
  rintro e w7 ⟨rfl, hu⟩
  have HU7 := Lib.hid (HU6.out.trans (hu) (fun _ h _ => h))
  have HX3_7 := Lib.hid (HX3_6.out.trans (hu) (fun _ h _ => h))
  have HX5_7 := Lib.hid (HX5_6.out.trans (hu) (fun _ h _ => h))
  clear hu
  go_wp2_with fail
  refine (lOne _ _ ce (inss_lit _ _ _ _ ce 1 _ (by simp) rfl rfl rfl (by unfold maxLen; omega))).mono ?_
  rintro e w8 ⟨iv, rfl, hi, hu⟩
  have HU8 := Lib.hid (HU7.out.trans (up2 hu) (fun _ h _ => h))
  have HX3_8 := Lib.hid (HX3_7.out.trans (up2 hu) (fun _ h _ => h))
  have HX5_8 := Lib.hid (HX5_7.out.trans (up2 hu) (fun _ h _ => h))
  have HX7_8 := Lib.hid (up1 hu)
  obtain ⟨f8, i8, m8, x8, hv, -⟩ := id hi
  have HV8 := Lib.hid hi
  clear hi hu
  subst hv
  go_wp2_with fail
  refine (vVerify _ _ (oneI ce) HV8.out 20 0 0 13 vce).mono ?_
  rintro e w9 ⟨rfl, hu⟩
  have HU9 := Lib.hid (HU8.out.trans (hu) (fun _ h _ => h))
  have HX3_9 := Lib.hid (HX3_8.out.trans (hu) (fun _ h _ => h))
  have HX5_9 := Lib.hid (HX5_8.out.trans (hu) (fun _ h _ => h))
  have HX7_9 := Lib.hid (HX7_8.out.trans (hu) (fun _ h _ => h))
  clear hu
  go_wp2_with fail
  refine (lOne _ _ cf (inss_lit _ _ _ _ cf 4 _ (by simp) rfl rfl rfl (by unfold maxLen; omega))).mono ?_
  rintro e w10 ⟨iv, rfl, hi, hu⟩
  have HU10 := Lib.hid (HU9.out.trans (up2 hu) (fun _ h _ => h))
  have HX3_10 := Lib.hid (HX3_9.out.trans (up2 hu) (fun _ h _ => h))
  have HX5_10 := Lib.hid (HX5_9.out.trans (up2 hu) (fun _ h _ => h))
  have HX7_10 := Lib.hid (HX7_9.out.trans (up2 hu) (fun _ h _ => h))
  have HX9_10 := Lib.hid (up1 hu)
  obtain ⟨f10, i10, m10, x10, hv, -⟩ := id hi
  have HV10 := Lib.hid hi
  clear hi hu
  subst hv
  go_wp2_with fail
  refine (vVerify _ _ (oneI cf) HV10.out 20 0 2 14 vcf).mono ?_
  rintro e w11 ⟨rfl, hu⟩
  have HU11 := Lib.hid (HU10.out.trans (hu) (fun _ h _ => h))
  have HX3_11 := Lib.hid (HX3_10.out.trans (hu) (fun _ h _ => h))
  have HX5_11 := Lib.hid (HX5_10.out.trans (hu) (fun _ h _ => h))
  have HX7_11 := Lib.hid (HX7_10.out.trans (hu) (fun _ h _ => h))
  have HX9_11 := Lib.hid (HX9_10.out.trans (hu) (fun _ h _ => h))
  clear hu
  go_wp2_with fail
  refine (lOne _ _ cl (inss_lit _ _ _ _ cl 3 _ (by simp) rfl rfl rfl (by unfold maxLen; omega))).mono ?_
  rintro e w12 ⟨iv, rfl, hi, hu⟩
  have HU12 := Lib.hid (HU11.out.trans (up2 hu) (fun _ h _ => h))
  have HX3_12 := Lib.hid (HX3_11.out.trans (up2 hu) (fun _ h _ => h))
  have HX5_12 := Lib.hid (HX5_11.out.trans (up2 hu) (fun _ h _ => h))
  have HX7_12 := Lib.hid (HX7_11.out.trans (up2 hu) (fun _ h _ => h))
  have HX9_12 := Lib.hid (HX9_11.out.trans (up2 hu) (fun _ h _ => h))
  have HX11_12 := Lib.hid (up1 hu)
  obtain ⟨f12, i12, m12, x12, hv, -⟩ := id hi
  have HV12 := Lib.hid hi
  clear hi hu
  subst hv
  go_wp2_with fail
  refine (vStates _ _ (oneI cl) HV12.out 20 0 0 vcl 0 (by decide) _ 0 mcl (by decide)).mono ?_
  rintro e w13 ⟨gs, rfl, hs, hu⟩
  have HU13 := Lib.hid (HU12.out.trans (hu) (fun _ h _ => h))
  have HX3_13 := Lib.hid (HX3_12.out.trans (hu) (fun _ h _ => h))
  have HX5_13 := Lib.hid (HX5_12.out.trans (hu) (fun _ h _ => h))
  have HX7_13 := Lib.hid (HX7_12.out.trans (hu) (fun _ h _ => h))
  have HX9_13 := Lib.hid (HX9_12.out.trans (hu) (fun _ h _ => h))
  have HX11_13 := Lib.hid (HX11_12.out.trans (hu) (fun _ h _ => h))
  have HS := Lib.hid hs
  clear hs hu
  go_wp2_with fail
  refine (known7 _).mono ?_
  rintro e w14 ⟨rfl, hu⟩
  have HU14 := Lib.hid (HU13.out.trans (hu) (fun _ h _ => h))
  have HX3_14 := Lib.hid (HX3_13.out.trans (hu) (fun _ h _ => h))
  have HX5_14 := Lib.hid (HX5_13.out.trans (hu) (fun _ h _ => h))
  have HX7_14 := Lib.hid (HX7_13.out.trans (hu) (fun _ h _ => h))
  have HX9_14 := Lib.hid (HX9_13.out.trans (hu) (fun _ h _ => h))
  have HX11_14 := Lib.hid (HX11_13.out.trans (hu) (fun _ h _ => h))
  have HS14 := Lib.hid (HS.out.upd hu)
  obtain ⟨p3, q3⟩ := box2c HX3_14.out
  obtain ⟨p5, q5⟩ := box2c HX5_14.out
  obtain ⟨p7, q7⟩ := box2c HX7_14.out
  obtain ⟨p9, q9⟩ := box2c HX9_14.out
  obtain ⟨p11, q11⟩ := box2c HX11_14.out
  obtain ⟨v0, s0, hs0⟩ := HS14.out.2 0 (by decide)
  obtain ⟨v1, s1, hs1⟩ := HS14.out.2 1 (by decide)
  obtain ⟨v2, s2, hs2⟩ := HS14.out.2 2 (by decide)
  obtain ⟨a0, c0, rfl, -, -⟩ := (hs0 (by decide)).1.slice
  obtain ⟨a1, c1, rfl, -, -⟩ := (hs1 (by decide)).1.slice
  obtain ⟨a2, c2, rfl, -, -⟩ := (hs2 (by decide)).1.slice
  simp only [List.getD_cons_zero, List.getD_cons_succ, List.length_cons, List.length_nil, Nat.zero_add] at s0 s1 s2
  clear hs0 hs1 hs2 hu
  go_wp2_with fail
  refine (lOne _ _ ch (inss_lit _ _ _ _ ch 2 _ (by simp) rfl rfl rfl (by unfold maxLen; omega))).mono ?_
  rintro e w15 ⟨iv, rfl, hi, hu⟩
  have HU15 := Lib.hid (HU14.out.trans (up1 hu) (fun _ h _ => h))
  have HX3_15 := Lib.hid (HX3_14.out.trans (up1 hu) (fun _ h _ => h))
  have HX5_15 := Lib.hid (HX5_14.out.trans (up1 hu) (fun _ h _ => h))
  have HX7_15 := Lib.hid (HX7_14.out.trans (up1 hu) (fun _ h _ => h))
  have HX9_15 := Lib.hid (HX9_14.out.trans (up1 hu) (fun _ h _ => h))
  have HX11_15 := Lib.hid (HX11_14.out.trans (up1 hu) (fun _ h _ => h))
  obtain ⟨f15, i15, m15, x15, hv, -⟩ := id hi
  have HV15 := Lib.hid hi
  clear hi hu
  subst hv
  clear p3 q3 p5 q5 p7 q7 p9 q9 p11 q11 s0 s1 s2
  go_wp2_with fail
  refine (vHeight _ _ (oneI ch) HV15.out 20 0 0 vch 0 (by decide) _ 0 mch (by decide) 1 (by decide)).mono ?_
  rintro e w16 ⟨rfl, hu⟩
  have HU16 := Lib.hid (HU15.out.trans (hu) (fun _ h _ => h))
  have HX3_16 := Lib.hid (HX3_15.out.trans (hu) (fun _ h _ => h))
  have HX5_16 := Lib.hid (HX5_15.out.trans (hu) (fun _ h _ => h))
  have HX7_16 := Lib.hid (HX7_15.out.trans (hu) (fun _ h _ => h))
  have HX9_16 := Lib.hid (HX9_15.out.trans (hu) (fun _ h _ => h))
  have HX11_16 := Lib.hid (HX11_15.out.trans (hu) (fun _ h _ => h))
  clear hu
  go_wp2_with fail
  refine (lOne _ _ ci (inss_lit _ _ _ _ ci 1 _ (by simp) rfl rfl rfl (by unfold maxLen; omega))).mono ?_
  rintro e w17 ⟨iv, rfl, hi, hu⟩
  have HU17 := Lib.hid (HU16.out.trans (up1 hu) (fun _ h _ => h))
  have HX3_17 := Lib.hid (HX3_16.out.trans (up1 hu) (fun _ h _ => h))
  have HX5_17 := Lib.hid (HX5_16.out.trans (up1 hu) (fun _ h _ => h))
  have HX7_17 := Lib.hid (HX7_16.out.trans (up1 hu) (fun _ h _ => h))
  have HX9_17 := Lib.hid (HX9_16.out.trans (up1 hu) (fun _ h _ => h))
  have HX11_17 := Lib.hid (HX11_16.out.trans (up1 hu) (fun _ h _ => h))
  obtain ⟨f17, i17, m17, x17, hv, -⟩ := id hi
  have HV17 := Lib.hid hi
  clear hi hu
  subst hv
  go_wp2_with fail
  refine (vHeight _ _ (oneI ci) HV17.out 20 0 0 vci 0 (by decide) _ 0 mci (by decide) 0 (by decide)).mono ?_
  rintro e w18 ⟨rfl, hu⟩
  have HU18 := Lib.hid (HU17.out.trans (hu) (fun _ h _ => h))
  have HX3_18 := Lib.hid (HX3_17.out.trans (hu) (fun _ h _ => h))
  have HX5_18 := Lib.hid (HX5_17.out.trans (hu) (fun _ h _ => h))
  have HX7_18 := Lib.hid (HX7_17.out.trans (hu) (fun _ h _ => h))
  have HX9_18 := Lib.hid (HX9_17.out.trans (hu) (fun _ h _ => h))
  have HX11_18 := Lib.hid (HX11_17.out.trans (hu) (fun _ h _ => h))
  clear hu
  go_wp2_with fail
  go_ret
  exact ⟨rfl, HU18.out⟩
end Go.Proofs.Ytebgmpggedeplaa

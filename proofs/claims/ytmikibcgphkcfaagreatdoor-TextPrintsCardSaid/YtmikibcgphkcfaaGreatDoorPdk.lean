/- The reference's text: Print. -/
import Derived.Test.YtmikibcgphkcfaaGreatDoorKPa
import Derived.Test.YtmikibcgphkcfaaGreatDoorRt
namespace Go.Proofs.YtmikibcgphkcfaaGreatDoor
section
open Go.RowKit Go.Shelf Go.Lib
set_option linter.unusedVariables false
set_option linter.unusedSimpArgs false

theorem fieldL_eq (k : Int) : fieldL k = [102, 105, 101, 108, 100, 32] ++ kindT k ++ [10] := by unfold fieldL; rw [line_tl]; simp [tl]
theorem expL_eq (n : Int) : expL n = [101, 120, 112, 111, 114, 116, 32] ++ itoa n ++ [10] := by unfold expL; rw [line_tl]; simp [tl]
theorem nameL_eq (s : ByteArray) : nameL s = [97, 112, 112, 108, 101, 116, 32] ++ s.data.toList ++ [10] := by unfold nameL; rw [line_tl]; simp [tl]
theorem impL_eq (m : ImpM) : impL m = [105, 109, 112, 111, 114, 116, 32] ++ m.name.data.toList ++ [32] ++ itoa m.exp ++ [32] ++ kindT m.res ++ tl (m.params.map kindT) ++ [10] := by unfold impL; rw [line_tl, callT_tl]; simp [tl]
theorem headT_eq (m : MetM) : headT m = [109, 101, 116, 104, 111, 100, 32] ++ kindT m.res ++ tl (m.params.map kindT) ++ [10] ++ locT m.locals := by unfold headT; rw [line_tl, callT_tl]; simp [tl]
theorem locT_some {ks : List Int} (h : ks ≠ []) : locT ks = [108, 111, 99, 97, 108, 115] ++ tl (ks.map kindT) ++ [10] := by
  cases ks with
  | nil => exact absurd rfl h
  | cons k ks =>
    show lineT [_, joinB ((k :: ks).map kindT)] = _
    rw [line_tl, List.map_cons, join_tl, tl_last]
theorem insL_eq (x : InsM) : lineT (insT x) = [32, 32] ++ nmT x.op ++ tl ([itoa x.a, itoa x.b].take (opsB x.op).toNat) ++ [10] := by unfold insT; rw [line_tl]
theorem bs_name (s : ByteArray) : s = bs s.data.toList := by cases s; rfl
theorem tl_len4 (ks : List Int) : (tl (ks.map kindT)).length ≤ 5 * ks.length := tl_kinds_len ks
set_option maxRecDepth 100000 in
set_option maxHeartbeats 4000000 in
theorem rPrint {w : World} {v : Value} {I : ImgM} (hI : Img w v I) (hT : Tabs w) : Calls Tryz.prog 8 #[v] w fun e w' => e = .returned (.tuple #[.string (bs (printT I).1), .int .i64 (printT I).2]) ∧ Upd (fun _ => False) w w' := by
  have HI := Lib.hid hI
  obtain ⟨fv, iv, mv, xv, rfl, hf, hi, hm, hx, -⟩ := hI
  obtain ⟨fa, fc, rfl, -⟩ := ints_at hf (Upd.refl _ _)
  obtain ⟨xa, xc, rfl, -⟩ := ints_at hx (Upd.refl _ _)
  obtain ⟨ia, ic, rfl⟩ : ∃ a c, iv = .slice a I.imports.length c := by obtain ⟨p, ⟨a, c, h, -⟩, -⟩ := hi; exact ⟨a, c, h⟩
  obtain ⟨ma, mc, rfl⟩ : ∃ a c, mv = .slice a I.methods.length c := by obtain ⟨p, q, r, ⟨a, c, h, -⟩, -⟩ := hm; exact ⟨a, c, h⟩
  obtain ⟨X, hX⟩ : ∃ X, X = w.heap.size := ⟨_, rfl⟩
  obtain ⟨w1, hw1⟩ : ∃ w1, w1 = w.alloc (.cells #[.string I.name, .slice fa I.fields.length fc, .slice ia I.imports.length ic, .slice ma I.methods.length mc, .slice xa I.exports.length xc] IMG) := ⟨_, rfl⟩
  have hu1 : Upd (fun _ => False) w w1 := by rw [hw1]; exact Upd.alloc (fun _ => False) _ _
  have HU1 := Lib.hid hu1
  have HBX : Hid (w1.heap[X]? = some (.cells #[.string I.name, .slice fa I.fields.length fc, .slice ia I.imports.length ic, .slice ma I.methods.length mc, .slice xa I.exports.length xc] IMG (0, 0))) := Lib.hid (by rw [hw1]; exact hp_new w _ _ hX)
  have HI1 := Lib.hid (HI.out.later (upd_below hu1))
  have HRC := Lib.hid (rRightI w1 _ I HI1.out (fun s u hb hs => rIsName s u hs (Utf8Tabs_below hT ((upd_below hu1).trans (hb.mono hu1.size)))))
  have HW1 := Lib.hid hw1
  have HX := Lib.hid hX
  clear hf hi hm hx hT hX hw1 hu1
  go_enter Tryz.func8, Tryz.ntmps8
  go_wp2_with fail
  rw [← HX.out, ← HW1.out]
  refine HRC.out.mono ?_
  rintro e w2 ⟨rt, rfl, hrt, hu⟩
  have HU2 := Lib.hid (HU1.out.trans hu (fun _ h _ => h))
  have HBX2 := Lib.hid (tBlk hu HBX.out (fun h => h))
  have HI2 := Lib.hid (HI1.out.later (upd_below hu))
  clear hu HRC
  cases rt with
  | false =>
    have HR : Hid (false = imgB insB I) := Lib.hid (by
      cases h : imgB insB I with
      | false => rfl
      | true => exact absurd (hrt.2 h) (by simp))
    clear hrt
    go_wp2_with fail
    first | go_ret | go_ret2
    rw [print_no HR.out]
    exact ⟨rfl, HU2.out⟩
  | true =>
    have HR : Hid (true = imgB insB I) := Lib.hid (hrt.1 rfl).symm
    clear hrt
    have HN := Lib.hid (bnd_of HR.out)
    have HBL : Hid (∀ w', Upd (fun _ => False) w2 w' → w'.heap[X]? = some (.cells #[.string I.name, .slice fa I.fields.length fc, .slice ia I.imports.length ic, .slice ma I.methods.length mc, .slice xa I.exports.length xc] IMG (0, 0)) ∧ Img w' (img5 I.name (.slice fa I.fields.length fc) (.slice ia I.imports.length ic) (.slice ma I.methods.length mc) (.slice xa I.exports.length xc)) I) := Lib.hid (fun w' h => ⟨tBlk h HBX2.out (fun h => h), HI2.out.later (upd_below h)⟩)
    have HUR := Lib.hid (Upd.refl (fun _ => False) w2)
    obtain ⟨nm, hnm⟩ : ∃ nm, nm = I.name.data.toList := ⟨_, rfl⟩
    have HNE : Hid (I.name = bs nm) := Lib.hid (by rw [hnm]; exact bs_name _)
    have HNL : Hid (nm.length ≤ 16) := Lib.hid (by rw [hnm]; have := HN.out.name; have h2 : I.name.data.toList.length = I.name.size := Array.length_toList; omega)
    have HNM := Lib.hid hnm
    clear hnm
    have c0 := (tCell (HBL.out w2 HUR.out).1 0).1
    simp at c0
    rw [HNE.out] at c0
    have ap0 : ({ data := #[97, 112, 112, 108, 101, 116, 32] } : ByteArray) ++ bs nm = bs ([97, 112, 112, 108, 101, 116, 32] ++ nm) := bs_app _ _
    have nz0 : ¬ (9223372036854775807 < 7 + (bs nm).size) := by rw [bs_size]; have := HNL.out; omega
    obtain ⟨n0, hn0⟩ : ∃ t : By, t = [97, 112, 112, 108, 101, 116, 32] ++ nm := ⟨_, rfl⟩
    rw [← hn0] at ap0
    obtain ⟨n1, hn1⟩ : ∃ t : By, t = n0 ++ [10] := ⟨_, rfl⟩
    have ap1 : bs n0 ++ ({ data := #[10] } : ByteArray) = bs n1 := by rw [hn1]; exact bs_app _ _
    have nz1 : ¬ (9223372036854775807 < (bs n0).size + 1) := by rw [bs_size, hn0, List.length_append]; have := HNL.out; simp only [List.length_cons, List.length_nil]; omega
    have HL1 : Hid (n1.length ≤ 100) := Lib.hid (by rw [hn1, hn0]; have := HNL.out; simp only [List.length_append, List.length_cons, List.length_nil]; omega)
    have HE1 : Hid (n1 = nameL I.name) := Lib.hid (by rw [hn1, hn0, nameL_eq, HNM.out])
    clear hn0 hn1
    go_wp2_with fail
    clear ap0 nz0 ap1 nz1 c0
    go_loopw [5, 4] (fun iv sv wr => ∃ (k : Nat) (st : By), k ≤ I.fields.length ∧ iv = .int .i64 k ∧ sv = .string (bs st) ∧ Hid (st = n1 ++ (I.fields.take k).flatMap fieldL) ∧ Hid (Upd (fun _ => False) w2 wr)) (fun iv _ _ => I.fields.length - (RowKit.intOf iv).toNat)
    case atStart => exact ⟨0, n1, Nat.zero_le _, rfl, rfl, Lib.hid (by simp), HUR⟩
    case round =>
      obtain ⟨k, st, hk, rfl, rfl, HST, HK⟩ := hrel
      have c1 := (tCell (HBL.out wr HK.out).1 1).1
      simp at c1
      by_cases hlt : k < I.fields.length
      · obtain ⟨a', c', he, hat⟩ := ints_at (img_parts (HBL.out wr HK.out).2).1 (Upd.refl _ wr)
        obtain ⟨g, off, hg, c0⟩ := hat k hlt
        simp at he
        obtain ⟨rfl, rfl⟩ := he
        subst hg
        clear hat
        have HT1 := Lib.hid (flat_take fieldL I.fields k hlt)
        have hk3 : (k : Int) + 1 ≤ 9223372036854775807 := by have := HN.out.fields; omega
        have hki : (k : Int) < (I.fields.length : Int) := by omega
        have hk0 : (0 : Int) ≤ (k : Int) := by omega
        have HSL : Hid (st.length ≤ 1000) := Lib.hid (by
          have h1 := HL1.out
          have h2 := flat_len fieldL 100 (I.fields.take k) (fun y _ => fieldL_len y)
          have h4 := HN.out.fields
          rw [HST.out, List.length_append]
          rw [List.length_take] at h2
          omega)
        obtain ⟨x, hx⟩ : ∃ x, x = I.fields.getD k 0 := ⟨_, rfl⟩
        rw [← hx] at c0
        have HX1 : Hid (I.fields.getD k default = x) := Lib.hid hx.symm
        have HKN := Lib.hid (rKindName x wr)
        obtain ⟨K, hK⟩ : ∃ K, K = kindT x := ⟨_, rfl⟩
        rw [← hK] at HKN
        have HKL : Hid (K.length ≤ 4) := Lib.hid (by rw [hK]; exact kindT_len x)
        have HKE := Lib.hid hK
        clear hx hK
        obtain ⟨f1, hf1⟩ : ∃ t : By, t = st ++ [102, 105, 101, 108, 100, 32] := ⟨_, rfl⟩
        have apf1 : bs st ++ ({ data := #[102, 105, 101, 108, 100, 32] } : ByteArray) = bs f1 := by rw [hf1]; exact bs_app _ _
        have nzf1 : ¬ (9223372036854775807 < (bs st).size + 6) := by have := HSL.out; rw [bs_size]; omega
        have Lf1 : Hid (f1.length ≤ 3000) := Lib.hid (by have := HSL.out; rw [hf1, List.length_append]; simp only [List.length_cons, List.length_nil]; omega)
        obtain ⟨f2, hf2⟩ : ∃ t : By, t = f1 ++ K := ⟨_, rfl⟩
        have apf2 : bs f1 ++ bs K = bs f2 := by rw [hf2]; exact bs_app _ _
        have nzf2 : ¬ (9223372036854775807 < (bs f1).size + (bs K).size) := by have := HKL.out; have := Lf1.out; simp only [bs_size]; omega
        have Lf2 : Hid (f2.length ≤ 4000) := Lib.hid (by have := HKL.out; have := Lf1.out; rw [hf2, List.length_append]; omega)
        obtain ⟨f3, hf3⟩ : ∃ t : By, t = f2 ++ [10] := ⟨_, rfl⟩
        have apf3 : bs f2 ++ ({ data := #[10] } : ByteArray) = bs f3 := by rw [hf3]; exact bs_app _ _
        have nzf3 : ¬ (9223372036854775807 < (bs f2).size + 1) := by have := Lf2.out; rw [bs_size]; omega
        have Lf3 : Hid (f3.length ≤ 5000) := Lib.hid (by have := Lf2.out; rw [hf3, List.length_append]; simp only [List.length_cons, List.length_nil]; omega)
        have Ef3 : Hid (f3 = st ++ [102, 105, 101, 108, 100, 32] ++ K ++ [10]) := Lib.hid (by rw [hf3, hf2, hf1])
        clear hf1 hf2 hf3
        go_wp2_with fail
        refine HKN.out.mono ?_
        rintro e w5 ⟨rfl, rfl⟩
        go_wp2_with fail
        go_roundw
        case rel => exact ⟨k + 1, f3, hlt, by go_num, rfl, Lib.hid (by rw [Ef3.out, HT1.out, HX1.out, fieldL_eq, HST.out, HKE.out]; simp only [List.append_assoc]), HK⟩
        case measure => simp [RowKit.intOf]; omega
      · obtain rfl : I.fields.length = k := by omega
        have c2 := (tCell (HBL.out wr HK.out).1 2).1
        simp at c2
        go_wp2_with fail
        have HS5 : Hid (st.length ≤ 1000) := Lib.hid (by
          have h1 := HL1.out
          have h2 := flat_len fieldL 100 (I.fields.take I.fields.length) (fun y _ => fieldL_len y)
          have h4 := HN.out.fields
          rw [List.length_take] at h2
          rw [HST.out, List.length_append]
          omega)
        obtain ⟨s5, hs5⟩ : ∃ s5, s5 = st := ⟨_, rfl⟩
        rw [← hs5] at HS5 HST
        have HE5 : Hid (s5 = nameL I.name ++ I.fields.flatMap fieldL) := Lib.hid (by rw [HST.out, List.take_length, HE1.out])
        subst hs5
        obtain ⟨wF, hwF⟩ : ∃ wF, wF = wr := ⟨_, rfl⟩
        subst hwF
        have HUF := HK
        clear HST HK hk hlt c1 c2
        go_loopw [6, 4] (fun iv sv wr => ∃ (k : Nat) (st : By), k ≤ I.imports.length ∧ iv = .int .i64 k ∧ sv = .string (bs st) ∧ Hid (st = s5 ++ (I.imports.take k).flatMap impL) ∧ Hid (Upd (fun _ => False) w2 wr)) (fun iv _ _ => I.imports.length - (RowKit.intOf iv).toNat)
        case atStart => exact ⟨0, s5, Nat.zero_le _, rfl, rfl, Lib.hid (by simp), HUF⟩
        case round =>
          obtain ⟨k, st, hk, rfl, rfl, HST, HK⟩ := hrel
          have c1 := (tCell (HBL.out wr HK.out).1 2).1
          simp at c1
          have HIL : Hid (∀ y ∈ I.imports, wi64 y.exp) := Lib.hid (fun y hy => by
            obtain ⟨p, -, -, hall⟩ := (img_parts (HBL.out w2 HUR.out).2).2.1
            exact (hall y hy).1)
          have HSL : Hid (st.length ≤ 6000) := Lib.hid (by
            have h1 := HS5.out
            have h2 : ((I.imports.take k).flatMap impL).length ≤ 1000 * (I.imports.take k).length := flat_len impL 1000 (I.imports.take k) (fun y hy => by
              have hy2 := List.mem_of_mem_take hy
              exact impL_len y (HN.out.imp y hy2).1 (HN.out.imp y hy2).2 (HIL.out y hy2))
            have h4 := HN.out.imports
            rw [HST.out, List.length_append]
            rw [List.length_take] at h2
            omega)
          by_cases hlt : k < I.imports.length
          · obtain ⟨p, ⟨a', c', he, -, -, hcs⟩, hpar, hall⟩ := (img_parts (HBL.out wr HK.out).2).2.1
            obtain ⟨g, off, hg, hcs2⟩ := hcs.resolve_left (by omega)
            simp at he
            obtain ⟨rfl, rfl⟩ := he
            subst hg
            obtain ⟨x, hx⟩ : ∃ x, x = I.imports.getD k default := ⟨_, rfl⟩
            have hmem : x ∈ I.imports := by rw [hx]; simp [List.getD, hlt]
            have hpx := hpar k hlt
            rw [← hx] at hpx
            obtain ⟨pa, pc, hpe, -⟩ := ints_at hpx (Upd.refl _ wr)
            rw [hpe] at hpx
            obtain ⟨nx, hnx⟩ : ∃ nx, nx = x.name.data.toList := ⟨_, rfl⟩
            have hne : x.name = bs nx := by rw [hnx]; exact bs_name _
            have i0 : wr.cell? ⟨g, off + k * 4, none⟩ = some (.string (bs nx)) := by rw [← hne, hx]; exact hcs2 k hlt 0 (by omega)
            have i1 : wr.cell? ⟨g, off + k * 4 + 1, none⟩ = some (.int .i64 x.exp) := by rw [hx]; exact hcs2 k hlt 1 (by omega)
            have i2 : wr.cell? ⟨g, off + k * 4 + 2, none⟩ = some (.slice pa x.params.length pc) := by rw [← hpe]; exact hcs2 k hlt 2 (by omega)
            have i3 : wr.cell? ⟨g, off + k * 4 + 3, none⟩ = some (.int .i64 x.res) := by rw [hx]; exact hcs2 k hlt 3 (by omega)
            have HT1 := Lib.hid (flat_take impL I.imports k hlt)
            rw [← hx] at HT1
            have hk3 : (k : Int) + 1 ≤ 9223372036854775807 := by have := HN.out.imports; omega
            have hki : (k : Int) < (I.imports.length : Int) := by omega
            have hk0 : (0 : Int) ≤ (k : Int) := by omega
            have HXB := Lib.hid (HN.out.imp x hmem)
            have HXE : Hid (wi64 x.exp) := Lib.hid (hall x hmem).1
            obtain ⟨wA, hwA⟩ : ∃ wA, wA = wr.alloc (.cells #[.string (bs nx), .int .i64 x.exp, .slice pa x.params.length pc, .int .i64 x.res] IMP) := ⟨_, rfl⟩
            have HWA := Lib.hid hwA
            have huA : Upd (fun _ => False) wr wA := by rw [hwA]; exact Upd.alloc (fun _ => False) _ _
            have hbY : wA.heap[wr.heap.size]? = some (.cells #[.string (bs nx), .int .i64 x.exp, .slice pa x.params.length pc, .int .i64 x.res] IMP (0, 0)) := by rw [hwA]; exact hp_new wr _ _ rfl
            have HKA := Lib.hid (HK.out.trans huA (fun _ h _ => h))
            have HPI := Lib.hid (hpx.later (upd_below huA))
            obtain ⟨Y, hY⟩ : ∃ Y, Y = wr.heap.size := ⟨_, rfl⟩
            rw [← hY] at hbY
            have HY := Lib.hid hY
            have HYC : Hid (∀ u, Upd (fun _ => False) wA u → u.cell? ⟨Y, 0, none⟩ = some (.string (bs nx)) ∧ u.cell? ⟨Y, 1, none⟩ = some (.int .i64 x.exp) ∧ u.cell? ⟨Y, 2, none⟩ = some (.slice pa x.params.length pc) ∧ u.cell? ⟨Y, 3, none⟩ = some (.int .i64 x.res)) := Lib.hid (fun u hu => by
              have hb := tBlk hu hbY (fun h => h)
              exact ⟨(tCell hb 0).1, (tCell hb 1).1, (tCell hb 2).1, (tCell hb 3).1⟩)
            have HNX : Hid (nx.length ≤ 16) := Lib.hid (by rw [hnx]; have := HXB.out.1; have h2 : x.name.data.toList.length = x.name.size := Array.length_toList; omega)
            have HNXE := Lib.hid hnx
            have HDC : Hid (∀ u, Calls Tryz.prog 21 #[.int .i64 x.exp] u fun e w' => e = .returned (.string (bs (itoa x.exp))) ∧ Upd (fun _ => False) u w') := Lib.hid (fun u => rDigits x.exp HXE.out u)
            have HKC : Hid (∀ u, Calls Tryz.prog 11 #[.int .i64 x.res] u fun e w' => e = .returned (.string (bs (kindT x.res))) ∧ u = w') := Lib.hid (fun u => rKindName x.res u)
            have HPC : Hid (∀ u, Upd (fun _ => False) wA u → Calls Tryz.prog 22 #[.slice pa x.params.length pc] u fun e w' => e = .returned (.string (bs (tl (x.params.map kindT)))) ∧ u = w') := Lib.hid (fun u hu => rWords u _ x.params (HPI.out.later (upd_below hu)) (by have := HXB.out.2; omega))
            obtain ⟨D, hD⟩ : ∃ D, D = itoa x.exp := ⟨_, rfl⟩
            obtain ⟨K, hK⟩ : ∃ K, K = kindT x.res := ⟨_, rfl⟩
            obtain ⟨P, hP⟩ : ∃ P, P = tl (x.params.map kindT) := ⟨_, rfl⟩
            rw [← hD] at HDC
            rw [← hK] at HKC
            rw [← hP] at HPC
            have HDL : Hid (D.length ≤ 25) := Lib.hid (by rw [hD]; have := itoa_length_le x.exp HXE.out.1 HXE.out.2; omega)
            have HKL : Hid (K.length ≤ 4) := Lib.hid (by rw [hK]; exact kindT_len _)
            have HPL : Hid (P.length ≤ 20) := Lib.hid (by rw [hP]; have := tl_len4 x.params; have := HXB.out.2; omega)
            have HLE : Hid (impL x = [105, 109, 112, 111, 114, 116, 32] ++ nx ++ [32] ++ D ++ [32] ++ K ++ P ++ [10]) := Lib.hid (by rw [impL_eq, hD, hK, hP, hnx])
            have HRD := Lib.hid (Upd.drew (fun _ => False) wA)
            clear hcs hcs2 hpar hall hx hmem hpe hpx huA hwA hY hbY hne hnx hD hK hP
            obtain ⟨g1, hg1⟩ : ∃ t : By, t = st ++ [105, 109, 112, 111, 114, 116, 32] := ⟨_, rfl⟩
            have apg1 : bs st ++ ({ data := #[105, 109, 112, 111, 114, 116, 32] } : ByteArray) = bs g1 := by rw [hg1]; exact bs_app _ _
            have nzg1 : ¬ (9223372036854775807 < (bs st).size + 7) := by have := HSL.out; rw [bs_size]; omega
            have Lg1 : Hid (g1.length ≤ 11000) := Lib.hid (by have := HSL.out; rw [hg1, List.length_append]; simp only [List.length_cons, List.length_nil]; omega)
            obtain ⟨g2, hg2⟩ : ∃ t : By, t = g1 ++ nx := ⟨_, rfl⟩
            have apg2 : bs g1 ++ bs nx = bs g2 := by rw [hg2]; exact bs_app _ _
            have nzg2 : ¬ (9223372036854775807 < (bs g1).size + (bs nx).size) := by have := HNX.out; have := Lg1.out; simp only [bs_size]; omega
            have Lg2 : Hid (g2.length ≤ 12000) := Lib.hid (by have := HNX.out; have := Lg1.out; rw [hg2, List.length_append]; omega)
            obtain ⟨g3, hg3⟩ : ∃ t : By, t = g2 ++ [32] := ⟨_, rfl⟩
            have apg3 : bs g2 ++ ({ data := #[32] } : ByteArray) = bs g3 := by rw [hg3]; exact bs_app _ _
            have nzg3 : ¬ (9223372036854775807 < (bs g2).size + 1) := by have := Lg2.out; rw [bs_size]; omega
            have Lg3 : Hid (g3.length ≤ 13000) := Lib.hid (by have := Lg2.out; rw [hg3, List.length_append]; simp only [List.length_cons, List.length_nil]; omega)
            obtain ⟨g4, hg4⟩ : ∃ t : By, t = g3 ++ D := ⟨_, rfl⟩
            have apg4 : bs g3 ++ bs D = bs g4 := by rw [hg4]; exact bs_app _ _
            have nzg4 : ¬ (9223372036854775807 < (bs g3).size + (bs D).size) := by have := HDL.out; have := Lg3.out; simp only [bs_size]; omega
            have Lg4 : Hid (g4.length ≤ 14000) := Lib.hid (by have := HDL.out; have := Lg3.out; rw [hg4, List.length_append]; omega)
            obtain ⟨g5, hg5⟩ : ∃ t : By, t = g4 ++ [32] := ⟨_, rfl⟩
            have apg5 : bs g4 ++ ({ data := #[32] } : ByteArray) = bs g5 := by rw [hg5]; exact bs_app _ _
            have nzg5 : ¬ (9223372036854775807 < (bs g4).size + 1) := by have := Lg4.out; rw [bs_size]; omega
            have Lg5 : Hid (g5.length ≤ 15000) := Lib.hid (by have := Lg4.out; rw [hg5, List.length_append]; simp only [List.length_cons, List.length_nil]; omega)
            obtain ⟨g6, hg6⟩ : ∃ t : By, t = g5 ++ K := ⟨_, rfl⟩
            have apg6 : bs g5 ++ bs K = bs g6 := by rw [hg6]; exact bs_app _ _
            have nzg6 : ¬ (9223372036854775807 < (bs g5).size + (bs K).size) := by have := HKL.out; have := Lg5.out; simp only [bs_size]; omega
            have Lg6 : Hid (g6.length ≤ 16000) := Lib.hid (by have := HKL.out; have := Lg5.out; rw [hg6, List.length_append]; omega)
            obtain ⟨g7, hg7⟩ : ∃ t : By, t = g6 ++ P := ⟨_, rfl⟩
            have apg7 : bs g6 ++ bs P = bs g7 := by rw [hg7]; exact bs_app _ _
            have nzg7 : ¬ (9223372036854775807 < (bs g6).size + (bs P).size) := by have := HPL.out; have := Lg6.out; simp only [bs_size]; omega
            have Lg7 : Hid (g7.length ≤ 17000) := Lib.hid (by have := HPL.out; have := Lg6.out; rw [hg7, List.length_append]; omega)
            obtain ⟨g8, hg8⟩ : ∃ t : By, t = g7 ++ [10] := ⟨_, rfl⟩
            have apg8 : bs g7 ++ ({ data := #[10] } : ByteArray) = bs g8 := by rw [hg8]; exact bs_app _ _
            have nzg8 : ¬ (9223372036854775807 < (bs g7).size + 1) := by have := Lg7.out; rw [bs_size]; omega
            have Lg8 : Hid (g8.length ≤ 18000) := Lib.hid (by have := Lg7.out; rw [hg8, List.length_append]; simp only [List.length_cons, List.length_nil]; omega)
            have Eg8 : Hid (g8 = st ++ [105, 109, 112, 111, 114, 116, 32] ++ nx ++ [32] ++ D ++ [32] ++ K ++ P ++ [10]) := Lib.hid (by rw [hg8, hg7, hg6, hg5, hg4, hg3, hg2, hg1])
            clear hg1 hg2 hg3 hg4 hg5 hg6 hg7 hg8
            go_wp2_with fail
            rw [← HY.out, ← HWA.out]
            go_region_held3 (fun u => u.cell? ⟨Y, 0, none⟩ = some (.string (bs nx)) ∧ u.cell? ⟨Y, 1, none⟩ = some (.int .i64 x.exp) ∧ u.cell? ⟨Y, 2, none⟩ = some (.slice pa x.params.length pc) ∧ u.cell? ⟨Y, 3, none⟩ = some (.int .i64 x.res)) (first
              | with_reducible exact HYC.out _ HRD.out
              | with_reducible exact HYC.out _ HU6.out) ((first
              | (go_at_call 21; (refine (HDC.out _).mono ?_); rintro e w6 ⟨rfl, hu6⟩; have HU6 := Lib.hid (HRD.out.trans hu6 (fun _ h _ => h)); clear hu6)
              | (go_at_call 11; (refine (HKC.out _).mono ?_); rintro e w7 ⟨rfl, rfl⟩)
              | (go_at_call 22; (refine (HPC.out _ HU6.out).mono ?_); rintro e w8 ⟨rfl, rfl⟩)))
            all_goals
              have HK6 := Lib.hid (HKA.out.trans HU6.out (fun _ h _ => h))
              go_wp2_with fail
              go_roundw
              case rel => exact ⟨k + 1, g8, hlt, by go_num, rfl, Lib.hid (by rw [Eg8.out, HT1.out, HLE.out, HST.out]; simp only [List.append_assoc]), HK6⟩
              case measure => simp [RowKit.intOf]; omega
          · obtain rfl : I.imports.length = k := by omega
            have c2 := (tCell (HBL.out wr HK.out).1 3).1
            simp at c2
            go_wp2_with fail
            obtain ⟨s6, hs6⟩ : ∃ s6, s6 = st := ⟨_, rfl⟩
            rw [← hs6] at HSL HST
            have HE6 : Hid (s6 = s5 ++ I.imports.flatMap impL) := Lib.hid (by rw [HST.out, List.take_length])
            subst hs6
            have HS6 := HSL
            obtain ⟨wG, hwG⟩ : ∃ wG, wG = wr := ⟨_, rfl⟩
            subst hwG
            have HUG := HK
            clear HST HSL HK hk hlt c1 c2
            go_loopw [8, 4] (fun iv sv wr => ∃ (k : Nat) (st : By), k ≤ I.methods.length ∧ iv = .int .i64 k ∧ sv = .string (bs st) ∧ Hid (st = s6 ++ (I.methods.take k).flatMap metL) ∧ Hid (Upd (fun _ => False) w2 wr)) (fun iv _ _ => I.methods.length - (RowKit.intOf iv).toNat)
            case atStart => exact ⟨0, s6, Nat.zero_le _, rfl, rfl, Lib.hid (by simp), HUG⟩
            case round =>
              obtain ⟨k, st, hk, rfl, rfl, HST, HK⟩ := hrel
              have c1 := (tCell (HBL.out wr HK.out).1 3).1
              simp at c1
              have HMO : Hid (∀ y ∈ I.methods, ∀ z ∈ y.code, okIn z) := Lib.hid (fun y hy => by
                obtain ⟨p, q, r, -, hpar, -⟩ := (img_parts (HBL.out w2 HUR.out).2).2.2.1
                obtain ⟨i, hi, rfl⟩ := List.getElem_of_mem hy
                have := (hpar i hi).2.2.2
                have e : I.methods.getD i default = I.methods[i] := by simp [List.getD, hi]
                rw [e] at this
                exact this)
              have HSL : Hid (st.length ≤ 1000000) := Lib.hid (by
                have h1 := HS6.out
                have h2 := flat_len metL 110000 (I.methods.take k) (fun y hy => metL_len y (HN.out.met y (List.mem_of_mem_take hy)) (HMO.out y (List.mem_of_mem_take hy)))
                have h4 := HN.out.methods
                rw [HST.out, List.length_append]
                rw [List.length_take] at h2
                omega)
              by_cases hlt : k < I.methods.length
              · obtain ⟨p, q, r, ⟨a', c', he, -, -, hcs⟩, hpar, hall⟩ := (img_parts (HBL.out wr HK.out).2).2.2.1
                obtain ⟨g, off, hg, hcs2⟩ := hcs.resolve_left (by omega)
                simp at he
                obtain ⟨rfl, rfl⟩ := he
                subst hg
                obtain ⟨x, hx⟩ : ∃ x, x = I.methods.getD k default := ⟨_, rfl⟩
                have hmem : x ∈ I.methods := by rw [hx]; simp [List.getD, hlt]
                have hpx := hpar k hlt
                rw [← hx] at hpx
                obtain ⟨hp1, hp2, hp3⟩ := hpx
                obtain ⟨pa, pc, hpe, -⟩ := ints_at hp1 (Upd.refl _ wr)
                obtain ⟨qa, qc, hqe, -⟩ := ints_at hp2 (Upd.refl _ wr)
                obtain ⟨ra, rc, hre⟩ : ∃ a c, r k = .slice a x.code.length c := by obtain ⟨a, c, h, -⟩ := hp3.1; exact ⟨a, c, h⟩
                have i0 : wr.cell? ⟨g, off + k * 4, none⟩ = some (.slice pa x.params.length pc) := by rw [← hpe]; exact hcs2 k hlt 0 (by omega)
                have i1 : wr.cell? ⟨g, off + k * 4 + 1, none⟩ = some (.int .i64 x.res) := by rw [hx]; exact hcs2 k hlt 1 (by omega)
                have i2 : wr.cell? ⟨g, off + k * 4 + 2, none⟩ = some (.slice qa x.locals.length qc) := by rw [← hqe]; exact hcs2 k hlt 2 (by omega)
                have i3 : wr.cell? ⟨g, off + k * 4 + 3, none⟩ = some (.slice ra x.code.length rc) := by rw [← hre]; exact hcs2 k hlt 3 (by omega)
                rw [hpe] at hp1
                rw [hqe] at hp2
                rw [hre] at hp3
                have HT1 := Lib.hid (flat_take metL I.methods k hlt)
                rw [← hx] at HT1
                have hk3 : (k : Int) + 1 ≤ 9223372036854775807 := by have := HN.out.methods; omega
                have hki : (k : Int) < (I.methods.length : Int) := by omega
                have hk0 : (0 : Int) ≤ (k : Int) := by omega
                have HXB := Lib.hid (HN.out.met x hmem)
                have HXO := Lib.hid (HMO.out x hmem)
                obtain ⟨wA, hwA⟩ : ∃ wA, wA = wr.alloc (.cells #[.slice pa x.params.length pc, .int .i64 x.res, .slice qa x.locals.length qc, .slice ra x.code.length rc] MET) := ⟨_, rfl⟩
                have HWA := Lib.hid hwA
                have huA : Upd (fun _ => False) wr wA := by rw [hwA]; exact Upd.alloc (fun _ => False) _ _
                have hbY : wA.heap[wr.heap.size]? = some (.cells #[.slice pa x.params.length pc, .int .i64 x.res, .slice qa x.locals.length qc, .slice ra x.code.length rc] MET (0, 0)) := by rw [hwA]; exact hp_new wr _ _ rfl
                have HKA := Lib.hid (HK.out.trans huA (fun _ h _ => h))
                have HP1 := Lib.hid (hp1.later (upd_below huA))
                have HP2 := Lib.hid (hp2.later (upd_below huA))
                have HP3 := Lib.hid (hp3.later (upd_below huA))
                obtain ⟨Y, hY⟩ : ∃ Y, Y = wr.heap.size := ⟨_, rfl⟩
                rw [← hY] at hbY
                have HY := Lib.hid hY
                have HYC : Hid (∀ u, Upd (fun _ => False) wA u → u.cell? ⟨Y, 0, none⟩ = some (.slice pa x.params.length pc) ∧ u.cell? ⟨Y, 1, none⟩ = some (.int .i64 x.res) ∧ u.cell? ⟨Y, 2, none⟩ = some (.slice qa x.locals.length qc) ∧ u.cell? ⟨Y, 3, none⟩ = some (.slice ra x.code.length rc)) := Lib.hid (fun u hu => by
                  have hb := tBlk hu hbY (fun h => h)
                  exact ⟨(tCell hb 0).1, (tCell hb 1).1, (tCell hb 2).1, (tCell hb 3).1⟩)
                have HKC : Hid (∀ u, Calls Tryz.prog 11 #[.int .i64 x.res] u fun e w' => e = .returned (.string (bs (kindT x.res))) ∧ u = w') := Lib.hid (fun u => rKindName x.res u)
                have HPC : Hid (∀ u, Upd (fun _ => False) wA u → Calls Tryz.prog 22 #[.slice pa x.params.length pc] u fun e w' => e = .returned (.string (bs (tl (x.params.map kindT)))) ∧ u = w') := Lib.hid (fun u hu => rWords u _ x.params (HP1.out.later (upd_below hu)) (by have := HXB.out.1; omega))
                have HQC : Hid (∀ u, Upd (fun _ => False) wA u → Calls Tryz.prog 22 #[.slice qa x.locals.length qc] u fun e w' => e = .returned (.string (bs (tl (x.locals.map kindT)))) ∧ u = w') := Lib.hid (fun u hu => rWords u _ x.locals (HP2.out.later (upd_below hu)) (by have := HXB.out.2.1; omega))
                obtain ⟨K, hK⟩ : ∃ K, K = kindT x.res := ⟨_, rfl⟩
                obtain ⟨P, hP⟩ : ∃ P, P = tl (x.params.map kindT) := ⟨_, rfl⟩
                obtain ⟨Q, hQ⟩ : ∃ Q, Q = tl (x.locals.map kindT) := ⟨_, rfl⟩
                rw [← hK] at HKC
                rw [← hP] at HPC
                rw [← hQ] at HQC
                have HKL : Hid (K.length ≤ 4) := Lib.hid (by rw [hK]; exact kindT_len _)
                have HPL : Hid (P.length ≤ 500) := Lib.hid (by rw [hP]; have := tl_len4 x.params; have := HXB.out.1; omega)
                have HQL : Hid (Q.length ≤ 500) := Lib.hid (by rw [hQ]; have := tl_len4 x.locals; have := HXB.out.2.1; omega)
                have HLE : Hid (headT x = [109, 101, 116, 104, 111, 100, 32] ++ K ++ P ++ [10] ++ locT x.locals) := Lib.hid (by rw [headT_eq, hK, hP])
                have HQE := Lib.hid hQ
                have HRD := Lib.hid (Upd.drew (fun _ => False) wA)
                clear hcs hcs2 hpar hall hx hmem hpe hqe hre hp1 hp2 hp3 huA hwA hY hbY hK hP hQ
                obtain ⟨g1, hg1⟩ : ∃ t : By, t = st ++ [109, 101, 116, 104, 111, 100, 32] := ⟨_, rfl⟩
                have apg1 : bs st ++ ({ data := #[109, 101, 116, 104, 111, 100, 32] } : ByteArray) = bs g1 := by rw [hg1]; exact bs_app _ _
                have nzg1 : ¬ (9223372036854775807 < (bs st).size + 7) := by have := HSL.out; rw [bs_size]; omega
                have Lg1 : Hid (g1.length ≤ 1011000) := Lib.hid (by have := HSL.out; rw [hg1, List.length_append]; simp only [List.length_cons, List.length_nil]; omega)
                obtain ⟨g2, hg2⟩ : ∃ t : By, t = g1 ++ K := ⟨_, rfl⟩
                have apg2 : bs g1 ++ bs K = bs g2 := by rw [hg2]; exact bs_app _ _
                have nzg2 : ¬ (9223372036854775807 < (bs g1).size + (bs K).size) := by have := HKL.out; have := Lg1.out; simp only [bs_size]; omega
                have Lg2 : Hid (g2.length ≤ 1012000) := Lib.hid (by have := HKL.out; have := Lg1.out; rw [hg2, List.length_append]; omega)
                obtain ⟨g3, hg3⟩ : ∃ t : By, t = g2 ++ P := ⟨_, rfl⟩
                have apg3 : bs g2 ++ bs P = bs g3 := by rw [hg3]; exact bs_app _ _
                have nzg3 : ¬ (9223372036854775807 < (bs g2).size + (bs P).size) := by have := HPL.out; have := Lg2.out; simp only [bs_size]; omega
                have Lg3 : Hid (g3.length ≤ 1013000) := Lib.hid (by have := HPL.out; have := Lg2.out; rw [hg3, List.length_append]; omega)
                obtain ⟨g4, hg4⟩ : ∃ t : By, t = g3 ++ [10] := ⟨_, rfl⟩
                have apg4 : bs g3 ++ ({ data := #[10] } : ByteArray) = bs g4 := by rw [hg4]; exact bs_app _ _
                have nzg4 : ¬ (9223372036854775807 < (bs g3).size + 1) := by have := Lg3.out; rw [bs_size]; omega
                have Lg4 : Hid (g4.length ≤ 1014000) := Lib.hid (by have := Lg3.out; rw [hg4, List.length_append]; simp only [List.length_cons, List.length_nil]; omega)
                have Eg4 : Hid (g4 = st ++ [109, 101, 116, 104, 111, 100, 32] ++ K ++ P ++ [10]) := Lib.hid (by rw [hg4, hg3, hg2, hg1])
                clear hg1 hg2 hg3 hg4
                go_wp2_with fail
                rw [← HY.out, ← HWA.out]
                go_region_held3 (fun u => u.cell? ⟨Y, 0, none⟩ = some (.slice pa x.params.length pc) ∧ u.cell? ⟨Y, 1, none⟩ = some (.int .i64 x.res) ∧ u.cell? ⟨Y, 2, none⟩ = some (.slice qa x.locals.length qc) ∧ u.cell? ⟨Y, 3, none⟩ = some (.slice ra x.code.length rc)) (with_reducible exact HYC.out _ HRD.out) ((first
                  | (go_at_call 11; (refine (HKC.out _).mono ?_); rintro e w7 ⟨rfl, rfl⟩)
                  | (go_at_call 22; (refine (HPC.out _ HRD.out).mono ?_); rintro e w8 ⟨rfl, rfl⟩)))
                obtain ⟨wB, hwB⟩ : ∃ wB, wB = wA.drew := ⟨_, rfl⟩
                rw [← hwB] at HRD
                rw [← hwB]
                have HKB := Lib.hid (HKA.out.trans HRD.out (fun _ h _ => h))
                clear hwB i0 i1 i2 i3
                have hcl : ∃ sL : By, Hid (sL = g4 ++ locT x.locals) ∧ Hid (sL.length ≤ 1020000) := by
                  refine ⟨_, Lib.hid rfl, Lib.hid ?_⟩
                  rw [List.length_append]
                  have h1 := Lg4.out
                  by_cases h0 : x.locals = []
                  · rw [h0]; simp [locT]; omega
                  · rw [locT_some h0, ← HQE.out]
                    have := HQL.out
                    simp only [List.length_append, List.length_cons, List.length_nil]
                    omega
                obtain ⟨sL, HSE, HSLL⟩ := hcl
                obtain ⟨y0, y1, y2, y3⟩ := HYC.out wB HRD.out
                rcases Nat.eq_zero_or_pos x.locals.length with hl0 | hl0
                case' inl =>
                  have hn0 : decide ((0 : Int) < (x.locals.length : Int)) = false := decide_eq_false (by omega)
                  have hsl : sL = g4 := by
                    have : x.locals = [] := List.length_eq_zero_iff.1 hl0
                    rw [HSE.out, this]
                    exact List.append_nil _
                  subst hsl
                  clear hl0 apg1 apg2 apg3 apg4 nzg1 nzg2 nzg3 nzg4
                  obtain ⟨nl, hnl⟩ : ∃ nl, nl = x.locals.length := ⟨_, rfl⟩
                  rw [← hnl] at y2 hn0
                  have hn1 : ¬ (0 < nl) := by simpa using hn0
                  clear hnl hn0
                  have hn0 : True := trivial
                  go_wp2_with fail
                case' inr =>
                  have hn0 : decide ((0 : Int) < (x.locals.length : Int)) = true := decide_eq_true (by omega)
                  have HLN : Hid (x.locals ≠ []) := Lib.hid (by intro h; rw [h] at hl0; simp at hl0)
                  clear hl0
                  obtain ⟨l1, hl1⟩ : ∃ t : By, t = g4 ++ [108, 111, 99, 97, 108, 115] := ⟨_, rfl⟩
                  have apl1 : bs g4 ++ ({ data := #[108, 111, 99, 97, 108, 115] } : ByteArray) = bs l1 := by rw [hl1]; exact bs_app _ _
                  have nzl1 : ¬ (9223372036854775807 < (bs g4).size + 6) := by have := Lg4.out; rw [bs_size]; omega
                  have Ll1 : Hid (l1.length ≤ 1021000) := Lib.hid (by have := Lg4.out; rw [hl1, List.length_append]; simp only [List.length_cons, List.length_nil]; omega)
                  obtain ⟨l2, hl2⟩ : ∃ t : By, t = l1 ++ Q := ⟨_, rfl⟩
                  have apl2 : bs l1 ++ bs Q = bs l2 := by rw [hl2]; exact bs_app _ _
                  have nzl2 : ¬ (9223372036854775807 < (bs l1).size + (bs Q).size) := by have := HQL.out; have := Ll1.out; simp only [bs_size]; omega
                  have Ll2 : Hid (l2.length ≤ 1022000) := Lib.hid (by have := HQL.out; have := Ll1.out; rw [hl2, List.length_append]; omega)
                  obtain ⟨l3, hl3⟩ : ∃ t : By, t = l2 ++ [10] := ⟨_, rfl⟩
                  have apl3 : bs l2 ++ ({ data := #[10] } : ByteArray) = bs l3 := by rw [hl3]; exact bs_app _ _
                  have nzl3 : ¬ (9223372036854775807 < (bs l2).size + 1) := by have := Ll2.out; rw [bs_size]; omega
                  have Ll3 : Hid (l3.length ≤ 1023000) := Lib.hid (by have := Ll2.out; rw [hl3, List.length_append]; simp only [List.length_cons, List.length_nil]; omega)
                  have El3 : Hid (l3 = g4 ++ [108, 111, 99, 97, 108, 115] ++ Q ++ [10]) := Lib.hid (by rw [hl3, hl2, hl1])
                  clear hl1 hl2 hl3
                  have HSL2 := Lib.hid (show l3 = sL by rw [El3.out, HSE.out, locT_some HLN.out, HQE.out]; simp only [List.append_assoc])
                  clear apg1 apg2 apg3 apg4 nzg1 nzg2 nzg3 nzg4
                  obtain ⟨nl, hnl⟩ : ∃ nl, nl = x.locals.length := ⟨_, rfl⟩
                  have HQC2 := Lib.hid (HQC.out wB HRD.out)
                  rw [← hnl] at y2 hn0 HQC2
                  have hn1 : 0 < nl := by simpa using hn0
                  clear hnl hn0
                  have hn0 : True := trivial
                  go_wp2_with fail
                  refine HQC2.out.mono ?_
                  rintro e w7 ⟨rfl, rfl⟩
                  go_wp2_with fail
                  rw [HSL2.out]
                all_goals clear y0 y1 y2 y3 hn0
                all_goals (
                  have HNC : Hid (x.code.length ≤ 1000) := Lib.hid HXB.out.2.2
                  go_loopw [10, 4] (fun iv sv wr => ∃ (j : Nat) (tt : By), j ≤ x.code.length ∧ iv = .int .i64 j ∧ sv = .string (bs tt) ∧ Hid (tt = sL ++ codeT (x.code.take j)) ∧ Hid (Upd (fun _ => False) wA wr)) (fun iv _ _ => x.code.length - (RowKit.intOf iv).toNat)
                  case atStart => exact ⟨0, sL, Nat.zero_le _, rfl, rfl, Lib.hid (by simp [codeT]), HRD⟩
                  case round =>
                    obtain ⟨j, tt, hj, rfl, rfl, HTT, HJ⟩ := hrel
                    obtain ⟨y0, y1, y2, y3⟩ := HYC.out wr HJ.out
                    clear y0 y1 y2
                    have HTL : Hid (tt.length ≤ 1130000) := Lib.hid (by
                      have h1 := HSLL.out
                      have h2 := codeT_len (x.code.take j) (fun y hy => HXO.out y (List.mem_of_mem_take hy))
                      have h3 := HNC.out
                      rw [HTT.out, List.length_append]
                      rw [List.length_take] at h2
                      omega)
                    by_cases hlt2 : j < x.code.length
                    · obtain ⟨⟨a', c', he, -, -, hcs⟩, -⟩ := HP3.out.later (upd_below HJ.out)
                      obtain ⟨cg, co, hca, hcs2⟩ := hcs.resolve_left (by omega)
                      simp at he
                      obtain ⟨rfl, rfl⟩ := he
                      subst hca
                      obtain ⟨y, hy⟩ : ∃ y, y = x.code.getD j default := ⟨_, rfl⟩
                      have i0 : wr.cell? ⟨cg, co + j * 3, none⟩ = some (.int .i64 y.op) := by rw [hy]; exact hcs2 j hlt2 0 (by omega)
                      have i1 : wr.cell? ⟨cg, co + j * 3 + 1, none⟩ = some (.int .i64 y.a) := by rw [hy]; exact hcs2 j hlt2 1 (by omega)
                      have i2 : wr.cell? ⟨cg, co + j * 3 + 2, none⟩ = some (.int .i64 y.b) := by rw [hy]; exact hcs2 j hlt2 2 (by omega)
                      have HT : Hid (codeT (x.code.take (j + 1)) = codeT (x.code.take j) ++ lineT (insT y)) := Lib.hid (by
                        unfold codeT
                        rw [List.take_add_one, List.flatMap_append, List.getElem?_eq_getElem hlt2, hy]
                        simp [List.getD, hlt2])
                      have HYO : Hid (okIn y) := Lib.hid (HXO.out y (by rw [hy]; simp [List.getD, hlt2]))
                      have hj3 : (j : Int) + 1 ≤ 9223372036854775807 := by have := HNC.out; omega
                      have hji : (j : Int) < (x.code.length : Int) := by omega
                      have hj0 : (0 : Int) ≤ (j : Int) := by omega
                      obtain ⟨wC, hwC⟩ : ∃ wC, wC = wr.alloc (.cells #[.int .i64 y.op, .int .i64 y.a, .int .i64 y.b] 41) := ⟨_, rfl⟩
                      have HWC := Lib.hid hwC
                      have huC : Upd (fun _ => False) wr wC := by rw [hwC]; exact Upd.alloc (fun _ => False) _ _
                      have HJC := Lib.hid (HJ.out.trans huC (fun _ h _ => h))
                      have hbZ : wC.heap[wr.heap.size]? = some (.cells #[.int .i64 y.op, .int .i64 y.a, .int .i64 y.b] 41 (0, 0)) := by rw [hwC]; exact hp_new wr _ _ rfl
                      obtain ⟨Z, hZ⟩ : ∃ Z, Z = wr.heap.size := ⟨_, rfl⟩
                      rw [← hZ] at hbZ
                      have HZ := Lib.hid hZ
                      have HZC : Hid (∀ u, Upd (fun _ => False) wC u → u.cell? ⟨Z, 0, none⟩ = some (.int .i64 y.op) ∧ u.cell? ⟨Z, 1, none⟩ = some (.int .i64 y.a) ∧ u.cell? ⟨Z, 2, none⟩ = some (.int .i64 y.b)) := Lib.hid (fun u hu => by
                        have hb := tBlk hu hbZ (fun h => h)
                        exact ⟨(tCell hb 0).1, (tCell hb 1).1, (tCell hb 2).1⟩)
                      have HNMC : Hid (∀ u, Calls Tryz.prog 23 #[.int .i64 y.op] u fun e w' => e = .returned (.string (bs (nmT y.op))) ∧ Upd (fun _ => False) u w') := Lib.hid (fun u => by
                        refine (rName y.op u).mono ?_
                        rintro e w' ⟨rfl, hu⟩
                        exact ⟨by unfold nmT; rw [← bs_name], hu⟩)
                      have HAC : Hid (∀ u, Calls Tryz.prog 21 #[.int .i64 y.a] u fun e w' => e = .returned (.string (bs (itoa y.a))) ∧ Upd (fun _ => False) u w') := Lib.hid (fun u => rDigits y.a HYO.out.2.1 u)
                      have HBC : Hid (∀ u, Calls Tryz.prog 21 #[.int .i64 y.b] u fun e w' => e = .returned (.string (bs (itoa y.b))) ∧ Upd (fun _ => False) u w') := Lib.hid (fun u => rDigits y.b HYO.out.2.2 u)
                      obtain ⟨N, hN⟩ : ∃ N, N = nmT y.op := ⟨_, rfl⟩
                      obtain ⟨A, hA⟩ : ∃ A, A = itoa y.a := ⟨_, rfl⟩
                      obtain ⟨B, hB⟩ : ∃ B, B = itoa y.b := ⟨_, rfl⟩
                      rw [← hN] at HNMC
                      rw [← hA] at HAC
                      rw [← hB] at HBC
                      have HNL2 : Hid (N.length ≤ 10) := Lib.hid (by rw [hN]; exact nmT_len _)
                      have HAL : Hid (A.length ≤ 25) := Lib.hid (by rw [hA]; have := itoa_length_le y.a HYO.out.2.1.1 HYO.out.2.1.2; omega)
                      have HBL2 : Hid (B.length ≤ 25) := Lib.hid (by rw [hB]; have := itoa_length_le y.b HYO.out.2.2.1 HYO.out.2.2.2; omega)
                      have HLN2 : Hid (lineT (insT y) = [32, 32] ++ N ++ tl ([A, B].take (opsB y.op).toNat) ++ [10]) := Lib.hid (by rw [insL_eq, hN, hA, hB])
                      have HUC0 := Lib.hid (Upd.refl (fun _ => False) wC)
                      clear hcs hcs2 hy hwC huC hbZ hZ hN hA hB
                      rcases ops_three y.op with ho | ho | ho
                      · have HOB := Lib.hid ho
                        clear ho
                        obtain ⟨q1, hq1⟩ : ∃ t : By, t = tt ++ [32, 32] := ⟨_, rfl⟩
                        have apq1 : bs tt ++ ({ data := #[32, 32] } : ByteArray) = bs q1 := by rw [hq1]; exact bs_app _ _
                        have nzq1 : ¬ (9223372036854775807 < (bs tt).size + 2) := by have := HTL.out; rw [bs_size]; omega
                        have Lq1 : Hid (q1.length ≤ 1141000) := Lib.hid (by have := HTL.out; rw [hq1, List.length_append]; simp only [List.length_cons, List.length_nil]; omega)
                        obtain ⟨q2, hq2⟩ : ∃ t : By, t = q1 ++ N := ⟨_, rfl⟩
                        have apq2 : bs q1 ++ bs N = bs q2 := by rw [hq2]; exact bs_app _ _
                        have nzq2 : ¬ (9223372036854775807 < (bs q1).size + (bs N).size) := by have := HNL2.out; have := Lq1.out; simp only [bs_size]; omega
                        have Lq2 : Hid (q2.length ≤ 1142000) := Lib.hid (by have := HNL2.out; have := Lq1.out; rw [hq2, List.length_append]; omega)
                        obtain ⟨q3, hq3⟩ : ∃ t : By, t = q2 ++ [10] := ⟨_, rfl⟩
                        have apq3 : bs q2 ++ ({ data := #[10] } : ByteArray) = bs q3 := by rw [hq3]; exact bs_app _ _
                        have nzq3 : ¬ (9223372036854775807 < (bs q2).size + 1) := by have := Lq2.out; rw [bs_size]; omega
                        have Lq3 : Hid (q3.length ≤ 1143000) := Lib.hid (by have := Lq2.out; rw [hq3, List.length_append]; simp only [List.length_cons, List.length_nil]; omega)
                        have Eq3 : Hid (q3 = tt ++ [32, 32] ++ N ++ [10]) := Lib.hid (by rw [hq3, hq2, hq1])
                        clear hq1 hq2 hq3
                        go_wp2_with fail
                        rw [← HZ.out, ← HWC.out]
                        clear i0 i1 i2 y3
                        refine (HNMC.out _).mono ?_
                        rintro e w3 ⟨rfl, hu⟩
                        have HUC := Lib.hid (HUC0.out.trans hu (fun _ h _ => h))
                        obtain ⟨z0, z1, z2⟩ := HZC.out w3 HUC.out
                        clear hu
                        go_wp2_with fail
                        refine (rOperands y.op _).mono ?_
                        rw [HOB.out]
                        rintro e w4 ⟨rfl, rfl⟩
                        go_wp2_with fail
                        refine (rOperands y.op _).mono ?_
                        rw [HOB.out]
                        rintro e w6 ⟨rfl, rfl⟩
                        go_wp2_with fail
                        have HJE := Lib.hid (HJC.out.trans HUC.out (fun _ h _ => h))
                        go_roundw
                        case rel => exact ⟨j + 1, q3, hlt2, by go_num, rfl, Lib.hid (by rw [Eq3.out, HT.out, HLN2.out, HTT.out, HOB.out]; simp [tl]), HJE⟩
                        case measure => simp [RowKit.intOf]; omega
                      · have HOB := Lib.hid ho
                        clear ho
                        obtain ⟨q1, hq1⟩ : ∃ t : By, t = tt ++ [32, 32] := ⟨_, rfl⟩
                        have apq1 : bs tt ++ ({ data := #[32, 32] } : ByteArray) = bs q1 := by rw [hq1]; exact bs_app _ _
                        have nzq1 : ¬ (9223372036854775807 < (bs tt).size + 2) := by have := HTL.out; rw [bs_size]; omega
                        have Lq1 : Hid (q1.length ≤ 1141000) := Lib.hid (by have := HTL.out; rw [hq1, List.length_append]; simp only [List.length_cons, List.length_nil]; omega)
                        obtain ⟨q2, hq2⟩ : ∃ t : By, t = q1 ++ N := ⟨_, rfl⟩
                        have apq2 : bs q1 ++ bs N = bs q2 := by rw [hq2]; exact bs_app _ _
                        have nzq2 : ¬ (9223372036854775807 < (bs q1).size + (bs N).size) := by have := HNL2.out; have := Lq1.out; simp only [bs_size]; omega
                        have Lq2 : Hid (q2.length ≤ 1142000) := Lib.hid (by have := HNL2.out; have := Lq1.out; rw [hq2, List.length_append]; omega)
                        obtain ⟨q3, hq3⟩ : ∃ t : By, t = q2 ++ [32] := ⟨_, rfl⟩
                        have apq3 : bs q2 ++ ({ data := #[32] } : ByteArray) = bs q3 := by rw [hq3]; exact bs_app _ _
                        have nzq3 : ¬ (9223372036854775807 < (bs q2).size + 1) := by have := Lq2.out; rw [bs_size]; omega
                        have Lq3 : Hid (q3.length ≤ 1143000) := Lib.hid (by have := Lq2.out; rw [hq3, List.length_append]; simp only [List.length_cons, List.length_nil]; omega)
                        obtain ⟨q4, hq4⟩ : ∃ t : By, t = q3 ++ A := ⟨_, rfl⟩
                        have apq4 : bs q3 ++ bs A = bs q4 := by rw [hq4]; exact bs_app _ _
                        have nzq4 : ¬ (9223372036854775807 < (bs q3).size + (bs A).size) := by have := HAL.out; have := Lq3.out; simp only [bs_size]; omega
                        have Lq4 : Hid (q4.length ≤ 1144000) := Lib.hid (by have := HAL.out; have := Lq3.out; rw [hq4, List.length_append]; omega)
                        obtain ⟨q5, hq5⟩ : ∃ t : By, t = q4 ++ [10] := ⟨_, rfl⟩
                        have apq5 : bs q4 ++ ({ data := #[10] } : ByteArray) = bs q5 := by rw [hq5]; exact bs_app _ _
                        have nzq5 : ¬ (9223372036854775807 < (bs q4).size + 1) := by have := Lq4.out; rw [bs_size]; omega
                        have Lq5 : Hid (q5.length ≤ 1145000) := Lib.hid (by have := Lq4.out; rw [hq5, List.length_append]; simp only [List.length_cons, List.length_nil]; omega)
                        have Eq5 : Hid (q5 = tt ++ [32, 32] ++ N ++ [32] ++ A ++ [10]) := Lib.hid (by rw [hq5, hq4, hq3, hq2, hq1])
                        clear hq1 hq2 hq3 hq4 hq5
                        go_wp2_with fail
                        rw [← HZ.out, ← HWC.out]
                        clear i0 i1 i2 y3
                        refine (HNMC.out _).mono ?_
                        rintro e w3 ⟨rfl, hu⟩
                        have HUC := Lib.hid (HUC0.out.trans hu (fun _ h _ => h))
                        obtain ⟨z0, z1, z2⟩ := HZC.out w3 HUC.out
                        clear hu
                        go_wp2_with fail
                        refine (rOperands y.op _).mono ?_
                        rw [HOB.out]
                        rintro e w4 ⟨rfl, rfl⟩
                        go_wp2_with fail
                        clear z0 z1 z2
                        refine (HAC.out _).mono ?_
                        rintro e w5 ⟨rfl, hu⟩
                        have HUC := Lib.hid (HUC.out.trans hu (fun _ h _ => h))
                        obtain ⟨z0, z1, z2⟩ := HZC.out w5 HUC.out
                        clear hu
                        go_wp2_with fail
                        refine (rOperands y.op _).mono ?_
                        rw [HOB.out]
                        rintro e w6 ⟨rfl, rfl⟩
                        go_wp2_with fail
                        have HJE := Lib.hid (HJC.out.trans HUC.out (fun _ h _ => h))
                        go_roundw
                        case rel => exact ⟨j + 1, q5, hlt2, by go_num, rfl, Lib.hid (by rw [Eq5.out, HT.out, HLN2.out, HTT.out, HOB.out]; simp [tl]), HJE⟩
                        case measure => simp [RowKit.intOf]; omega
                      · have HOB := Lib.hid ho
                        clear ho
                        obtain ⟨q1, hq1⟩ : ∃ t : By, t = tt ++ [32, 32] := ⟨_, rfl⟩
                        have apq1 : bs tt ++ ({ data := #[32, 32] } : ByteArray) = bs q1 := by rw [hq1]; exact bs_app _ _
                        have nzq1 : ¬ (9223372036854775807 < (bs tt).size + 2) := by have := HTL.out; rw [bs_size]; omega
                        have Lq1 : Hid (q1.length ≤ 1141000) := Lib.hid (by have := HTL.out; rw [hq1, List.length_append]; simp only [List.length_cons, List.length_nil]; omega)
                        obtain ⟨q2, hq2⟩ : ∃ t : By, t = q1 ++ N := ⟨_, rfl⟩
                        have apq2 : bs q1 ++ bs N = bs q2 := by rw [hq2]; exact bs_app _ _
                        have nzq2 : ¬ (9223372036854775807 < (bs q1).size + (bs N).size) := by have := HNL2.out; have := Lq1.out; simp only [bs_size]; omega
                        have Lq2 : Hid (q2.length ≤ 1142000) := Lib.hid (by have := HNL2.out; have := Lq1.out; rw [hq2, List.length_append]; omega)
                        obtain ⟨q3, hq3⟩ : ∃ t : By, t = q2 ++ [32] := ⟨_, rfl⟩
                        have apq3 : bs q2 ++ ({ data := #[32] } : ByteArray) = bs q3 := by rw [hq3]; exact bs_app _ _
                        have nzq3 : ¬ (9223372036854775807 < (bs q2).size + 1) := by have := Lq2.out; rw [bs_size]; omega
                        have Lq3 : Hid (q3.length ≤ 1143000) := Lib.hid (by have := Lq2.out; rw [hq3, List.length_append]; simp only [List.length_cons, List.length_nil]; omega)
                        obtain ⟨q4, hq4⟩ : ∃ t : By, t = q3 ++ A := ⟨_, rfl⟩
                        have apq4 : bs q3 ++ bs A = bs q4 := by rw [hq4]; exact bs_app _ _
                        have nzq4 : ¬ (9223372036854775807 < (bs q3).size + (bs A).size) := by have := HAL.out; have := Lq3.out; simp only [bs_size]; omega
                        have Lq4 : Hid (q4.length ≤ 1144000) := Lib.hid (by have := HAL.out; have := Lq3.out; rw [hq4, List.length_append]; omega)
                        obtain ⟨q5, hq5⟩ : ∃ t : By, t = q4 ++ [32] := ⟨_, rfl⟩
                        have apq5 : bs q4 ++ ({ data := #[32] } : ByteArray) = bs q5 := by rw [hq5]; exact bs_app _ _
                        have nzq5 : ¬ (9223372036854775807 < (bs q4).size + 1) := by have := Lq4.out; rw [bs_size]; omega
                        have Lq5 : Hid (q5.length ≤ 1145000) := Lib.hid (by have := Lq4.out; rw [hq5, List.length_append]; simp only [List.length_cons, List.length_nil]; omega)
                        obtain ⟨q6, hq6⟩ : ∃ t : By, t = q5 ++ B := ⟨_, rfl⟩
                        have apq6 : bs q5 ++ bs B = bs q6 := by rw [hq6]; exact bs_app _ _
                        have nzq6 : ¬ (9223372036854775807 < (bs q5).size + (bs B).size) := by have := HBL2.out; have := Lq5.out; simp only [bs_size]; omega
                        have Lq6 : Hid (q6.length ≤ 1146000) := Lib.hid (by have := HBL2.out; have := Lq5.out; rw [hq6, List.length_append]; omega)
                        obtain ⟨q7, hq7⟩ : ∃ t : By, t = q6 ++ [10] := ⟨_, rfl⟩
                        have apq7 : bs q6 ++ ({ data := #[10] } : ByteArray) = bs q7 := by rw [hq7]; exact bs_app _ _
                        have nzq7 : ¬ (9223372036854775807 < (bs q6).size + 1) := by have := Lq6.out; rw [bs_size]; omega
                        have Lq7 : Hid (q7.length ≤ 1147000) := Lib.hid (by have := Lq6.out; rw [hq7, List.length_append]; simp only [List.length_cons, List.length_nil]; omega)
                        have Eq7 : Hid (q7 = tt ++ [32, 32] ++ N ++ [32] ++ A ++ [32] ++ B ++ [10]) := Lib.hid (by rw [hq7, hq6, hq5, hq4, hq3, hq2, hq1])
                        clear hq1 hq2 hq3 hq4 hq5 hq6 hq7
                        go_wp2_with fail
                        rw [← HZ.out, ← HWC.out]
                        clear i0 i1 i2 y3
                        refine (HNMC.out _).mono ?_
                        rintro e w3 ⟨rfl, hu⟩
                        have HUC := Lib.hid (HUC0.out.trans hu (fun _ h _ => h))
                        obtain ⟨z0, z1, z2⟩ := HZC.out w3 HUC.out
                        clear hu
                        go_wp2_with fail
                        refine (rOperands y.op _).mono ?_
                        rw [HOB.out]
                        rintro e w4 ⟨rfl, rfl⟩
                        go_wp2_with fail
                        clear z0 z1 z2
                        refine (HAC.out _).mono ?_
                        rintro e w5 ⟨rfl, hu⟩
                        have HUC := Lib.hid (HUC.out.trans hu (fun _ h _ => h))
                        obtain ⟨z0, z1, z2⟩ := HZC.out w5 HUC.out
                        clear hu
                        go_wp2_with fail
                        refine (rOperands y.op _).mono ?_
                        rw [HOB.out]
                        rintro e w6 ⟨rfl, rfl⟩
                        go_wp2_with fail
                        clear z0 z1 z2
                        refine (HBC.out _).mono ?_
                        rintro e w7 ⟨rfl, hu⟩
                        have HUC := Lib.hid (HUC.out.trans hu (fun _ h _ => h))
                        clear hu
                        go_wp2_with fail
                        have HJE := Lib.hid (HJC.out.trans HUC.out (fun _ h _ => h))
                        go_roundw
                        case rel => exact ⟨j + 1, q7, hlt2, by go_num, rfl, Lib.hid (by rw [Eq7.out, HT.out, HLN2.out, HTT.out, HOB.out]; simp [tl]), HJE⟩
                        case measure => simp [RowKit.intOf]; omega
                    · obtain rfl : x.code.length = j := by omega
                      go_wp2_with fail
                      go_roundw
                      case rel => exact ⟨k + 1, tt, hlt, by go_num, rfl, Lib.hid (by
                        rw [HTT.out, List.take_length, HSE.out, Eg4.out, HT1.out, HST.out]
                        unfold metL
                        rw [HLE.out]
                        simp only [List.append_assoc]), Lib.hid (HKA.out.trans HJ.out (fun _ h _ => h))⟩
                      case measure => simp [RowKit.intOf]; omega)
              · obtain rfl : I.methods.length = k := by omega
                have c2 := (tCell (HBL.out wr HK.out).1 4).1
                simp at c2
                go_wp2_with fail
                obtain ⟨s7, hs7⟩ : ∃ s7, s7 = st := ⟨_, rfl⟩
                rw [← hs7] at HSL HST
                have HE7 : Hid (s7 = s6 ++ I.methods.flatMap metL) := Lib.hid (by rw [HST.out, List.take_length])
                subst hs7
                have HS7 := HSL
                obtain ⟨wH, hwH⟩ : ∃ wH, wH = wr := ⟨_, rfl⟩
                subst hwH
                have HUH := HK
                have HXW : Hid (∀ y ∈ I.exports, wi64 y) := Lib.hid (img_parts (HBL.out w2 HUR.out).2).2.2.2.2
                clear HST HSL HK hk hlt c1 c2
                go_loopw [12, 4] (fun iv sv wr => ∃ (k : Nat) (st : By), k ≤ I.exports.length ∧ iv = .int .i64 k ∧ sv = .string (bs st) ∧ Hid (st = s7 ++ (I.exports.take k).flatMap expL) ∧ Hid (Upd (fun _ => False) w2 wr)) (fun iv _ _ => I.exports.length - (RowKit.intOf iv).toNat)
                case atStart => exact ⟨0, s7, Nat.zero_le _, rfl, rfl, Lib.hid (by simp), HUH⟩
                case round =>
                  obtain ⟨k, st, hk, rfl, rfl, HST, HK⟩ := hrel
                  have c1 := (tCell (HBL.out wr HK.out).1 4).1
                  simp at c1
                  by_cases hlt : k < I.exports.length
                  · obtain ⟨a', c', he, hat⟩ := ints_at (img_parts (HBL.out wr HK.out).2).2.2.2 (Upd.refl _ wr)
                    obtain ⟨g, off, hg, c0⟩ := hat k hlt
                    simp at he
                    obtain ⟨rfl, rfl⟩ := he
                    subst hg
                    clear hat
                    have HT1 := Lib.hid (flat_take expL I.exports k hlt)
                    have hk3 : (k : Int) + 1 ≤ 9223372036854775807 := by have := HN.out.exports; omega
                    have hki : (k : Int) < (I.exports.length : Int) := by omega
                    have hk0 : (0 : Int) ≤ (k : Int) := by omega
                    have HSL : Hid (st.length ≤ 1001000) := Lib.hid (by
                      have h1 := HS7.out
                      have h2 := flat_len expL 100 (I.exports.take k) (fun y hy => expL_len y (HXW.out y (List.mem_of_mem_take hy)))
                      have h4 := HN.out.exports
                      rw [HST.out, List.length_append]
                      rw [List.length_take] at h2
                      omega)
                    obtain ⟨x, hx⟩ : ∃ x, x = I.exports.getD k 0 := ⟨_, rfl⟩
                    rw [← hx] at c0
                    have HX1 : Hid (I.exports.getD k default = x) := Lib.hid hx.symm
                    have HXX : Hid (wi64 x) := Lib.hid (HXW.out x (by rw [hx]; simp [List.getD, hlt]))
                    have HDC := Lib.hid (rDigits x HXX.out wr)
                    obtain ⟨D, hD⟩ : ∃ D, D = itoa x := ⟨_, rfl⟩
                    rw [← hD] at HDC
                    have HDL : Hid (D.length ≤ 25) := Lib.hid (by rw [hD]; have := itoa_length_le x HXX.out.1 HXX.out.2; omega)
                    have HDE := Lib.hid hD
                    clear hx hD
                    obtain ⟨f1, hf1⟩ : ∃ t : By, t = st ++ [101, 120, 112, 111, 114, 116, 32] := ⟨_, rfl⟩
                    have apf1 : bs st ++ ({ data := #[101, 120, 112, 111, 114, 116, 32] } : ByteArray) = bs f1 := by rw [hf1]; exact bs_app _ _
                    have nzf1 : ¬ (9223372036854775807 < (bs st).size + 7) := by have := HSL.out; rw [bs_size]; omega
                    have Lf1 : Hid (f1.length ≤ 1011000) := Lib.hid (by have := HSL.out; rw [hf1, List.length_append]; simp only [List.length_cons, List.length_nil]; omega)
                    obtain ⟨f2, hf2⟩ : ∃ t : By, t = f1 ++ D := ⟨_, rfl⟩
                    have apf2 : bs f1 ++ bs D = bs f2 := by rw [hf2]; exact bs_app _ _
                    have nzf2 : ¬ (9223372036854775807 < (bs f1).size + (bs D).size) := by have := HDL.out; have := Lf1.out; simp only [bs_size]; omega
                    have Lf2 : Hid (f2.length ≤ 1012000) := Lib.hid (by have := HDL.out; have := Lf1.out; rw [hf2, List.length_append]; omega)
                    obtain ⟨f3, hf3⟩ : ∃ t : By, t = f2 ++ [10] := ⟨_, rfl⟩
                    have apf3 : bs f2 ++ ({ data := #[10] } : ByteArray) = bs f3 := by rw [hf3]; exact bs_app _ _
                    have nzf3 : ¬ (9223372036854775807 < (bs f2).size + 1) := by have := Lf2.out; rw [bs_size]; omega
                    have Lf3 : Hid (f3.length ≤ 1013000) := Lib.hid (by have := Lf2.out; rw [hf3, List.length_append]; simp only [List.length_cons, List.length_nil]; omega)
                    have Ef3 : Hid (f3 = st ++ [101, 120, 112, 111, 114, 116, 32] ++ D ++ [10]) := Lib.hid (by rw [hf3, hf2, hf1])
                    clear hf1 hf2 hf3
                    go_wp2_with fail
                    refine HDC.out.mono ?_
                    rintro e w5 ⟨rfl, hu⟩
                    have HK5 := Lib.hid (HK.out.trans hu (fun _ h _ => h))
                    clear hu
                    go_wp2_with fail
                    go_roundw
                    case rel => exact ⟨k + 1, f3, hlt, by go_num, rfl, Lib.hid (by rw [Ef3.out, HT1.out, HX1.out, expL_eq, HST.out, HDE.out]; simp only [List.append_assoc]), HK5⟩
                    case measure => simp [RowKit.intOf]; omega
                  · obtain rfl : I.exports.length = k := by omega
                    have HEQ : Hid (st = linesI I) := Lib.hid (by
                      rw [HST.out, List.take_length, HE7.out, HE6.out, HE5.out]
                      unfold linesI
                      simp only [List.append_assoc])
                    go_wp2_with fail
                    first | go_ret | go_ret2
                    rw [print_yes HR.out, ← HEQ.out]
                    exact ⟨rfl, HU2.out.trans HK.out (fun _ h _ => h)⟩
end
end Go.Proofs.YtmikibcgphkcfaaGreatDoor

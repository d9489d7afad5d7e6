/- TextLines, walked. -/
import Derived.Test.YtbjmmdomdijilaaDoorTD
import Derived.Test.YtbjmmdomdijilaaDoorMu
namespace Go.Proofs.YtbjmmdomdijilaaDoor
open Go.RowKit Go.Shelf Go.Lib
set_option linter.unusedVariables false
set_option linter.unusedSimpArgs false

theorem binsUpd5 {w w' : World} (h : Bins ⟨w, fun _ => False⟩) (hu : Upd (fun _ => False) w w') : Bins ⟨w', fun _ => False⟩ :=
  ⟨fun h => h, fun k hk => (hu.cell (World.block_lt_of_cell? _ _ (h.2 k hk)) id).trans (h.2 k hk)⟩
set_option maxRecDepth 100000 in
theorem ixBad (k : Nat) (hk : (k : Int) < 5) : ∀ w : World, (Instr.index 43 (.agg #[.string { data := #[110, 111, 110, 115, 101, 110, 115, 101] }, .string { data := #[97, 112, 112, 108, 101, 116, 32, 97] }, .string { data := #[109, 101, 116, 104, 111, 100, 32, 115, 111, 114, 116] }, .string { data := #[112, 117, 115, 104] }, .string { data := #[101, 120, 112, 111, 114, 116, 32, 120] }]) (.int .i64 k)).run Tryd.prog w = .ok (.string (bs (badL k))) w := by
  have h : k = 0 ∨ k = 1 ∨ k = 2 ∨ k = 3 ∨ k = 4 := by omega
  rcases h with rfl | rfl | rfl | rfl | rfl
  · exact fun w => by kernel_rfl
  · exact fun w => by kernel_rfl
  · exact fun w => by kernel_rfl
  · exact fun w => by kernel_rfl
  · exact fun w => by kernel_rfl
theorem pickN (n : Int) (m : Nat) (hm : 1 ≤ m) (hm2 : m ≤ 9223372036854775807) : ∃ q : Nat, (q : Int) < m ∧ ∀ u : World, Calls Tryd.prog 18 #[.int .i64 n, .int .i64 m] u fun e w' => e = .returned (.int .i64 q) ∧ u = w' := by
  have h1 := Int.emod_nonneg n (b := (m : Int)) (by omega)
  have h2 := Int.emod_lt_of_pos n (b := (m : Int)) (by omega)
  refine ⟨(n % (m : Int)).toNat, by omega, fun u => ?_⟩
  have h := hPick n m u (by omega) (by omega)
  rw [show n % (m : Int) = (((n % (m : Int)).toNat : Nat) : Int) by omega] at h
  exact h.mono fun e w' ⟨a, b⟩ => ⟨a, by first | exact b | exact b.symm⟩
theorem bad_is1 (q : Nat) (hq : q < 5) : ((bs (badL q)).toList == [97, 112, 112, 108, 101, 116, 32, 97]) = decide (q = 1) := by
  rw [bs_list]
  rcases (by omega : q = 0 ∨ q = 1 ∨ q = 2 ∨ q = 3 ∨ q = 4) with rfl | rfl | rfl | rfl | rfl <;> decide

theorem bs_getk (l : By) (k : Nat) (h : k < (bs l).size) : ((bs l)[k]'h) = l.getD k 0 := by
  have hl : k < l.length := by rw [bs_size] at h; exact h
  show (l.toArray)[k]'(by simpa using hl) = _
  simp [List.getD, hl]
theorem byte10 (b : UInt8) : (((b.toNat : Nat) : Int) == 10) = (b == 10) := by
  rw [Bool.eq_iff_iff, beq_iff_eq, beq_iff_eq]
  constructor
  · intro h
    have : b.toNat = (10 : UInt8).toNat := by show b.toNat = 10; omega
    exact UInt8.toNat_inj.1 this
  · rintro rfl
    rfl
set_option maxRecDepth 100000 in
set_option maxHeartbeats 8000000 in
theorem textLines_walk (w : World) (k : Int) (lv : Value) (L : List RawR) (hl : RawsAt w lv L) (hL : L.length ≤ 4398046511104) (hB : Bins ⟨w, fun _ => False⟩) (ht : Tb w.heap.size w) (a' what : Int) : Calls Tryd.prog 6 #[.int .i64 k, lv, .int .i64 a', .int .i64 what] w fun e w' => e = .returned (.bool true) ∧ Upd (fun _ => False) w w' := by
  obtain ⟨la, lc, rfl⟩ := hl.slice
  have HL := Lib.hid hl
  have HB := Lib.hid hB
  have HT := Lib.hid ht
  clear hl hB ht
  go_enter Tryd.func6, Tryd.ntmps6
  go_wp2_with fail
  refine (hApplet _ k _ L HL.out hL HB.out).mono ?_
  rintro e w1 ⟨v, I, rfl, hI, -, -, hu⟩
  have HI := Lib.hid hI
  have HU1 := Lib.hid hu
  clear hI hu
  go_wp2_with fail
  refine (tPrint HI.out (HT.out.kept (upd_below HU1.out)) HU1.out.size).mono ?_
  rintro e w2 ⟨rfl, hu⟩
  have HU2 := Lib.hid (HU1.out.trans hu (fun _ h _ => h))
  clear hu
  obtain ⟨rt, hrt⟩ : ∃ rt, rt = imgB insB I := ⟨_, rfl⟩
  have HR := Lib.hid hrt
  cases rt with
  | false =>
    rw [print_no hrt]
    clear hrt
    dsimp only
    go_wp2_with fail
    refine (known5 _).mono ?_
    rintro e w3 ⟨rfl, hu⟩
    have HU3 := Lib.hid (HU2.out.trans hu (fun _ h _ => h))
    clear hu
    go_wp2_with fail
    refine (known5 _).mono ?_
    rintro e w4 ⟨rfl, hu⟩
    have HU4 := Lib.hid (HU3.out.trans hu (fun _ h _ => h))
    clear hu
    go_wp2_with fail
    go_ret
    exact ⟨rfl, HU4.out⟩
  | true =>
    rw [print_yes hrt]
    clear hrt
    dsimp only
    obtain ⟨s, hs⟩ : ∃ s, s = linesI I := ⟨_, rfl⟩
    rw [← hs]
    have hsz : s.length ≤ 2000000 := by rw [hs]; exact right_len HR.out.symm
    have hnl := fun x hx => (noLf_lines HR.out.symm x hx).1
    have hN : cntL s = (linesN I).length := by rw [hs, lines_flat, cnt_flat hnl]
    have hNs : (linesN I).length ≤ s.length := by rw [← hN]; exact cnt_le s
    obtain ⟨N, hNe⟩ : ∃ N, N = (linesN I).length := ⟨_, rfl⟩
    rw [← hNe] at hN hNs
    have HS := Lib.hid hs
    have HN := Lib.hid hN
    have HNE := Lib.hid hNe
    have hbz := bs_size s
    clear hs hN hNe hnl
    go_wp2_with fail
    refine (known5 _).mono ?_
    rintro e w3 ⟨rfl, hu⟩
    have HU3 := Lib.hid (HU2.out.trans hu (fun _ h _ => h))
    clear hu
    go_wp2_with fail
    go_loop [11, 12] (fun n i => ∃ k m : Nat, k ≤ s.length ∧ i = .int .i64 k ∧ n = .int .i64 m ∧ m ≤ k ∧ Hid (m + cntL (s.drop k) = N)) (fun _ i => s.length - (RowKit.intOf i).toNat)
    case atStart => exact ⟨0, 0, by omega, rfl, rfl, by omega, Lib.hid (by rw [List.drop_zero, Nat.zero_add]; exact HN.out)⟩
    case round =>
      obtain ⟨k, m, hk, rfl, rfl, hmk, HM⟩ := hrel
      by_cases hlt : k < s.length
      · have hi1 : (0 : Int) ≤ (k : Int) := Int.natCast_nonneg _
        have hi2 : (k : Int) < (s.length : Int) := by omega
        have hks : k < (bs s).size := by rw [bs_size]; exact hlt
        have hbk := bs_getk s k hks
        cases hq : s.getD k 0 == 10 with
        | true =>
          have HM2 : Hid ((m + 1) + cntL (s.drop (k + 1)) = N) := Lib.hid (by
            have := HM.out
            rw [drop_step hlt, cnt_cons, hq] at this
            simp only at this
            omega)
          have hb : ((((bs s)[k]'hks).toNat : Int) == 10) = true := by rw [hbk, byte10, hq]
          clear hbk hq
          go_wp2_with fail
          exact ⟨⟨k + 1, m + 1, by omega, by go_num, by go_num, by omega, HM2⟩, by simp [RowKit.intOf]; omega⟩
        | false =>
          have HM2 : Hid (m + cntL (s.drop (k + 1)) = N) := Lib.hid (by
            have := HM.out
            rw [drop_step hlt, cnt_cons, hq] at this
            simp only at this
            omega)
          have hb : ((((bs s)[k]'hks).toNat : Int) == 10) = false := by rw [hbk, byte10, hq]
          clear hbk hq
          go_wp2_with fail
          exact ⟨⟨k + 1, m, by omega, by go_num, rfl, by omega, HM2⟩, by simp [RowKit.intOf]; omega⟩
      · obtain rfl : k = s.length := by omega
        have hmN : m = N := by
          have := HM.out
          rw [List.drop_eq_nil_of_le (Nat.le_refl _)] at this
          exact this
        subst hmN
        clear hlt
        obtain ⟨A, hA, HPA⟩ := pickN a' (m + 1) (by omega) (by omega)
        obtain ⟨q, hq, HPQ⟩ := pickN what 5 (by omega) (by omega)
        have HPA := Lib.hid HPA
        have HPQ := Lib.hid HPQ
        have hix := ixBad q (by omega)
        obtain ⟨bad, hbad⟩ : ∃ bad, bad = badL q := ⟨_, rfl⟩
        have hbl : bad.length ≤ 11 := by rw [hbad]; exact badL_len q
        have hbz2 := bs_size bad
        have h1q := bad_is1 q (by omega)
        rw [← hbad] at hix h1q
        have HBAD := Lib.hid hbad
        have HQ5 := Lib.hid (show q < 5 by omega)
        clear hbad hq
        have hnl := fun x hx => (noLf_lines HR.out.symm x hx).1
        obtain ⟨T, hT⟩ : ∃ T, T = flat ((linesN I).take A ++ bad :: (linesN I).drop A) := ⟨_, rfl⟩
        have HTT := Lib.hid hT
        have HIN : Hid ((0 < A → insL s 0 A bad = T) ∧ (A = 0 → bad ++ 10 :: insL s 0 A bad = T)) := Lib.hid (by
          rw [hT, HS.out, lines_flat]
          refine ⟨fun h0 => ?_, fun h0 => ?_⟩
          · rw [ins_flat A bad hnl h0 (by have := HNE.out; omega)]
            rfl
          · subst h0
            rw [ins_past 0 bad hnl (Nat.le_refl _)]
            simp only [List.take_zero, List.drop_zero, List.nil_append, flat_cons])
        have hTl : T.length ≤ 30000000 := by
          have h1 := ins_len s 0 A bad
          have h2 : s.length * (bad.length + 2) ≤ 2000000 * 13 := Nat.mul_le_mul hsz (by omega)
          by_cases h0 : 0 < A
          · rw [← HIN.out.1 h0]; omega
          · rw [← HIN.out.2 (by omega)]
            simp only [List.length_append, List.length_cons]
            omega
        clear hT hnl
        have e10 : bs bad ++ { data := #[10] } = bs (bad ++ [10]) := bs_app bad [10]
        by_cases hA0 : A = 0 ∧ q = 1
        · obtain ⟨hAz, hq1⟩ := hA0
          have h1q' : ((bs bad).toList == [97, 112, 112, 108, 101, 116, 32, 97]) = true := by rw [h1q]; simpa using hq1
          have hA0 : ((A : Int) == 0) = true := by simp [hAz]
          clear h1q hAz hq1
          go_wp2_with fail
          refine (HPA.out _).mono ?_
          rintro e _ ⟨rfl, rfl⟩
          go_wp2_with fail
          refine (HPQ.out _).mono ?_
          rintro e _ ⟨rfl, rfl⟩
          go_wp2_with fail
          go_ret
          exact ⟨rfl, HU3.out⟩
        have HNOT := Lib.hid hA0
        have hst : ∃ x0 : By, x0 ++ insL s 0 A bad = T ∧ (A = 0 → x0 = bad ++ [10]) ∧ (A ≠ 0 → x0 = []) := by
          by_cases h0 : A = 0
          · exact ⟨bad ++ [10], by rw [← HIN.out.2 h0]; simp, fun _ => rfl, fun h => absurd h0 h⟩
          · exact ⟨[], HIN.out.1 (by omega), fun h => absurd h h0, fun _ => rfl⟩
        obtain ⟨x0, hx0, hx1, hx2⟩ := hst
        have HX0 := Lib.hid (And.intro hx0 (And.intro hx1 hx2))
        clear hx0 hx1 hx2 hA0
        have hA0 : ((A : Int) == 0) = decide (A = 0) := by rw [Bool.eq_iff_iff]; simp
        obtain ⟨z, hz⟩ : ∃ z, decide (A = 0) = z := ⟨_, rfl⟩
        have HZ := Lib.hid hz
        rw [hz] at hA0
        have h1q' : z = true → ((bs bad).toList == [97, 112, 112, 108, 101, 116, 32, 97]) = false := fun hzt => by
          rw [h1q]
          simp only [decide_eq_false_iff_not]
          intro hq1
          refine HNOT.out ⟨?_, hq1⟩
          have := HZ.out
          rw [hzt] at this
          simpa using this
        have HBF := Lib.hid h1q'
        clear h1q h1q' hz
        go_wp2_with fail
        refine (HPA.out _).mono ?_
        rintro e _ ⟨rfl, rfl⟩
        go_wp2_with fail
        refine (HPQ.out _).mono ?_
        rintro e _ ⟨rfl, rfl⟩
        cases z
        all_goals
          first
            | have hq0 := HBF.out rfl
            | skip
          go_wp2_with fail
          go_loop [14, 15, 16] (fun o ln i => ∃ (k n : Nat) (x : By), k ≤ s.length ∧ i = .int .i64 k ∧ ln = .int .i64 n ∧ n ≤ k ∧ o = .string (bs x) ∧ x.length ≤ 30000000 ∧ Hid (x ++ insL (s.drop k) n A bad = T)) (fun _ _ i => s.length - (RowKit.intOf i).toNat)
          case atStart =>
            have h0 := HZ.out
            simp at h0
            refine ⟨0, 0, x0, by omega, rfl, rfl, by omega, ?_, ?_, Lib.hid (by rw [List.drop_zero]; exact HX0.out.1)⟩
            · first
                | (rw [HX0.out.2.1 h0]; done)
                | (rw [HX0.out.2.1 h0]; rfl)
                | (rw [HX0.out.2.2 h0]; done)
                | (rw [HX0.out.2.2 h0]; rfl)
            · have := congrArg List.length HX0.out.1
              simp only [List.length_append] at this
              omega
          case round =>
            obtain ⟨k, n, x, hk, rfl, rfl, hnk, rfl, hxl, HM⟩ := hrel
            by_cases hlt : k < s.length
            · have hi1 : (0 : Int) ≤ (k : Int) := Int.natCast_nonneg _
              have hi2 : (k : Int) < (s.length : Int) := by omega
              have hks : k < (bs s).size := by rw [bs_size]; exact hlt
              have hbk := bs_getk s k hks
              have hext : (bs s).extract k (k + 1) = bs [s.getD k 0] := by rw [bs_ext, show k + 1 - k = 1 by omega, take_one hlt]
              have HM1 := HM.out
              rw [drop_step hlt] at HM1
              obtain ⟨c, hc⟩ : ∃ c, c = s.getD k 0 := ⟨_, rfl⟩
              rw [← hc] at hbk hext HM1
              have HC := Lib.hid hc
              have hap := bs_app x [c]
              have hxz := bs_size x
              have hcz : (bs [c]).size = 1 := rfl
              have hxz1 : (bs (x ++ [c])).size = x.length + 1 := by rw [bs_size]; simp
              clear hc
              cases hq : c == 10 with
              | false =>
                rw [ins_no hq] at HM1
                have HM2 : Hid ((x ++ [c]) ++ insL (s.drop (k + 1)) n A bad = T) := Lib.hid (by rw [← HM1]; simp)
                have hxl2 : (x ++ [c]).length ≤ 30000000 := by
                  have := congrArg List.length HM2.out
                  simp only [List.length_append] at this ⊢
                  omega
                have hb : ((((bs s)[k]'hks).toNat : Int) == 10) = false := by rw [hbk, byte10, hq]
                clear hbk hq HM1
                go_wp2_with fail
                exact ⟨⟨k + 1, n, x ++ [c], by omega, by go_num, rfl, by omega, rfl, hxl2, HM2⟩, by simp [RowKit.intOf]; omega⟩
              | true =>
                have hb : ((((bs s)[k]'hks).toNat : Int) == 10) = true := by rw [hbk, byte10, hq]
                by_cases hnA : n + 1 = A
                · rw [ins_here hq _ _ _ _ hnA] at HM1
                  obtain ⟨y1, hy1⟩ : ∃ y1, y1 = x ++ [c] := ⟨_, rfl⟩
                  obtain ⟨y2, hy2⟩ : ∃ y2, y2 = y1 ++ bad := ⟨_, rfl⟩
                  obtain ⟨y3, hy3⟩ : ∃ y3, y3 = y2 ++ [10] := ⟨_, rfl⟩
                  have HM2 : Hid (y3 ++ insL (s.drop (k + 1)) (n + 1) A bad = T) := Lib.hid (by rw [← HM1, hy3, hy2, hy1]; simp)
                  have hxl2 : y3.length ≤ 30000000 := by
                    have := congrArg List.length HM2.out
                    rw [List.length_append] at this
                    omega
                  have hnI : ((n : Int) + 1 == (A : Int)) = true := by simp; omega
                  have hz1 : (bs y1).size = x.length + 1 := by rw [hy1]; exact hxz1
                  have hz2 : (bs y2).size = x.length + 1 + bad.length := by
                    rw [hy2, bs_size, List.length_append, hy1]
                    simp
                  have hap1 : bs x ++ bs [c] = bs y1 := by rw [hy1]; exact hap
                  have hap2 : bs y1 ++ bs bad = bs y2 := by rw [hy2]; exact bs_app _ _
                  have hap3 : bs y2 ++ { data := #[10] } = bs y3 := by rw [hy3]; exact bs_app _ [10]
                  clear hbk hq HM1 e10 hnA hy1 hy2 hy3 hap hxz1
                  go_wp2_with fail
                  exact ⟨⟨k + 1, n + 1, y3, by omega, by go_num, by go_num, by omega, rfl, hxl2, HM2⟩, by simp [RowKit.intOf]; omega⟩
                · rw [ins_else hq _ _ _ _ hnA] at HM1
                  have HM2 : Hid ((x ++ [c]) ++ insL (s.drop (k + 1)) (n + 1) A bad = T) := Lib.hid (by rw [← HM1]; simp)
                  have hxl2 : (x ++ [c]).length ≤ 30000000 := by
                    have := congrArg List.length HM2.out
                    simp only [List.length_append] at this ⊢
                    omega
                  have hnI : ((n : Int) + 1 == (A : Int)) = false := by simp; omega
                  clear hbk hq HM1 hnA
                  go_wp2_with fail
                  exact ⟨⟨k + 1, n + 1, x ++ [c], by omega, by go_num, by go_num, by omega, rfl, hxl2, HM2⟩, by simp [RowKit.intOf]; omega⟩
            · obtain rfl : k = s.length := by omega
              have hxT : x = T := by
                have := HM.out
                rw [List.drop_eq_nil_of_le (Nat.le_refl _)] at this
                simpa [insL] using this
              have HXT := Lib.hid hxT
              clear hlt hxT
              go_wp2_with fail
              have HPB : Hid (parseT x = (zImg, (A : Int) + 1, 5)) := Lib.hid (by
                rw [HXT.out, HTT.out, HBAD.out]
                exact parse_bad HR.out.symm q HQ5.out A (by have := HNE.out; omega) (fun h0 h1 => HNOT.out ⟨h0, h1⟩))
              refine (tParse x _ (by unfold maxLen; omega)).mono ?_
              rintro e w4 ⟨v4, rfl, hI4, hu⟩
              rw [HPB.out] at hI4 ⊢
              obtain ⟨fa, fc, ia, ic, ma, mc, xa, xc, rfl⟩ := img_openE hI4
              have HUF := Lib.hid ((HU3.out.trans hu (fun _ h _ => h)).trans (Upd.alloc (fun _ => False) w4 (.cells #[.string zImg.name, .slice fa zImg.fields.length fc, .slice ia zImg.imports.length ic, .slice ma zImg.methods.length mc, .slice xa zImg.exports.length xc] IMG)) (fun _ h _ => h))
              clear hI4 hu
              dsimp only
              have hAA : ((A : Int) + 1 == (A : Int) + 1) = true := by simp
              go_wp2_with fail
              go_ret
              exact ⟨rfl, HUF.out⟩
end Go.Proofs.YtbjmmdomdijilaaDoor

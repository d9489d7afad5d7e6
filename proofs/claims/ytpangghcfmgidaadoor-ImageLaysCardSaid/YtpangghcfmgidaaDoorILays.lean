/- The walk of ImageLays. -/
import Derived.Test.YtpangghcfmgidaaDoorBu
import Derived.Test.YtpangghcfmgidaaDoorIbj
import Derived.Test.YtpangghcfmgidaaDoorIk
import Derived.Test.YtpangghcfmgidaaDoorRz
namespace Go.Proofs.YtpangghcfmgidaaDoor
open Go.RowKit Go.Lib
set_option linter.unusedVariables false
set_option linter.unusedSimpArgs false

theorem ilPick (n : Int) (w : World) : Calls Tryd.prog 6 #[.int .i64 n, .int .i64 1000] w fun e w' => ∃ k : Int, e = .returned (.int .i64 k) ∧ 0 ≤ k ∧ k < 1000 ∧ w = w' := by
  refine (hPick n 1000 w (by omega) (by omega)).mono fun e w' ⟨h1, h2⟩ => ?_
  exact ⟨n % 1000, h1, Int.emod_nonneg _ (by omega), Int.emod_lt_of_pos _ (by omega), h2⟩
theorem ilStr {w : World} {v : Value} {ys : List Int} (h : Vw w v ys) : (convert 30 9 v).run Tryd.prog w = .ok (.string (strOfNums ys)) w :=
  run_str Tryd.underlying30 Tryd.underlying5 Tryd.underlying9 h
theorem ilBeq (s : ByteArray) : (s.toList == s.toList) = true := by simp
theorem nameOk {w : World} (hT : Tabs w) : NameOk w := fun s u hb hs => rIsName s u hs (Utf8Tabs_below hT hb)
theorem Bins.upd {w w' : World} (h : Bins ⟨w, fun _ => False⟩) (hu : Upd (fun _ => False) w w') : Bins ⟨w', fun _ => False⟩ :=
  ⟨fun h => h, fun k hk => keep_cells hu (h.2 k hk)⟩
theorem ilYes {r b : Bool} (h : r = true ↔ b = true) (hb : b = true) : r = true := h.2 hb
theorem ilNo {r b : Bool} (h : r = true ↔ b = true) (hb : b = false) : r = false := by
  cases r with
  | false => rfl
  | true => rw [h.1 rfl] at hb; exact hb
def ilBox (I : ImgM) (fa ia ma xa : Option Addr) (fc ic mc xc : Nat) : Obj := .cells #[.string I.name, .slice fa I.fields.length fc, .slice ia I.imports.length ic, .slice ma I.methods.length mc, .slice xa I.exports.length xc] 27
theorem ilCell {w : World} {g : Nat} {I : ImgM} {fa ia ma xa fc ic mc xc} (h : w.heap[g]? = some (ilBox I fa ia ma xa fc ic mc xc)) :
    w.cell? ⟨g, 0, none⟩ = some (.string I.name) ∧ w.cell? ⟨g, 1, none⟩ = some (.slice fa I.fields.length fc) ∧ w.cell? ⟨g, 2, none⟩ = some (.slice ia I.imports.length ic) ∧ w.cell? ⟨g, 3, none⟩ = some (.slice ma I.methods.length mc) ∧ w.cell? ⟨g, 4, none⟩ = some (.slice xa I.exports.length xc) :=
  ⟨cells_at h 0 _ rfl, cells_at h 1 _ rfl, cells_at h 2 _ rfl, cells_at h 3 _ rfl, cells_at h 4 _ rfl⟩
set_option maxRecDepth 100000 in
set_option maxHeartbeats 8000000 in
theorem imageLays_walk (W : World) (k how at' by' : Int) (lv : Value) (L : List RawR) (av : Value) (AI : ImgM) (which : Bool) (hl : RawsAt W lv L) (hL : L.length ≤ 4398046511104) (hB : Bins ⟨W, fun _ => False⟩) (wh : wi64 how) (hA : Img W av AI) (hT : Tabs W) :
    Calls Tryd.prog 3 #[.int .i64 k, lv, .int .i64 how, .int .i64 at', .int .i64 by', av, .bool which] W fun e w' => e = .returned (.bool true) ∧ Upd (fun _ => False) W w' := by
  obtain ⟨la, lc, rfl⟩ := hl.slice
  obtain ⟨fa0, fc0, ia0, ic0, ma0, mc0, xa0, xc0, rfl, -⟩ := hA.parts
  have HU0 := Lib.hid (Upd.alloc (fun _ => False) W (ilBox AI fa0 ia0 ma0 xa0 fc0 ic0 mc0 xc0))
  have HX0 := Lib.hid (blk_top' W (ilBox AI fa0 ia0 ma0 xa0 fc0 ic0 mc0 xc0) _ rfl)
  have HB := Lib.hid (hB.upd HU0.out)
  have HL := Lib.hid (hl.later (upd_below HU0.out))
  have HA := Lib.hid (hA.later (upd_below HU0.out))
  have HN := Lib.hid ((nameOk hT).later (upd_below HU0.out))
  have HWH := Lib.hid wh
  have HU := HU0
  clear hl hB hA hT wh HU0
  go_enter Tryd.func3, Tryd.ntmps3
  go_wp2_with fail
  refine (ilPick _ _).mono ?_
  rintro e _ ⟨k1, rfl, p1, p2, rfl⟩
  go_wp2_with fail
  refine (ilPick _ _).mono ?_
  rintro e _ ⟨k2, rfl, q1, q2, rfl⟩
  go_wp2_with fail
  refine (hBent4 _ k _ L how k1 k2 HL.out hL HB.out HWH.out p1 p2 q1 q2).mono ?_
  rintro e w1 ⟨v, J, rfl, hI, hu⟩
  obtain ⟨fa, fc, ia, ic, ma, mc, xa, xc, rfl, -⟩ := hI.parts
  replace HX0 := Lib.hid (stay_blk hu HX0.out (fun h => h))
  replace HA := Lib.hid (HA.out.later (upd_below hu))
  replace HN := Lib.hid (HN.out.later (upd_below hu))
  have HI := Lib.hid hI
  replace HU := Lib.hid (HU.out.trans hu (fun _ h _ => h))
  clear hI hu HL HB HWH p1 p2 q1 q2
  cases which with
  | false =>
    have HU1 := Lib.hid (Upd.alloc (fun _ => False) w1 (ilBox J fa ia ma xa fc ic mc xc))
    have HX1 := Lib.hid (blk_top' w1 (ilBox J fa ia ma xa fc ic mc xc) _ rfl)
    replace HI := Lib.hid (HI.out.later (upd_below HU1.out))
    replace HN := Lib.hid (HN.out.later (upd_below HU1.out))
    replace HU := Lib.hid (HU.out.trans HU1.out (fun _ h _ => h))
    clear HU1 HA
    cases hr : imgB insB J with
    | false =>
      have HR := Lib.hid hr
      clear hr
      go_wp2_with fail
      refine (cImgLay_no _ _ J HI.out HR.out).mono ?_
      rintro e w2 ⟨rfl, hu⟩
      replace HI := Lib.hid (HI.out.later (upd_below hu))
      replace HN := Lib.hid (HN.out.later (upd_below hu))
      replace HX1 := Lib.hid (stay_blk hu HX1.out (fun h => h))
      replace HU := Lib.hid (HU.out.trans hu (fun _ h _ => h))
      clear hu
      obtain ⟨c0, c1, c2, c3, c4⟩ := ilCell HX1.out
      go_wp2_with fail
      refine (rImgLay_no _ _ J HI.out HN.out HR.out).mono ?_
      rintro e w3 ⟨rfl, hu⟩
      have HV := Lib.hid (Vw.nil w3)
      have HV3 := Lib.hid (Vw.nil w3)
      replace HI := Lib.hid (HI.out.later (upd_below hu))
      replace HN := Lib.hid (HN.out.later (upd_below hu))
      replace HX1 := Lib.hid (stay_blk hu HX1.out (fun h => h))
      replace HU := Lib.hid (HU.out.trans hu (fun _ h _ => h))
      clear hu c0 c1 c2 c3 c4
      have hbq := ilBeq (strOfNums [])
      have HC : Hid (∀ w', Upd (fun _ => False) w3 w' → w'.cell? ⟨w1.heap.size, 0, none⟩ = some (.string J.name) ∧ w'.cell? ⟨w1.heap.size, 1, none⟩ = some (.slice fa J.fields.length fc) ∧ w'.cell? ⟨w1.heap.size, 2, none⟩ = some (.slice ia J.imports.length ic) ∧ w'.cell? ⟨w1.heap.size, 3, none⟩ = some (.slice ma J.methods.length mc) ∧ w'.cell? ⟨w1.heap.size, 4, none⟩ = some (.slice xa J.exports.length xc) ∧ (convert 30 9 (.slice none 0 0)).run Tryd.prog w' = .ok (.string (strOfNums [])) w' ∧ (convert 30 9 (.slice none 0 0)).run Tryd.prog w' = .ok (.string (strOfNums [])) w') := Lib.hid (fun w' hu => by obtain ⟨c0, c1, c2, c3, c4⟩ := ilCell (stay_blk hu HX1.out (fun h => h)); exact ⟨c0, c1, c2, c3, c4, ilStr (HV.out.upd hu (fun _ _ h => h)), ilStr (HV3.out.upd hu (fun _ _ h => h))⟩)
      have HXD : Hid (Upd (fun _ => False) w3 w3.drew) := Lib.hid (Upd.drew (fun _ => False) w3)
      go_wp2_with fail
      go_region_held3 (fun w' => w'.cell? ⟨w1.heap.size, 0, none⟩ = some (.string J.name) ∧ w'.cell? ⟨w1.heap.size, 1, none⟩ = some (.slice fa J.fields.length fc) ∧ w'.cell? ⟨w1.heap.size, 2, none⟩ = some (.slice ia J.imports.length ic) ∧ w'.cell? ⟨w1.heap.size, 3, none⟩ = some (.slice ma J.methods.length mc) ∧ w'.cell? ⟨w1.heap.size, 4, none⟩ = some (.slice xa J.exports.length xc) ∧ (convert 30 9 (.slice none 0 0)).run Tryd.prog w' = .ok (.string (strOfNums [])) w' ∧ (convert 30 9 (.slice none 0 0)).run Tryd.prog w' = .ok (.string (strOfNums [])) w') (first
        | with_reducible exact HC.out _ HXD.out
        | with_reducible exact HC.out _ HX4.out
        | with_reducible exact HC.out _ HX5.out
        | with_reducible exact HC.out _ HX6.out) ((first
        | (go_at_call 9; (refine (known4 w3.drew).mono ?_); rintro e w4 ⟨rfl, hu4⟩; have HX4 := Lib.hid (HXD.out.trans hu4 (fun _ h _ => h)); clear hu4)
        | (go_at_call 10; (refine (cImgRight w4 _ J (HI.out.later (upd_below HX4.out))).mono ?_); rw [HR.out]; rintro e w5 ⟨rfl, hu5⟩; have HX5 := Lib.hid (HX4.out.trans hu5 (fun _ h _ => h)); clear hu5)
        | (go_at_call 11; (refine (rRightI w5 _ J (HI.out.later (upd_below HX5.out)) (HN.out.later (upd_below HX5.out))).mono ?_); rintro e w6 ⟨r, rfl, hrr, hu6⟩; obtain rfl : r = false := ilNo hrr HR.out; have HX6 := Lib.hid (HX5.out.trans hu6 (fun _ h _ => h)); clear hu6 hrr)))
      all_goals
        go_wp2_with fail
        go_ret
        exact ⟨rfl, HU.out.trans HX6.out (fun _ h _ => h)⟩
    | true =>
      have HR := Lib.hid hr
      clear hr
      go_wp2_with fail
      refine (cImgLay _ _ J HI.out HR.out).mono ?_
      rintro e w2 ⟨x, rfl, hN⟩
      have hu := hN.2.1
      obtain ⟨xa2, xc2, rfl⟩ := ownsRow_slice hN.1
      have HV := Lib.hid (hN.vw (imgL_byts HR.out))
      clear hN
      replace HI := Lib.hid (HI.out.later (upd_below hu))
      replace HN := Lib.hid (HN.out.later (upd_below hu))
      replace HX1 := Lib.hid (stay_blk hu HX1.out (fun h => h))
      replace HU := Lib.hid (HU.out.trans hu (fun _ h _ => h))
      clear hu
      obtain ⟨c0, c1, c2, c3, c4⟩ := ilCell HX1.out
      go_wp2_with fail
      refine (rImgLay _ _ J HI.out HN.out HR.out).mono ?_
      rintro e w3 ⟨x, rfl, hN⟩
      have hu := hN.2.1
      obtain ⟨xa3, xc3, rfl⟩ := ownsRow_slice hN.1
      have HV3 := Lib.hid (hN.vw (imgL_byts HR.out))
      replace HV := Lib.hid (HV.out.upd hu (fun _ _ h => h))
      clear hN
      replace HI := Lib.hid (HI.out.later (upd_below hu))
      replace HN := Lib.hid (HN.out.later (upd_below hu))
      replace HX1 := Lib.hid (stay_blk hu HX1.out (fun h => h))
      replace HU := Lib.hid (HU.out.trans hu (fun _ h _ => h))
      clear hu c0 c1 c2 c3 c4
      have hbq := ilBeq (strOfNums (imgL J))
      have HC : Hid (∀ w', Upd (fun _ => False) w3 w' → w'.cell? ⟨w1.heap.size, 0, none⟩ = some (.string J.name) ∧ w'.cell? ⟨w1.heap.size, 1, none⟩ = some (.slice fa J.fields.length fc) ∧ w'.cell? ⟨w1.heap.size, 2, none⟩ = some (.slice ia J.imports.length ic) ∧ w'.cell? ⟨w1.heap.size, 3, none⟩ = some (.slice ma J.methods.length mc) ∧ w'.cell? ⟨w1.heap.size, 4, none⟩ = some (.slice xa J.exports.length xc) ∧ (convert 30 9 (.slice xa2 (imgL J).length xc2)).run Tryd.prog w' = .ok (.string (strOfNums (imgL J))) w' ∧ (convert 30 9 (.slice xa3 (imgL J).length xc3)).run Tryd.prog w' = .ok (.string (strOfNums (imgL J))) w') := Lib.hid (fun w' hu => by obtain ⟨c0, c1, c2, c3, c4⟩ := ilCell (stay_blk hu HX1.out (fun h => h)); exact ⟨c0, c1, c2, c3, c4, ilStr (HV.out.upd hu (fun _ _ h => h)), ilStr (HV3.out.upd hu (fun _ _ h => h))⟩)
      have HXD : Hid (Upd (fun _ => False) w3 w3.drew) := Lib.hid (Upd.drew (fun _ => False) w3)
      go_wp2_with fail
      go_region_held3 (fun w' => w'.cell? ⟨w1.heap.size, 0, none⟩ = some (.string J.name) ∧ w'.cell? ⟨w1.heap.size, 1, none⟩ = some (.slice fa J.fields.length fc) ∧ w'.cell? ⟨w1.heap.size, 2, none⟩ = some (.slice ia J.imports.length ic) ∧ w'.cell? ⟨w1.heap.size, 3, none⟩ = some (.slice ma J.methods.length mc) ∧ w'.cell? ⟨w1.heap.size, 4, none⟩ = some (.slice xa J.exports.length xc) ∧ (convert 30 9 (.slice xa2 (imgL J).length xc2)).run Tryd.prog w' = .ok (.string (strOfNums (imgL J))) w' ∧ (convert 30 9 (.slice xa3 (imgL J).length xc3)).run Tryd.prog w' = .ok (.string (strOfNums (imgL J))) w') (first
        | with_reducible exact HC.out _ HXD.out
        | with_reducible exact HC.out _ HX4.out
        | with_reducible exact HC.out _ HX5.out
        | with_reducible exact HC.out _ HX6.out) ((first
        | (go_at_call 9; (refine (known4 w3.drew).mono ?_); rintro e w4 ⟨rfl, hu4⟩; have HX4 := Lib.hid (HXD.out.trans hu4 (fun _ h _ => h)); clear hu4)
        | (go_at_call 10; (refine (cImgRight w4 _ J (HI.out.later (upd_below HX4.out))).mono ?_); rw [HR.out]; rintro e w5 ⟨rfl, hu5⟩; have HX5 := Lib.hid (HX4.out.trans hu5 (fun _ h _ => h)); clear hu5)
        | (go_at_call 11; (refine (rRightI w5 _ J (HI.out.later (upd_below HX5.out)) (HN.out.later (upd_below HX5.out))).mono ?_); rintro e w6 ⟨r, rfl, hrr, hu6⟩; obtain rfl : r = true := ilYes hrr HR.out; have HX6 := Lib.hid (HX5.out.trans hu6 (fun _ h _ => h)); clear hu6 hrr)))
      all_goals
        go_wp2_with fail
        go_ret
        exact ⟨rfl, HU.out.trans HX6.out (fun _ h _ => h)⟩
  | true =>
    have HIJ := HI
    have HU1 := Lib.hid (Upd.alloc (fun _ => False) w1 (ilBox AI fa0 ia0 ma0 xa0 fc0 ic0 mc0 xc0))
    have HX1 := Lib.hid (blk_top' w1 (ilBox AI fa0 ia0 ma0 xa0 fc0 ic0 mc0 xc0) _ rfl)
    replace HI := Lib.hid (HA.out.later (upd_below HU1.out))
    replace HN := Lib.hid (HN.out.later (upd_below HU1.out))
    replace HU := Lib.hid (HU.out.trans HU1.out (fun _ h _ => h))
    clear HU1 HA
    cases hr : imgB insB AI with
    | false =>
      have HR := Lib.hid hr
      clear hr
      obtain ⟨d0, d1, d2, d3, d4⟩ := ilCell HX0.out
      have HXJ : Hid ((w1.alloc (.cells #[.string J.name, .slice fa J.fields.length fc, .slice ia J.imports.length ic, .slice ma J.methods.length mc, .slice xa J.exports.length xc] 27)).heap[W.heap.size]? = some (ilBox AI fa0 ia0 ma0 xa0 fc0 ic0 mc0 xc0)) := Lib.hid (stay_blk (Upd.alloc (fun _ => False) _ _) HX0.out (fun h => h))
      obtain ⟨e0, e1, e2, e3, e4⟩ := ilCell HXJ.out
      clear HXJ
      go_wp2_with fail
      refine (cImgLay_no _ _ AI HI.out HR.out).mono ?_
      rintro e w2 ⟨rfl, hu⟩
      replace HI := Lib.hid (HI.out.later (upd_below hu))
      replace HN := Lib.hid (HN.out.later (upd_below hu))
      replace HX1 := Lib.hid (stay_blk hu HX1.out (fun h => h))
      replace HU := Lib.hid (HU.out.trans hu (fun _ h _ => h))
      clear hu
      clear d0 d1 d2 d3 d4 e0 e1 e2 e3 e4
      obtain ⟨c0, c1, c2, c3, c4⟩ := ilCell HX1.out
      go_wp2_with fail
      refine (rImgLay_no _ _ AI HI.out HN.out HR.out).mono ?_
      rintro e w3 ⟨rfl, hu⟩
      have HV := Lib.hid (Vw.nil w3)
      have HV3 := Lib.hid (Vw.nil w3)
      replace HI := Lib.hid (HI.out.later (upd_below hu))
      replace HN := Lib.hid (HN.out.later (upd_below hu))
      replace HX1 := Lib.hid (stay_blk hu HX1.out (fun h => h))
      replace HU := Lib.hid (HU.out.trans hu (fun _ h _ => h))
      clear hu c0 c1 c2 c3 c4
      have hbq := ilBeq (strOfNums [])
      have HC : Hid (∀ w', Upd (fun _ => False) w3 w' → w'.cell? ⟨w1.heap.size, 0, none⟩ = some (.string AI.name) ∧ w'.cell? ⟨w1.heap.size, 1, none⟩ = some (.slice fa0 AI.fields.length fc0) ∧ w'.cell? ⟨w1.heap.size, 2, none⟩ = some (.slice ia0 AI.imports.length ic0) ∧ w'.cell? ⟨w1.heap.size, 3, none⟩ = some (.slice ma0 AI.methods.length mc0) ∧ w'.cell? ⟨w1.heap.size, 4, none⟩ = some (.slice xa0 AI.exports.length xc0) ∧ (convert 30 9 (.slice none 0 0)).run Tryd.prog w' = .ok (.string (strOfNums [])) w' ∧ (convert 30 9 (.slice none 0 0)).run Tryd.prog w' = .ok (.string (strOfNums [])) w') := Lib.hid (fun w' hu => by obtain ⟨c0, c1, c2, c3, c4⟩ := ilCell (stay_blk hu HX1.out (fun h => h)); exact ⟨c0, c1, c2, c3, c4, ilStr (HV.out.upd hu (fun _ _ h => h)), ilStr (HV3.out.upd hu (fun _ _ h => h))⟩)
      have HXD : Hid (Upd (fun _ => False) w3 w3.drew) := Lib.hid (Upd.drew (fun _ => False) w3)
      go_wp2_with fail
      go_region_held3 (fun w' => w'.cell? ⟨w1.heap.size, 0, none⟩ = some (.string AI.name) ∧ w'.cell? ⟨w1.heap.size, 1, none⟩ = some (.slice fa0 AI.fields.length fc0) ∧ w'.cell? ⟨w1.heap.size, 2, none⟩ = some (.slice ia0 AI.imports.length ic0) ∧ w'.cell? ⟨w1.heap.size, 3, none⟩ = some (.slice ma0 AI.methods.length mc0) ∧ w'.cell? ⟨w1.heap.size, 4, none⟩ = some (.slice xa0 AI.exports.length xc0) ∧ (convert 30 9 (.slice none 0 0)).run Tryd.prog w' = .ok (.string (strOfNums [])) w' ∧ (convert 30 9 (.slice none 0 0)).run Tryd.prog w' = .ok (.string (strOfNums [])) w') (first
        | with_reducible exact HC.out _ HXD.out
        | with_reducible exact HC.out _ HX4.out
        | with_reducible exact HC.out _ HX5.out
        | with_reducible exact HC.out _ HX6.out) ((first
        | (go_at_call 9; (refine (known4 w3.drew).mono ?_); rintro e w4 ⟨rfl, hu4⟩; have HX4 := Lib.hid (HXD.out.trans hu4 (fun _ h _ => h)); clear hu4)
        | (go_at_call 10; (refine (cImgRight w4 _ AI (HI.out.later (upd_below HX4.out))).mono ?_); rw [HR.out]; rintro e w5 ⟨rfl, hu5⟩; have HX5 := Lib.hid (HX4.out.trans hu5 (fun _ h _ => h)); clear hu5)
        | (go_at_call 11; (refine (rRightI w5 _ AI (HI.out.later (upd_below HX5.out)) (HN.out.later (upd_below HX5.out))).mono ?_); rintro e w6 ⟨r, rfl, hrr, hu6⟩; obtain rfl : r = false := ilNo hrr HR.out; have HX6 := Lib.hid (HX5.out.trans hu6 (fun _ h _ => h)); clear hu6 hrr)))
      all_goals
        go_wp2_with fail
        go_ret
        exact ⟨rfl, HU.out.trans HX6.out (fun _ h _ => h)⟩
    | true =>
      have HR := Lib.hid hr
      clear hr
      obtain ⟨d0, d1, d2, d3, d4⟩ := ilCell HX0.out
      have HXJ : Hid ((w1.alloc (.cells #[.string J.name, .slice fa J.fields.length fc, .slice ia J.imports.length ic, .slice ma J.methods.length mc, .slice xa J.exports.length xc] 27)).heap[W.heap.size]? = some (ilBox AI fa0 ia0 ma0 xa0 fc0 ic0 mc0 xc0)) := Lib.hid (stay_blk (Upd.alloc (fun _ => False) _ _) HX0.out (fun h => h))
      obtain ⟨e0, e1, e2, e3, e4⟩ := ilCell HXJ.out
      clear HXJ
      go_wp2_with fail
      refine (cImgLay _ _ AI HI.out HR.out).mono ?_
      rintro e w2 ⟨x, rfl, hN⟩
      have hu := hN.2.1
      obtain ⟨xa2, xc2, rfl⟩ := ownsRow_slice hN.1
      have HV := Lib.hid (hN.vw (imgL_byts HR.out))
      clear hN
      replace HI := Lib.hid (HI.out.later (upd_below hu))
      replace HN := Lib.hid (HN.out.later (upd_below hu))
      replace HX1 := Lib.hid (stay_blk hu HX1.out (fun h => h))
      replace HU := Lib.hid (HU.out.trans hu (fun _ h _ => h))
      clear hu
      clear d0 d1 d2 d3 d4 e0 e1 e2 e3 e4
      obtain ⟨c0, c1, c2, c3, c4⟩ := ilCell HX1.out
      go_wp2_with fail
      refine (rImgLay _ _ AI HI.out HN.out HR.out).mono ?_
      rintro e w3 ⟨x, rfl, hN⟩
      have hu := hN.2.1
      obtain ⟨xa3, xc3, rfl⟩ := ownsRow_slice hN.1
      have HV3 := Lib.hid (hN.vw (imgL_byts HR.out))
      replace HV := Lib.hid (HV.out.upd hu (fun _ _ h => h))
      clear hN
      replace HI := Lib.hid (HI.out.later (upd_below hu))
      replace HN := Lib.hid (HN.out.later (upd_below hu))
      replace HX1 := Lib.hid (stay_blk hu HX1.out (fun h => h))
      replace HU := Lib.hid (HU.out.trans hu (fun _ h _ => h))
      clear hu c0 c1 c2 c3 c4
      have hbq := ilBeq (strOfNums (imgL AI))
      have HC : Hid (∀ w', Upd (fun _ => False) w3 w' → w'.cell? ⟨w1.heap.size, 0, none⟩ = some (.string AI.name) ∧ w'.cell? ⟨w1.heap.size, 1, none⟩ = some (.slice fa0 AI.fields.length fc0) ∧ w'.cell? ⟨w1.heap.size, 2, none⟩ = some (.slice ia0 AI.imports.length ic0) ∧ w'.cell? ⟨w1.heap.size, 3, none⟩ = some (.slice ma0 AI.methods.length mc0) ∧ w'.cell? ⟨w1.heap.size, 4, none⟩ = some (.slice xa0 AI.exports.length xc0) ∧ (convert 30 9 (.slice xa2 (imgL AI).length xc2)).run Tryd.prog w' = .ok (.string (strOfNums (imgL AI))) w' ∧ (convert 30 9 (.slice xa3 (imgL AI).length xc3)).run Tryd.prog w' = .ok (.string (strOfNums (imgL AI))) w') := Lib.hid (fun w' hu => by obtain ⟨c0, c1, c2, c3, c4⟩ := ilCell (stay_blk hu HX1.out (fun h => h)); exact ⟨c0, c1, c2, c3, c4, ilStr (HV.out.upd hu (fun _ _ h => h)), ilStr (HV3.out.upd hu (fun _ _ h => h))⟩)
      have HXD : Hid (Upd (fun _ => False) w3 w3.drew) := Lib.hid (Upd.drew (fun _ => False) w3)
      go_wp2_with fail
      go_region_held3 (fun w' => w'.cell? ⟨w1.heap.size, 0, none⟩ = some (.string AI.name) ∧ w'.cell? ⟨w1.heap.size, 1, none⟩ = some (.slice fa0 AI.fields.length fc0) ∧ w'.cell? ⟨w1.heap.size, 2, none⟩ = some (.slice ia0 AI.imports.length ic0) ∧ w'.cell? ⟨w1.heap.size, 3, none⟩ = some (.slice ma0 AI.methods.length mc0) ∧ w'.cell? ⟨w1.heap.size, 4, none⟩ = some (.slice xa0 AI.exports.length xc0) ∧ (convert 30 9 (.slice xa2 (imgL AI).length xc2)).run Tryd.prog w' = .ok (.string (strOfNums (imgL AI))) w' ∧ (convert 30 9 (.slice xa3 (imgL AI).length xc3)).run Tryd.prog w' = .ok (.string (strOfNums (imgL AI))) w') (first
        | with_reducible exact HC.out _ HXD.out
        | with_reducible exact HC.out _ HX4.out
        | with_reducible exact HC.out _ HX5.out
        | with_reducible exact HC.out _ HX6.out) ((first
        | (go_at_call 9; (refine (known4 w3.drew).mono ?_); rintro e w4 ⟨rfl, hu4⟩; have HX4 := Lib.hid (HXD.out.trans hu4 (fun _ h _ => h)); clear hu4)
        | (go_at_call 10; (refine (cImgRight w4 _ AI (HI.out.later (upd_below HX4.out))).mono ?_); rw [HR.out]; rintro e w5 ⟨rfl, hu5⟩; have HX5 := Lib.hid (HX4.out.trans hu5 (fun _ h _ => h)); clear hu5)
        | (go_at_call 11; (refine (rRightI w5 _ AI (HI.out.later (upd_below HX5.out)) (HN.out.later (upd_below HX5.out))).mono ?_); rintro e w6 ⟨r, rfl, hrr, hu6⟩; obtain rfl : r = true := ilYes hrr HR.out; have HX6 := Lib.hid (HX5.out.trans hu6 (fun _ h _ => h)); clear hu6 hrr)))
      all_goals
        go_wp2_with fail
        go_ret
        exact ⟨rfl, HU.out.trans HX6.out (fun _ h _ => h)⟩
end Go.Proofs.YtpangghcfmgidaaDoor

/- The walk of ImageBack. -/
import Derived.Test.YtoemilimnpeddaaDoorBu
import Derived.Test.YtoemilimnpeddaaDoorIbj
import Derived.Test.YtoemilimnpeddaaDoorIk
import Derived.Test.YtoemilimnpeddaaDoorIz
namespace Go.Proofs.YtoemilimnpeddaaDoor
open Go.RowKit Go.Lib
set_option linter.unusedVariables false
set_option linter.unusedSimpArgs false

theorem ibPick (n : Int) (w : World) : Calls Tryd.prog 11 #[.int .i64 n, .int .i64 1000] w fun e w' => ∃ k : Int, e = .returned (.int .i64 k) ∧ 0 ≤ k ∧ k < 1000 ∧ w = w' := by
  refine (hPick n 1000 w (by omega) (by omega)).mono fun e w' ⟨h1, h2⟩ => ?_
  exact ⟨n % 1000, h1, Int.emod_nonneg _ (by omega), Int.emod_lt_of_pos _ (by omega), h2⟩
theorem ibStr {w : World} {v : Value} {ys : List Int} (h : Vw w v ys) : (convert 30 9 v).run Tryd.prog w = .ok (.string (strOfNums ys)) w :=
  run_str Tryd.underlying30 Tryd.underlying5 Tryd.underlying9 h
theorem ibBeq (s : ByteArray) : (s.toList == s.toList) = true := by simp

set_option maxRecDepth 100000 in
set_option maxHeartbeats 8000000 in
theorem imageBack_walk (W : World) (k how at' by' : Int) (lv : Value) (L : List RawR) (rv : Value) (ys : List Int) (hl : RawsAt W lv L) (hL : L.length ≤ 4398046511104) (hB : Bins ⟨W, fun _ => False⟩) (wh : wi64 how) (hV : Vw W rv ys) :
    Calls Tryd.prog 4 #[.int .i64 k, lv, .int .i64 how, .int .i64 at', .int .i64 by', rv] W fun e w' => e = .returned (.bool true) ∧ Upd (fun _ => False) W w' := by
  obtain ⟨la, lc, rfl⟩ := hl.slice
  obtain ⟨ra, rc, rfl, -, -⟩ := hV.slice
  have HL := Lib.hid hl
  have HB := Lib.hid hB
  have HV := Lib.hid hV
  have HWH := Lib.hid wh
  have HBY : Hid (Byts ys) := Lib.hid hV.1
  clear hl hB hV wh
  go_enter Tryd.func4, Tryd.ntmps4
  go_wp2_with fail
  refine (ibPick _ _).mono ?_
  rintro e _ ⟨k1, rfl, p1, p2, rfl⟩
  go_wp2_with fail
  refine (ibPick _ _).mono ?_
  rintro e _ ⟨k2, rfl, q1, q2, rfl⟩
  go_wp2_with fail
  refine (hBent4 W k _ L how k1 k2 HL.out hL HB.out HWH.out p1 p2 q1 q2).mono ?_
  rintro e w1 ⟨v, J, rfl, hI, hu⟩
  obtain ⟨fa, fc, ia, ic, ma, mc, xa, xc, rfl, -⟩ := hI.parts
  have HU1 := Lib.hid (Upd.alloc (fun _ => False) w1 (.cells #[.string J.name, .slice fa J.fields.length fc, .slice ia J.imports.length ic, .slice ma J.methods.length mc, .slice xa J.exports.length xc] 27))
  have HX1 := Lib.hid (blk_top' w1 (.cells #[.string J.name, .slice fa J.fields.length fc, .slice ia J.imports.length ic, .slice ma J.methods.length mc, .slice xa J.exports.length xc] 27) _ rfl)
  have HI := Lib.hid (hI.later (upd_below HU1.out))
  have HU := Lib.hid (hu.trans HU1.out (fun _ h _ => h))
  replace HV := Lib.hid (HV.out.upd HU.out (fun _ _ h => h))
  clear hI hu HL HB HWH HU1
  cases hr : imgB insB J with
  | false =>
    have HR := Lib.hid hr
    go_wp2_with fail
    refine (cImgLay_no _ _ J HI.out HR.out).mono ?_
    rintro e w2 ⟨rfl, hu⟩
    replace HV := Lib.hid (HV.out.upd hu (fun _ _ h => h))
    replace HI := Lib.hid (HI.out.later (upd_below hu))
    replace HX1 := Lib.hid (stay_blk hu HX1.out (fun h => h))
    replace HU := Lib.hid (HU.out.trans hu (fun _ h _ => h))
    clear hu
    have c0 := cells_at HX1.out 0 _ rfl
    have c1 := cells_at HX1.out 1 _ rfl
    have c2 := cells_at HX1.out 2 _ rfl
    have c3 := cells_at HX1.out 3 _ rfl
    have c4 := cells_at HX1.out 4 _ rfl
    go_wp2_with fail
    refine (cImgRight _ _ J HI.out).mono ?_
    rw [HR.out]
    rintro e w3 ⟨rfl, hu⟩
    replace HV := Lib.hid (HV.out.upd hu (fun _ _ h => h))
    replace HU := Lib.hid (HU.out.trans hu (fun _ h _ => h))
    clear hu c0 c1 c2 c3 c4 HI HX1 HR hr
    go_wp2_with fail
    refine (cImgRead _ _ ys HV.out).mono ?_
    rintro e w8 ⟨r8, rfl, hI8, hu⟩
    replace HV := Lib.hid (HV.out.upd hu (fun _ _ h => h))
    replace HU := Lib.hid (HU.out.trans hu (fun _ h _ => h))
    obtain ⟨e8, he8⟩ : ∃ e8, e8 = (readP ys).1 := ⟨_, rfl⟩
    rw [← he8]
    have HE8 := Lib.hid he8
    obtain ⟨K8, hK8⟩ : ∃ K8, K8 = (readP ys).2 := ⟨_, rfl⟩
    rw [← hK8] at hI8
    have HK8 := Lib.hid hK8
    obtain ⟨fb, fd, ib, id, mb, md, xb, xd, rfl, -⟩ := hI8.parts
    clear he8 hK8 hu
    have hu : Upd (fun _ => False) w8 (w8.alloc (.cells #[.string K8.name, .slice fb K8.fields.length fd, .slice ib K8.imports.length id, .slice mb K8.methods.length md, .slice xb K8.exports.length xd] 27)) := Upd.alloc _ _ _
    have HX8 := Lib.hid (blk_top' w8 (.cells #[.string K8.name, .slice fb K8.fields.length fd, .slice ib K8.imports.length id, .slice mb K8.methods.length md, .slice xb K8.exports.length xd] 27) _ rfl)
    have HI8 := Lib.hid (hI8.later (upd_below hu))
    replace HV := Lib.hid (HV.out.upd hu (fun _ _ h => h))
    replace HU := Lib.hid (HU.out.trans hu (fun _ h _ => h))
    clear hu hI8
    have heb : (e8 != 0) = !(e8 == 0) := rfl
    cases hz : (e8 == 0) with
    | false =>
      have hzn : (e8 != 0) = true := by rw [heb, hz]; rfl
      clear heb
      go_wp2_with fail
      refine (known4 _).mono ?_
      rintro e w9 ⟨rfl, hu⟩
      replace HU := Lib.hid (HU.out.trans hu (fun _ h _ => h))
      clear hu
      go_wp2_with fail
      refine (known4 _).mono ?_
      rintro e w10 ⟨rfl, hu⟩
      replace HU := Lib.hid (HU.out.trans hu (fun _ h _ => h))
      clear hu
      go_wp2_with fail
      go_ret
      exact ⟨rfl, HU.out⟩
    | true =>
      have hzn : (e8 != 0) = false := by rw [heb, hz]; rfl
      obtain rfl : e8 = 0 := by simpa using hz
      clear heb hz hzn
      have HINV := Lib.hid (readP_inv HBY.out HE8.out.symm)
      go_wp2_with fail
      refine (known4 _).mono ?_
      rintro e w9 ⟨rfl, hu⟩
      replace HX8 := Lib.hid (stay_blk hu HX8.out (fun h => h))
      replace HV := Lib.hid (HV.out.upd hu (fun _ _ h => h))
      replace HI8 := Lib.hid (HI8.out.later (upd_below hu))
      replace HU := Lib.hid (HU.out.trans hu (fun _ h _ => h))
      clear hu
      have d0 := cells_at HX8.out 0 _ rfl
      have d1 := cells_at HX8.out 1 _ rfl
      have d2 := cells_at HX8.out 2 _ rfl
      have d3 := cells_at HX8.out 3 _ rfl
      have d4 := cells_at HX8.out 4 _ rfl
      go_wp2_with fail
      refine (cImgLay w9 _ K8 HI8.out (by rw [HK8.out]; exact HINV.out.1)).mono ?_
      rintro e w10 ⟨x, rfl, hN⟩
      have hlay : imgL K8 = ys := by rw [HK8.out]; exact HINV.out.2
      have hu := hN.2.1
      obtain ⟨xa2, xc2, rfl⟩ := ownsRow_slice hN.1
      have hvx := hN.vw (by rw [hlay]; exact HBY.out)
      replace HV := Lib.hid (HV.out.upd hu (fun _ _ h => h))
      replace HU := Lib.hid (HU.out.trans hu (fun _ h _ => h))
      have hsx := ibStr hvx
      have hsr := ibStr HV.out
      rw [hlay] at hsx
      have hbq := ibBeq (strOfNums ys)
      have HLAY := Lib.hid hlay
      clear hN hu hvx hlay d0 d1 d2 d3 d4
      have hlen : (imgL K8).length = ys.length := by rw [HLAY.out]
      try rw [hlen] at hsx
      rw [hlen]
      clear hlen
      go_wp2_with fail
      go_ret
      exact ⟨rfl, HU.out⟩
  | true =>
    have HR := Lib.hid hr
    go_wp2_with fail
    refine (cImgLay _ _ J HI.out HR.out).mono ?_
    rintro e w2 ⟨x, rfl, hN⟩
    have hu := hN.2.1
    obtain ⟨xa2, xc2, rfl⟩ := ownsRow_slice hN.1
    have HVB := Lib.hid (hN.vw (imgL_byts HR.out))
    replace HV := Lib.hid (HV.out.upd hu (fun _ _ h => h))
    replace HI := Lib.hid (HI.out.later (upd_below hu))
    replace HX1 := Lib.hid (stay_blk hu HX1.out (fun h => h))
    replace HU := Lib.hid (HU.out.trans hu (fun _ h _ => h))
    clear hu hN
    have c0 := cells_at HX1.out 0 _ rfl
    have c1 := cells_at HX1.out 1 _ rfl
    have c2 := cells_at HX1.out 2 _ rfl
    have c3 := cells_at HX1.out 3 _ rfl
    have c4 := cells_at HX1.out 4 _ rfl
    go_wp2_with fail
    refine (cImgRight _ _ J HI.out).mono ?_
    rw [HR.out]
    rintro e w3 ⟨rfl, hu⟩
    replace HVB := Lib.hid (HVB.out.upd hu (fun _ _ h => h))
    replace HV := Lib.hid (HV.out.upd hu (fun _ _ h => h))
    replace HI := Lib.hid (HI.out.later (upd_below hu))
    replace HX1 := Lib.hid (stay_blk hu HX1.out (fun h => h))
    replace HU := Lib.hid (HU.out.trans hu (fun _ h _ => h))
    clear hu c0 c1 c2 c3 c4
    go_wp2_with fail
    refine (cImgRead _ _ (imgL J) HVB.out).mono ?_
    rw [readP_back HR.out]
    rintro e w4 ⟨r4, rfl, hI4, hu⟩
    simp only at hI4
    replace HV := Lib.hid (HV.out.upd hu (fun _ _ h => h))
    replace HI := Lib.hid (HI.out.later (upd_below hu))
    replace HX1 := Lib.hid (stay_blk hu HX1.out (fun h => h))
    replace HU := Lib.hid (HU.out.trans hu (fun _ h _ => h))
    obtain ⟨fb, fd, ib, id, mb, md, xb, xd, rfl, -⟩ := hI4.parts
    clear hu
    have hu : Upd (fun _ => False) w4 (w4.alloc (.cells #[.string J.name, .slice fb J.fields.length fd, .slice ib J.imports.length id, .slice mb J.methods.length md, .slice xb J.exports.length xd] 27)) := Upd.alloc _ _ _
    have HX4 := Lib.hid (blk_top' w4 (.cells #[.string J.name, .slice fb J.fields.length fd, .slice ib J.imports.length id, .slice mb J.methods.length md, .slice xb J.exports.length xd] 27) _ rfl)
    have HI4 := Lib.hid (hI4.later (upd_below hu))
    have HX1w := HX1
    replace HV := Lib.hid (HV.out.upd hu (fun _ _ h => h))
    replace HI := Lib.hid (HI.out.later (upd_below hu))
    replace HX1 := Lib.hid (stay_blk hu HX1.out (fun h => h))
    replace HU := Lib.hid (HU.out.trans hu (fun _ h _ => h))
    clear hu hI4 HVB
    have c0 := cells_at HX1.out 0 _ rfl
    have c1 := cells_at HX1.out 1 _ rfl
    have c2 := cells_at HX1.out 2 _ rfl
    have c3 := cells_at HX1.out 3 _ rfl
    have c4 := cells_at HX1.out 4 _ rfl
    have b0 := cells_at HX1w.out 0 _ rfl
    have b1 := cells_at HX1w.out 1 _ rfl
    have b2 := cells_at HX1w.out 2 _ rfl
    have b3 := cells_at HX1w.out 3 _ rfl
    have b4 := cells_at HX1w.out 4 _ rfl
    clear hr
    go_wp2_with fail
    refine (cImgSame _ _ _ J J HI.out HI4.out).mono ?_
    rintro e w5 ⟨r, rfl, hrr, hu⟩
    obtain rfl : r = true := hrr.2 rfl
    replace HV := Lib.hid (HV.out.upd hu (fun _ _ h => h))
    replace HU := Lib.hid (HU.out.trans hu (fun _ h _ => h))
    clear hu hrr c0 c1 c2 c3 c4 b0 b1 b2 b3 b4 HI HI4 HX1 HX1w HX4 HR
    go_wp2_with fail
    refine (cImgRead _ _ ys HV.out).mono ?_
    rintro e w8 ⟨r8, rfl, hI8, hu⟩
    replace HV := Lib.hid (HV.out.upd hu (fun _ _ h => h))
    replace HU := Lib.hid (HU.out.trans hu (fun _ h _ => h))
    obtain ⟨e8, he8⟩ : ∃ e8, e8 = (readP ys).1 := ⟨_, rfl⟩
    rw [← he8]
    have HE8 := Lib.hid he8
    obtain ⟨K8, hK8⟩ : ∃ K8, K8 = (readP ys).2 := ⟨_, rfl⟩
    rw [← hK8] at hI8
    have HK8 := Lib.hid hK8
    obtain ⟨fb, fd, ib, id, mb, md, xb, xd, rfl, -⟩ := hI8.parts
    clear he8 hK8 hu
    have hu : Upd (fun _ => False) w8 (w8.alloc (.cells #[.string K8.name, .slice fb K8.fields.length fd, .slice ib K8.imports.length id, .slice mb K8.methods.length md, .slice xb K8.exports.length xd] 27)) := Upd.alloc _ _ _
    have HX8 := Lib.hid (blk_top' w8 (.cells #[.string K8.name, .slice fb K8.fields.length fd, .slice ib K8.imports.length id, .slice mb K8.methods.length md, .slice xb K8.exports.length xd] 27) _ rfl)
    have HI8 := Lib.hid (hI8.later (upd_below hu))
    replace HV := Lib.hid (HV.out.upd hu (fun _ _ h => h))
    replace HU := Lib.hid (HU.out.trans hu (fun _ h _ => h))
    clear hu hI8
    have heb : (e8 != 0) = !(e8 == 0) := rfl
    cases hz : (e8 == 0) with
    | false =>
      have hzn : (e8 != 0) = true := by rw [heb, hz]; rfl
      clear heb
      go_wp2_with fail
      refine (known4 _).mono ?_
      rintro e w9 ⟨rfl, hu⟩
      replace HU := Lib.hid (HU.out.trans hu (fun _ h _ => h))
      clear hu
      go_wp2_with fail
      refine (known4 _).mono ?_
      rintro e w10 ⟨rfl, hu⟩
      replace HU := Lib.hid (HU.out.trans hu (fun _ h _ => h))
      clear hu
      go_wp2_with fail
      go_ret
      exact ⟨rfl, HU.out⟩
    | true =>
      have hzn : (e8 != 0) = false := by rw [heb, hz]; rfl
      obtain rfl : e8 = 0 := by simpa using hz
      clear heb hz hzn
      have HINV := Lib.hid (readP_inv HBY.out HE8.out.symm)
      go_wp2_with fail
      refine (known4 _).mono ?_
      rintro e w9 ⟨rfl, hu⟩
      replace HX8 := Lib.hid (stay_blk hu HX8.out (fun h => h))
      replace HV := Lib.hid (HV.out.upd hu (fun _ _ h => h))
      replace HI8 := Lib.hid (HI8.out.later (upd_below hu))
      replace HU := Lib.hid (HU.out.trans hu (fun _ h _ => h))
      clear hu
      have d0 := cells_at HX8.out 0 _ rfl
      have d1 := cells_at HX8.out 1 _ rfl
      have d2 := cells_at HX8.out 2 _ rfl
      have d3 := cells_at HX8.out 3 _ rfl
      have d4 := cells_at HX8.out 4 _ rfl
      go_wp2_with fail
      refine (cImgLay w9 _ K8 HI8.out (by rw [HK8.out]; exact HINV.out.1)).mono ?_
      rintro e w10 ⟨x, rfl, hN⟩
      have hlay : imgL K8 = ys := by rw [HK8.out]; exact HINV.out.2
      have hu := hN.2.1
      obtain ⟨xa2, xc2, rfl⟩ := ownsRow_slice hN.1
      have hvx := hN.vw (by rw [hlay]; exact HBY.out)
      replace HV := Lib.hid (HV.out.upd hu (fun _ _ h => h))
      replace HU := Lib.hid (HU.out.trans hu (fun _ h _ => h))
      have hsx := ibStr hvx
      have hsr := ibStr HV.out
      rw [hlay] at hsx
      have hbq := ibBeq (strOfNums ys)
      have HLAY := Lib.hid hlay
      clear hN hu hvx hlay d0 d1 d2 d3 d4
      have hlen : (imgL K8).length = ys.length := by rw [HLAY.out]
      try rw [hlen] at hsx
      rw [hlen]
      clear hlen
      go_wp2_with fail
      go_ret
      exact ⟨rfl, HU.out⟩
end Go.Proofs.YtoemilimnpeddaaDoor

/- TextPrints: the walk. -/
import Derived.Test.YtmikibcgphkcfaaGreatDoorPdk
import Derived.Test.YtmikibcgphkcfaaGreatDoorMu
import Derived.Test.YtmikibcgphkcfaaGreatDoorKBn
namespace Go.Proofs.YtmikibcgphkcfaaGreatDoor
open Go.RowKit Go.Shelf Go.Lib
set_option linter.unusedVariables false
set_option linter.unusedSimpArgs false
theorem wi64_mod (n : Int) : wi64 (n % 1000) := by unfold wi64; omega
set_option maxRecDepth 100000 in
set_option maxHeartbeats 4000000 in
theorem textPrints_walk (w : World) (k how at' by' : Int) (lv : Value) (L : List RawR) (hl : RawsAt w lv L) (hL : L.length ≤ 4398046511104) (hB : Bins ⟨w, fun _ => False⟩) (ht : Tb w.heap.size w) (hT : Tabs w) (wh : wi64 how) :
    Calls Tryz.prog 3 #[.int .i64 k, lv, .int .i64 how, .int .i64 at', .int .i64 by'] w fun e w' => e = .returned (.bool true) ∧ Upd (fun _ => False) w w' := by
  obtain ⟨la, lc, rfl⟩ := hl.slice
  have HL := Lib.hid hl
  have HB := Lib.hid hB
  have HT := Lib.hid ht
  have HTS := Lib.hid hT
  have HWH := Lib.hid wh
  clear hl hB ht hT wh
  go_enter Tryz.func3, Tryz.ntmps3
  go_wp2_with fail
  refine (hApplet _ k _ L HL.out hL HB.out).mono ?_
  rintro e w1 ⟨v, I, rfl, hI, hc, ⟨hm3, -⟩, hu⟩
  obtain ⟨fa, fc, ia, ic, ma, mc, xa, xc, rfl⟩ := img_openE hI
  have HBE := Lib.hid (hBent w1 _ I how (at' % 1000) (by' % 1000) hI (by omega) (by omega) hc HWH.out (wi64_mod _) (wi64_mod _))
  have HU1 := Lib.hid hu
  clear hI hc hm3 hu
  go_wp2_with fail
  refine (hPick at' 1000 w1 (by omega) (by omega)).mono ?_
  rintro e w' ⟨rfl, rfl⟩
  go_wp2_with fail
  refine (hPick by' 1000 w1 (by omega) (by omega)).mono ?_
  rintro e w' ⟨rfl, rfl⟩
  go_wp2_with fail
  refine HBE.out.mono ?_
  rintro e w2 ⟨v', M, rfl, hI2, -, hu2⟩
  obtain ⟨J, hJ⟩ : ∃ J : ImgM, J = { I with methods := M } := ⟨_, rfl⟩
  rw [← hJ] at hI2
  obtain ⟨fa, fc, ia, ic, ma, mc, xa, xc, rfl⟩ := img_openE hI2
  obtain ⟨W, hW⟩ : ∃ W, W = w2.alloc (.cells #[.string J.name, .slice fa J.fields.length fc, .slice ia J.imports.length ic, .slice ma J.methods.length mc, .slice xa J.exports.length xc] IMG) := ⟨_, rfl⟩
  have hal : Upd (fun _ => False) w2 W := by rw [hW]; exact Upd.alloc (fun _ => False) _ _
  obtain ⟨X, hX⟩ : ∃ X, X = w2.heap.size := ⟨_, rfl⟩
  have HBK : Hid (W.heap[X]? = some (.cells #[.string J.name, .slice fa J.fields.length fc, .slice ia J.imports.length ic, .slice ma J.methods.length mc, .slice xa J.exports.length xc] IMG (0, 0))) := Lib.hid (by rw [hW]; exact blk_top _ _ _ hX)
  have HU2 := Lib.hid ((HU1.out.trans hu2 (fun _ h _ => h)).trans hal (fun _ h _ => h))
  have HI := Lib.hid (hI2.later (upd_below hal))
  have HW := Lib.hid hW
  have HX := Lib.hid hX
  have HTP := Lib.hid (tPrint HI.out (HT.out.kept (upd_below HU2.out)) HU2.out.size)
  clear hI2 hu2 hal hW hJ hX HBE
  go_wp2_with fail
  rw [← HW.out, ← HX.out]
  refine HTP.out.mono ?_
  rintro e w3 ⟨rfl, hu⟩
  have HU3 := Lib.hid (HU2.out.trans hu (fun _ h _ => h))
  have HBK3 := Lib.hid (tBlk hu HBK.out (fun h => h))
  have HI3 := Lib.hid (HI.out.later (upd_below hu))
  have HRP := Lib.hid (rPrint HI3.out (Utf8Tabs_below HTS.out (upd_below HU3.out)))
  obtain ⟨c0, c1, c2, c3, c4⟩ : w3.cell? ⟨X, 0, none⟩ = some (.string J.name) ∧ w3.cell? ⟨X, 1, none⟩ = some (.slice fa J.fields.length fc) ∧ w3.cell? ⟨X, 2, none⟩ = some (.slice ia J.imports.length ic) ∧ w3.cell? ⟨X, 3, none⟩ = some (.slice ma J.methods.length mc) ∧ w3.cell? ⟨X, 4, none⟩ = some (.slice xa J.exports.length xc) :=
    ⟨(tCell HBK3.out 0).1, (tCell HBK3.out 1).1, (tCell HBK3.out 2).1, (tCell HBK3.out 3).1, (tCell HBK3.out 4).1⟩
  generalize printT J = pr at *
  obtain ⟨p1, p2⟩ := pr
  clear hu HTP
  go_wp2_with fail
  refine HRP.out.mono ?_
  rintro e w4 ⟨rfl, hu⟩
  have HU4 := Lib.hid (HU3.out.trans hu (fun _ h _ => h))
  clear hu HRP c0 c1 c2 c3 c4
  go_wp2_with fail
  refine (known5 _).mono ?_
  rintro e w5 ⟨rfl, hu⟩
  have HU5 := Lib.hid (HU4.out.trans hu (fun _ h _ => h))
  clear hu
  go_wp2_with fail
  refine (tKindT by' w5).mono ?_
  rintro e w6 ⟨rfl, rfl⟩
  go_wp2_with fail
  refine (rKindName by' w5).mono ?_
  rintro e w7 ⟨rfl, rfl⟩
  go_wp2_with fail
  go_ret
  exact ⟨rfl, HU5.out⟩
end Go.Proofs.YtmikibcgphkcfaaGreatDoor

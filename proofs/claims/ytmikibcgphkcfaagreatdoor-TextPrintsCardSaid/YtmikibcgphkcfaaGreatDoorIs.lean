/- Which images are right: package image: rightCall to Right. Strings made of bytes: when two are the same. No program is named here. -/
import Derived.Test.YtmikibcgphkcfaaGreatDoorIr
import Derived.IntWalk
import Derived.Test.YtmikibcgphkcfaaGreatDoorBase
import Derived.Lib.Bytes
namespace Go.Proofs.YtmikibcgphkcfaaGreatDoor
section
open Go.RowKit Go.Lib Go.Shelf
set_option linter.unusedVariables false

theorem cIsIn (n lo hi : Int) (w : World) : Calls Tryz.prog 30 #[.int .i64 n, .int .i64 lo, .int .i64 hi] w fun e w' => e = .returned (.bool (inB n lo hi)) ∧ w = w' := by
  have HN := Lib.hid (show inB n lo hi = decide (lo ≤ n ∧ n ≤ hi) from rfl)
  go_enter Tryz.func30, Tryz.ntmps30
  go_wp2
  all_goals
    go_ret
    refine ⟨ret_bool ?_, rfl⟩
    rw [HN.out, Bool.eq_iff_iff]
    simp
    try omega
theorem cIsKind (n : Int) (w : World) : Calls Tryz.prog 33 #[.int .i64 n] w fun e w' => e = .returned (.bool (kindB n)) ∧ w = w' := by
  have HN := Lib.hid (show kindB n = inB n 1 4 from rfl)
  go_enter Tryz.func33, Tryz.ntmps33
  go_wp2_with (refine (cIsIn _ _ _ _).mono ?_; rintro e w' ⟨rfl, rfl⟩)
  go_ret
  exact ⟨ret_bool HN.out.symm, rfl⟩
theorem enters_isKind : ∀ (args : Array Value) (u : World), (callFunc 33 args).run Tryz.prog u = .ok (.enter 33 args) u := enters_of Tryz.func33 (by kernel_rfl) rfl
theorem cKinds (w : World) (v : Value) (L : List Int) (most : Int) (h : Ints w v L) :
    Calls Tryz.prog 32 #[v, .int .i64 most, .func (.func 33) #[] #[]] w fun e w' => e = .returned (.bool (kindsB L most)) ∧ Upd (fun _ => False) w w' :=
  cAllInt w v L most _ #[] kindB enters_isKind h (fun n _ u _ => (cIsKind n u).mono fun e w' ⟨h1, h2⟩ => ⟨h1, h2 ▸ Upd.refl _ _⟩)

theorem cRightCall (w : World) (v : Value) (L : List Int) (r : Int) (h : Ints w v L) :
    Calls Tryz.prog 57 #[v, .int .i64 r] w fun e w' => e = .returned (.bool (callB L r)) ∧ Upd (fun _ => False) w w' := by
  have HN := Lib.hid (show callB L r = (kindsB L 4 && (r == 0 || kindB r)) from rfl)
  have HL := Lib.hid h
  obtain ⟨a, c, rfl, -, -⟩ := h.slice
  clear h
  go_enter Tryz.func57, Tryz.ntmps57
  go_wp2_with fail
  refine (cKinds _ _ L 4 HL.out).mono ?_
  rintro e w1 ⟨rfl, hu⟩
  have HU := Lib.hid hu
  clear hu
  cases hk : kindsB L 4 with
  | false =>
    have HK := Lib.hid hk
    clear hk
    go_wp2_with fail
    go_ret
    exact ⟨ret_bool (by rw [HN.out, HK.out]; rfl), HU.out⟩
  | true =>
    have HK := Lib.hid hk
    clear hk
    cases h0 : r == 0 with
    | true =>
      have H0 := Lib.hid h0
      go_wp2_with fail
      go_ret
      exact ⟨ret_bool (by rw [HN.out, HK.out, H0.out]; rfl), HU.out⟩
    | false =>
      have H0 := Lib.hid h0
      go_wp2_with (refine (cIsKind _ _).mono ?_; rintro e w' ⟨rfl, rfl⟩)
      go_ret
      exact ⟨ret_bool (by rw [HN.out, HK.out, H0.out]; simp), HU.out⟩

theorem cell4 {w w1 : World} {x y z u : Value} {t : TypeId} {S : Nat → Prop} (hu : Upd S (w.alloc (.cells #[x, y, z, u] t)) w1) (hS : ¬ S w.heap.size) :
    w1.cell? ⟨w.heap.size, 0, none⟩ = some x ∧ w1.cell? ⟨w.heap.size, 1, none⟩ = some y ∧ w1.cell? ⟨w.heap.size, 2, none⟩ = some z ∧ w1.cell? ⟨w.heap.size, 3, none⟩ = some u := by
  have h : ∀ o, w1.cell? ⟨w.heap.size, o, none⟩ = (w.alloc (.cells #[x, y, z, u] t)).cell? ⟨w.heap.size, o, none⟩ := fun o => hu.cell (p := ⟨w.heap.size, o, none⟩) (by simp) hS
  rw [h, h, h, h]
  simp
theorem cell5 {w w1 : World} {x y z u v : Value} {t : TypeId} {S : Nat → Prop} (hu : Upd S (w.alloc (.cells #[x, y, z, u, v] t)) w1) (hS : ¬ S w.heap.size) :
    w1.cell? ⟨w.heap.size, 0, none⟩ = some x ∧ w1.cell? ⟨w.heap.size, 1, none⟩ = some y ∧ w1.cell? ⟨w.heap.size, 2, none⟩ = some z ∧ w1.cell? ⟨w.heap.size, 3, none⟩ = some u ∧ w1.cell? ⟨w.heap.size, 4, none⟩ = some v := by
  have h : ∀ o, w1.cell? ⟨w.heap.size, o, none⟩ = (w.alloc (.cells #[x, y, z, u, v] t)).cell? ⟨w.heap.size, o, none⟩ := fun o => hu.cell (p := ⟨w.heap.size, o, none⟩) (by simp) hS
  rw [h, h, h, h, h]
  simp

set_option maxHeartbeats 1000000 in
theorem cRightImport (w : World) (v : Value) (m : ImpM) (h : Imp w v m) :
    Calls Tryz.prog 35 #[v] w fun e w' => e = .returned (.bool (impB m)) ∧ Upd (fun _ => False) w w' := by
  have HN := Lib.hid (show impB m = (nmB m.name && (inB m.exp 0 3 && callB m.params m.res)) from rfl)
  obtain ⟨pv, rfl, hp, -, -, hsz⟩ := h
  have HP := Lib.hid hp
  obtain ⟨a, c, rfl, -, -⟩ := hp.slice
  have HA := Lib.hid (Upd.alloc (fun _ => False) w (.cells #[.string m.name, .int .i64 m.exp, .slice a m.params.length c, .int .i64 m.res] 43))
  have HSZ := Lib.hid hsz
  clear hp hsz
  go_enter Tryz.func35, Tryz.ntmps35
  go_wp2_with fail
  refine (cIsName _ _ HSZ.out).mono ?_
  rintro e w1 ⟨rfl, hu⟩
  obtain ⟨c0, c1, c2, c3⟩ := cell4 hu (fun h => h)
  have HU := Lib.hid (HA.out.trans hu (fun _ h _ => h))
  clear hu
  cases h1 : nmB m.name with
  | false =>
    have H1 := Lib.hid h1
    clear h1
    go_wp2_with fail
    go_ret
    exact ⟨ret_bool (by rw [HN.out, H1.out]; rfl), HU.out⟩
  | true =>
    have H1 := Lib.hid h1
    clear h1
    go_wp2_with fail
    refine (cIsIn _ _ _ _).mono ?_
    rintro e w2 ⟨rfl, rfl⟩
    cases h2 : inB m.exp 0 3 with
    | false =>
      have H2 := Lib.hid h2
      clear h2
      go_wp2_with fail
      go_ret
      exact ⟨ret_bool (by rw [HN.out, H1.out, H2.out]; rfl), HU.out⟩
    | true =>
      have H2 := Lib.hid h2
      clear h2
      go_wp2_with fail
      refine (cRightCall _ _ m.params _ (HP.out.later (upd_below HU.out))).mono ?_
      rintro e w3 ⟨rfl, hu⟩
      have HU3 := Lib.hid (HU.out.trans hu (fun _ h _ => h))
      clear hu
      go_wp2_with fail
      go_ret
      exact ⟨ret_bool (by rw [HN.out, H1.out, H2.out]; rfl), HU3.out⟩

/-- may it be an instruction? -/
def insB (i : InsM) : Bool := rightB i.op i.a i.b
theorem enters_cRight : ∀ (args : Array Value) (u : World), (callFunc 59 args).run Tryz.prog u = .ok (.enter 59 args) u := enters_of Tryz.func59 (by kernel_rfl) rfl
theorem cAllCode (w : World) (v : Value) (L : List InsM) (h : Inss w v L) :
    Calls Tryz.prog 58 #[v, .int .i64 120, .func (.func 59) #[] #[]] w fun e w' => e = .returned (.bool (decide (L.length ≤ 120) && L.all insB)) ∧ Upd (fun _ => False) w w' := by
  have h1 := cAllIns w v L 120 _ #[] insB enters_cRight h (fun n _ x W _ hx u _ => by obtain ⟨rfl, _⟩ := hx; exact cRight n.op n.a n.b u)
  rwa [show decide ((L.length : Int) ≤ 120) = decide (L.length ≤ 120) by rw [Bool.eq_iff_iff]; simp; omega] at h1

set_option maxHeartbeats 2000000 in
theorem cRightMethod (w : World) (v : Value) (m : MetM) (h : Met w v m) :
    Calls Tryz.prog 37 #[v] w fun e w' => e = .returned (.bool (metB insB m)) ∧ Upd (fun _ => False) w w' := by
  have HN := Lib.hid (show metB insB m = (callB m.params m.res && (kindsB m.locals (10 - m.params.length) && (decide (0 < m.code.length) && (decide (m.code.length ≤ 120) && m.code.all insB)))) from rfl)
  obtain ⟨pv, qv, rv, rfl, hp, hq, hr, -⟩ := h
  have HP := Lib.hid hp
  have HQ := Lib.hid hq
  have HR := Lib.hid hr
  obtain ⟨a, c, rfl, hl1, hl2⟩ := hp.slice
  obtain ⟨a1, c1, rfl, -, -⟩ := hq.slice
  obtain ⟨a2, c2, rfl, -, -⟩ := hr.slice
  have HA := Lib.hid (Upd.alloc (fun _ => False) w (.cells #[.slice a m.params.length c, .int .i64 m.res, .slice a1 m.locals.length c1, .slice a2 m.code.length c2] 39))
  unfold maxLen at hl2
  have hwr : IntKind.i64.wrap (10 - (m.params.length : Int)) = 10 - (m.params.length : Int) := IntWalk.i64_in _ (by omega)
  clear hp hq hr hl1 hl2
  go_enter Tryz.func37, Tryz.ntmps37
  go_wp2_with fail
  refine (cRightCall _ _ m.params _ (HP.out.later (upd_below HA.out))).mono ?_
  rintro e w1 ⟨rfl, hu⟩
  obtain ⟨c0, c1, c2, c3⟩ := cell4 hu (fun h => h)
  have HU := Lib.hid (HA.out.trans hu (fun _ h _ => h))
  clear hu
  cases h1 : callB m.params m.res with
  | false =>
    have H1 := Lib.hid h1
    clear h1
    go_wp2_with fail
    go_ret
    exact ⟨ret_bool (by rw [HN.out, H1.out]; rfl), HU.out⟩
  | true =>
    have H1 := Lib.hid h1
    clear h1
    go_wp2_with fail
    refine (cKinds _ _ m.locals _ (HQ.out.later (upd_below HU.out))).mono ?_
    rintro e w2 ⟨rfl, hu⟩
    have d3 := (hu.cell (p := ⟨w.heap.size, 3, none⟩) (World.block_lt_of_cell? _ _ c3) (fun h => h)).trans c3
    have HU2 := Lib.hid (HU.out.trans hu (fun _ h _ => h))
    clear hu c0 c1 c2 c3
    cases h2 : kindsB m.locals (10 - m.params.length) with
    | false =>
      have H2 := Lib.hid h2
      clear h2
      go_wp2_with fail
      go_ret
      exact ⟨ret_bool (by rw [HN.out, H1.out, H2.out]; rfl), HU2.out⟩
    | true =>
      have H2 := Lib.hid h2
      clear h2
      by_cases h3 : 0 < m.code.length
      · go_wp2_with fail
        refine (cAllCode _ _ m.code (HR.out.later (upd_below HU2.out))).mono ?_
        rintro e w3 ⟨rfl, hu⟩
        have HU3 := Lib.hid (HU2.out.trans hu (fun _ h _ => h))
        clear hu
        go_wp2_with fail
        go_ret
        exact ⟨ret_bool (by rw [HN.out, H1.out, H2.out]; simp [h3]), HU3.out⟩
      · go_wp2_with fail
        go_ret
        exact ⟨ret_bool (by rw [HN.out, H1.out, H2.out]; simp [h3]), HU2.out⟩

theorem cIsMethod (w : World) (b n : Nat) (k : Int) (a : Option Addr) (c : Nat) (hn : n ≤ maxLen) (h : w.cell? ⟨b, 3, none⟩ = some (.slice a n c)) :
    Calls Tryz.prog 29 #[.int .i64 k, .pointer (some ⟨b, 0, none⟩)] w fun e w' => e = .returned (.bool (expB n k)) ∧ Upd (fun _ => False) w w' := by
  have HN := Lib.hid (show expB n k = inB k 0 ((n : Int) - 1) from rfl)
  unfold maxLen at hn
  have hwr : IntKind.i64.wrap ((n : Int) - 1) = (n : Int) - 1 := IntWalk.i64_in _ (by omega)
  go_enter Tryz.func29, Tryz.ntmps29
  go_wp2_with fail
  refine (cIsIn _ _ _ _).mono ?_
  rintro e w1 ⟨rfl, rfl⟩
  go_wp2_with fail
  go_ret
  exact ⟨ret_bool HN.out.symm, Upd.refl _ _⟩
theorem enters_rImp : ∀ (args : Array Value) (u : World), (callFunc 35 args).run Tryz.prog u = .ok (.enter 35 args) u := enters_of Tryz.func35 (by kernel_rfl) rfl
theorem enters_rMet : ∀ (args : Array Value) (u : World), (callFunc 37 args).run Tryz.prog u = .ok (.enter 37 args) u := enters_of Tryz.func37 (by kernel_rfl) rfl
theorem enters_isM : ∀ (args : Array Value) (u : World), (callFunc 29 args).run Tryz.prog u = .ok (.enter 29 args) u := enters_of Tryz.func29 (by kernel_rfl) rfl
theorem cAllImports (w : World) (v : Value) (L : List ImpM) (h : Imps w v L) :
    Calls Tryz.prog 34 #[v, .int .i64 4, .func (.func 35) #[] #[]] w fun e w' => e = .returned (.bool (decide (L.length ≤ 4) && L.all impB)) ∧ Upd (fun _ => False) w w' := by
  have h1 := cAllImp w v L 4 _ #[] impB enters_rImp h (fun n _ x W _ hx u hb => cRightImport u x n (hx.later hb))
  rwa [show decide ((L.length : Int) ≤ 4) = decide (L.length ≤ 4) by rw [Bool.eq_iff_iff]; simp; omega] at h1
theorem cAllMethods (w : World) (v : Value) (L : List MetM) (h : Mets w v L) :
    Calls Tryz.prog 36 #[v, .int .i64 8, .func (.func 37) #[] #[]] w fun e w' => e = .returned (.bool (decide (L.length ≤ 8) && L.all (metB insB))) ∧ Upd (fun _ => False) w w' := by
  have h1 := cAllMet w v L 8 _ #[] (metB insB) enters_rMet h (fun n _ x W _ hx u hb => cRightMethod u x n (hx.later hb))
  rwa [show decide ((L.length : Int) ≤ 8) = decide (L.length ≤ 8) by rw [Bool.eq_iff_iff]; simp; omega] at h1
theorem cAllExports (w : World) (v : Value) (L : List Int) (b n : Nat) (a : Option Addr) (c : Nat) (hn : n ≤ maxLen) (hc : w.cell? ⟨b, 3, none⟩ = some (.slice a n c)) (h : Ints w v L) :
    Calls Tryz.prog 32 #[v, .int .i64 4, .func (.func 29) #[] #[.pointer (some ⟨b, 0, none⟩)]] w fun e w' => e = .returned (.bool (decide (L.length ≤ 4) && L.all (expB n))) ∧ Upd (fun _ => False) w w' := by
  have h1 := cAllInt w v L 4 _ #[.pointer (some ⟨b, 0, none⟩)] (expB n) enters_isM h (fun k _ u hb => cIsMethod u b n k a c hn ((hb.cell (p := ⟨b, 3, none⟩) (World.block_lt_of_cell? _ _ hc)).trans hc))
  rwa [show decide ((L.length : Int) ≤ 4) = decide (L.length ≤ 4) by rw [Bool.eq_iff_iff]; simp; omega] at h1

theorem keep5 {w w1 : World} {b : Nat} {x y z u v : Value} (hu : Upd (fun _ => False) w w1) (h : w.cell? ⟨b, 0, none⟩ = some x ∧ w.cell? ⟨b, 1, none⟩ = some y ∧ w.cell? ⟨b, 2, none⟩ = some z ∧ w.cell? ⟨b, 3, none⟩ = some u ∧ w.cell? ⟨b, 4, none⟩ = some v) :
    w1.cell? ⟨b, 0, none⟩ = some x ∧ w1.cell? ⟨b, 1, none⟩ = some y ∧ w1.cell? ⟨b, 2, none⟩ = some z ∧ w1.cell? ⟨b, 3, none⟩ = some u ∧ w1.cell? ⟨b, 4, none⟩ = some v := by
  have hb := World.block_lt_of_cell? _ _ h.1
  exact ⟨(hu.cell (p := ⟨b, 0, none⟩) hb (fun h => h)).trans h.1, (hu.cell (p := ⟨b, 1, none⟩) hb (fun h => h)).trans h.2.1, (hu.cell (p := ⟨b, 2, none⟩) hb (fun h => h)).trans h.2.2.1, (hu.cell (p := ⟨b, 3, none⟩) hb (fun h => h)).trans h.2.2.2.1, (hu.cell (p := ⟨b, 4, none⟩) hb (fun h => h)).trans h.2.2.2.2⟩

set_option maxRecDepth 100000 in
set_option maxHeartbeats 4000000 in
theorem cImgRight (w : World) (v : Value) (I : ImgM) (h : Img w v I) :
    Calls Tryz.prog 14 #[v] w fun e w' => e = .returned (.bool (imgB insB I)) ∧ Upd (fun _ => False) w w' := by
  have HN := Lib.hid (show imgB insB I = (nmB I.name && (kindsB I.fields 8 && ((decide (I.imports.length ≤ 4) && I.imports.all impB) && (decide (0 < I.methods.length) && ((decide (I.methods.length ≤ 8) && I.methods.all (metB insB)) && (firstB I.methods && (decide (I.exports.length ≤ 4) && I.exports.all (expB I.methods.length)))))))) from rfl)
  obtain ⟨f, i, m, x, rfl, hf, hi, hm, hx, hsz⟩ := h
  have HF := Lib.hid hf
  have HI := Lib.hid hi
  have HM := Lib.hid hm
  have HX := Lib.hid hx
  obtain ⟨fa, fc, rfl, -, -⟩ := hf.slice
  obtain ⟨ia, ic, rfl, -, -⟩ := hi.slice
  obtain ⟨ma, mc, rfl, hl1, hl2⟩ := hm.slice
  obtain ⟨xa, xc, rfl, -, -⟩ := hx.slice
  have HL := Lib.hid (show I.methods.length ≤ maxLen by omega)
  have HA := Lib.hid (Upd.alloc (fun _ => False) w (.cells #[.string I.name, .slice fa I.fields.length fc, .slice ia I.imports.length ic, .slice ma I.methods.length mc, .slice xa I.exports.length xc] 27))
  have HSZ := Lib.hid hsz
  clear hf hi hm hx hsz hl1 hl2
  go_enter Tryz.func14, Tryz.ntmps14
  go_wp2_with fail
  refine (cIsName _ _ HSZ.out).mono ?_
  rintro e w1 ⟨rfl, hu⟩
  have hc := cell5 hu (fun h => h)
  have HU := Lib.hid (HA.out.trans hu (fun _ h _ => h))
  clear hu
  cases h1 : nmB I.name with
  | false =>
    have H1 := Lib.hid h1
    clear h1
    go_wp2_with fail
    go_ret
    exact ⟨ret_bool (by rw [HN.out, H1.out]; rfl), HU.out⟩
  | true =>
    have H1 := Lib.hid h1
    have HC := Lib.hid hc
    obtain ⟨c0, c1, c2, c3, c4⟩ := hc
    clear h1
    go_wp2_with fail
    refine (cKinds _ _ I.fields _ (HF.out.later (upd_below HU.out))).mono ?_
    rintro e w2 ⟨rfl, hu⟩
    have hc := keep5 hu HC.out
    have HU2 := Lib.hid (HU.out.trans hu (fun _ h _ => h))
    clear hu c0 c1 c2 c3 c4 HC HU
    cases h2 : kindsB I.fields 8 with
    | false =>
      have H2 := Lib.hid h2
      clear h2
      go_wp2_with fail
      go_ret
      exact ⟨ret_bool (by rw [HN.out, H1.out, H2.out]; rfl), HU2.out⟩
    | true =>
      have H2 := Lib.hid h2
      have HC := Lib.hid hc
      obtain ⟨c0, c1, c2, c3, c4⟩ := hc
      clear h2
      go_wp2_with fail
      refine (cAllImports _ _ I.imports (HI.out.later (upd_below HU2.out))).mono ?_
      rintro e w3 ⟨rfl, hu⟩
      have hc := keep5 hu HC.out
      have HU3 := Lib.hid (HU2.out.trans hu (fun _ h _ => h))
      clear hu c0 c1 c2 c3 c4 HC HU2
      generalize hk3 : (decide (I.imports.length ≤ 4) && I.imports.all impB) = k3 at *
      cases k3 with
      | false =>
        have H3 := Lib.hid hk3
        clear hk3
        go_wp2_with fail
        go_ret
        exact ⟨ret_bool (by rw [HN.out, H1.out, H2.out]; rfl), HU3.out⟩
      | true =>
        have H3 := Lib.hid hk3
        clear hk3
        have HC := Lib.hid hc
        obtain ⟨c0, c1, c2, c3, c4⟩ := hc
        by_cases h4 : 0 < I.methods.length
        · go_wp2_with fail
          refine (cAllMethods _ _ I.methods (HM.out.later (upd_below HU3.out))).mono ?_
          rintro e w4 ⟨rfl, hu⟩
          have hc := keep5 hu HC.out
          have HU4 := Lib.hid (HU3.out.trans hu (fun _ h _ => h))
          clear hu c0 c1 c2 c3 c4 HC HU3
          generalize hk5 : (decide (I.methods.length ≤ 8) && I.methods.all (metB insB)) = k5 at *
          cases k5 with
          | false =>
            have H5 := Lib.hid hk5
            clear hk5
            go_wp2_with fail
            go_ret
            exact ⟨ret_bool (by rw [HN.out, H1.out, H2.out]; simp), HU4.out⟩
          | true =>
            have H5 := Lib.hid hk5
            clear hk5
            have HC := Lib.hid hc
            obtain ⟨c0, c1, c2, c3, c4⟩ := hc
            obtain ⟨gb, off, pv, qv, rv, rfl, e0, e1, -, -, he0, -, -, -⟩ := (HM.out.later (upd_below HU4.out)).at h4
            have HFB := Lib.hid (show firstB I.methods = (decide ((I.methods.getD 0 default).params.length = 0) && ((I.methods.getD 0 default).res == 0)) from rfl)
            generalize I.methods.getD 0 default = fm at *
            obtain ⟨pa, pc, rfl, -, -⟩ := he0.slice
            simp only [Nat.zero_mul, Nat.add_zero] at e0 e1
            have HE := Lib.hid (show (decide (I.methods.length ≤ 8) && I.methods.all (metB insB)) = true from H5.out)
            clear he0
            by_cases h6 : fm.params.length = 0
            · have hb6 : ((fm.params.length : Int) == 0) = true := by simp [h6]
              have H6 := Lib.hid h6
              clear h6
              cases h7 : fm.res == 0 with
              | true =>
                have H7 := Lib.hid h7
                go_wp2_with fail
                refine (cAllExports _ _ I.exports w.heap.size I.methods.length _ mc HL.out c3 (HX.out.later (upd_below HU4.out))).mono ?_
                rintro e w5 ⟨rfl, hu⟩
                have HU5 := Lib.hid (HU4.out.trans hu (fun _ h _ => h))
                clear hu c0 c1 c2 c3 c4 e0 e1
                go_wp2_with fail
                go_ret
                exact ⟨ret_bool (by rw [HN.out, H1.out, H2.out, HFB.out, H6.out, H7.out]; simp [h4]), HU5.out⟩
              | false =>
                have H7 := Lib.hid h7
                go_wp2_with fail
                go_ret
                exact ⟨ret_bool (by rw [HN.out, H1.out, H2.out, HFB.out, H6.out, H7.out]; simp), HU4.out⟩
            · have hb6 : ((fm.params.length : Int) == 0) = false := beq_eq_false_iff_ne.2 (by omega)
              have H6 := Lib.hid h6
              clear h6
              go_wp2_with fail
              go_ret
              exact ⟨ret_bool (by rw [HN.out, H1.out, H2.out, HFB.out]; simp [H6.out]), HU4.out⟩
        · go_wp2_with fail
          go_ret
          exact ⟨ret_bool (by rw [HN.out, H1.out, H2.out]; simp [h4]), HU3.out⟩
end

section
open Go.RowKit
set_option linter.unusedVariables false

theorem strOf_inj (xs ys : List Int) (hx : ∀ v ∈ xs, 0 ≤ v ∧ v ≤ 255) (hy : ∀ v ∈ ys, 0 ≤ v ∧ v ≤ 255) (h : strOfNums xs = strOfNums ys) : xs = ys := by
  have h2 : (strOfNums xs).data.toList = (strOfNums ys).data.toList := by rw [h]
  rw [strOfNums_data, strOfNums_data] at h2
  have inv : ∀ zs : List Int, (∀ v ∈ zs, 0 ≤ v ∧ v ≤ 255) → (zs.map fun n => UInt8.ofNat n.toNat).map (fun b => (b.toNat : Int)) = zs := by
    intro zs hz
    rw [List.map_map]
    conv => rhs; rw [← List.map_id zs]
    refine List.map_congr_left fun v hv => ?_
    have := hz v hv
    simp only [Function.comp, id]
    rw [UInt8.toNat_ofNat']
    omega
  rw [← inv xs hx, ← inv ys hy, h2]
theorem str_same (xs ys : List Int) (hx : ∀ v ∈ xs, 0 ≤ v ∧ v ≤ 255) (hy : ∀ v ∈ ys, 0 ≤ v ∧ v ≤ 255) : ((strOfNums xs).toList == (strOfNums ys).toList) = decide (xs = ys) := by
  rw [Bool.eq_iff_iff, beq_iff_eq, decide_eq_true_eq]
  constructor
  · intro h
    refine strOf_inj xs ys hx hy ?_
    have h2 : (strOfNums xs).data.toList = (strOfNums ys).data.toList := by
      rw [Lib.strOfNums_toList, Lib.strOfNums_toList] at h
      exact h
    have h3 : (strOfNums xs).data = (strOfNums ys).data := Array.toList_inj.1 h2
    exact ByteArray.ext h3
  · rintro rfl; rfl
/-- the string's bytes -/
def nums (s : ByteArray) : List Int := s.data.toList.map fun b => (b.toNat : Int)
theorem nums_len (s : ByteArray) : (nums s).length = s.size := by simp [nums]
theorem nums_byte (s : ByteArray) : ∀ y ∈ nums s, 0 ≤ y ∧ y ≤ 255 := by
  intro y hy
  obtain ⟨b, _, rfl⟩ := List.mem_map.1 hy
  have := b.toNat_lt
  omega
theorem str_nums (s : ByteArray) : strOfNums (nums s) = s := by
  apply ByteArray.ext
  apply Array.toList_inj.1
  rw [strOfNums_data]
  unfold nums
  rw [List.map_map]
  conv => rhs; rw [← List.map_id s.data.toList]
  apply List.map_congr_left
  intro b _
  simp
theorem nums_inj {s t : ByteArray} (h : nums s = nums t) : s = t := by rw [← str_nums s, ← str_nums t, h]
theorem same_str (s t : ByteArray) : (s.toList == t.toList) = decide (s = t) := by
  have h := str_same (nums s) (nums t) (nums_byte s) (nums_byte t)
  rw [str_nums, str_nums] at h
  rw [h, Bool.eq_iff_iff, decide_eq_true_eq, decide_eq_true_eq]
  exact ⟨nums_inj, fun e => by rw [e]⟩
end
end Go.Proofs.YtmikibcgphkcfaaGreatDoor

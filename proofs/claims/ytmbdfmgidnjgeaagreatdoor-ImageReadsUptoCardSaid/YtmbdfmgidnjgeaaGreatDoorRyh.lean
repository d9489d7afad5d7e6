/- The reference's Same: true just where the plain images are the same. Chapter 4's example, as each law asks it first. An argument of type api.Image: how it reads. ImageReads: the law walked. -/
import Derived.Test.YtmbdfmgidnjgeaaGreatDoorIz
import Derived.Test.YtmbdfmgidnjgeaaGreatDoorIy
import Derived.Deep.RegionWith
import Derived.Test.YtmbdfmgidnjgeaaGreatDoorRaws
import Derived.Test.YtmbdfmgidnjgeaaGreatDoorIa
import Derived.ProofKit
import Derived.OpenShut
import Derived.ChangeArms
import Derived.Deep.Slices
import Derived.Deep.Strs
import Derived.Deep.Fields
import Derived.Lib.SmallJoins
import Derived.Test.YtmbdfmgidnjgeaaGreatDoorRyf
import Derived.Test.YtmbdfmgidnjgeaaGreatDoorMu
import Derived.Deep.RegionHeld3
namespace Go.Proofs.YtmbdfmgidnjgeaaGreatDoor
section
open Go.RowKit Go.Lib Go.Shelf
set_option linter.unusedVariables false
set_option linter.unusedSimpArgs false

set_option maxRecDepth 100000 in
set_option maxHeartbeats 2000000 in
theorem rSameInts (w : World) (v u : Value) (L M : List Int) (h : Ints w v L) (k : Ints w u M) :
    Calls Tryz.prog 34 #[v, u] w fun e w' => e = .returned (.bool (decide (L = M))) ∧ Upd (fun _ => False) w w' := by
  have HL := Lib.hid h
  have HM := Lib.hid k
  obtain ⟨a, c, rfl, h1, h2⟩ := h.slice
  obtain ⟨a', c', rfl, h1', h2'⟩ := k.slice
  clear h k
  unfold maxLen at h2 h2'
  by_cases hl : L.length = M.length
  · have hb : ((L.length : Int) == (M.length : Int)) = true := by simp [hl]
    have hb' : ((L.length : Int) != (M.length : Int)) = false := by simp [bne, hb]
    have H0 := Lib.hid (Upd.refl (fun _ => False) w)
    have HT0 : Hid (L.take 0 = M.take 0) := Lib.hid rfl
    have hle : L.length ≤ M.length := by omega
    have hge : M.length ≤ L.length := by omega
    clear hl
    go_enter Tryz.func34, Tryz.ntmps34
    go_wp2_with fail
    go_loopw [5] (fun i wr => ∃ k : Nat, k ≤ L.length ∧ i = .int .i64 k ∧ Hid (Upd (fun _ => False) w wr) ∧ Hid (L.take k = M.take k)) (fun i _ => L.length - (RowKit.intOf i).toNat)
    case atStart => exact ⟨0, Nat.zero_le _, rfl, H0, HT0⟩
    case round =>
      obtain ⟨k, hk, rfl, HU, HT⟩ := hrel
      by_cases hlt : k < L.length
      · have hltm : k < M.length := by omega
        obtain ⟨g1, o1, rfl, hc1, -⟩ := (HL.out.later (upd_below HU.out)).at hlt
        obtain ⟨g2, o2, rfl, hc2, -⟩ := (HM.out.later (upd_below HU.out)).at hltm
        obtain ⟨n, hn⟩ : ∃ n, n = L.getD k 0 := ⟨_, rfl⟩
        obtain ⟨m, hm⟩ : ∃ m, m = M.getD k 0 := ⟨_, rfl⟩
        rw [← hn] at hc1
        rw [← hm] at hc2
        have HN := Lib.hid hn
        have HMM := Lib.hid hm
        have hi1 : (0 : Int) ≤ (k : Int) := Int.natCast_nonneg _
        have hi2 : (k : Int) < (L.length : Int) := by omega
        have hi3 : (k : Int) < (M.length : Int) := by omega
        clear hn hm
        by_cases he : n = m
        · have hq : (n == m) = true := by simp [he]
          have hq' : (n != m) = false := by simp [bne, hq]
          have HT2 := Lib.hid (take_eq hlt hltm HT.out (by show L.getD k 0 = M.getD k 0; rw [← HN.out, ← HMM.out, he]))
          clear he
          go_wp2_with fail
          go_quiet (fail)
          go_wp2_with fail
          go_roundw
          case rel => exact ⟨k + 1, by omega, by go_num, Lib.hid (HU.out.trans (upd_drewN _ _ _) (fun _ h _ => h)), HT2⟩
          case measure => simp [RowKit.intOf]; omega
        · have hq : (n == m) = false := beq_eq_false_iff_ne.2 he
          have hq' : (n != m) = true := by simp [bne, hq]
          have HF := Lib.hid (show L ≠ M from take_ne (k := k) (by show L.getD k 0 ≠ M.getD k 0; rw [← HN.out, ← HMM.out]; exact he))
          clear he
          go_wp2_with fail
          go_quiet (fail)
          go_wp2_with fail
          go_ret
          exact ⟨ret_bool (by simp [HF.out]), HU.out.trans (upd_drewN _ _ _) (fun _ h _ => h)⟩
      · have HE := Lib.hid (show L = M from take_all (k := k) (by omega) (by omega) HT.out)
        go_wp2_with fail
        go_ret
        exact ⟨ret_bool (by simp [HE.out]), HU.out⟩
  · have hb : ((L.length : Int) == (M.length : Int)) = false := beq_eq_false_iff_ne.2 (by omega)
    have hb' : ((L.length : Int) != (M.length : Int)) = true := by simp [bne, hb]
    have HF := Lib.hid (show L ≠ M from fun h => hl (by rw [h]))
    clear hl
    go_enter Tryz.func34, Tryz.ntmps34
    go_wp2_with fail
    go_ret
    exact ⟨ret_bool (by simp [HF.out]), Upd.refl _ _⟩
theorem neB (x : Bool) : (!x) = !x := rfl
theorem insE_of {a b : InsM} (h1 : a.op = b.op) (h2 : a.a = b.a) (h3 : a.b = b.b) : a = b := by
  cases a; cases b; simp only at h1 h2 h3; subst h1 h2 h3; rfl

set_option maxRecDepth 100000 in
set_option maxHeartbeats 20000000 in
theorem rSame (w : World) (v u : Value) (I J : ImgM) (h : Img w v I) (k : Img w u J) :
    Calls Tryz.prog 11 #[v, u] w fun e w' => ∃ r : Bool, e = .returned (.bool r) ∧ (r = true ↔ I = J) ∧ Upd (fun _ => False) w w' := by
  obtain ⟨f, i, m, x, rfl, hf, hi, hm, hx, -⟩ := h
  obtain ⟨g, j, n, y, rfl, hg, hj, hn, hy, -⟩ := k
  have HF := Lib.hid hf
  have HI := Lib.hid hi
  have HM := Lib.hid hm
  have HX := Lib.hid hx
  have HG := Lib.hid hg
  have HJ := Lib.hid hj
  have HN := Lib.hid hn
  have HY := Lib.hid hy
  obtain ⟨fa, fc, rfl, ufa, vfa⟩ := hf.slice
  unfold maxLen at vfa
  obtain ⟨ia, ic, rfl, uia, via⟩ := hi.slice
  unfold maxLen at via
  obtain ⟨ma, mc, rfl, uma, vma⟩ := hm.slice
  unfold maxLen at vma
  obtain ⟨xa, xc, rfl, uxa, vxa⟩ := hx.slice
  unfold maxLen at vxa
  obtain ⟨ga, gc, rfl, uga, vga⟩ := hg.slice
  unfold maxLen at vga
  obtain ⟨ja, jc, rfl, uja, vja⟩ := hj.slice
  unfold maxLen at vja
  obtain ⟨na, nc, rfl, una, vna⟩ := hn.slice
  unfold maxLen at vna
  obtain ⟨ya, yc, rfl, uya, vya⟩ := hy.slice
  unfold maxLen at vya
  have HA := Lib.hid ((Upd.alloc (fun _ => False) w (.cells #[.string I.name, .slice fa I.fields.length fc, .slice ia I.imports.length ic, .slice ma I.methods.length mc, .slice xa I.exports.length xc] 32)).trans (Upd.alloc (fun _ => False) _ (.cells #[.string J.name, .slice ga J.fields.length gc, .slice ja J.imports.length jc, .slice na J.methods.length nc, .slice ya J.exports.length yc] 32)) (fun _ h _ => h))
  clear hf hi hm hx hg hj hn hy
  cases h1 : (I.name.toList == J.name.toList) with
  | false =>
    have HE := Lib.hid (show I ≠ J from fun e => by rw [e] at h1; simp at h1)
    have h1' : (I.name.toList != J.name.toList) = true := by simp only [bne, h1]; rfl
    go_enter Tryz.func11, Tryz.ntmps11
    go_wp2_with fail
    go_ret
    exact ⟨_, rfl, by simp [HE.out], HA.out⟩
  | true =>
    have H1 := Lib.hid (name_eq.1 h1)
    have h1' : (I.name.toList != J.name.toList) = false := by simp only [bne, h1]; rfl
    go_enter Tryz.func11, Tryz.ntmps11
    go_wp2_with fail
    refine (rSameInts _ _ _ I.fields J.fields (HF.out.later (upd_below HA.out)) (HG.out.later (upd_below HA.out))).mono ?_
    rintro e w1 ⟨rfl, hu⟩
    have HB := Lib.hid hu
    obtain ⟨⟨c0, c1, c2, c3, c4⟩, d0, d1, d2, d3, d4⟩ := boxes5 hu
    obtain ⟨q, hq⟩ : ∃ q, q = decide (I.fields = J.fields) := ⟨_, rfl⟩
    rw [← hq]
    have HQ := Lib.hid hq
    clear hu hq
    cases q with
    | false =>
      have HE := Lib.hid (show I ≠ J from fun e => by have := HQ.out; rw [e] at this; simp at this)
      go_wp2_with fail
      go_ret
      exact ⟨_, rfl, by simp [HE.out], HA.out.trans HB.out (fun _ h _ => h)⟩
    | true =>
      have H2 := Lib.hid (show I.fields = J.fields by simpa using HQ.out.symm)
      clear HQ
      go_wp2_with fail
      refine (rSameInts _ _ _ I.exports J.exports (HX.out.later (upd_below (HA.out.trans HB.out (fun _ h _ => h)))) (HY.out.later (upd_below (HA.out.trans HB.out (fun _ h _ => h))))).mono ?_
      rintro e w2 ⟨rfl, hu⟩
      replace HB := Lib.hid (HB.out.trans hu (fun _ h _ => h))
      clear c0 c1 c2 c3 c4 d0 d1 d2 d3 d4
      obtain ⟨⟨c0, c1, c2, c3, c4⟩, d0, d1, d2, d3, d4⟩ := boxes5 HB.out
      obtain ⟨q, hq⟩ : ∃ q, q = decide (I.exports = J.exports) := ⟨_, rfl⟩
      rw [← hq]
      have HQ := Lib.hid hq
      clear hu hq
      cases q with
      | false =>
        have HE := Lib.hid (show I ≠ J from fun e => by have := HQ.out; rw [e] at this; simp at this)
        go_wp2_with fail
        go_ret
        exact ⟨_, rfl, by simp [HE.out], HA.out.trans HB.out (fun _ h _ => h)⟩
      | true =>
        have H3 := Lib.hid (show I.exports = J.exports by simpa using HQ.out.symm)
        clear HQ
        cases h4 : ((I.imports.length : Int) == (J.imports.length : Int)) with
        | false =>
          have h4' : ((I.imports.length : Int) != (J.imports.length : Int)) = true := by simp only [bne, h4]; rfl
          have HE := Lib.hid (show I ≠ J from fun e => by rw [e] at h4; simp at h4)
          go_wp2_with fail
          go_ret
          exact ⟨_, rfl, by simp [HE.out], HA.out.trans HB.out (fun _ h _ => h)⟩
        | true =>
          have h4' : ((I.imports.length : Int) != (J.imports.length : Int)) = false := by simp only [bne, h4]; rfl
          have le_imports : I.imports.length = J.imports.length := by have := beq_iff_eq.1 h4; omega
          have l1_imports : I.imports.length ≤ J.imports.length := by omega
          have l2_imports : J.imports.length ≤ I.imports.length := by omega
          clear le_imports
          cases h5 : ((I.methods.length : Int) == (J.methods.length : Int)) with
          | false =>
            have h5' : ((I.methods.length : Int) != (J.methods.length : Int)) = true := by simp only [bne, h5]; rfl
            have HE := Lib.hid (show I ≠ J from fun e => by rw [e] at h5; simp at h5)
            go_wp2_with fail
            go_ret
            exact ⟨_, rfl, by simp [HE.out], HA.out.trans HB.out (fun _ h _ => h)⟩
          | true =>
            have h5' : ((I.methods.length : Int) != (J.methods.length : Int)) = false := by simp only [bne, h5]; rfl
            have le_methods : I.methods.length = J.methods.length := by have := beq_iff_eq.1 h5; omega
            have l1_methods : I.methods.length ≤ J.methods.length := by omega
            have l2_methods : J.methods.length ≤ I.methods.length := by omega
            clear le_methods
            have HT0 : Hid (I.imports.take 0 = J.imports.take 0) := Lib.hid rfl
            have HS0 : Hid (I.methods.take 0 = J.methods.take 0) := Lib.hid rfl
            go_wp2_with fail
            go_loopw [5, 6, 7] (fun i _ _ wr => ∃ k : Nat, k ≤ I.imports.length ∧ i = .int .i64 k ∧ Hid (Upd (fun _ => False) ((w.alloc (.cells #[.string I.name, .slice fa I.fields.length fc, .slice ia I.imports.length ic, .slice ma I.methods.length mc, .slice xa I.exports.length xc] 32)).alloc (.cells #[.string J.name, .slice ga J.fields.length gc, .slice ja J.imports.length jc, .slice na J.methods.length nc, .slice ya J.exports.length yc] 32)) wr) ∧ Hid (I.imports.take k = J.imports.take k)) (fun i _ _ _ => I.imports.length - (RowKit.intOf i).toNat)
            case atStart => exact ⟨0, Nat.zero_le _, rfl, HB, HT0⟩
            case round =>
              clear c0 c1 c2 c3 c4 d0 d1 d2 d3 d4
              obtain ⟨k, hk, rfl, HU, HT⟩ := hrel
              obtain ⟨⟨c0, c1, c2, c3, c4⟩, d0, d1, d2, d3, d4⟩ := boxes5 HU.out
              by_cases hlt : k < I.imports.length
              · have hltm : k < J.imports.length := by omega
                have HW := Lib.hid (HA.out.trans HU.out (fun _ h _ => h))
                obtain ⟨g1, o1, pv, rfl, hc0, hc1, hc2, hc3, hX⟩ := (HI.out.later (upd_below HW.out)).at hlt
                obtain ⟨g2, o2, qv, rfl, hd0, hd1, hd2, hd3, hY⟩ := (HJ.out.later (upd_below HW.out)).at hltm
                obtain ⟨n, hn⟩ : ∃ n, n = I.imports.getD k default := ⟨_, rfl⟩
                obtain ⟨m, hm⟩ : ∃ m, m = J.imports.getD k default := ⟨_, rfl⟩
                try rw [← hn] at hc0
                try rw [← hn] at hc1
                try rw [← hn] at hc2
                try rw [← hn] at hc3
                rw [← hn] at hX
                try rw [← hm] at hd0
                try rw [← hm] at hd1
                try rw [← hm] at hd2
                try rw [← hm] at hd3
                rw [← hm] at hY
                obtain ⟨pa, pc, rfl, -, -⟩ := hX.1.slice
                obtain ⟨qa, qc, rfl, -, -⟩ := hY.1.slice
                have HP := Lib.hid hX.1
                have HQ := Lib.hid hY.1
                have HN := Lib.hid hn
                have HMM := Lib.hid hm
                have HA1 := Lib.hid (Upd.alloc (fun _ => False) wr (.cells #[.string n.name, .int .i64 n.exp, .slice pa n.params.length pc, .int .i64 n.res] 49))
                have HA2 := Lib.hid (HA1.out.trans (Upd.alloc (fun _ => False) _ (.cells #[.string m.name, .int .i64 m.exp, .slice qa m.params.length qc, .int .i64 m.res] 49)) (fun _ h _ => h))
                have hd0' := later (upd_below HA1.out) hd0
                have hd1' := later (upd_below HA1.out) hd1
                have hd2' := later (upd_below HA1.out) hd2
                have hd3' := later (upd_below HA1.out) hd3
                have e2 := later (upd_below HA1.out) d2
                have HUE := Lib.hid (HU.out.trans HA2.out (fun _ h _ => h))
                have hi1 : (0 : Int) ≤ (k : Int) := Int.natCast_nonneg _
                have hi2 : (k : Int) < (I.imports.length : Int) := by omega
                have hi3 : (k : Int) < (J.imports.length : Int) := by omega
                clear hn hm hX hY
                cases x1 : (n.name.toList == m.name.toList) with
                | false =>
                  have x1' : (n.name.toList != m.name.toList) = true := by simp only [bne, x1]; rfl
                  have HE := Lib.hid (show I ≠ J from fun e => by
                    have : n = m := by rw [HN.out, HMM.out, e]
                    rw [this] at x1
                    simp at x1)
                  go_wp2_with fail
                  go_ret
                  exact ⟨_, rfl, by simp [HE.out], HW.out.trans HA2.out (fun _ h _ => h)⟩
                | true =>
                  have x1' : (n.name.toList != m.name.toList) = false := by simp only [bne, x1]; rfl
                  cases x2 : (n.exp == m.exp) with
                  | false =>
                    have x2' : (n.exp != m.exp) = true := by simp only [bne, x2]; rfl
                    have HE := Lib.hid (show I ≠ J from fun e => by
                      have : n = m := by rw [HN.out, HMM.out, e]
                      rw [this] at x2
                      simp at x2)
                    go_wp2_with fail
                    go_ret
                    exact ⟨_, rfl, by simp [HE.out], HW.out.trans HA2.out (fun _ h _ => h)⟩
                  | true =>
                    have x2' : (n.exp != m.exp) = false := by simp only [bne, x2]; rfl
                    cases x3 : (n.res == m.res) with
                    | false =>
                      have x3' : (n.res != m.res) = true := by simp only [bne, x3]; rfl
                      have HE := Lib.hid (show I ≠ J from fun e => by
                        have : n = m := by rw [HN.out, HMM.out, e]
                        rw [this] at x3
                        simp at x3)
                      go_wp2_with fail
                      go_ret
                      exact ⟨_, rfl, by simp [HE.out], HW.out.trans HA2.out (fun _ h _ => h)⟩
                    | true =>
                      have x3' : (n.res != m.res) = false := by simp only [bne, x3]; rfl
                      go_wp2_with fail
                      refine (rSameInts _ _ _ n.params m.params (HP.out.later (upd_below HA2.out)) (HQ.out.later (upd_below HA2.out))).mono ?_
                      rintro e w5 ⟨rfl, hu⟩
                      have HU5 := Lib.hid (HUE.out.trans hu (fun _ h _ => h))
                      obtain ⟨q, hq⟩ : ∃ q, q = decide (n.params = m.params) := ⟨_, rfl⟩
                      rw [← hq]
                      have HQQ := Lib.hid hq
                      clear hu hq hc0 hc1 hc2 hc3 hd0 hd1 hd2 hd3 hd0' hd1' hd2' hd3' c0 c1 c2 c3 c4 d0 d1 d2 d3 d4 e2
                      cases q with
                      | false =>
                        have HE := Lib.hid (show I ≠ J from fun e => by
                          have h := HQQ.out
                          have : n = m := by rw [HN.out, HMM.out, e]
                          rw [this] at h
                          simp at h)
                        go_wp2_with fail
                        go_ret
                        exact ⟨_, rfl, by simp [HE.out], HA.out.trans HU5.out (fun _ h _ => h)⟩
                      | true =>
                        have hnm : n = m := (impE_iff n m).1 (by unfold impE; simp only [x1, x2, x3, ← HQQ.out, Bool.and_self, Bool.and_true])
                        have HT2 := Lib.hid (take_eq hlt hltm HT.out (by rw [← HN.out, ← HMM.out]; exact hnm))
                        clear hnm
                        go_wp2_with fail
                        go_roundw
                        case rel => exact ⟨k + 1, by omega, by go_num, HU5, HT2⟩
                        case measure => simp [RowKit.intOf]; omega
              · have H4 := Lib.hid (show I.imports = J.imports from take_all (k := k) (by omega) (by omega) HT.out)
                go_wp2_with fail
                go_loopw [8, 9, 10, 11] (fun i _ _ _ wr => ∃ k : Nat, k ≤ I.methods.length ∧ i = .int .i64 k ∧ Hid (Upd (fun _ => False) ((w.alloc (.cells #[.string I.name, .slice fa I.fields.length fc, .slice ia I.imports.length ic, .slice ma I.methods.length mc, .slice xa I.exports.length xc] 32)).alloc (.cells #[.string J.name, .slice ga J.fields.length gc, .slice ja J.imports.length jc, .slice na J.methods.length nc, .slice ya J.exports.length yc] 32)) wr) ∧ Hid (I.methods.take k = J.methods.take k)) (fun i _ _ _ _ => I.methods.length - (RowKit.intOf i).toNat)
                case atStart => exact ⟨0, Nat.zero_le _, rfl, HU, HS0⟩
                case round =>
                  clear c0 c1 c2 c3 c4 d0 d1 d2 d3 d4
                  obtain ⟨k, hk, rfl, HUM, HS⟩ := hrel
                  obtain ⟨⟨c0, c1, c2, c3, c4⟩, d0, d1, d2, d3, d4⟩ := boxes5 HUM.out
                  by_cases hlt : k < I.methods.length
                  · have hltm : k < J.methods.length := by omega
                    have HW := Lib.hid (HA.out.trans HUM.out (fun _ h _ => h))
                    obtain ⟨g1, o1, pv, lv, kv, rfl, hc0, hc1, hc2, hc3, hXp, hXl, hXk, -⟩ := (HM.out.later (upd_below HW.out)).at hlt
                    obtain ⟨g2, o2, qv, mv, jv, rfl, hd0, hd1, hd2, hd3, hYp, hYl, hYk, -⟩ := (HN.out.later (upd_below HW.out)).at hltm
                    obtain ⟨n, hn⟩ : ∃ n, n = I.methods.getD k default := ⟨_, rfl⟩
                    obtain ⟨m, hm⟩ : ∃ m, m = J.methods.getD k default := ⟨_, rfl⟩
                    try rw [← hn] at hc0
                    try rw [← hn] at hc1
                    try rw [← hn] at hc2
                    try rw [← hn] at hc3
                    rw [← hn] at hXp hXl hXk
                    try rw [← hm] at hd0
                    try rw [← hm] at hd1
                    try rw [← hm] at hd2
                    try rw [← hm] at hd3
                    rw [← hm] at hYp hYl hYk
                    obtain ⟨pa, pc, rfl, upa, vpa⟩ := hXp.slice
                    unfold maxLen at vpa
                    obtain ⟨la, lc, rfl, ula, vla⟩ := hXl.slice
                    unfold maxLen at vla
                    obtain ⟨ka, kc, rfl, uka, vka⟩ := hXk.slice
                    unfold maxLen at vka
                    obtain ⟨qa, qc, rfl, uqa, vqa⟩ := hYp.slice
                    unfold maxLen at vqa
                    obtain ⟨sa, sc, rfl, usa, vsa⟩ := hYl.slice
                    unfold maxLen at vsa
                    obtain ⟨ta, tc, rfl, uta, vta⟩ := hYk.slice
                    unfold maxLen at vta
                    have HXP := Lib.hid hXp
                    have HXL := Lib.hid hXl
                    have HXK := Lib.hid hXk
                    have HYP := Lib.hid hYp
                    have HYL := Lib.hid hYl
                    have HYK := Lib.hid hYk
                    have HEN := Lib.hid hn
                    have HEM := Lib.hid hm
                    have HA1 := Lib.hid (Upd.alloc (fun _ => False) wr (.cells #[.slice pa n.params.length pc, .int .i64 n.res, .slice la n.locals.length lc, .slice ka n.code.length kc] 52))
                    have HA2 := Lib.hid (HA1.out.trans (Upd.alloc (fun _ => False) _ (.cells #[.slice qa m.params.length qc, .int .i64 m.res, .slice sa m.locals.length sc, .slice ta m.code.length tc] 52)) (fun _ h _ => h))
                    have hd0' := later (upd_below HA1.out) hd0
                    have hd1' := later (upd_below HA1.out) hd1
                    have hd2' := later (upd_below HA1.out) hd2
                    have hd3' := later (upd_below HA1.out) hd3
                    have e3 := later (upd_below HA1.out) d3
                    have hi1 : (0 : Int) ≤ (k : Int) := Int.natCast_nonneg _
                    have hi2 : (k : Int) < (I.methods.length : Int) := by omega
                    have hi3 : (k : Int) < (J.methods.length : Int) := by omega
                    clear hn hm hXp hXl hXk hYp hYl hYk
                    cases x1 : (n.res == m.res) with
                    | false =>
                      have x1' : (n.res != m.res) = true := by simp only [bne, x1]; rfl
                      have HE := Lib.hid (show I ≠ J from fun e => by
                        have : n = m := by rw [HEN.out, HEM.out, e]
                        rw [this] at x1
                        simp at x1)
                      go_wp2_with fail
                      go_ret
                      exact ⟨_, rfl, by simp [HE.out], HW.out.trans HA2.out (fun _ h _ => h)⟩
                    | true =>
                      have x1' : (n.res != m.res) = false := by simp only [bne, x1]; rfl
                      go_wp2_with fail
                      refine (rSameInts _ _ _ n.params m.params (HXP.out.later (upd_below HA2.out)) (HYP.out.later (upd_below HA2.out))).mono ?_
                      rintro e w5 ⟨rfl, hu⟩
                      have HC : Hid (Upd (fun _ => False) ((wr.alloc (.cells #[.slice pa n.params.length pc, .int .i64 n.res, .slice la n.locals.length lc, .slice ka n.code.length kc] 52)).alloc (.cells #[.slice qa m.params.length qc, .int .i64 m.res, .slice sa m.locals.length sc, .slice ta m.code.length tc] 52)) w5) := Lib.hid hu
                      clear hc0 hc1 hc2 hc3 hd0 hd1 hd2 hd3 hd0' hd1' hd2' hd3' c0 c1 c2 c3 c4 d0 d1 d2 d3 d4 e3
                      obtain ⟨⟨b0, b1, b2, b3⟩, a0, a1, a2, a3⟩ := boxes4 HC.out
                      obtain ⟨q, hq⟩ : ∃ q, q = decide (n.params = m.params) := ⟨_, rfl⟩
                      rw [← hq]
                      have HQ_params := Lib.hid hq
                      clear hu hq
                      cases q with
                      | false =>
                        have HE := Lib.hid (show I ≠ J from fun e => by
                          have h := HQ_params.out
                          have : n = m := by rw [HEN.out, HEM.out, e]
                          rw [this] at h
                          simp at h)
                        go_wp2_with fail
                        go_ret
                        exact ⟨_, rfl, by simp [HE.out], (HW.out.trans HA2.out (fun _ h _ => h)).trans HC.out (fun _ h _ => h)⟩
                      | true =>
                        go_wp2_with fail
                        refine (rSameInts _ _ _ n.locals m.locals (HXL.out.later (upd_below (HA2.out.trans HC.out (fun _ h _ => h)))) (HYL.out.later (upd_below (HA2.out.trans HC.out (fun _ h _ => h))))).mono ?_
                        rintro e w5 ⟨rfl, hu⟩
                        replace HC := Lib.hid (HC.out.trans hu (fun _ h _ => h))
                        clear b0 b1 b2 b3 a0 a1 a2 a3
                        obtain ⟨⟨b0, b1, b2, b3⟩, a0, a1, a2, a3⟩ := boxes4 HC.out
                        obtain ⟨q, hq⟩ : ∃ q, q = decide (n.locals = m.locals) := ⟨_, rfl⟩
                        rw [← hq]
                        have HQ_locals := Lib.hid hq
                        clear hu hq
                        cases q with
                        | false =>
                          have HE := Lib.hid (show I ≠ J from fun e => by
                            have h := HQ_locals.out
                            have : n = m := by rw [HEN.out, HEM.out, e]
                            rw [this] at h
                            simp at h)
                          go_wp2_with fail
                          go_ret
                          exact ⟨_, rfl, by simp [HE.out], (HW.out.trans HA2.out (fun _ h _ => h)).trans HC.out (fun _ h _ => h)⟩
                        | true =>
                          cases x4 : ((n.code.length : Int) == (m.code.length : Int)) with
                          | false =>
                            have x4' : ((n.code.length : Int) != (m.code.length : Int)) = true := by simp only [bne, x4]; rfl
                            have HE := Lib.hid (show I ≠ J from fun e => by
                              have : n = m := by rw [HEN.out, HEM.out, e]
                              rw [this] at x4
                              simp at x4)
                            go_wp2_with fail
                            go_ret
                            exact ⟨_, rfl, by simp [HE.out], (HW.out.trans HA2.out (fun _ h _ => h)).trans HC.out (fun _ h _ => h)⟩
                          | true =>
                            have x4' : ((n.code.length : Int) != (m.code.length : Int)) = false := by simp only [bne, x4]; rfl
                            have le4 : n.code.length = m.code.length := by have := beq_iff_eq.1 x4; omega
                            have l14 : n.code.length ≤ m.code.length := by omega
                            have l24 : m.code.length ≤ n.code.length := by omega
                            clear le4
                            have HR0 : Hid (n.code.take 0 = m.code.take 0) := Lib.hid rfl
                            go_wp2_with fail
                            go_loopw [11] (fun i w' => ∃ j : Nat, j ≤ n.code.length ∧ i = .int .i64 j ∧ Hid (Upd (fun _ => False) ((wr.alloc (.cells #[.slice pa n.params.length pc, .int .i64 n.res, .slice la n.locals.length lc, .slice ka n.code.length kc] 52)).alloc (.cells #[.slice qa m.params.length qc, .int .i64 m.res, .slice sa m.locals.length sc, .slice ta m.code.length tc] 52)) w') ∧ Hid (n.code.take j = m.code.take j)) (fun i _ => n.code.length - (RowKit.intOf i).toNat)
                            case atStart => exact ⟨0, Nat.zero_le _, rfl, HC, HR0⟩
                            case round =>
                              clear b0 b1 b2 b3 a0 a1 a2 a3
                              obtain ⟨j, hj, rfl, HUC, HR⟩ := hrel
                              rename_i w'
                              obtain ⟨⟨b0, b1, b2, b3⟩, a0, a1, a2, a3⟩ := boxes4 HUC.out
                              have HWC := Lib.hid (HA2.out.trans HUC.out (fun _ h _ => h))
                              by_cases hjl : j < n.code.length
                              · have hjm : j < m.code.length := by omega
                                obtain ⟨g3, o3, rfl, t0, t1, t2, -⟩ := (HXK.out.later (upd_below HWC.out)).at hjl
                                obtain ⟨g4, o4, rfl, s0, s1, s2, -⟩ := (HYK.out.later (upd_below HWC.out)).at hjm
                                obtain ⟨y, hy⟩ : ∃ y, y = n.code.getD j default := ⟨_, rfl⟩
                                obtain ⟨z, hz⟩ : ∃ z, z = m.code.getD j default := ⟨_, rfl⟩
                                rw [← hy] at t0 t1 t2
                                rw [← hz] at s0 s1 s2
                                have HYY := Lib.hid hy
                                have HZZ := Lib.hid hz
                                have hj1 : (0 : Int) ≤ (j : Int) := Int.natCast_nonneg _
                                have hj2 : (j : Int) < (n.code.length : Int) := by omega
                                have hj3 : (j : Int) < (m.code.length : Int) := by omega
                                clear hy hz
                                by_cases hyz : y = z
                                · have HR2 := Lib.hid (take_eq hjl hjm HR.out (by rw [← HYY.out, ← HZZ.out]; exact hyz))
                                  subst hyz
                                  go_wp2_with fail
                                  go_quiet (fail)
                                  go_wp2_with fail
                                  go_roundw
                                  case rel => exact ⟨j + 1, by omega, by go_num, Lib.hid (HUC.out.trans (upd_drewN _ _ _) (fun _ h _ => h)), HR2⟩
                                  case measure => simp [RowKit.intOf]; omega
                                · have HE := Lib.hid (show I ≠ J from fun e => by
                                    have : n = m := by rw [HEN.out, HEM.out, e]
                                    apply hyz
                                    rw [HYY.out, HZZ.out, this])
                                  have hdif : y.op ≠ z.op ∨ (y.op = z.op ∧ y.a ≠ z.a) ∨ (y.op = z.op ∧ y.a = z.a ∧ y.b ≠ z.b) := by
                                    by_cases h1 : y.op = z.op
                                    · by_cases h2 : y.a = z.a
                                      · exact .inr (.inr ⟨h1, h2, fun h3 => hyz (insE_of h1 h2 h3)⟩)
                                      · exact .inr (.inl ⟨h1, h2⟩)
                                    · exact .inl h1
                                  clear hyz
                                  rcases hdif with h1 | ⟨h1, h2⟩ | ⟨h1, h2, h3⟩
                                  all_goals
                                    go_wp2_with fail
                                    go_quiet (fail)
                                    go_wp2_with fail
                                    go_ret
                                    exact ⟨_, rfl, by simp [HE.out], (HW.out.trans HWC.out (fun _ h _ => h)).trans (upd_drewN _ _ _) (fun _ h _ => h)⟩
                              · have hcode : n.code = m.code := take_all (k := j) (by omega) (by omega) HR.out
                                have hnm : n = m := (metE_iff n m).1 (by unfold metE; simp only [x1, ← HQ_params.out, ← HQ_locals.out, hcode, decide_true, Bool.and_self])
                                have HS2 := Lib.hid (take_eq hlt hltm HS.out (by rw [← HEN.out, ← HEM.out]; exact hnm))
                                have HUM2 := Lib.hid (HUM.out.trans HWC.out (fun _ h _ => h))
                                clear hcode hnm
                                go_wp2_with fail
                                go_roundw
                                case rel => exact ⟨k + 1, by omega, by go_num, HUM2, HS2⟩
                                case measure => simp [RowKit.intOf]; omega
                  · have H5 := Lib.hid (show I.methods = J.methods from take_all (k := k) (by omega) (by omega) HS.out)
                    have HALL := Lib.hid (img_ext H1.out H2.out H4.out H5.out H3.out)
                    go_wp2_with fail
                    go_ret
                    exact ⟨_, rfl, by simp [HALL.out], HA.out.trans HUM.out (fun _ h _ => h)⟩
end

section
open Go.RowKit Go.Lib
set_option linter.unusedVariables false

def pinS : ByteArray := { data := #[112, 105, 110, 45, 49] }
/-- the applet of the example -/
def smallM : ImgM := ⟨pinS, [], [], [⟨[], 0, [], [⟨39, 0, 0⟩]⟩], []⟩
def smallL : List Int := [84, 65, 67, 73, 1, 5, 112, 105, 110, 45, 49, 0, 0, 1, 0, 0, 0, 1, 39, 0]
theorem small_right : imgB insB smallM = true := by kernel_rfl
theorem small_lay : imgL smallM = smallL := by kernel_rfl
theorem small_read : readP smallL = (0, smallM) := by kernel_rfl
theorem small_str : strOfNums (smallL.take 11) = { data := #[84, 65, 67, 73, 1, 5, 112, 105, 110, 45, 49] } := by kernel_rfl

theorem ints_nil (w : World) : Ints w (.slice none 0 0) [] := ⟨Sl.nil _ _ _, by simp⟩
/-- one instruction, one method with it, each in a block of its own -/
theorem small_mem (w : World) (e1 e2 : TypeId) (n : Nat) (hn : n = w.heap.size) : Mets ((w.alloc (.cells #[.int .i64 39, .int .i64 0, .int .i64 0] e1)).alloc (.cells #[.slice none 0 0, .int .i64 0, .slice none 0 0, .slice (some ⟨n, 0, none⟩) 1 1] e2)) (.slice (some ⟨n + 1, 0, none⟩) 1 1) smallM.methods := by
  subst hn
  have hi : Inss (w.alloc (.cells #[.int .i64 39, .int .i64 0, .int .i64 0] e1)) (.slice (some ⟨w.heap.size, 0, none⟩) 1 1) [⟨39, 0, 0⟩] := by
    refine ⟨(Sl.lit w e1 (0, 0) _ 3 1 1 (by decide) (Nat.le_refl _) (by decide)).congr (fun i hi j hj => ?_), by simp [wi64]⟩
    obtain rfl : i = 0 := by omega
    match j, hj with
    | 0, _ => rfl
    | 1, _ => rfl
    | 2, _ => rfl
  have hb := (upd_below (Upd.alloc (fun _ => False) (w.alloc (.cells #[.int .i64 39, .int .i64 0, .int .i64 0] e1)) (.cells #[.slice none 0 0, .int .i64 0, .slice none 0 0, .slice (some ⟨w.heap.size, 0, none⟩) 1 1] e2)))
  refine ⟨fun _ => .slice none 0 0, fun _ => .slice none 0 0, fun _ => .slice (some ⟨w.heap.size, 0, none⟩) 1 1, ?_, fun i hi2 => ?_, by simp [smallM, wi64]⟩
  · have := Sl.lit (w.alloc (.cells #[.int .i64 39, .int .i64 0, .int .i64 0] e1)) e2 (0, 0) #[.slice none 0 0, .int .i64 0, .slice none 0 0, .slice (some ⟨w.heap.size, 0, none⟩) 1 1] 4 1 1 (Nat.le_refl _) (Nat.le_refl _) (by decide)
    rw [show (w.alloc (.cells #[.int .i64 39, .int .i64 0, .int .i64 0] e1)).heap.size = w.heap.size + 1 by simp] at this
    refine this.congr (fun i hi j hj => ?_)
    obtain rfl : i = 0 := by omega
    match j, hj with
    | 0, _ => rfl
    | 1, _ => rfl
    | 2, _ => rfl
    | 3, _ => rfl
  · obtain rfl : i = 0 := by
      have : smallM.methods.length = 1 := rfl
      omega
    exact ⟨ints_nil _, ints_nil _, hi.later hb⟩

theorem cSmall (w : World) : Calls Tryz.prog 32 #[] w fun e w' => ∃ fa ia ma xa fc ic mc xc, e = .returned (img5 pinS (.slice fa 0 fc) (.slice ia 0 ic) (.slice ma 1 mc) (.slice xa 0 xc)) ∧ Img w' (img5 pinS (.slice fa 0 fc) (.slice ia 0 ic) (.slice ma 1 mc) (.slice xa 0 xc)) smallM ∧ Upd (fun _ => False) w w' := by
  go_enter Tryz.func32, Tryz.ntmps32
  go_wp2_with fail
  refine bodyPost_ret (v := img5 pinS (.slice none 0 0) (.slice none 0 0) (.slice (some ⟨w.heap.size + 1 + 1, 0, none⟩) 1 1) (.slice none 0 0)) (by simp [results, Tryz.f32, go_sem, pinS]) rfl ?_
  have hm := small_mem (w.alloc (.cells #[.string { data := #[112, 105, 110, 45, 49] }, .slice none 0 0, .slice none 0 0, .slice (some ⟨w.heap.size + 1 + 1, 0, none⟩) 1 1, .slice none 0 0] 32)) 55 52 (w.heap.size + 1) (by simp)
  refine ⟨_, _, _, _, _, _, _, _, rfl, ⟨_, _, _, _, rfl, ints_nil _, ⟨fun _ => .slice none 0 0, Sl.nil _ _ _, by simp [smallM], by simp [smallM]⟩, hm, ints_nil _, by decide⟩, ((Upd.alloc _ w _).trans (Upd.alloc _ _ _) (fun _ h _ => h)).trans (Upd.alloc _ _ _) (fun _ h _ => h)⟩

theorem keep_cells {w w' : World} (hu : Upd (fun _ => False) w w') {p : Addr} {v : Value} (h : w.cell? p = some v) : w'.cell? p = some v := (hu.cell (World.block_lt_of_cell? _ _ h) (fun h => h)).trans h

set_option maxRecDepth 100000 in
set_option maxHeartbeats 4000000 in
theorem known4 (w : World) : Calls Tryz.prog 10 #[] w fun e w' => e = .returned (.bool true) ∧ Upd (fun _ => False) w w' := by
  go_enter Tryz.func10, Tryz.ntmps10
  go_wp2_with fail
  refine (cSmall _).mono ?_
  rintro e w1 ⟨fa, ia, ma, xa, fc, ic, mc, xc, rfl, hI, hu⟩
  have HI := Lib.hid hI
  have HU := Lib.hid hu
  clear hI hu
  go_wp2_with fail
  refine (cImgLay _ _ smallM HI.out small_right).mono ?_
  rw [small_lay]
  rintro e w2 ⟨x, rfl, hN⟩
  obtain ⟨a2, n2, c2, rfl, hn2⟩ : ∃ a n c, x = .slice a n c ∧ n = 20 := by obtain ⟨a, c, h⟩ := ownsRow_slice hN.1; exact ⟨a, _, c, h, rfl⟩
  have hv := hN.vw (by decide)
  have hc2 : n2 ≤ c2 ∧ c2 ≤ maxLen := by
    obtain ⟨a, c, h1, h2, h3⟩ := hv.slice
    simp at h1
    obtain ⟨_, h4, rfl⟩ := h1
    rw [h4]
    exact ⟨h2, h3⟩
  obtain ⟨hc2, hc3⟩ := hc2
  have h11 : (11 : Int) < (n2 : Int) := by omega
  have h12 : 11 ≤ c2 := by omega
  have h13 : (11 : Int) ≤ (c2 : Int) := by omega
  subst hn2
  unfold maxLen at hc3
  have HV := Lib.hid hv
  have HU2 := Lib.hid (HU.out.trans hN.2.1 (fun _ h _ => h))
  clear hN hv
  go_wp2_with fail
  refine (cImgRead _ _ smallL HV.out).mono ?_
  rw [small_read]
  rintro e w3 ⟨r, rfl, hI, hu⟩
  obtain ⟨f, i, m, y, hr, hf, hi, hm, hy, hsz⟩ := hI
  replace hr : r = img5 pinS f i m y := hr
  subst hr
  obtain ⟨ga, gc, rfl⟩ : ∃ a c, f = .slice a 0 c := by obtain ⟨a, c, h, _⟩ := hf.slice; exact ⟨a, c, h⟩
  obtain ⟨ja, jc, rfl⟩ : ∃ a c, i = .slice a 0 c := by obtain ⟨a, c, h, _⟩ := hi.slice; exact ⟨a, c, h⟩
  obtain ⟨na, nc, rfl⟩ : ∃ a c, m = .slice a 1 c := by obtain ⟨a, c, h, _⟩ := hm.slice; exact ⟨a, c, h⟩
  obtain ⟨ya, yc, rfl⟩ : ∃ a c, y = .slice a 0 c := by obtain ⟨a, c, h, _⟩ := hy.slice; exact ⟨a, c, h⟩
  have ha := (Upd.alloc (fun _ => False) w3 (.cells #[.string pinS, .slice ga 0 gc, .slice ja 0 jc, .slice na 1 nc, .slice ya 0 yc] 32)).trans (Upd.drew (fun _ => False) _) (fun _ h _ => h)
  have HU3 := Lib.hid ((HU2.out.trans hu (fun _ h _ => h)).trans ha (fun _ h _ => h))
  have HI4 : Hid (Img _ (img5 pinS (.slice ga 0 gc) (.slice ja 0 jc) (.slice na 1 nc) (.slice ya 0 yc)) smallM) := Lib.hid ((show Img w3 (img5 pinS (.slice ga 0 gc) (.slice ja 0 jc) (.slice na 1 nc) (.slice ya 0 yc)) smallM from ⟨_, _, _, _, rfl, hf, hi, hm, hy, hsz⟩).later (upd_below ha))
  have hs := str3 (((HV.out.upd hu (fun _ _ h => h)).upd ha (fun _ _ h => h)).take rfl 11 (by decide))
  rw [small_str] at hs
  have HB4 : Hid (Is5 32 (w3.alloc (.cells #[.string pinS, .slice ga 0 gc, .slice ja 0 jc, .slice na 1 nc, .slice ya 0 yc] 32)).drew w3.heap.size (.string pinS) (.slice ga 0 gc) (.slice ja 0 jc) (.slice na 1 nc) (.slice ya 0 yc)) := Lib.hid (Is5.upd (cells5_new (w := w3) (t := 32)) (Upd.drew (fun _ => False) _) (fun h => h))
  have HP : Hid (pinS = { data := #[112, 105, 110, 45, 49] }) := Lib.hid rfl
  clear hf hi hm hy hsz hu ha
  go_wp2_with fail
  refine wp_region_any (by kernel_rfl) ?_
  try (change wpAny _ _ _ _ _ _ _ (World.drew _))
  refine wpAny_ready (rs := [0]) (by kernel_rfl) (by simp) ?_
  refine AllReady.cons rfl (fun K hK => ?_) AllReady.nil
  go_simp
  refine hK _ _ ?_
  clear hK K
  refine wpAny_ready (rs := [1]) (by kernel_rfl) (by simp) ?_
  refine AllReady.cons rfl (fun K hK => ?_) AllReady.nil
  go_simp
  refine hK _ _ ?_
  clear hK K
  refine wpAny_ready (rs := [2]) (by kernel_rfl) (by simp) ?_
  refine AllReady.cons rfl (fun K hK => ?_) AllReady.nil
  go_simp
  refine hK _ _ ?_
  clear hK K
  refine wpAny_ready (rs := [3]) (by kernel_rfl) (by simp) ?_
  refine AllReady.cons rfl (fun K hK => ?_) AllReady.nil
  go_simp
  refine hK _ _ ?_
  clear hK K
  refine wpAny_ready (rs := [4]) (by kernel_rfl) (by simp) ?_
  refine AllReady.cons rfl (fun K hK => ?_) AllReady.nil
  go_simp
  refine hK _ _ ?_
  clear hK K
  refine wpAny_ready (rs := [5]) (by kernel_rfl) (by simp) ?_
  refine AllReady.cons rfl (fun K hK => ?_) AllReady.nil
  go_simp
  refine hK _ _ ?_
  clear hK K
  refine wpAny_ready (rs := [6]) (by kernel_rfl) (by simp) ?_
  refine AllReady.cons rfl (fun K hK => ?_) AllReady.nil
  go_simp
  refine hK _ _ ?_
  clear hK K
  refine wpAny_ready (rs := [7]) (by kernel_rfl) (by simp) ?_
  refine AllReady.cons rfl (fun K hK => ?_) AllReady.nil
  go_simp
  refine hK _ _ ?_
  clear hK K
  refine wpAny_ready (rs := [8]) (by kernel_rfl) (by simp) ?_
  refine AllReady.cons rfl (fun K hK => ?_) AllReady.nil
  go_simp
  refine hK _ _ ?_
  clear hK K
  refine wpAny_ready (rs := [9]) (by kernel_rfl) (by simp) ?_
  refine AllReady.cons rfl (fun K hK => ?_) AllReady.nil
  go_simp
  refine hK _ _ ?_
  clear hK K
  refine wpAny_ready (rs := [10]) (by kernel_rfl) (by simp) ?_
  refine AllReady.cons rfl (fun K hK => ?_) AllReady.nil
  go_simp
  refine hK _ _ ?_
  clear hK K
  refine wpAny_ready (rs := [11]) (by kernel_rfl) (by simp) ?_
  refine AllReady.cons rfl (fun K hK => ?_) AllReady.nil
  go_simp
  refine hK _ _ ?_
  clear hK K
  refine wpAny_ready (rs := [12]) (by kernel_rfl) (by simp) ?_
  refine AllReady.cons rfl (fun K hK => ?_) AllReady.nil
  go_simp
  refine hK _ _ ?_
  clear hK K
  refine wpAny_ready (rs := [13]) (by kernel_rfl) (by simp) ?_
  refine AllReady.cons rfl (fun K hK => ?_) AllReady.nil
  go_simp
  refine hK _ _ ?_
  clear hK K
  refine wpAny_ready (rs := [14]) (by kernel_rfl) (by simp) ?_
  refine AllReady.cons rfl (fun K hK => ?_) AllReady.nil
  go_simp
  refine hK _ _ ?_
  clear hK K
  refine wpAny_ready (rs := [15]) (by kernel_rfl) (by simp) ?_
  refine AllReady.cons rfl (fun K hK => ?_) AllReady.nil
  go_simp
  refine hK _ _ ?_
  clear hK K
  refine wpAny_ready (rs := [16]) (by kernel_rfl) (by simp) ?_
  refine AllReady.cons rfl (fun K hK => ?_) AllReady.nil
  go_simp
  refine hK _ _ ?_
  clear hK K
  refine wpAny_ready (rs := [17]) (by kernel_rfl) (by simp) ?_
  refine AllReady.cons rfl (fun K hK => ?_) AllReady.nil
  go_simp
  refine hK _ _ ?_
  clear hK K
  have b0 := HB4.out.c0
  have b1 := HB4.out.c1
  have b2 := HB4.out.c2
  have b3 := HB4.out.c3
  have b4 := HB4.out.c4
  clear hs
  refine wpAny_ready (rs := [18, 19]) (by kernel_rfl) (by simp) ?_
  refine AllReady.cons rfl (fun K hK => ?_) (AllReady.cons rfl (fun K hK => ?_) AllReady.nil)
  · go_simp
    refine hK _ _ ?_
    clear hK K
    refine wpAny_ready (rs := [19]) (by kernel_rfl) (by simp) ?_
    refine AllReady.cons rfl (fun K hK => ?_) AllReady.nil
    go_simp
    go_wp2_with (go_at_call 32; (with_reducible refine (cSmall _).mono ?_); rintro e w5 ⟨fa5, ia5, ma5, xa5, fc5, ic5, mc5, xc5, rfl, hI5, hu5⟩; have HI5 := Lib.hid hI5; have HU5 := Lib.hid hu5; have HB5 := Lib.hid (HB4.out.upd hu5 (fun h => h)); clear b0 b1 b2 b3 b4; have b0 := HB5.out.c0; have b1 := HB5.out.c1; have b2 := HB5.out.c2; have b3 := HB5.out.c3; have b4 := HB5.out.c4; clear hI5 hu5)
    refine wpAny_ready (rs := [20]) (by kernel_rfl) (by simp) ?_
    refine AllReady.cons rfl (fun K hK => ?_) AllReady.nil
    go_simp
    go_wp2_with (go_at_call 33; (with_reducible refine (cImgSame _ _ _ smallM smallM (HI4.out.later (upd_below HU5.out)) HI5.out).mono ?_); rintro e w6 ⟨q, rfl, hq, hu6⟩; obtain rfl := hq.2 rfl; have HU6 := Lib.hid ((HU3.out.trans HU5.out (fun _ h _ => h)).trans hu6 (fun _ h _ => h)); have HB6 := Lib.hid (HB5.out.upd hu6 (fun h => h)); clear b0 b1 b2 b3 b4; have b0 := HB6.out.c0; rw [HP.out] at b0; clear hu6 hq)
    refine wpAny_ready (rs := [21]) (by kernel_rfl) (by simp) ?_
    refine AllReady.cons rfl (fun K hK => ?_) AllReady.nil
    go_simp
    refine hK _ _ ?_
    clear hK K
    refine wpAny_ready (rs := [22]) (by kernel_rfl) (by simp) ?_
    refine AllReady.cons rfl (fun K hK => ?_) AllReady.nil
    go_simp
    refine hK _ _ ?_
    clear hK K
    refine wpAny_ready (rs := [23]) (by kernel_rfl) (by simp) ?_
    refine AllReady.cons rfl (fun K hK => ?_) AllReady.nil
    go_simp
    refine hK _ _ ?_
    clear hK K
    refine wpAny_ready (rs := [24]) (by kernel_rfl) (by simp) ?_
    refine AllReady.cons rfl (fun K hK => ?_) AllReady.nil
    go_simp
    refine hK _ _ ?_
    clear hK K
    refine wpAny_ready (rs := [25]) (by kernel_rfl) (by simp) ?_
    refine AllReady.cons rfl (fun K hK => ?_) AllReady.nil
    go_simp
    refine hK _ _ ?_
    clear hK K
    refine wpAny_ready (rs := [26]) (by kernel_rfl) (by simp) ?_
    refine AllReady.cons rfl (fun K hK => ?_) AllReady.nil
    go_simp
    refine hK _ _ ?_
    clear hK K
    refine wpAny_ready (rs := [27]) (by kernel_rfl) (by simp) ?_
    refine AllReady.cons rfl (fun K hK => ?_) AllReady.nil
    go_simp
    refine hK _ _ ?_
    clear hK K
    refine wpAny_done (by kernel_rfl) ?_ _
    go_wp2_with fail
    go_ret
    exact ⟨rfl, HU6.out⟩
  · go_simp
    go_wp2_with (go_at_call 32; (with_reducible refine (cSmall _).mono ?_); rintro e w5 ⟨fa5, ia5, ma5, xa5, fc5, ic5, mc5, xc5, rfl, hI5, hu5⟩; have HI5 := Lib.hid hI5; have HU5 := Lib.hid hu5; have HB5 := Lib.hid (HB4.out.upd hu5 (fun h => h)); clear b0 b1 b2 b3 b4; have b0 := HB5.out.c0; have b1 := HB5.out.c1; have b2 := HB5.out.c2; have b3 := HB5.out.c3; have b4 := HB5.out.c4; clear hI5 hu5)
    refine wpAny_ready (rs := [18]) (by kernel_rfl) (by simp) ?_
    refine AllReady.cons rfl (fun K hK => ?_) AllReady.nil
    go_simp
    refine hK _ _ ?_
    clear hK K
    refine wpAny_ready (rs := [20]) (by kernel_rfl) (by simp) ?_
    refine AllReady.cons rfl (fun K hK => ?_) AllReady.nil
    go_simp
    go_wp2_with (go_at_call 33; (with_reducible refine (cImgSame _ _ _ smallM smallM (HI4.out.later (upd_below HU5.out)) HI5.out).mono ?_); rintro e w6 ⟨q, rfl, hq, hu6⟩; obtain rfl := hq.2 rfl; have HU6 := Lib.hid ((HU3.out.trans HU5.out (fun _ h _ => h)).trans hu6 (fun _ h _ => h)); have HB6 := Lib.hid (HB5.out.upd hu6 (fun h => h)); clear b0 b1 b2 b3 b4; have b0 := HB6.out.c0; rw [HP.out] at b0; clear hu6 hq)
    refine wpAny_ready (rs := [21]) (by kernel_rfl) (by simp) ?_
    refine AllReady.cons rfl (fun K hK => ?_) AllReady.nil
    go_simp
    refine hK _ _ ?_
    clear hK K
    refine wpAny_ready (rs := [22]) (by kernel_rfl) (by simp) ?_
    refine AllReady.cons rfl (fun K hK => ?_) AllReady.nil
    go_simp
    refine hK _ _ ?_
    clear hK K
    refine wpAny_ready (rs := [23]) (by kernel_rfl) (by simp) ?_
    refine AllReady.cons rfl (fun K hK => ?_) AllReady.nil
    go_simp
    refine hK _ _ ?_
    clear hK K
    refine wpAny_ready (rs := [24]) (by kernel_rfl) (by simp) ?_
    refine AllReady.cons rfl (fun K hK => ?_) AllReady.nil
    go_simp
    refine hK _ _ ?_
    clear hK K
    refine wpAny_ready (rs := [25]) (by kernel_rfl) (by simp) ?_
    refine AllReady.cons rfl (fun K hK => ?_) AllReady.nil
    go_simp
    refine hK _ _ ?_
    clear hK K
    refine wpAny_ready (rs := [26]) (by kernel_rfl) (by simp) ?_
    refine AllReady.cons rfl (fun K hK => ?_) AllReady.nil
    go_simp
    refine hK _ _ ?_
    clear hK K
    refine wpAny_ready (rs := [27]) (by kernel_rfl) (by simp) ?_
    refine AllReady.cons rfl (fun K hK => ?_) AllReady.nil
    go_simp
    refine hK _ _ ?_
    clear hK K
    refine wpAny_done (by kernel_rfl) ?_ _
    go_wp2_with fail
    go_ret
    exact ⟨rfl, HU6.out⟩
end

section
open Go.RowKit Go.Lib Go.ChangeShapes Go.WideShapes Go.Deep Go.Joins
set_option linter.unusedVariables false
set_option linter.unusedSimpArgs false

section
variable {H : Type} {enc : TypeId × Value → H} {W : World}
/-- a slice of structs of sz cells each, element by element -/
theorem open_rows {α : Type} [Inhabited α] {t e : TypeId} {sz n : Nat} {v : Value} {x : DataW H × List MemPlace} (ht : Tryz.prog.underlying t = some (.slice e)) (hc : Tryz.prog.cellsOf e = sz) (h0 : 0 < sz) (Rel : α → (Nat → Value) → Prop)
    (each : ∀ (m : Nat) (cs : List Value) (y : DataW H × List MemPlace), cs.length = sz → DataW.trod enc Tryz.prog W 0 (fun _ => true) true m e cs = some y → ∃ a : α, Rel a (fun j => cs.getD j (.int .i64 0)))
    (h : DataW.trod enc Tryz.prog W 0 (fun _ => true) true n t [v] = some x) : ∃ (L : List α) (f : Nat → Nat → Value), Sl W v sz L.length f ∧ ∀ i, i < L.length → Rel (L.getD i default) (f i) := by
  rcases open_slice ht h with ⟨hcs, hx⟩ | ⟨a, len, cap, m, n1, D, Pl, hcs, _, hl, hm, hmm, hx, hf⟩
  · simp at hcs
    subst hcs
    exact ⟨[], fun _ _ => .int .i64 0, Sl.nil _ _ _, fun i hi => by simp at hi⟩
  · simp at hcs
    subst hcs
    simp at hmm
    subst hmm
    have all : ∀ i, i < m → ∃ (a' : α) (c : Nat → Value), (∀ j, j < sz → W.cell? (a.add (i * sz + j)) = some (c j)) ∧ Rel a' c := by
      intro i hi
      obtain ⟨cs', hcell, htr⟩ := hf i hi
      obtain ⟨_, hlen, hat⟩ := World.cells?_some hcell
      rw [hc] at hlen hat
      obtain ⟨a', hr⟩ := each _ cs' _ hlen htr
      refine ⟨a', _, fun j hj => ?_, hr⟩
      have := hat j hj
      rw [Go.Deep.add_add] at this
      rw [this]
      simp [List.getD, hlen, hj]
    by_cases hlen0 : len = 0
    · subst hlen0
      exact ⟨[], fun _ _ => .int .i64 0, ⟨some a, m, rfl, Nat.zero_le _, hm, .inl rfl⟩, fun i hi => by simp at hi⟩
    · have hspot : a.spot = none := by
        obtain ⟨a', c, h1, _⟩ := all 0 (by omega)
        have := World.cell?_spot (h1 0 h0)
        simpa [Addr.add] using this
      obtain ⟨g, off, spot⟩ := a
      simp at hspot
      subst hspot
      obtain ⟨F, hF⟩ : ∃ F : Nat → α × (Nat → Value), ∀ i, i < m → (∀ j, j < sz → W.cell? ((⟨g, off, none⟩ : Addr).add (i * sz + j)) = some ((F i).2 j)) ∧ Rel (F i).1 (F i).2 :=
        ⟨fun i => if hi : i < m then (Classical.choose (all i hi), Classical.choose (Classical.choose_spec (all i hi))) else (default, fun _ => .int .i64 0), fun i hi => by
          simp only [dif_pos hi]
          exact Classical.choose_spec (Classical.choose_spec (all i hi))⟩
      have hget : ∀ i, i < len → ((List.range len).map (fun i => (F i).1)).getD i default = (F i).1 := fun i hi => by simp [List.getD, hi]
      refine ⟨(List.range len).map (fun i => (F i).1), fun i => (F i).2, ⟨some ⟨g, off, none⟩, m, by simp, by simp; omega, hm, .inr ⟨g, off, rfl, fun i hi j hj => ?_⟩⟩, fun i hi => ?_⟩
      · simp at hi
        have := (hF i (by omega)).1 j hj
        rw [addr_add] at this
        rw [← this, Nat.add_assoc]
      · simp at hi
        rw [hget i hi]
        exact (hF i (by omega)).2

set_option maxRecDepth 100000 in
theorem cellsOf_ins : Tryz.prog.cellsOf 55 = 3 := by kernel_rfl
theorem cellsOf_imp : Tryz.prog.cellsOf 49 = 4 := by kernel_rfl
theorem cellsOf_met : Tryz.prog.cellsOf 52 = 4 := by kernel_rfl
theorem cellsOf_img : Tryz.prog.cellsOf 32 = 5 := by kernel_rfl
theorem cellsOf_str : Tryz.prog.cellsOf 9 = 1 := by kernel_rfl
theorem cellsOf_ints : Tryz.prog.cellsOf 24 = 1 := by kernel_rfl
theorem cellsOf_inss : Tryz.prog.cellsOf 50 = 1 := by kernel_rfl
theorem cellsOf_imps : Tryz.prog.cellsOf 29 = 1 := by kernel_rfl
theorem cellsOf_mets : Tryz.prog.cellsOf 30 = 1 := by kernel_rfl
theorem wiO_of {n : Int} (h : wf64 n) : wi64 n := bounds_i64 h

theorem open_numsI {H : Type} {enc : TypeId × Value → H} {W : World} {n : Nat} {v : Value} {x : DataW H × List MemPlace} (h : DataW.trod enc Tryz.prog W 0 (fun _ => true) true n 24 [v] = some x) :
    ∃ ys, Ints W v ys := by
  rcases open_ints Tryz.underlying24 Tryz.underlying3 (by kernel_rfl) h with ⟨hcs, hx⟩ | ⟨a, len, cap, zs, hcs, _, hl, hm, hz, hx, hcell, hwz⟩
  · simp at hcs
    subst hcs
    exact ⟨[], Sl.nil _ _ _, by simp⟩
  · simp at hcs
    subst hcs
    simp at hz
    have hlen : (zs.take len).length = len := by simp; omega
    refine ⟨zs.take len, ⟨a, cap, by rw [hlen], by omega, hm, ?_⟩, fun y hy => bounds_i64 (hwz y (List.mem_of_mem_take hy))⟩
    rw [hlen]
    obtain ⟨b, off, spot⟩ := a
    by_cases h0 : spot = none
    · subst h0
      refine .inr ⟨b, off, rfl, fun i hi j hj => ?_⟩
      have := hcell i (by omega)
      rw [addr_add] at this
      obtain rfl : j = 0 := by omega
      rw [Nat.mul_one, Nat.add_zero, this]
      simp [List.getD, hi]
    · refine .inl ?_
      rcases Nat.eq_zero_or_pos cap with h | h
      · omega
      · have := hcell 0 (by omega)
        have := World.cell?_spot this
        simp [Addr.add] at this
        exact absurd this h0

set_option maxRecDepth 100000 in
theorem open_inss {n : Nat} {v : Value} {x : DataW H × List MemPlace} (h : DataW.trod enc Tryz.prog W 0 (fun _ => true) true n 50 [v] = some x) : ∃ L, Inss W v L := by
  obtain ⟨L, f, hs, hr⟩ := open_rows (α := InsM) (sz := 3) Tryz.underlying50 cellsOf_ins (by omega) (fun y c => c 0 = .int .i64 y.op ∧ c 1 = .int .i64 y.a ∧ c 2 = .int .i64 y.b ∧ wi64 y.op ∧ wi64 y.a ∧ wi64 y.b) (fun m cs y hl ht => by
    obtain ⟨y0, y1, y2, m1, hD, hcl, t0, t1, t2⟩ := trod_struct3 Tryz.underlying55 ht
    match cs, hl with
    | [c0, c1, c2], _ =>
      have t0' : DataW.trod enc Tryz.prog W 0 (fun _ => true) true m1 3 (([c0, c1, c2].drop 0).take (Tryz.prog.cellsOf 3)) = some y0 := t0
      have t1' : DataW.trod enc Tryz.prog W 0 (fun _ => true) true m1 3 (([c0, c1, c2].drop 1).take (Tryz.prog.cellsOf 3)) = some y1 := t1
      have t2' : DataW.trod enc Tryz.prog W 0 (fun _ => true) true m1 3 (([c0, c1, c2].drop 2).take (Tryz.prog.cellsOf 3)) = some y2 := t2
      rw [one_raw] at t0' t1' t2'
      obtain ⟨o, rfl, _, wo⟩ := lit_of (v := c0) (by simpa using t0')
      obtain ⟨b, rfl, _, wb⟩ := lit_of (v := c1) (by simpa using t1')
      obtain ⟨c, rfl, _, wc⟩ := lit_of (v := c2) (by simpa using t2')
      exact ⟨⟨o, b, c⟩, rfl, rfl, rfl, wiO_of wo, wiO_of wb, wiO_of wc⟩) h
  refine ⟨L, hs.congr (fun i hi j hj => ?_), fun y hy => ?_⟩
  · obtain ⟨h0, h1, h2, -⟩ := hr i hi
    have : j = 0 ∨ j = 1 ∨ j = 2 := by omega
    rcases this with rfl | rfl | rfl
    · rw [h0]; rfl
    · rw [h1]; rfl
    · rw [h2]; rfl
  · obtain ⟨i, hi, rfl⟩ := List.mem_iff_getElem.1 hy
    have := hr i hi
    rw [show L.getD i default = L[i] by simp [List.getD, hi]] at this
    exact this.2.2.2

set_option maxRecDepth 100000 in
theorem open_imps {n : Nat} {v : Value} {x : DataW H × List MemPlace} (h : DataW.trod enc Tryz.prog W 0 (fun _ => true) true n 29 [v] = some x) : ∃ L, Imps W v L := by
  obtain ⟨L, f, hs, hr⟩ := open_rows (α := ImpM) (sz := 4) Tryz.underlying29 cellsOf_imp (by omega) (fun y c => c 0 = .string y.name ∧ c 1 = .int .i64 y.exp ∧ Ints W (c 2) y.params ∧ c 3 = .int .i64 y.res ∧ wi64 y.exp ∧ wi64 y.res ∧ y.name.size ≤ maxLen) (fun m cs y hl ht => by
    obtain ⟨y0, y1, y2, y3, m1, hD, hcl, t0, t1, t2, t3⟩ := trod_struct4 Tryz.underlying49 ht
    match cs, hl with
    | [c0, c1, c2, c3], _ =>
      have t0' : DataW.trod enc Tryz.prog W 0 (fun _ => true) true m1 9 (([c0, c1, c2, c3].drop 0).take (Tryz.prog.cellsOf 9)) = some y0 := t0
      have t1' : DataW.trod enc Tryz.prog W 0 (fun _ => true) true m1 3 (([c0, c1, c2, c3].drop 1).take (Tryz.prog.cellsOf 3)) = some y1 := t1
      have t2' : DataW.trod enc Tryz.prog W 0 (fun _ => true) true m1 24 (([c0, c1, c2, c3].drop 2).take (Tryz.prog.cellsOf 24)) = some y2 := t2
      have t3' : DataW.trod enc Tryz.prog W 0 (fun _ => true) true m1 3 (([c0, c1, c2, c3].drop 3).take (Tryz.prog.cellsOf 3)) = some y3 := t3
      rw [one_raw] at t1' t3'
      rw [cellsOf_str] at t0'
      rw [cellsOf_ints] at t2'
      obtain ⟨s, hs0, _, hss⟩ := DataW.trod_string Tryz.underlying9 t0'
      obtain ⟨b, rfl, _, wb⟩ := lit_of (v := c1) (by simpa using t1')
      obtain ⟨N, hN⟩ := open_numsI (v := c2) (by simpa using t2')
      obtain ⟨d, rfl, _, wd⟩ := lit_of (v := c3) (by simpa using t3')
      simp at hs0
      exact ⟨⟨s, b, N, d⟩, hs0, rfl, hN, rfl, wiO_of wb, wiO_of wd, hss⟩) h
  refine ⟨L, fun i => f i 2, hs.congr (fun i hi j hj => ?_), fun i hi => (hr i hi).2.2.1, fun y hy => ?_⟩
  · obtain ⟨h0, h1, -, h3, -⟩ := hr i hi
    have : j = 0 ∨ j = 1 ∨ j = 2 ∨ j = 3 := by omega
    rcases this with rfl | rfl | rfl | rfl
    · rw [h0]; rfl
    · rw [h1]; rfl
    · rfl
    · rw [h3]; rfl
  · obtain ⟨i, hi, rfl⟩ := List.mem_iff_getElem.1 hy
    have := hr i hi
    rw [show L.getD i default = L[i] by simp [List.getD, hi]] at this
    exact this.2.2.2.2

set_option maxRecDepth 100000 in
theorem open_mets {n : Nat} {v : Value} {x : DataW H × List MemPlace} (h : DataW.trod enc Tryz.prog W 0 (fun _ => true) true n 30 [v] = some x) : ∃ L, Mets W v L := by
  obtain ⟨L, f, hs, hr⟩ := open_rows (α := MetM) (sz := 4) Tryz.underlying30 cellsOf_met (by omega) (fun y c => Ints W (c 0) y.params ∧ c 1 = .int .i64 y.res ∧ Ints W (c 2) y.locals ∧ Inss W (c 3) y.code ∧ wi64 y.res) (fun m cs y hl ht => by
    obtain ⟨y0, y1, y2, y3, m1, hD, hcl, t0, t1, t2, t3⟩ := trod_struct4 Tryz.underlying52 ht
    match cs, hl with
    | [c0, c1, c2, c3], _ =>
      have t0' : DataW.trod enc Tryz.prog W 0 (fun _ => true) true m1 24 (([c0, c1, c2, c3].drop 0).take (Tryz.prog.cellsOf 24)) = some y0 := t0
      have t1' : DataW.trod enc Tryz.prog W 0 (fun _ => true) true m1 3 (([c0, c1, c2, c3].drop 1).take (Tryz.prog.cellsOf 3)) = some y1 := t1
      have t2' : DataW.trod enc Tryz.prog W 0 (fun _ => true) true m1 24 (([c0, c1, c2, c3].drop 2).take (Tryz.prog.cellsOf 24)) = some y2 := t2
      have t3' : DataW.trod enc Tryz.prog W 0 (fun _ => true) true m1 50 (([c0, c1, c2, c3].drop 3).take (Tryz.prog.cellsOf 50)) = some y3 := t3
      rw [one_raw] at t1'
      rw [cellsOf_ints] at t0' t2'
      rw [cellsOf_inss] at t3'
      obtain ⟨N, hN⟩ := open_numsI (v := c0) (by simpa using t0')
      obtain ⟨b, rfl, _, wb⟩ := lit_of (v := c1) (by simpa using t1')
      obtain ⟨M, hM⟩ := open_numsI (v := c2) (by simpa using t2')
      obtain ⟨C, hC⟩ := open_inss (v := c3) (by simpa using t3')
      exact ⟨⟨N, b, M, C⟩, hN, rfl, hM, hC, wiO_of wb⟩) h
  refine ⟨L, fun i => f i 0, fun i => f i 2, fun i => f i 3, hs.congr (fun i hi j hj => ?_), fun i hi => ⟨(hr i hi).1, (hr i hi).2.2.1, (hr i hi).2.2.2.1⟩, fun y hy => ?_⟩
  · obtain ⟨-, h1, -⟩ := hr i hi
    have : j = 0 ∨ j = 1 ∨ j = 2 ∨ j = 3 := by omega
    rcases this with rfl | rfl | rfl | rfl
    · rfl
    · rw [h1]; rfl
    · rfl
    · rfl
  · obtain ⟨i, hi, rfl⟩ := List.mem_iff_getElem.1 hy
    have := hr i hi
    rw [show L.getD i default = L[i] by simp [List.getD, hi]] at this
    exact this.2.2.2.2

set_option maxRecDepth 100000 in
theorem open_img {r : Reach} {b0 : Nat} {v : Value} {d : DataW H} {p : List MemPlace} (hv : Value.okWide Tryz.prog W r b0 32 v) (h : DataW.Trod enc Tryz.prog W 0 (fun _ => true) true 32 v d p) : ∃ I, Img W v I := by
  obtain ⟨cs, rfl, hsz⟩ := okWide_struct Tryz.underlying32 hv
  obtain ⟨l⟩ := cs
  match l, hsz.trans cellsOf_img with
  | [c0, c1, c2, c3, c4], _ =>
    obtain ⟨fuel, hf⟩ := h
    obtain ⟨xs, n, _, hx, _, hlen, hg⟩ := DataW.trod_struct Tryz.underlying32 hf
    have e : (Value.agg #[c0, c1, c2, c3, c4]).cells.toList = [c0, c1, c2, c3, c4] := rfl
    match xs, hlen with
    | [y0, y1, y2, y3, y4], _ =>
      have t0 : DataW.trod enc Tryz.prog W 0 (fun _ => true) true n 9 (([c0, c1, c2, c3, c4].drop 0).take (Tryz.prog.cellsOf 9)) = some y0 := hg 0 _ rfl
      have t1 : DataW.trod enc Tryz.prog W 0 (fun _ => true) true n 24 (([c0, c1, c2, c3, c4].drop 1).take (Tryz.prog.cellsOf 24)) = some y1 := hg 1 _ rfl
      have t2 : DataW.trod enc Tryz.prog W 0 (fun _ => true) true n 29 (([c0, c1, c2, c3, c4].drop 2).take (Tryz.prog.cellsOf 29)) = some y2 := hg 2 _ rfl
      have t3 : DataW.trod enc Tryz.prog W 0 (fun _ => true) true n 30 (([c0, c1, c2, c3, c4].drop 3).take (Tryz.prog.cellsOf 30)) = some y3 := hg 3 _ rfl
      have t4 : DataW.trod enc Tryz.prog W 0 (fun _ => true) true n 24 (([c0, c1, c2, c3, c4].drop 4).take (Tryz.prog.cellsOf 24)) = some y4 := hg 4 _ rfl
      rw [cellsOf_str] at t0
      rw [cellsOf_ints] at t1 t4
      rw [cellsOf_imps] at t2
      rw [cellsOf_mets] at t3
      obtain ⟨s, hs0, _, hss⟩ := DataW.trod_string Tryz.underlying9 t0
      obtain ⟨F, hF⟩ := open_numsI (v := c1) (by simpa using t1)
      obtain ⟨P, hP⟩ := open_imps (v := c2) (by simpa using t2)
      obtain ⟨M, hM⟩ := open_mets (v := c3) (by simpa using t3)
      obtain ⟨X, hX⟩ := open_numsI (v := c4) (by simpa using t4)
      simp at hs0
      subst hs0
      exact ⟨⟨s, F, P, M, X⟩, c1, c2, c3, c4, rfl, hF, hP, hM, hX, hss⟩
end
end

section
open Go.RowKit Go.Lib
set_option linter.unusedVariables false
set_option linter.unusedSimpArgs false

/-- the bytes that are read, somewhere in memory that there is -/
structure Bs (W w : World) (v : Value) (ys : List Int) : Prop where
  up : Upd (fun _ => False) W w
  vw : Vw w v ys
  lt : ∀ k, v.ownBlock = some k → k < w.heap.size
theorem Bs.quiet {W w w' : World} {v : Value} {ys : List Int} (h : Bs W w v ys) (hu : Upd (fun _ => False) w w') : Bs W w' v ys :=
  ⟨h.up.trans hu (fun _ h _ => h), h.vw.upd hu (fun _ _ h => h), fun k hk => Nat.lt_of_lt_of_le (h.lt k hk) hu.size⟩
theorem nameOk {w : World} (hT : Tabs w) : NameOk w := fun s u hb hs => rIsName s u hs (Utf8Tabs_below hT hb)
theorem Bins.upd {w w' : World} (h : Bins ⟨w, fun _ => False⟩) (hu : Upd (fun _ => False) w w') : Bins ⟨w', fun _ => False⟩ :=
  ⟨fun h => h, fun k hk => (hu.cell (World.block_lt_of_cell? _ _ (h.2 k hk)) (fun h => h)).trans (h.2 k hk)⟩
theorem ilCell5 {w : World} {b : Nat} {x y z u s : Value} {t : TypeId} (h : w.heap[b]? = some (.cells #[x, y, z, u, s] t (0, 0))) :
    w.cell? ⟨b, 0, none⟩ = some x ∧ w.cell? ⟨b, 1, none⟩ = some y ∧ w.cell? ⟨b, 2, none⟩ = some z ∧ w.cell? ⟨b, 3, none⟩ = some u ∧ w.cell? ⟨b, 4, none⟩ = some s := by
  refine ⟨?_, ?_, ?_, ?_, ?_⟩ <;> simp [World.cell?, h]
theorem rowFrozen {w : World} {e : TypeId} {size g n cap : Nat} {xs : List Value} (h : w.ownsRow 0 e size (.slice (some ⟨g, 0, Option.none⟩) n cap) n xs) (q : Nat) : w.frozen? ⟨g, q, Option.none⟩ = false := by
  rcases h.2 with ⟨he, _⟩ | ⟨g', cap', cur, he, _, hg, _⟩
  · simp at he
  · simp at he
    obtain ⟨rfl, rfl⟩ := he
    simp [World.frozen?, hg]
theorem rowSet {w : World} {base : Nat} {e : TypeId} {size g n cap : Nat} {xs : List Value} (h : w.ownsRow base e size (.slice (some ⟨g, 0, Option.none⟩) n cap) n xs) (q : Nat) (u : Value) :
    (w.setCell ⟨g, q, Option.none⟩ u).ownsRow base e size (.slice (some ⟨g, 0, Option.none⟩) n cap) n (xs.set q u) := by
  obtain ⟨hl, h⟩ := h
  rcases h with ⟨h, _⟩ | ⟨g', cap', cur, he, hb, hg, hc, hm, hcs, ht⟩
  · simp at h
  · simp at he
    obtain ⟨rfl, rfl⟩ := he
    refine ⟨by simpa using hl, .inr ⟨g, cap, cur.setIfInBounds q u, rfl, hb, ?_, hc, hm, by simpa using hcs, ?_⟩⟩
    · simp [World.setCell, Array.getElem?_modify, hg]
    · rw [Array.toList_setIfInBounds, ← ht, List.take_set]
theorem xor8 (a b : Int) : 0 ≤ bits BinOp.xor IntKind.u8 a b ∧ bits BinOp.xor IntKind.u8 a b ≤ 255 := by
  simpa [Lit.wf, IntKind.min, IntKind.max, IntKind.signed, IntKind.bits] using wf_bits BinOp.xor IntKind.u8 a b
theorem Vw.cellAt {w : World} {a : Option Addr} {l c k : Nat} {ys : List Int} (h : Vw w (.slice a l c) ys) (hk : k < ys.length) : ∃ g off, a = some ⟨g, off, none⟩ ∧ w.cell? ⟨g, off + k, none⟩ = some (.int .u8 (ys.getD k 0)) := by
  rcases h.2 with ⟨_, rfl⟩ | ⟨g, off, c', he, h1, h2, h3⟩
  · simp at hk
  · simp at he
    obtain ⟨rfl, -, -⟩ := he
    exact ⟨g, off, rfl, h3 k hk⟩
set_option maxRecDepth 100000 in
set_option maxHeartbeats 8000000 in
theorem imageReads_walk (W : World) (k0 how : Int) (lv rv av bv0 : Value) (L : List RawR) (RW AT BY : List Int) (hl : RawsAt W lv L) (hL : L.length ≤ 4398046511104) (hr : Vw W rv RW) (ha : Ints W av AT) (hb : Vw W bv0 BY)
    (hsz : RW.length ≤ 1048576 ∧ BY.length ≤ 1048576) (hB : Bins ⟨W, fun _ => False⟩) (wh : wi64 how) (hT : Tabs W) :
    Calls Tryz.prog 3 #[.int .i64 k0, lv, rv, .int .i64 how, av, bv0] W fun e w' => e = .returned (.bool true) ∧ Upd (fun _ => False) W w' := by
  obtain ⟨i0, hi, hz0, hz1, hz2⟩ := info_parts info5
  obtain ⟨la, lc, rfl⟩ := hl.slice
  obtain ⟨ra, rc, rfl, -, -⟩ := hr.slice
  obtain ⟨aa, ac, rfl, -, haa⟩ := ha.slice
  obtain ⟨bva, bvc, rfl, -, -⟩ := hb.slice
  unfold maxLen at haa
  have HL := Lib.hid hl
  have HR := Lib.hid hr
  have HAT := Lib.hid ha
  have HBV := Lib.hid hb
  have HB := Lib.hid hB
  have HWH := Lib.hid wh
  have HNO := Lib.hid (nameOk hT)
  obtain ⟨hs1, hs2⟩ := hsz
  clear hl hr ha hb hB wh hT
  go_enter Tryz.func3, Tryz.ntmps3
  go_wp2_with fail
  refine (few W _ RW RW.length HR.out (.inl (by omega)) (by omega) (by omega)).mono ?_
  rw [show RW.take ((RW.length : Int)).toNat = RW by simp]
  rintro e w1 ⟨v1, rfl, hn1⟩
  obtain ⟨ba, bc, rfl⟩ := ownsRow_slice hn1.1
  obtain ⟨n, hn⟩ : ∃ n, n = RW.length := ⟨_, rfl⟩
  obtain ⟨ys, hys⟩ : ∃ ys, ys = RW := ⟨_, rfl⟩
  have HO1 : Hid (ys.length = n ∧ w1.ownsRow 0 5 1 (.slice ba n bc) n (bv ys) ∧ (∀ y ∈ ys, 0 ≤ y ∧ y ≤ 255) ∧ Upd (fun _ => False) W w1 ∧ n ≤ bc ∧ n ≤ 1048576) := Lib.hid (by
    rw [hys, hn]
    refine ⟨rfl, hn1.1, HR.out.1, hn1.2.1, ?_, hs1⟩
    obtain ⟨a9, c9, he, h9, -⟩ := (hn1.vw HR.out.1).slice
    simp at he
    omega)
  have HNW1 : Hid (∀ k, (Value.slice ba n bc).ownBlock = some k → W.heap.size ≤ k) := Lib.hid (by rw [hn]; exact hn1.2.2)
  rw [← hn]
  clear hn1 hn hys
  --CUT a
  have hcq : (decide (0 < Int.tmod how 5) = true) ∨ (decide (0 < Int.tmod how 5) = false) := by cases decide (0 < Int.tmod how 5) <;> simp
  rcases hcq with hc5 | hc5
  · as_aux_lemma =>
    --D{A
    go_wp2_with fail
    refine (hApplet w1 k0 _ L (HL.out.later (upd_below HO1.out.2.2.2.1)) hL (HB.out.upd HO1.out.2.2.2.1)).mono ?_
    rintro e w2 ⟨v, I0, rfl, hI, -, -, hu⟩
    have HI := Lib.hid hI
    obtain ⟨f, i, m, x, rfl, hf, hi', hm, hx, -⟩ := hI
    obtain ⟨fa, fc, rfl, -, -⟩ := hf.slice
    obtain ⟨ia, ic, rfl, -, -⟩ := hi'.slice
    obtain ⟨ma, mc, rfl, -, -⟩ := hm.slice
    obtain ⟨xa, xc, rfl, -, -⟩ := hx.slice
    have HU2 := Lib.hid (HO1.out.2.2.2.1.trans hu (fun _ h _ => h))
    have HO2 := Lib.hid (ownsRow_upd HO1.out.2.1 hu (fun _ _ h => h))
    clear hf hi' hm hx hu
    cases hrt : imgB insB I0 with
    | false => as_aux_lemma =>
      have HLN := Lib.hid (rImgLay_no _ _ I0 HI.out (HNO.out.later (upd_below HU2.out)) hrt)
      clear hrt
      go_wp2_with fail
      refine HLN.out.mono ?_
      rintro e wX ⟨rfl, hu⟩
      have HO : Hid (ys.length = n ∧ wX.ownsRow 0 5 1 (.slice ba n bc) n (bv ys) ∧ (∀ y ∈ ys, 0 ≤ y ∧ y ≤ 255) ∧ Upd (fun _ => False) W wX ∧ n ≤ bc ∧ n ≤ 1048576) := Lib.hid ⟨HO1.out.1, ownsRow_upd HO2.out hu (fun _ _ h => h), HO1.out.2.2.1, HU2.out.trans hu (fun _ h _ => h), HO1.out.2.2.2.2.1, HO1.out.2.2.2.2.2⟩
      have HNW := HNW1
      have HSX : Hid (Bs W wX (.slice ba n bc) ys) := Lib.hid ⟨HO.out.2.2.2.1, vw_of_row (by rw [HO.out.1]; exact HO.out.2.1) HO.out.2.2.1, fun k hk => (HO.out.2.1.lt k hk).2⟩
      clear hu HO1 HO2 HU2 HI HLN HNW1
      have hP := Int.emod_nonneg how (b := (4 : Int)) (by omega)
      have hP2 := Int.emod_lt_of_pos how (b := (4 : Int)) (by omega)
      go_wp2_with fail
      refine (hPick how 4 wX (by omega) (by omega)).mono ?_
      rintro e w' ⟨rfl, rfl⟩
      obtain ⟨P, hPe⟩ : ∃ P, P = how % 4 := ⟨_, rfl⟩
      rw [← hPe] at hP hP2 ⊢
      have hgr : ((P == 0) = true) ∨ ((P == 0) = false ∧ (P == 1) = true) ∨ ((P == 0) = false ∧ (P == 1) = false ∧ (P == 2) = true) ∨ ((P == 0) = false ∧ (P == 1) = false ∧ (P == 2) = false) := by
        by_cases h0 : P = 0
        · exact .inl (by simp [h0])
        · by_cases h1 : P = 1
          · exact .inr (.inl (by simp [h1]))
          · by_cases h2 : P = 2
            · exact .inr (.inr (.inl (by simp [h2])))
            · exact .inr (.inr (.inr (by simp [h0, h1, h2])))
      clear hPe hP hP2
      rcases hgr with p0 | ⟨p0, p1⟩ | ⟨p0, p1, p2⟩ | ⟨p0, p1, p2⟩
      · as_aux_lemma =>
        --D{s0
        go_wp2_with fail
        go_loopw [16] (fun j wr => ∃ (k : Nat) (zs : List Int), k ≤ 3 ∧ j = .int .i64 k ∧ Hid (zs.length = n ∧ wr.ownsRow 0 5 1 (.slice ba n bc) n (bv zs) ∧ (∀ y ∈ zs, 0 ≤ y ∧ y ≤ 255) ∧ Upd (fun _ => False) W wr)) (fun j _ => 3 - (RowKit.intOf j).toNat)
        case atStart => exact ⟨0, ys, by omega, rfl, Lib.hid ⟨HO.out.1, HO.out.2.1, HO.out.2.2.1, HO.out.2.2.2.1⟩⟩
        case round =>
          obtain ⟨k, zs, hk3, rfl, HZ⟩ := hrel
          by_cases hgo : k < AT.length ∧ k < BY.length ∧ k < 3 ∧ 0 < n
          · obtain ⟨hg1, hg2, hg3, hg4⟩ := hgo
            --D{sr
            have HBL := Lib.hid (upd_below HZ.out.2.2.2)
            obtain ⟨ga, oa, rfl, ca, -⟩ := (HAT.out.later HBL.out).at hg1
            obtain ⟨gb, ob, rfl, cb⟩ := (HBV.out.upd HZ.out.2.2.2 (fun _ _ h => h)).cellAt hg2
            obtain ⟨g, hbg⟩ : ∃ g, ba = some ⟨g, 0, none⟩ := by
              rcases HZ.out.2.1.2 with ⟨_, h0⟩ | ⟨g, cap, cur, he, _⟩
              · omega
              · simp at he; exact ⟨g, he.1⟩
            subst hbg
            obtain ⟨A, hA⟩ : ∃ A, A = AT.getD k 0 := ⟨_, rfl⟩
            obtain ⟨Y, hY⟩ : ∃ Y, Y = BY.getD k 0 := ⟨_, rfl⟩
            rw [← hA] at ca
            rw [← hY] at cb
            clear hA hY
            obtain ⟨q, hq, hq2⟩ : ∃ q : Nat, A % (n : Int) = (q : Int) ∧ q < n := by
              have h1 := Int.emod_nonneg A (b := (n : Int)) (by omega)
              have h2 := Int.emod_lt_of_pos A (b := (n : Int)) (by omega)
              exact ⟨(A % (n : Int)).toNat, by omega, by omega⟩
            have cq : wr.cell? ⟨g, q, none⟩ = some (.int .u8 (zs.getD q 0)) := by
              have := HZ.out.2.1.cells (g := g) rfl q (.int .u8 (zs.getD q 0)) (by simp [bv, List.getD, HZ.out.1, hq2])
              rw [addr_add, Nat.zero_add] at this
              exact this
            have fq : wr.frozen? ⟨g, q, none⟩ = false := rowFrozen HZ.out.2.1 q
            have hnB := HO.out.2.2.2.2.2
            have hi1 : (0 : Int) ≤ (k : Int) := Int.natCast_nonneg _
            have hi2 : (k : Int) < (AT.length : Int) := by omega
            have hi3 : (k : Int) < (BY.length : Int) := by omega
            have hi4 : (0 : Int) ≤ (q : Int) := Int.natCast_nonneg _
            have hi5 : (q : Int) < (n : Int) := by omega
            obtain ⟨z, hz⟩ : ∃ z, z = zs.getD q 0 := ⟨_, rfl⟩
            rw [← hz] at cq
            have hHeld : (fun w' : World => w'.cell? ⟨ga, oa + k, none⟩ = some (.int .i64 A) ∧ w'.cell? ⟨g, q, none⟩ = some (.int .u8 z) ∧ w'.cell? ⟨gb, ob + k, none⟩ = some (.int .u8 Y)) wr.drew := ⟨ca, cq, cb⟩
            have HZB : Hid (0 ≤ z ∧ z ≤ 255) := Lib.hid (by rw [hz]; exact HZ.out.2.2.1 _ (mem_getD0 (by rw [HZ.out.1]; exact hq2)))
            clear hz
            go_upto_region 11 with fail
            --CUT u1
            refine wp_region_last (S := fun w' => w'.cell? ⟨ga, oa + k, none⟩ = some (.int .i64 A) ∧ w'.cell? ⟨g, q, none⟩ = some (.int .u8 z) ∧ w'.cell? ⟨gb, ob + k, none⟩ = some (.int .u8 Y)) 16 _ (by kernel_rfl) (by kernel_rfl) rfl ?_
            change wpHL _ _ _ _ _ _ _ _ _ _ wr.drew
            --CUT u2
            refine wpHL_take (i := 0) (v := ?_) rfl (by kernel_rfl) (fun _ _ _ h => h) hHeld (Or.inl ⟨by rfl, ?_⟩) ?_
            rotate_left
            · (intro w hSw; obtain ⟨y0, y1, y2⟩ := hSw; go_simp; try with_reducible rfl)
            simp only [Act.put, List.getElem_toArray, List.getElem_cons_succ, List.getElem_cons_zero, List.setIfInBounds_toArray, List.set_cons_zero, List.set_cons_succ]
            refine wpHL_take (i := 1) (v := ?_) rfl (by kernel_rfl) (fun _ _ _ h => h) hHeld (Or.inl ⟨by rfl, ?_⟩) ?_
            rotate_left
            · (intro w hSw; obtain ⟨y0, y1, y2⟩ := hSw; go_simp; try with_reducible rfl)
            simp only [Act.put, List.getElem_toArray, List.getElem_cons_succ, List.getElem_cons_zero, List.setIfInBounds_toArray, List.set_cons_zero, List.set_cons_succ]
            refine wpHL_take (i := 2) (v := ?_) rfl (by kernel_rfl) (fun _ _ _ h => h) hHeld (Or.inl ⟨by rfl, ?_⟩) ?_
            rotate_left
            · (intro w hSw; obtain ⟨y0, y1, y2⟩ := hSw; go_simp; try with_reducible rfl)
            simp only [Act.put, List.getElem_toArray, List.getElem_cons_succ, List.getElem_cons_zero, List.setIfInBounds_toArray, List.set_cons_zero, List.set_cons_succ]
            refine wpHL_take (i := 3) (v := ?_) rfl (by kernel_rfl) (fun _ _ _ h => h) hHeld (Or.inl ⟨by rfl, ?_⟩) ?_
            rotate_left
            · (intro w hSw; obtain ⟨y0, y1, y2⟩ := hSw; go_simp; try with_reducible rfl)
            simp only [Act.put, List.getElem_toArray, List.getElem_cons_succ, List.getElem_cons_zero, List.setIfInBounds_toArray, List.set_cons_zero, List.set_cons_succ]
            refine wpHL_take (i := 4) (v := ?_) rfl (by kernel_rfl) (fun _ _ _ h => h) hHeld (Or.inl ⟨by rfl, ?_⟩) ?_
            rotate_left
            · (intro w hSw; obtain ⟨y0, y1, y2⟩ := hSw; go_simp; try with_reducible rfl)
            simp only [Act.put, List.getElem_toArray, List.getElem_cons_succ, List.getElem_cons_zero, List.setIfInBounds_toArray, List.set_cons_zero, List.set_cons_succ]
            refine wpHL_take (i := 5) (v := ?_) rfl (by kernel_rfl) (fun _ _ _ h => h) hHeld (Or.inl ⟨by rfl, ?_⟩) ?_
            rotate_left
            · (intro w hSw; obtain ⟨y0, y1, y2⟩ := hSw; go_simp; try with_reducible rfl)
            simp only [Act.put, List.getElem_toArray, List.getElem_cons_succ, List.getElem_cons_zero, List.setIfInBounds_toArray, List.set_cons_zero, List.set_cons_succ]
            refine wpHL_take (i := 6) (v := ?_) rfl (by kernel_rfl) (fun _ _ _ h => h) hHeld (Or.inl ⟨by rfl, ?_⟩) ?_
            rotate_left
            · (intro w hSw; obtain ⟨y0, y1, y2⟩ := hSw; go_simp; try with_reducible rfl)
            simp only [Act.put, List.getElem_toArray, List.getElem_cons_succ, List.getElem_cons_zero, List.setIfInBounds_toArray, List.set_cons_zero, List.set_cons_succ]
            refine wpHL_take (i := 10) (v := ?_) rfl (by kernel_rfl) (fun _ _ _ h => h) hHeld (Or.inl ⟨by rfl, ?_⟩) ?_
            rotate_left
            · (intro w hSw; obtain ⟨y0, y1, y2⟩ := hSw; go_simp; try with_reducible rfl)
            simp only [Act.put, List.getElem_toArray, List.getElem_cons_succ, List.getElem_cons_zero, List.setIfInBounds_toArray, List.set_cons_zero, List.set_cons_succ]
            refine wpHL_take (i := 11) (v := ?_) rfl (by kernel_rfl) (fun _ _ _ h => h) hHeld (Or.inl ⟨by rfl, ?_⟩) ?_
            rotate_left
            · (intro w hSw; obtain ⟨y0, y1, y2⟩ := hSw; go_simp; try with_reducible rfl)
            simp only [Act.put, List.getElem_toArray, List.getElem_cons_succ, List.getElem_cons_zero, List.setIfInBounds_toArray, List.set_cons_zero, List.set_cons_succ]
            refine wpHL_take (i := 12) (v := ?_) rfl (by kernel_rfl) (fun _ _ _ h => h) hHeld (Or.inl ⟨by rfl, ?_⟩) ?_
            rotate_left
            · (intro w hSw; obtain ⟨y0, y1, y2⟩ := hSw; go_simp; try with_reducible rfl)
            simp only [Act.put, List.getElem_toArray, List.getElem_cons_succ, List.getElem_cons_zero, List.setIfInBounds_toArray, List.set_cons_zero, List.set_cons_succ]
            refine wpHL_take (i := 13) (v := ?_) rfl (by kernel_rfl) (fun _ _ _ h => h) hHeld (Or.inl ⟨by rfl, ?_⟩) ?_
            rotate_left
            · (intro w hSw; obtain ⟨y0, y1, y2⟩ := hSw; go_simp; try with_reducible rfl)
            simp only [Act.put, List.getElem_toArray, List.getElem_cons_succ, List.getElem_cons_zero, List.setIfInBounds_toArray, List.set_cons_zero, List.set_cons_succ]
            --CUT u3
            refine wpHL_step (i := 7) rfl (by kernel_rfl) (by decide) (fun K hK0 => ?_)
            have HK0 := Lib.hid hK0
            clear hK0
            go_simp
            refine (hPick A (n : Int) wr.drew (by omega) (by omega)).mono ?_
            rw [hq]
            rintro e w' ⟨rfl, rfl⟩
            refine HK0.out _ _ hHeld ?_
            try simp only [Act.put, List.getElem_toArray, List.getElem_cons_succ, List.getElem_cons_zero, List.setIfInBounds_toArray, List.set_cons_zero, List.set_cons_succ]
            clear HK0
            --CUT u4
            refine wpHL_take (i := 8) (v := ?_) rfl (by kernel_rfl) (fun _ _ _ h => h) hHeld (Or.inl ⟨by rfl, ?_⟩) ?_
            rotate_left
            · (intro w hSw; obtain ⟨y0, y1, y2⟩ := hSw; go_simp; try with_reducible rfl)
            simp only [Act.put, List.getElem_toArray, List.getElem_cons_succ, List.getElem_cons_zero, List.setIfInBounds_toArray, List.set_cons_zero, List.set_cons_succ]
            refine wpHL_take (i := 9) (v := ?_) rfl (by kernel_rfl) (fun _ _ _ h => h) hHeld (Or.inl ⟨by rfl, ?_⟩) ?_
            rotate_left
            · (intro w hSw; obtain ⟨y0, y1, y2⟩ := hSw; go_simp; try with_reducible rfl)
            simp only [Act.put, List.getElem_toArray, List.getElem_cons_succ, List.getElem_cons_zero, List.setIfInBounds_toArray, List.set_cons_zero, List.set_cons_succ]
            refine wpHL_take (i := 14) (v := ?_) rfl (by kernel_rfl) (fun _ _ _ h => h) hHeld (Or.inl ⟨by rfl, ?_⟩) ?_
            rotate_left
            · (intro w hSw; obtain ⟨y0, y1, y2⟩ := hSw; go_simp; try with_reducible rfl)
            simp only [Act.put, List.getElem_toArray, List.getElem_cons_succ, List.getElem_cons_zero, List.setIfInBounds_toArray, List.set_cons_zero, List.set_cons_succ]
            refine wpHL_take (i := 15) (v := ?_) rfl (by kernel_rfl) (fun _ _ _ h => h) hHeld (Or.inl ⟨by rfl, ?_⟩) ?_
            rotate_left
            · (intro w hSw; obtain ⟨y0, y1, y2⟩ := hSw; go_simp; try with_reducible rfl)
            simp only [Act.put, List.getElem_toArray, List.getElem_cons_succ, List.getElem_cons_zero, List.setIfInBounds_toArray, List.set_cons_zero, List.set_cons_succ]
            clear hHeld
            refine wpHL_last (by kernel_rfl) ?_
            --CUT u5
            go_wp2_with fail
            have hne : W.heap.size ≤ g := HNW.out g rfl
            have hup : Upd (fun k => k = g) wr ((wr.setCell ⟨g, q, none⟩ (.int .u8 (bits BinOp.xor IntKind.u8 z Y))).drew) := (Upd.setCell (S := fun k => k = g) wr (.inl rfl) _).trans (Upd.drew (fun k => k = g) _) (fun _ h _ => h)
            have HZN : Hid ((zs.set q (bits BinOp.xor IntKind.u8 z Y)).length = n ∧ ((wr.setCell ⟨g, q, none⟩ (.int .u8 (bits BinOp.xor IntKind.u8 z Y))).drew).ownsRow 0 5 1 (.slice (some ⟨g, 0, none⟩) n bc) n (bv (zs.set q (bits BinOp.xor IntKind.u8 z Y))) ∧ (∀ y ∈ zs.set q (bits BinOp.xor IntKind.u8 z Y), 0 ≤ y ∧ y ≤ 255) ∧ Upd (fun _ => False) W ((wr.setCell ⟨g, q, none⟩ (.int .u8 (bits BinOp.xor IntKind.u8 z Y))).drew)) := Lib.hid ⟨by simpa using HZ.out.1, by
              have h1 := rowSet HZ.out.2.1 q (.int .u8 (bits BinOp.xor IntKind.u8 z Y))
              have h2 := ownsRow_upd h1 (Upd.drew (fun _ => False) _) (fun _ _ h => h)
              simpa [bv, List.map_set] using h2, fun y hy => by
              rcases List.mem_or_eq_of_mem_set hy with hy | rfl
              · exact HZ.out.2.2.1 y hy
              · exact xor8 z Y, HZ.out.2.2.2.trans hup (fun i hi hlt => by omega)⟩
            go_roundw
            case rel => exact ⟨k + 1, _, by omega, by go_num, HZN⟩
            case measure => simp [RowKit.intOf]; omega
            --D}sr
          · have hor : AT.length ≤ k ∨ (k < AT.length ∧ BY.length ≤ k) ∨ (k < AT.length ∧ k < BY.length ∧ k = 3) ∨ (k < AT.length ∧ k < BY.length ∧ k < 3 ∧ n = 0) := by omega
            clear hgo
            have HSZ : Hid (Bs W wr (.slice ba n bc) zs) := Lib.hid ⟨HZ.out.2.2.2, vw_of_row (by rw [HZ.out.1]; exact HZ.out.2.1) HZ.out.2.2.1, fun k hk => (HZ.out.2.1.lt k hk).2⟩
            have HZL := Lib.hid HZ.out.1
            obtain ⟨ys2, hys2⟩ : ∃ ys2, ys2 = zs := ⟨_, rfl⟩
            rw [← hys2] at HSZ HZL
            clear hys2
            rcases hor with h1 | ⟨h1, h2⟩ | ⟨h1, h2, rfl⟩ | ⟨h1, h2, h3, rfl⟩
            · as_aux_lemma =>
              --D{y1
              go_wp2_with fail
              --CUT t1
              refine (cImgRead _ _ (ys2) HSZ.out.vw).mono ?_
              rintro e w20 ⟨r, rfl, hI, hu⟩
              obtain ⟨I, hIe⟩ : ∃ I, I = (readP (ys2)).2 := ⟨_, rfl⟩
              obtain ⟨er, her⟩ : ∃ er, er = (readP (ys2)).1 := ⟨_, rfl⟩
              rw [← hIe] at hI
              rw [← her]
              have HRE := Lib.hid (show rReadP (ys2) = (er, I) by rw [rRead_eq HSZ.out.vw.1, her, hIe])
              have HI := Lib.hid hI
              obtain ⟨f, i, m, x, rfl, hf, hi, hm, hx, -⟩ := hI
              obtain ⟨fa, fc, rfl, -, -⟩ := hf.slice
              obtain ⟨ia, ic, rfl, -, -⟩ := hi.slice
              obtain ⟨ma, mc, rfl, -, -⟩ := hm.slice
              obtain ⟨xa, xc, rfl, -, -⟩ := hx.slice
              have ha := hu.trans (Upd.alloc (fun _ => False) w20 (.cells #[.string I.name, .slice fa I.fields.length fc, .slice ia I.imports.length ic, .slice ma I.methods.length mc, .slice xa I.exports.length xc] 32)) (fun _ h _ => h)
              have HX := Lib.hid (topAt w20 (.cells #[.string I.name, .slice fa I.fields.length fc, .slice ia I.imports.length ic, .slice ma I.methods.length mc, .slice xa I.exports.length xc] 32) _ rfl)
              have HIX := Lib.hid (HI.out.later (upd_below (Upd.alloc (fun _ => False) w20 (.cells #[.string I.name, .slice fa I.fields.length fc, .slice ia I.imports.length ic, .slice ma I.methods.length mc, .slice xa I.exports.length xc] 32))))
              have H20 := Lib.hid (HSZ.out.quiet ha)
              have HRD := Lib.hid (rImgRead _ _ (ys2) H20.out.vw H20.out.lt (HNO.out.later (upd_below H20.out.up)))
              rw [HRE.out] at HRD
              clear hf hi hm hx hu ha hIe her HI
              --CUT t2
              go_wp2_with fail
              --CUT t3
              refine HRD.out.mono ?_
              rintro e w21 ⟨r, rfl, hJ, hu⟩
              have HJ := Lib.hid hJ
              obtain ⟨f, i, m, x, rfl, hf, hi, hm, hx, -⟩ := hJ
              obtain ⟨fb, fd, rfl, -, -⟩ := hf.slice
              obtain ⟨ib, id, rfl, -, -⟩ := hi.slice
              obtain ⟨mb, md, rfl, -, -⟩ := hm.slice
              obtain ⟨xb, xd, rfl, -, -⟩ := hx.slice
              have ha := hu.trans (Upd.alloc (fun _ => False) w21 (.cells #[.string I.name, .slice fb I.fields.length fd, .slice ib I.imports.length id, .slice mb I.methods.length md, .slice xb I.exports.length xd] 32)) (fun _ h _ => h)
              have HX2 := Lib.hid (stay_blk ha HX.out (fun h => h))
              have HY := Lib.hid (topAt w21 (.cells #[.string I.name, .slice fb I.fields.length fd, .slice ib I.imports.length id, .slice mb I.methods.length md, .slice xb I.exports.length xd] 32) _ rfl)
              have HIX2 := Lib.hid (HIX.out.later (upd_below ha))
              have HJX := Lib.hid (HJ.out.later (upd_below (Upd.alloc (fun _ => False) w21 (.cells #[.string I.name, .slice fb I.fields.length fd, .slice ib I.imports.length id, .slice mb I.methods.length md, .slice xb I.exports.length xd] 32))))
              have H21 := Lib.hid (H20.out.quiet ha)
              have hbe : (er == er) = true := by simp
              clear hf hi hm hx hu ha HJ HX HIX H20 HRD
              --CUT t4
              go_wp2_with fail
              --CUT t5
              refine (known4 _).mono ?_
              rintro e w22 ⟨rfl, hu⟩
              have HX3 := Lib.hid (stay_blk hu HX2.out (fun h => h))
              have HY3 := Lib.hid (stay_blk hu HY.out (fun h => h))
              have HIX3 := Lib.hid (HIX2.out.later (upd_below hu))
              have HJX3 := Lib.hid (HJX.out.later (upd_below hu))
              have H22 := Lib.hid (H21.out.quiet hu)
              obtain ⟨c0, c1, c2, c3, c4⟩ := ilCell5 HX3.out
              obtain ⟨d0, d1, d2, d3, d4⟩ := ilCell5 HY3.out
              clear hu HX2 HY HIX2 HJX H21
              --CUT t6
              go_wp2_with fail
              --CUT t7
              refine (rSame _ _ _ I I HIX3.out HJX3.out).mono ?_
              rintro e w23 ⟨r, rfl, hr, hu⟩
              obtain rfl : r = true := hr.2 rfl
              have HU23 := Lib.hid (H22.out.up.trans hu (fun _ h _ => h))
              clear hr hu
              go_wp2_with fail
              go_ret
              exact ⟨rfl, HU23.out⟩
              --D}y1
            · as_aux_lemma =>
              --D{y2
              go_wp2_with fail
              --CUT t1
              refine (cImgRead _ _ (ys2) HSZ.out.vw).mono ?_
              rintro e w20 ⟨r, rfl, hI, hu⟩
              obtain ⟨I, hIe⟩ : ∃ I, I = (readP (ys2)).2 := ⟨_, rfl⟩
              obtain ⟨er, her⟩ : ∃ er, er = (readP (ys2)).1 := ⟨_, rfl⟩
              rw [← hIe] at hI
              rw [← her]
              have HRE := Lib.hid (show rReadP (ys2) = (er, I) by rw [rRead_eq HSZ.out.vw.1, her, hIe])
              have HI := Lib.hid hI
              obtain ⟨f, i, m, x, rfl, hf, hi, hm, hx, -⟩ := hI
              obtain ⟨fa, fc, rfl, -, -⟩ := hf.slice
              obtain ⟨ia, ic, rfl, -, -⟩ := hi.slice
              obtain ⟨ma, mc, rfl, -, -⟩ := hm.slice
              obtain ⟨xa, xc, rfl, -, -⟩ := hx.slice
              have ha := hu.trans (Upd.alloc (fun _ => False) w20 (.cells #[.string I.name, .slice fa I.fields.length fc, .slice ia I.imports.length ic, .slice ma I.methods.length mc, .slice xa I.exports.length xc] 32)) (fun _ h _ => h)
              have HX := Lib.hid (topAt w20 (.cells #[.string I.name, .slice fa I.fields.length fc, .slice ia I.imports.length ic, .slice ma I.methods.length mc, .slice xa I.exports.length xc] 32) _ rfl)
              have HIX := Lib.hid (HI.out.later (upd_below (Upd.alloc (fun _ => False) w20 (.cells #[.string I.name, .slice fa I.fields.length fc, .slice ia I.imports.length ic, .slice ma I.methods.length mc, .slice xa I.exports.length xc] 32))))
              have H20 := Lib.hid (HSZ.out.quiet ha)
              have HRD := Lib.hid (rImgRead _ _ (ys2) H20.out.vw H20.out.lt (HNO.out.later (upd_below H20.out.up)))
              rw [HRE.out] at HRD
              clear hf hi hm hx hu ha hIe her HI
              --CUT t2
              go_wp2_with fail
              --CUT t3
              refine HRD.out.mono ?_
              rintro e w21 ⟨r, rfl, hJ, hu⟩
              have HJ := Lib.hid hJ
              obtain ⟨f, i, m, x, rfl, hf, hi, hm, hx, -⟩ := hJ
              obtain ⟨fb, fd, rfl, -, -⟩ := hf.slice
              obtain ⟨ib, id, rfl, -, -⟩ := hi.slice
              obtain ⟨mb, md, rfl, -, -⟩ := hm.slice
              obtain ⟨xb, xd, rfl, -, -⟩ := hx.slice
              have ha := hu.trans (Upd.alloc (fun _ => False) w21 (.cells #[.string I.name, .slice fb I.fields.length fd, .slice ib I.imports.length id, .slice mb I.methods.length md, .slice xb I.exports.length xd] 32)) (fun _ h _ => h)
              have HX2 := Lib.hid (stay_blk ha HX.out (fun h => h))
              have HY := Lib.hid (topAt w21 (.cells #[.string I.name, .slice fb I.fields.length fd, .slice ib I.imports.length id, .slice mb I.methods.length md, .slice xb I.exports.length xd] 32) _ rfl)
              have HIX2 := Lib.hid (HIX.out.later (upd_below ha))
              have HJX := Lib.hid (HJ.out.later (upd_below (Upd.alloc (fun _ => False) w21 (.cells #[.string I.name, .slice fb I.fields.length fd, .slice ib I.imports.length id, .slice mb I.methods.length md, .slice xb I.exports.length xd] 32))))
              have H21 := Lib.hid (H20.out.quiet ha)
              have hbe : (er == er) = true := by simp
              clear hf hi hm hx hu ha HJ HX HIX H20 HRD
              --CUT t4
              go_wp2_with fail
              --CUT t5
              refine (known4 _).mono ?_
              rintro e w22 ⟨rfl, hu⟩
              have HX3 := Lib.hid (stay_blk hu HX2.out (fun h => h))
              have HY3 := Lib.hid (stay_blk hu HY.out (fun h => h))
              have HIX3 := Lib.hid (HIX2.out.later (upd_below hu))
              have HJX3 := Lib.hid (HJX.out.later (upd_below hu))
              have H22 := Lib.hid (H21.out.quiet hu)
              obtain ⟨c0, c1, c2, c3, c4⟩ := ilCell5 HX3.out
              obtain ⟨d0, d1, d2, d3, d4⟩ := ilCell5 HY3.out
              clear hu HX2 HY HIX2 HJX H21
              --CUT t6
              go_wp2_with fail
              --CUT t7
              refine (rSame _ _ _ I I HIX3.out HJX3.out).mono ?_
              rintro e w23 ⟨r, rfl, hr, hu⟩
              obtain rfl : r = true := hr.2 rfl
              have HU23 := Lib.hid (H22.out.up.trans hu (fun _ h _ => h))
              clear hr hu
              go_wp2_with fail
              go_ret
              exact ⟨rfl, HU23.out⟩
              --D}y2
            · as_aux_lemma =>
              --D{y3
              go_wp2_with fail
              --CUT t1
              refine (cImgRead _ _ (ys2) HSZ.out.vw).mono ?_
              rintro e w20 ⟨r, rfl, hI, hu⟩
              obtain ⟨I, hIe⟩ : ∃ I, I = (readP (ys2)).2 := ⟨_, rfl⟩
              obtain ⟨er, her⟩ : ∃ er, er = (readP (ys2)).1 := ⟨_, rfl⟩
              rw [← hIe] at hI
              rw [← her]
              have HRE := Lib.hid (show rReadP (ys2) = (er, I) by rw [rRead_eq HSZ.out.vw.1, her, hIe])
              have HI := Lib.hid hI
              obtain ⟨f, i, m, x, rfl, hf, hi, hm, hx, -⟩ := hI
              obtain ⟨fa, fc, rfl, -, -⟩ := hf.slice
              obtain ⟨ia, ic, rfl, -, -⟩ := hi.slice
              obtain ⟨ma, mc, rfl, -, -⟩ := hm.slice
              obtain ⟨xa, xc, rfl, -, -⟩ := hx.slice
              have ha := hu.trans (Upd.alloc (fun _ => False) w20 (.cells #[.string I.name, .slice fa I.fields.length fc, .slice ia I.imports.length ic, .slice ma I.methods.length mc, .slice xa I.exports.length xc] 32)) (fun _ h _ => h)
              have HX := Lib.hid (topAt w20 (.cells #[.string I.name, .slice fa I.fields.length fc, .slice ia I.imports.length ic, .slice ma I.methods.length mc, .slice xa I.exports.length xc] 32) _ rfl)
              have HIX := Lib.hid (HI.out.later (upd_below (Upd.alloc (fun _ => False) w20 (.cells #[.string I.name, .slice fa I.fields.length fc, .slice ia I.imports.length ic, .slice ma I.methods.length mc, .slice xa I.exports.length xc] 32))))
              have H20 := Lib.hid (HSZ.out.quiet ha)
              have HRD := Lib.hid (rImgRead _ _ (ys2) H20.out.vw H20.out.lt (HNO.out.later (upd_below H20.out.up)))
              rw [HRE.out] at HRD
              clear hf hi hm hx hu ha hIe her HI
              --CUT t2
              go_wp2_with fail
              --CUT t3
              refine HRD.out.mono ?_
              rintro e w21 ⟨r, rfl, hJ, hu⟩
              have HJ := Lib.hid hJ
              obtain ⟨f, i, m, x, rfl, hf, hi, hm, hx, -⟩ := hJ
              obtain ⟨fb, fd, rfl, -, -⟩ := hf.slice
              obtain ⟨ib, id, rfl, -, -⟩ := hi.slice
              obtain ⟨mb, md, rfl, -, -⟩ := hm.slice
              obtain ⟨xb, xd, rfl, -, -⟩ := hx.slice
              have ha := hu.trans (Upd.alloc (fun _ => False) w21 (.cells #[.string I.name, .slice fb I.fields.length fd, .slice ib I.imports.length id, .slice mb I.methods.length md, .slice xb I.exports.length xd] 32)) (fun _ h _ => h)
              have HX2 := Lib.hid (stay_blk ha HX.out (fun h => h))
              have HY := Lib.hid (topAt w21 (.cells #[.string I.name, .slice fb I.fields.length fd, .slice ib I.imports.length id, .slice mb I.methods.length md, .slice xb I.exports.length xd] 32) _ rfl)
              have HIX2 := Lib.hid (HIX.out.later (upd_below ha))
              have HJX := Lib.hid (HJ.out.later (upd_below (Upd.alloc (fun _ => False) w21 (.cells #[.string I.name, .slice fb I.fields.length fd, .slice ib I.imports.length id, .slice mb I.methods.length md, .slice xb I.exports.length xd] 32))))
              have H21 := Lib.hid (H20.out.quiet ha)
              have hbe : (er == er) = true := by simp
              clear hf hi hm hx hu ha HJ HX HIX H20 HRD
              --CUT t4
              go_wp2_with fail
              --CUT t5
              refine (known4 _).mono ?_
              rintro e w22 ⟨rfl, hu⟩
              have HX3 := Lib.hid (stay_blk hu HX2.out (fun h => h))
              have HY3 := Lib.hid (stay_blk hu HY.out (fun h => h))
              have HIX3 := Lib.hid (HIX2.out.later (upd_below hu))
              have HJX3 := Lib.hid (HJX.out.later (upd_below hu))
              have H22 := Lib.hid (H21.out.quiet hu)
              obtain ⟨c0, c1, c2, c3, c4⟩ := ilCell5 HX3.out
              obtain ⟨d0, d1, d2, d3, d4⟩ := ilCell5 HY3.out
              clear hu HX2 HY HIX2 HJX H21
              --CUT t6
              go_wp2_with fail
              --CUT t7
              refine (rSame _ _ _ I I HIX3.out HJX3.out).mono ?_
              rintro e w23 ⟨r, rfl, hr, hu⟩
              obtain rfl : r = true := hr.2 rfl
              have HU23 := Lib.hid (H22.out.up.trans hu (fun _ h _ => h))
              clear hr hu
              go_wp2_with fail
              go_ret
              exact ⟨rfl, HU23.out⟩
              --D}y3
            · as_aux_lemma =>
              --D{y4
              go_wp2_with fail
              --CUT t1
              refine (cImgRead _ _ (ys2) HSZ.out.vw).mono ?_
              rintro e w20 ⟨r, rfl, hI, hu⟩
              obtain ⟨I, hIe⟩ : ∃ I, I = (readP (ys2)).2 := ⟨_, rfl⟩
              obtain ⟨er, her⟩ : ∃ er, er = (readP (ys2)).1 := ⟨_, rfl⟩
              rw [← hIe] at hI
              rw [← her]
              have HRE := Lib.hid (show rReadP (ys2) = (er, I) by rw [rRead_eq HSZ.out.vw.1, her, hIe])
              have HI := Lib.hid hI
              obtain ⟨f, i, m, x, rfl, hf, hi, hm, hx, -⟩ := hI
              obtain ⟨fa, fc, rfl, -, -⟩ := hf.slice
              obtain ⟨ia, ic, rfl, -, -⟩ := hi.slice
              obtain ⟨ma, mc, rfl, -, -⟩ := hm.slice
              obtain ⟨xa, xc, rfl, -, -⟩ := hx.slice
              have ha := hu.trans (Upd.alloc (fun _ => False) w20 (.cells #[.string I.name, .slice fa I.fields.length fc, .slice ia I.imports.length ic, .slice ma I.methods.length mc, .slice xa I.exports.length xc] 32)) (fun _ h _ => h)
              have HX := Lib.hid (topAt w20 (.cells #[.string I.name, .slice fa I.fields.length fc, .slice ia I.imports.length ic, .slice ma I.methods.length mc, .slice xa I.exports.length xc] 32) _ rfl)
              have HIX := Lib.hid (HI.out.later (upd_below (Upd.alloc (fun _ => False) w20 (.cells #[.string I.name, .slice fa I.fields.length fc, .slice ia I.imports.length ic, .slice ma I.methods.length mc, .slice xa I.exports.length xc] 32))))
              have H20 := Lib.hid (HSZ.out.quiet ha)
              have HRD := Lib.hid (rImgRead _ _ (ys2) H20.out.vw H20.out.lt (HNO.out.later (upd_below H20.out.up)))
              rw [HRE.out] at HRD
              clear hf hi hm hx hu ha hIe her HI
              --CUT t2
              go_wp2_with fail
              --CUT t3
              refine HRD.out.mono ?_
              rintro e w21 ⟨r, rfl, hJ, hu⟩
              have HJ := Lib.hid hJ
              obtain ⟨f, i, m, x, rfl, hf, hi, hm, hx, -⟩ := hJ
              obtain ⟨fb, fd, rfl, -, -⟩ := hf.slice
              obtain ⟨ib, id, rfl, -, -⟩ := hi.slice
              obtain ⟨mb, md, rfl, -, -⟩ := hm.slice
              obtain ⟨xb, xd, rfl, -, -⟩ := hx.slice
              have ha := hu.trans (Upd.alloc (fun _ => False) w21 (.cells #[.string I.name, .slice fb I.fields.length fd, .slice ib I.imports.length id, .slice mb I.methods.length md, .slice xb I.exports.length xd] 32)) (fun _ h _ => h)
              have HX2 := Lib.hid (stay_blk ha HX.out (fun h => h))
              have HY := Lib.hid (topAt w21 (.cells #[.string I.name, .slice fb I.fields.length fd, .slice ib I.imports.length id, .slice mb I.methods.length md, .slice xb I.exports.length xd] 32) _ rfl)
              have HIX2 := Lib.hid (HIX.out.later (upd_below ha))
              have HJX := Lib.hid (HJ.out.later (upd_below (Upd.alloc (fun _ => False) w21 (.cells #[.string I.name, .slice fb I.fields.length fd, .slice ib I.imports.length id, .slice mb I.methods.length md, .slice xb I.exports.length xd] 32))))
              have H21 := Lib.hid (H20.out.quiet ha)
              have hbe : (er == er) = true := by simp
              clear hf hi hm hx hu ha HJ HX HIX H20 HRD
              --CUT t4
              go_wp2_with fail
              --CUT t5
              refine (known4 _).mono ?_
              rintro e w22 ⟨rfl, hu⟩
              have HX3 := Lib.hid (stay_blk hu HX2.out (fun h => h))
              have HY3 := Lib.hid (stay_blk hu HY.out (fun h => h))
              have HIX3 := Lib.hid (HIX2.out.later (upd_below hu))
              have HJX3 := Lib.hid (HJX.out.later (upd_below hu))
              have H22 := Lib.hid (H21.out.quiet hu)
              obtain ⟨c0, c1, c2, c3, c4⟩ := ilCell5 HX3.out
              obtain ⟨d0, d1, d2, d3, d4⟩ := ilCell5 HY3.out
              clear hu HX2 HY HIX2 HJX H21
              --CUT t6
              go_wp2_with fail
              --CUT t7
              refine (rSame _ _ _ I I HIX3.out HJX3.out).mono ?_
              rintro e w23 ⟨r, rfl, hr, hu⟩
              obtain rfl : r = true := hr.2 rfl
              have HU23 := Lib.hid (H22.out.up.trans hu (fun _ h _ => h))
              clear hr hu
              go_wp2_with fail
              go_ret
              exact ⟨rfl, HU23.out⟩
              --D}y4
        --D}s0
      · as_aux_lemma =>
        --D{s1
        by_cases hal : 0 < AT.length
        · obtain ⟨ga, oa, rfl, ca, -⟩ := (HAT.out.later (upd_below HO.out.2.2.2.1)).at hal
          obtain ⟨A, hA⟩ : ∃ A, A = AT.getD 0 0 := ⟨_, rfl⟩
          rw [← hA] at ca
          clear hA
          obtain ⟨q, hq, hq2⟩ : ∃ q : Nat, A % ((n : Int) + 1) = (q : Int) ∧ q ≤ n := by
            have h1 := Int.emod_nonneg A (b := (n : Int) + 1) (by omega)
            have h2 := Int.emod_lt_of_pos A (b := (n : Int) + 1) (by omega)
            exact ⟨(A % ((n : Int) + 1)).toNat, by omega, by omega⟩
          have hn46 := HO.out.2.2.2.2.2
          have hcap := HO.out.2.2.2.2.1
          have hwn : IntKind.i64.wrap ((n : Int) + 1) = (n : Int) + 1 := IntWalk.i64_in _ (by omega)
          have HS7 : Hid (Bs W wX (.slice ba q bc) (ys.take q)) := Lib.hid ⟨HO.out.2.2.2.1, (vw_of_row (by rw [HO.out.1]; exact HO.out.2.1) HO.out.2.2.1).take rfl q (by rw [HO.out.1]; exact hq2), fun k hk => by
            cases ba with
            | none => simp [Value.ownBlock] at hk
            | some a => exact (HO.out.2.1.lt k hk).2⟩
          have hi4 : (0 : Int) ≤ (q : Int) := Int.natCast_nonneg _
          have hi5 : (q : Int) ≤ (n : Int) := by omega
          rw [Nat.add_zero] at ca
          go_wp2_with fail
          refine (hPick _ _ _ (by omega) (by omega)).mono ?_
          rw [hq]
          rintro e w' ⟨rfl, rfl⟩
          go_wp2_with fail
          --CUT t1
          refine (cImgRead _ _ (ys.take q) HS7.out.vw).mono ?_
          rintro e w20 ⟨r, rfl, hI, hu⟩
          obtain ⟨I, hIe⟩ : ∃ I, I = (readP (ys.take q)).2 := ⟨_, rfl⟩
          obtain ⟨er, her⟩ : ∃ er, er = (readP (ys.take q)).1 := ⟨_, rfl⟩
          rw [← hIe] at hI
          rw [← her]
          have HRE := Lib.hid (show rReadP (ys.take q) = (er, I) by rw [rRead_eq HS7.out.vw.1, her, hIe])
          have HI := Lib.hid hI
          obtain ⟨f, i, m, x, rfl, hf, hi, hm, hx, -⟩ := hI
          obtain ⟨fa, fc, rfl, -, -⟩ := hf.slice
          obtain ⟨ia, ic, rfl, -, -⟩ := hi.slice
          obtain ⟨ma, mc, rfl, -, -⟩ := hm.slice
          obtain ⟨xa, xc, rfl, -, -⟩ := hx.slice
          have ha := hu.trans (Upd.alloc (fun _ => False) w20 (.cells #[.string I.name, .slice fa I.fields.length fc, .slice ia I.imports.length ic, .slice ma I.methods.length mc, .slice xa I.exports.length xc] 32)) (fun _ h _ => h)
          have HX := Lib.hid (topAt w20 (.cells #[.string I.name, .slice fa I.fields.length fc, .slice ia I.imports.length ic, .slice ma I.methods.length mc, .slice xa I.exports.length xc] 32) _ rfl)
          have HIX := Lib.hid (HI.out.later (upd_below (Upd.alloc (fun _ => False) w20 (.cells #[.string I.name, .slice fa I.fields.length fc, .slice ia I.imports.length ic, .slice ma I.methods.length mc, .slice xa I.exports.length xc] 32))))
          have H20 := Lib.hid (HS7.out.quiet ha)
          have HRD := Lib.hid (rImgRead _ _ (ys.take q) H20.out.vw H20.out.lt (HNO.out.later (upd_below H20.out.up)))
          rw [HRE.out] at HRD
          clear hf hi hm hx hu ha hIe her HI
          --CUT t2
          go_wp2_with fail
          --CUT t3
          refine HRD.out.mono ?_
          rintro e w21 ⟨r, rfl, hJ, hu⟩
          have HJ := Lib.hid hJ
          obtain ⟨f, i, m, x, rfl, hf, hi, hm, hx, -⟩ := hJ
          obtain ⟨fb, fd, rfl, -, -⟩ := hf.slice
          obtain ⟨ib, id, rfl, -, -⟩ := hi.slice
          obtain ⟨mb, md, rfl, -, -⟩ := hm.slice
          obtain ⟨xb, xd, rfl, -, -⟩ := hx.slice
          have ha := hu.trans (Upd.alloc (fun _ => False) w21 (.cells #[.string I.name, .slice fb I.fields.length fd, .slice ib I.imports.length id, .slice mb I.methods.length md, .slice xb I.exports.length xd] 32)) (fun _ h _ => h)
          have HX2 := Lib.hid (stay_blk ha HX.out (fun h => h))
          have HY := Lib.hid (topAt w21 (.cells #[.string I.name, .slice fb I.fields.length fd, .slice ib I.imports.length id, .slice mb I.methods.length md, .slice xb I.exports.length xd] 32) _ rfl)
          have HIX2 := Lib.hid (HIX.out.later (upd_below ha))
          have HJX := Lib.hid (HJ.out.later (upd_below (Upd.alloc (fun _ => False) w21 (.cells #[.string I.name, .slice fb I.fields.length fd, .slice ib I.imports.length id, .slice mb I.methods.length md, .slice xb I.exports.length xd] 32))))
          have H21 := Lib.hid (H20.out.quiet ha)
          have hbe : (er == er) = true := by simp
          clear hf hi hm hx hu ha HJ HX HIX H20 HRD
          --CUT t4
          go_wp2_with fail
          --CUT t5
          refine (known4 _).mono ?_
          rintro e w22 ⟨rfl, hu⟩
          have HX3 := Lib.hid (stay_blk hu HX2.out (fun h => h))
          have HY3 := Lib.hid (stay_blk hu HY.out (fun h => h))
          have HIX3 := Lib.hid (HIX2.out.later (upd_below hu))
          have HJX3 := Lib.hid (HJX.out.later (upd_below hu))
          have H22 := Lib.hid (H21.out.quiet hu)
          obtain ⟨c0, c1, c2, c3, c4⟩ := ilCell5 HX3.out
          obtain ⟨d0, d1, d2, d3, d4⟩ := ilCell5 HY3.out
          clear hu HX2 HY HIX2 HJX H21
          --CUT t6
          go_wp2_with fail
          --CUT t7
          refine (rSame _ _ _ I I HIX3.out HJX3.out).mono ?_
          rintro e w23 ⟨r, rfl, hr, hu⟩
          obtain rfl : r = true := hr.2 rfl
          have HU23 := Lib.hid (H22.out.up.trans hu (fun _ h _ => h))
          clear hr hu
          go_wp2_with fail
          go_ret
          exact ⟨rfl, HU23.out⟩
        · as_aux_lemma =>
          go_wp2_with fail
          --CUT t1
          refine (cImgRead _ _ (ys) HSX.out.vw).mono ?_
          rintro e w20 ⟨r, rfl, hI, hu⟩
          obtain ⟨I, hIe⟩ : ∃ I, I = (readP (ys)).2 := ⟨_, rfl⟩
          obtain ⟨er, her⟩ : ∃ er, er = (readP (ys)).1 := ⟨_, rfl⟩
          rw [← hIe] at hI
          rw [← her]
          have HRE := Lib.hid (show rReadP (ys) = (er, I) by rw [rRead_eq HSX.out.vw.1, her, hIe])
          have HI := Lib.hid hI
          obtain ⟨f, i, m, x, rfl, hf, hi, hm, hx, -⟩ := hI
          obtain ⟨fa, fc, rfl, -, -⟩ := hf.slice
          obtain ⟨ia, ic, rfl, -, -⟩ := hi.slice
          obtain ⟨ma, mc, rfl, -, -⟩ := hm.slice
          obtain ⟨xa, xc, rfl, -, -⟩ := hx.slice
          have ha := hu.trans (Upd.alloc (fun _ => False) w20 (.cells #[.string I.name, .slice fa I.fields.length fc, .slice ia I.imports.length ic, .slice ma I.methods.length mc, .slice xa I.exports.length xc] 32)) (fun _ h _ => h)
          have HX := Lib.hid (topAt w20 (.cells #[.string I.name, .slice fa I.fields.length fc, .slice ia I.imports.length ic, .slice ma I.methods.length mc, .slice xa I.exports.length xc] 32) _ rfl)
          have HIX := Lib.hid (HI.out.later (upd_below (Upd.alloc (fun _ => False) w20 (.cells #[.string I.name, .slice fa I.fields.length fc, .slice ia I.imports.length ic, .slice ma I.methods.length mc, .slice xa I.exports.length xc] 32))))
          have H20 := Lib.hid (HSX.out.quiet ha)
          have HRD := Lib.hid (rImgRead _ _ (ys) H20.out.vw H20.out.lt (HNO.out.later (upd_below H20.out.up)))
          rw [HRE.out] at HRD
          clear hf hi hm hx hu ha hIe her HI
          --CUT t2
          go_wp2_with fail
          --CUT t3
          refine HRD.out.mono ?_
          rintro e w21 ⟨r, rfl, hJ, hu⟩
          have HJ := Lib.hid hJ
          obtain ⟨f, i, m, x, rfl, hf, hi, hm, hx, -⟩ := hJ
          obtain ⟨fb, fd, rfl, -, -⟩ := hf.slice
          obtain ⟨ib, id, rfl, -, -⟩ := hi.slice
          obtain ⟨mb, md, rfl, -, -⟩ := hm.slice
          obtain ⟨xb, xd, rfl, -, -⟩ := hx.slice
          have ha := hu.trans (Upd.alloc (fun _ => False) w21 (.cells #[.string I.name, .slice fb I.fields.length fd, .slice ib I.imports.length id, .slice mb I.methods.length md, .slice xb I.exports.length xd] 32)) (fun _ h _ => h)
          have HX2 := Lib.hid (stay_blk ha HX.out (fun h => h))
          have HY := Lib.hid (topAt w21 (.cells #[.string I.name, .slice fb I.fields.length fd, .slice ib I.imports.length id, .slice mb I.methods.length md, .slice xb I.exports.length xd] 32) _ rfl)
          have HIX2 := Lib.hid (HIX.out.later (upd_below ha))
          have HJX := Lib.hid (HJ.out.later (upd_below (Upd.alloc (fun _ => False) w21 (.cells #[.string I.name, .slice fb I.fields.length fd, .slice ib I.imports.length id, .slice mb I.methods.length md, .slice xb I.exports.length xd] 32))))
          have H21 := Lib.hid (H20.out.quiet ha)
          have hbe : (er == er) = true := by simp
          clear hf hi hm hx hu ha HJ HX HIX H20 HRD
          --CUT t4
          go_wp2_with fail
          --CUT t5
          refine (known4 _).mono ?_
          rintro e w22 ⟨rfl, hu⟩
          have HX3 := Lib.hid (stay_blk hu HX2.out (fun h => h))
          have HY3 := Lib.hid (stay_blk hu HY.out (fun h => h))
          have HIX3 := Lib.hid (HIX2.out.later (upd_below hu))
          have HJX3 := Lib.hid (HJX.out.later (upd_below hu))
          have H22 := Lib.hid (H21.out.quiet hu)
          obtain ⟨c0, c1, c2, c3, c4⟩ := ilCell5 HX3.out
          obtain ⟨d0, d1, d2, d3, d4⟩ := ilCell5 HY3.out
          clear hu HX2 HY HIX2 HJX H21
          --CUT t6
          go_wp2_with fail
          --CUT t7
          refine (rSame _ _ _ I I HIX3.out HJX3.out).mono ?_
          rintro e w23 ⟨r, rfl, hr, hu⟩
          obtain rfl : r = true := hr.2 rfl
          have HU23 := Lib.hid (H22.out.up.trans hu (fun _ h _ => h))
          clear hr hu
          go_wp2_with fail
          go_ret
          exact ⟨rfl, HU23.out⟩
        --D}s1
      · as_aux_lemma =>
        --D{s2
        have HROW := Lib.hid HO.out.2.1
        have hn46 := HO.out.2.2.2.2.2
        have HSRC := Lib.hid ((HBV.out.upd HO.out.2.2.2.1 (fun _ _ h => h)).src)
        go_wp2_with (at_builtin; go_loud (refine wpList_append_mine _ rfl _ _ 23 rfl 0 5 i0 (.int .u8 0) 1 1 Tryz.underlying23 hi hz0 hz1 hz2 rfl (by decide) (.slice ba n bc) n (bv ys) rfl HROW.out BY.length (bv BY) HSRC.out (by unfold maxLen; omega) (by omega) (Nat.zero_le _) ?_))
        intro v7 w7 ho hg hf
        have HU7 := Lib.hid (HO.out.2.2.2.1.trans (Upd.row (Upd.refl _ _) hg) (fun i hi hlt => by have := HNW.out i hi; omega))
        obtain ⟨a7, c7, rfl⟩ := ownsRow_slice ho
        have HS7 : Hid (Bs W w7 (.slice a7 (n + BY.length) c7) (ys ++ BY)) := Lib.hid ⟨HU7.out, by
          have h : Vw w7 (.slice a7 (n + BY.length) c7) (ys ++ BY) := vw_of_row (by rw [List.length_append, HO.out.1, bv_append]; exact ho) (fun y hy => by
            rcases List.mem_append.1 hy with h | h
            · exact HO.out.2.2.1 y h
            · exact HBV.out.1 y h)
          exact h, fun k hk => (ho.lt k hk).2⟩
        clear ho hg hf
        go_wp2_with fail
        --CUT t1
        refine (cImgRead _ _ (ys ++ BY) HS7.out.vw).mono ?_
        rintro e w20 ⟨r, rfl, hI, hu⟩
        obtain ⟨I, hIe⟩ : ∃ I, I = (readP (ys ++ BY)).2 := ⟨_, rfl⟩
        obtain ⟨er, her⟩ : ∃ er, er = (readP (ys ++ BY)).1 := ⟨_, rfl⟩
        rw [← hIe] at hI
        rw [← her]
        have HRE := Lib.hid (show rReadP (ys ++ BY) = (er, I) by rw [rRead_eq HS7.out.vw.1, her, hIe])
        have HI := Lib.hid hI
        obtain ⟨f, i, m, x, rfl, hf, hi, hm, hx, -⟩ := hI
        obtain ⟨fa, fc, rfl, -, -⟩ := hf.slice
        obtain ⟨ia, ic, rfl, -, -⟩ := hi.slice
        obtain ⟨ma, mc, rfl, -, -⟩ := hm.slice
        obtain ⟨xa, xc, rfl, -, -⟩ := hx.slice
        have ha := hu.trans (Upd.alloc (fun _ => False) w20 (.cells #[.string I.name, .slice fa I.fields.length fc, .slice ia I.imports.length ic, .slice ma I.methods.length mc, .slice xa I.exports.length xc] 32)) (fun _ h _ => h)
        have HX := Lib.hid (topAt w20 (.cells #[.string I.name, .slice fa I.fields.length fc, .slice ia I.imports.length ic, .slice ma I.methods.length mc, .slice xa I.exports.length xc] 32) _ rfl)
        have HIX := Lib.hid (HI.out.later (upd_below (Upd.alloc (fun _ => False) w20 (.cells #[.string I.name, .slice fa I.fields.length fc, .slice ia I.imports.length ic, .slice ma I.methods.length mc, .slice xa I.exports.length xc] 32))))
        have H20 := Lib.hid (HS7.out.quiet ha)
        have HRD := Lib.hid (rImgRead _ _ (ys ++ BY) H20.out.vw H20.out.lt (HNO.out.later (upd_below H20.out.up)))
        rw [HRE.out] at HRD
        clear hf hi hm hx hu ha hIe her HI
        --CUT t2
        go_wp2_with fail
        --CUT t3
        refine HRD.out.mono ?_
        rintro e w21 ⟨r, rfl, hJ, hu⟩
        have HJ := Lib.hid hJ
        obtain ⟨f, i, m, x, rfl, hf, hi, hm, hx, -⟩ := hJ
        obtain ⟨fb, fd, rfl, -, -⟩ := hf.slice
        obtain ⟨ib, id, rfl, -, -⟩ := hi.slice
        obtain ⟨mb, md, rfl, -, -⟩ := hm.slice
        obtain ⟨xb, xd, rfl, -, -⟩ := hx.slice
        have ha := hu.trans (Upd.alloc (fun _ => False) w21 (.cells #[.string I.name, .slice fb I.fields.length fd, .slice ib I.imports.length id, .slice mb I.methods.length md, .slice xb I.exports.length xd] 32)) (fun _ h _ => h)
        have HX2 := Lib.hid (stay_blk ha HX.out (fun h => h))
        have HY := Lib.hid (topAt w21 (.cells #[.string I.name, .slice fb I.fields.length fd, .slice ib I.imports.length id, .slice mb I.methods.length md, .slice xb I.exports.length xd] 32) _ rfl)
        have HIX2 := Lib.hid (HIX.out.later (upd_below ha))
        have HJX := Lib.hid (HJ.out.later (upd_below (Upd.alloc (fun _ => False) w21 (.cells #[.string I.name, .slice fb I.fields.length fd, .slice ib I.imports.length id, .slice mb I.methods.length md, .slice xb I.exports.length xd] 32))))
        have H21 := Lib.hid (H20.out.quiet ha)
        have hbe : (er == er) = true := by simp
        clear hf hi hm hx hu ha HJ HX HIX H20 HRD
        --CUT t4
        go_wp2_with fail
        --CUT t5
        refine (known4 _).mono ?_
        rintro e w22 ⟨rfl, hu⟩
        have HX3 := Lib.hid (stay_blk hu HX2.out (fun h => h))
        have HY3 := Lib.hid (stay_blk hu HY.out (fun h => h))
        have HIX3 := Lib.hid (HIX2.out.later (upd_below hu))
        have HJX3 := Lib.hid (HJX.out.later (upd_below hu))
        have H22 := Lib.hid (H21.out.quiet hu)
        obtain ⟨c0, c1, c2, c3, c4⟩ := ilCell5 HX3.out
        obtain ⟨d0, d1, d2, d3, d4⟩ := ilCell5 HY3.out
        clear hu HX2 HY HIX2 HJX H21
        --CUT t6
        go_wp2_with fail
        --CUT t7
        refine (rSame _ _ _ I I HIX3.out HJX3.out).mono ?_
        rintro e w23 ⟨r, rfl, hr, hu⟩
        obtain rfl : r = true := hr.2 rfl
        have HU23 := Lib.hid (H22.out.up.trans hu (fun _ h _ => h))
        clear hr hu
        go_wp2_with fail
        go_ret
        exact ⟨rfl, HU23.out⟩
        --D}s2
      · as_aux_lemma =>
        --D{s3
        go_wp2_with fail
        --CUT t1
        refine (cImgRead _ _ (ys) HSX.out.vw).mono ?_
        rintro e w20 ⟨r, rfl, hI, hu⟩
        obtain ⟨I, hIe⟩ : ∃ I, I = (readP (ys)).2 := ⟨_, rfl⟩
        obtain ⟨er, her⟩ : ∃ er, er = (readP (ys)).1 := ⟨_, rfl⟩
        rw [← hIe] at hI
        rw [← her]
        have HRE := Lib.hid (show rReadP (ys) = (er, I) by rw [rRead_eq HSX.out.vw.1, her, hIe])
        have HI := Lib.hid hI
        obtain ⟨f, i, m, x, rfl, hf, hi, hm, hx, -⟩ := hI
        obtain ⟨fa, fc, rfl, -, -⟩ := hf.slice
        obtain ⟨ia, ic, rfl, -, -⟩ := hi.slice
        obtain ⟨ma, mc, rfl, -, -⟩ := hm.slice
        obtain ⟨xa, xc, rfl, -, -⟩ := hx.slice
        have ha := hu.trans (Upd.alloc (fun _ => False) w20 (.cells #[.string I.name, .slice fa I.fields.length fc, .slice ia I.imports.length ic, .slice ma I.methods.length mc, .slice xa I.exports.length xc] 32)) (fun _ h _ => h)
        have HX := Lib.hid (topAt w20 (.cells #[.string I.name, .slice fa I.fields.length fc, .slice ia I.imports.length ic, .slice ma I.methods.length mc, .slice xa I.exports.length xc] 32) _ rfl)
        have HIX := Lib.hid (HI.out.later (upd_below (Upd.alloc (fun _ => False) w20 (.cells #[.string I.name, .slice fa I.fields.length fc, .slice ia I.imports.length ic, .slice ma I.methods.length mc, .slice xa I.exports.length xc] 32))))
        have H20 := Lib.hid (HSX.out.quiet ha)
        have HRD := Lib.hid (rImgRead _ _ (ys) H20.out.vw H20.out.lt (HNO.out.later (upd_below H20.out.up)))
        rw [HRE.out] at HRD
        clear hf hi hm hx hu ha hIe her HI
        --CUT t2
        go_wp2_with fail
        --CUT t3
        refine HRD.out.mono ?_
        rintro e w21 ⟨r, rfl, hJ, hu⟩
        have HJ := Lib.hid hJ
        obtain ⟨f, i, m, x, rfl, hf, hi, hm, hx, -⟩ := hJ
        obtain ⟨fb, fd, rfl, -, -⟩ := hf.slice
        obtain ⟨ib, id, rfl, -, -⟩ := hi.slice
        obtain ⟨mb, md, rfl, -, -⟩ := hm.slice
        obtain ⟨xb, xd, rfl, -, -⟩ := hx.slice
        have ha := hu.trans (Upd.alloc (fun _ => False) w21 (.cells #[.string I.name, .slice fb I.fields.length fd, .slice ib I.imports.length id, .slice mb I.methods.length md, .slice xb I.exports.length xd] 32)) (fun _ h _ => h)
        have HX2 := Lib.hid (stay_blk ha HX.out (fun h => h))
        have HY := Lib.hid (topAt w21 (.cells #[.string I.name, .slice fb I.fields.length fd, .slice ib I.imports.length id, .slice mb I.methods.length md, .slice xb I.exports.length xd] 32) _ rfl)
        have HIX2 := Lib.hid (HIX.out.later (upd_below ha))
        have HJX := Lib.hid (HJ.out.later (upd_below (Upd.alloc (fun _ => False) w21 (.cells #[.string I.name, .slice fb I.fields.length fd, .slice ib I.imports.length id, .slice mb I.methods.length md, .slice xb I.exports.length xd] 32))))
        have H21 := Lib.hid (H20.out.quiet ha)
        have hbe : (er == er) = true := by simp
        clear hf hi hm hx hu ha HJ HX HIX H20 HRD
        --CUT t4
        go_wp2_with fail
        --CUT t5
        refine (known4 _).mono ?_
        rintro e w22 ⟨rfl, hu⟩
        have HX3 := Lib.hid (stay_blk hu HX2.out (fun h => h))
        have HY3 := Lib.hid (stay_blk hu HY.out (fun h => h))
        have HIX3 := Lib.hid (HIX2.out.later (upd_below hu))
        have HJX3 := Lib.hid (HJX.out.later (upd_below hu))
        have H22 := Lib.hid (H21.out.quiet hu)
        obtain ⟨c0, c1, c2, c3, c4⟩ := ilCell5 HX3.out
        obtain ⟨d0, d1, d2, d3, d4⟩ := ilCell5 HY3.out
        clear hu HX2 HY HIX2 HJX H21
        --CUT t6
        go_wp2_with fail
        --CUT t7
        refine (rSame _ _ _ I I HIX3.out HJX3.out).mono ?_
        rintro e w23 ⟨r, rfl, hr, hu⟩
        obtain rfl : r = true := hr.2 rfl
        have HU23 := Lib.hid (H22.out.up.trans hu (fun _ h _ => h))
        clear hr hu
        go_wp2_with fail
        go_ret
        exact ⟨rfl, HU23.out⟩
        --D}s3
    | true => as_aux_lemma =>
      have HLN := Lib.hid (rImgLay _ _ I0 HI.out (HNO.out.later (upd_below HU2.out)) hrt)
      have HIB : Hid (∀ y ∈ imgL I0, 0 ≤ y ∧ y ≤ 255) := Lib.hid (imgL_byts hrt)
      have HLEN := Lib.hid (img_len2 (img_fit hrt))
      clear hrt
      go_wp2_with fail
      refine HLN.out.mono ?_
      rintro e w3 ⟨x, rfl, hN⟩
      obtain ⟨xa2, xc2, rfl⟩ := ownsRow_slice hN.1
      have HV3 := Lib.hid (hN.vw HIB.out)
      have HU3 := Lib.hid (HU2.out.trans hN.2.1 (fun _ h _ => h))
      have hlen1 : (imgL I0).length ≤ 8100 := HLEN.out
      clear hN
      go_wp2_with fail
      refine (few w3 _ (imgL I0) (imgL I0).length HV3.out (.inl (by omega)) (by omega) (by omega)).mono ?_
      rw [show (imgL I0).take (((imgL I0).length : Int)).toNat = imgL I0 by simp]
      rintro e wX ⟨v4, rfl, hn4⟩
      obtain ⟨bA, bC, rfl⟩ := ownsRow_slice hn4.1
      obtain ⟨nN, hnN⟩ : ∃ nN, nN = (imgL I0).length := ⟨_, rfl⟩
      obtain ⟨yS, hyS⟩ : ∃ yS, yS = imgL I0 := ⟨_, rfl⟩
      have HO : Hid (yS.length = nN ∧ wX.ownsRow 0 5 1 (.slice bA nN bC) nN (bv yS) ∧ (∀ y ∈ yS, 0 ≤ y ∧ y ≤ 255) ∧ Upd (fun _ => False) W wX ∧ nN ≤ bC ∧ nN ≤ 1048576) := Lib.hid (by
        rw [hyS, hnN]
        refine ⟨rfl, hn4.1, HIB.out, HU3.out.trans hn4.2.1 (fun _ h _ => h), ?_, by omega⟩
        obtain ⟨a9, c9, he, h9, -⟩ := (hn4.vw HIB.out).slice
        simp at he
        omega)
      have HNW : Hid (∀ k, (Value.slice bA nN bC).ownBlock = some k → W.heap.size ≤ k) := Lib.hid (fun k hk => by have := hn4.2.2 k (by rw [← hnN]; exact hk); have := HU3.out.size; omega)
      rw [← hnN]
      clear hn4 hnN hyS HV3 HU3 HIB HLEN hlen1 HO1 HO2 HU2 HI HLN HNW1
      have HSX : Hid (Bs W wX (.slice bA nN bC) yS) := Lib.hid ⟨HO.out.2.2.2.1, vw_of_row (by rw [HO.out.1]; exact HO.out.2.1) HO.out.2.2.1, fun k hk => (HO.out.2.1.lt k hk).2⟩
      have hP := Int.emod_nonneg how (b := (4 : Int)) (by omega)
      have hP2 := Int.emod_lt_of_pos how (b := (4 : Int)) (by omega)
      go_wp2_with fail
      refine (hPick how 4 wX (by omega) (by omega)).mono ?_
      rintro e w' ⟨rfl, rfl⟩
      obtain ⟨P, hPe⟩ : ∃ P, P = how % 4 := ⟨_, rfl⟩
      rw [← hPe] at hP hP2 ⊢
      have hgr : ((P == 0) = true) ∨ ((P == 0) = false ∧ (P == 1) = true) ∨ ((P == 0) = false ∧ (P == 1) = false ∧ (P == 2) = true) ∨ ((P == 0) = false ∧ (P == 1) = false ∧ (P == 2) = false) := by
        by_cases h0 : P = 0
        · exact .inl (by simp [h0])
        · by_cases h1 : P = 1
          · exact .inr (.inl (by simp [h1]))
          · by_cases h2 : P = 2
            · exact .inr (.inr (.inl (by simp [h2])))
            · exact .inr (.inr (.inr (by simp [h0, h1, h2])))
      clear hPe hP hP2
      rcases hgr with p0 | ⟨p0, p1⟩ | ⟨p0, p1, p2⟩ | ⟨p0, p1, p2⟩
      · as_aux_lemma =>
        --D{x0
        go_wp2_with fail
        go_loopw [16] (fun j wr => ∃ (k : Nat) (zs : List Int), k ≤ 3 ∧ j = .int .i64 k ∧ Hid (zs.length = nN ∧ wr.ownsRow 0 5 1 (.slice bA nN bC) nN (bv zs) ∧ (∀ y ∈ zs, 0 ≤ y ∧ y ≤ 255) ∧ Upd (fun _ => False) W wr)) (fun j _ => 3 - (RowKit.intOf j).toNat)
        case atStart => exact ⟨0, yS, by omega, rfl, Lib.hid ⟨HO.out.1, HO.out.2.1, HO.out.2.2.1, HO.out.2.2.2.1⟩⟩
        case round =>
          obtain ⟨k, zs, hk3, rfl, HZ⟩ := hrel
          by_cases hgo : k < AT.length ∧ k < BY.length ∧ k < 3 ∧ 0 < nN
          · obtain ⟨hg1, hg2, hg3, hg4⟩ := hgo
            --D{xr
            have HBL := Lib.hid (upd_below HZ.out.2.2.2)
            obtain ⟨ga, oa, rfl, ca, -⟩ := (HAT.out.later HBL.out).at hg1
            obtain ⟨gb, ob, rfl, cb⟩ := (HBV.out.upd HZ.out.2.2.2 (fun _ _ h => h)).cellAt hg2
            obtain ⟨g, hbg⟩ : ∃ g, bA = some ⟨g, 0, none⟩ := by
              rcases HZ.out.2.1.2 with ⟨_, h0⟩ | ⟨g, cap, cur, he, _⟩
              · omega
              · simp at he; exact ⟨g, he.1⟩
            subst hbg
            obtain ⟨A, hA⟩ : ∃ A, A = AT.getD k 0 := ⟨_, rfl⟩
            obtain ⟨Y, hY⟩ : ∃ Y, Y = BY.getD k 0 := ⟨_, rfl⟩
            rw [← hA] at ca
            rw [← hY] at cb
            clear hA hY
            obtain ⟨q, hq, hq2⟩ : ∃ q : Nat, A % (nN : Int) = (q : Int) ∧ q < nN := by
              have h1 := Int.emod_nonneg A (b := (nN : Int)) (by omega)
              have h2 := Int.emod_lt_of_pos A (b := (nN : Int)) (by omega)
              exact ⟨(A % (nN : Int)).toNat, by omega, by omega⟩
            have cq : wr.cell? ⟨g, q, none⟩ = some (.int .u8 (zs.getD q 0)) := by
              have := HZ.out.2.1.cells (g := g) rfl q (.int .u8 (zs.getD q 0)) (by simp [bv, List.getD, HZ.out.1, hq2])
              rw [addr_add, Nat.zero_add] at this
              exact this
            have fq : wr.frozen? ⟨g, q, none⟩ = false := rowFrozen HZ.out.2.1 q
            have hnB := HO.out.2.2.2.2.2
            have hi1 : (0 : Int) ≤ (k : Int) := Int.natCast_nonneg _
            have hi2 : (k : Int) < (AT.length : Int) := by omega
            have hi3 : (k : Int) < (BY.length : Int) := by omega
            have hi4 : (0 : Int) ≤ (q : Int) := Int.natCast_nonneg _
            have hi5 : (q : Int) < (nN : Int) := by omega
            obtain ⟨z, hz⟩ : ∃ z, z = zs.getD q 0 := ⟨_, rfl⟩
            rw [← hz] at cq
            have hHeld : (fun w' : World => w'.cell? ⟨ga, oa + k, none⟩ = some (.int .i64 A) ∧ w'.cell? ⟨g, q, none⟩ = some (.int .u8 z) ∧ w'.cell? ⟨gb, ob + k, none⟩ = some (.int .u8 Y)) wr.drew := ⟨ca, cq, cb⟩
            have HZB : Hid (0 ≤ z ∧ z ≤ 255) := Lib.hid (by rw [hz]; exact HZ.out.2.2.1 _ (mem_getD0 (by rw [HZ.out.1]; exact hq2)))
            clear hz
            go_upto_region 11 with fail
            --CUT u1
            refine wp_region_last (S := fun w' => w'.cell? ⟨ga, oa + k, none⟩ = some (.int .i64 A) ∧ w'.cell? ⟨g, q, none⟩ = some (.int .u8 z) ∧ w'.cell? ⟨gb, ob + k, none⟩ = some (.int .u8 Y)) 16 _ (by kernel_rfl) (by kernel_rfl) rfl ?_
            change wpHL _ _ _ _ _ _ _ _ _ _ wr.drew
            --CUT u2
            refine wpHL_take (i := 0) (v := ?_) rfl (by kernel_rfl) (fun _ _ _ h => h) hHeld (Or.inl ⟨by rfl, ?_⟩) ?_
            rotate_left
            · (intro w hSw; obtain ⟨y0, y1, y2⟩ := hSw; go_simp; try with_reducible rfl)
            simp only [Act.put, List.getElem_toArray, List.getElem_cons_succ, List.getElem_cons_zero, List.setIfInBounds_toArray, List.set_cons_zero, List.set_cons_succ]
            refine wpHL_take (i := 1) (v := ?_) rfl (by kernel_rfl) (fun _ _ _ h => h) hHeld (Or.inl ⟨by rfl, ?_⟩) ?_
            rotate_left
            · (intro w hSw; obtain ⟨y0, y1, y2⟩ := hSw; go_simp; try with_reducible rfl)
            simp only [Act.put, List.getElem_toArray, List.getElem_cons_succ, List.getElem_cons_zero, List.setIfInBounds_toArray, List.set_cons_zero, List.set_cons_succ]
            refine wpHL_take (i := 2) (v := ?_) rfl (by kernel_rfl) (fun _ _ _ h => h) hHeld (Or.inl ⟨by rfl, ?_⟩) ?_
            rotate_left
            · (intro w hSw; obtain ⟨y0, y1, y2⟩ := hSw; go_simp; try with_reducible rfl)
            simp only [Act.put, List.getElem_toArray, List.getElem_cons_succ, List.getElem_cons_zero, List.setIfInBounds_toArray, List.set_cons_zero, List.set_cons_succ]
            refine wpHL_take (i := 3) (v := ?_) rfl (by kernel_rfl) (fun _ _ _ h => h) hHeld (Or.inl ⟨by rfl, ?_⟩) ?_
            rotate_left
            · (intro w hSw; obtain ⟨y0, y1, y2⟩ := hSw; go_simp; try with_reducible rfl)
            simp only [Act.put, List.getElem_toArray, List.getElem_cons_succ, List.getElem_cons_zero, List.setIfInBounds_toArray, List.set_cons_zero, List.set_cons_succ]
            refine wpHL_take (i := 4) (v := ?_) rfl (by kernel_rfl) (fun _ _ _ h => h) hHeld (Or.inl ⟨by rfl, ?_⟩) ?_
            rotate_left
            · (intro w hSw; obtain ⟨y0, y1, y2⟩ := hSw; go_simp; try with_reducible rfl)
            simp only [Act.put, List.getElem_toArray, List.getElem_cons_succ, List.getElem_cons_zero, List.setIfInBounds_toArray, List.set_cons_zero, List.set_cons_succ]
            refine wpHL_take (i := 5) (v := ?_) rfl (by kernel_rfl) (fun _ _ _ h => h) hHeld (Or.inl ⟨by rfl, ?_⟩) ?_
            rotate_left
            · (intro w hSw; obtain ⟨y0, y1, y2⟩ := hSw; go_simp; try with_reducible rfl)
            simp only [Act.put, List.getElem_toArray, List.getElem_cons_succ, List.getElem_cons_zero, List.setIfInBounds_toArray, List.set_cons_zero, List.set_cons_succ]
            refine wpHL_take (i := 6) (v := ?_) rfl (by kernel_rfl) (fun _ _ _ h => h) hHeld (Or.inl ⟨by rfl, ?_⟩) ?_
            rotate_left
            · (intro w hSw; obtain ⟨y0, y1, y2⟩ := hSw; go_simp; try with_reducible rfl)
            simp only [Act.put, List.getElem_toArray, List.getElem_cons_succ, List.getElem_cons_zero, List.setIfInBounds_toArray, List.set_cons_zero, List.set_cons_succ]
            refine wpHL_take (i := 10) (v := ?_) rfl (by kernel_rfl) (fun _ _ _ h => h) hHeld (Or.inl ⟨by rfl, ?_⟩) ?_
            rotate_left
            · (intro w hSw; obtain ⟨y0, y1, y2⟩ := hSw; go_simp; try with_reducible rfl)
            simp only [Act.put, List.getElem_toArray, List.getElem_cons_succ, List.getElem_cons_zero, List.setIfInBounds_toArray, List.set_cons_zero, List.set_cons_succ]
            refine wpHL_take (i := 11) (v := ?_) rfl (by kernel_rfl) (fun _ _ _ h => h) hHeld (Or.inl ⟨by rfl, ?_⟩) ?_
            rotate_left
            · (intro w hSw; obtain ⟨y0, y1, y2⟩ := hSw; go_simp; try with_reducible rfl)
            simp only [Act.put, List.getElem_toArray, List.getElem_cons_succ, List.getElem_cons_zero, List.setIfInBounds_toArray, List.set_cons_zero, List.set_cons_succ]
            refine wpHL_take (i := 12) (v := ?_) rfl (by kernel_rfl) (fun _ _ _ h => h) hHeld (Or.inl ⟨by rfl, ?_⟩) ?_
            rotate_left
            · (intro w hSw; obtain ⟨y0, y1, y2⟩ := hSw; go_simp; try with_reducible rfl)
            simp only [Act.put, List.getElem_toArray, List.getElem_cons_succ, List.getElem_cons_zero, List.setIfInBounds_toArray, List.set_cons_zero, List.set_cons_succ]
            refine wpHL_take (i := 13) (v := ?_) rfl (by kernel_rfl) (fun _ _ _ h => h) hHeld (Or.inl ⟨by rfl, ?_⟩) ?_
            rotate_left
            · (intro w hSw; obtain ⟨y0, y1, y2⟩ := hSw; go_simp; try with_reducible rfl)
            simp only [Act.put, List.getElem_toArray, List.getElem_cons_succ, List.getElem_cons_zero, List.setIfInBounds_toArray, List.set_cons_zero, List.set_cons_succ]
            --CUT u3
            refine wpHL_step (i := 7) rfl (by kernel_rfl) (by decide) (fun K hK0 => ?_)
            have HK0 := Lib.hid hK0
            clear hK0
            go_simp
            refine (hPick A (nN : Int) wr.drew (by omega) (by omega)).mono ?_
            rw [hq]
            rintro e w' ⟨rfl, rfl⟩
            refine HK0.out _ _ hHeld ?_
            try simp only [Act.put, List.getElem_toArray, List.getElem_cons_succ, List.getElem_cons_zero, List.setIfInBounds_toArray, List.set_cons_zero, List.set_cons_succ]
            clear HK0
            --CUT u4
            refine wpHL_take (i := 8) (v := ?_) rfl (by kernel_rfl) (fun _ _ _ h => h) hHeld (Or.inl ⟨by rfl, ?_⟩) ?_
            rotate_left
            · (intro w hSw; obtain ⟨y0, y1, y2⟩ := hSw; go_simp; try with_reducible rfl)
            simp only [Act.put, List.getElem_toArray, List.getElem_cons_succ, List.getElem_cons_zero, List.setIfInBounds_toArray, List.set_cons_zero, List.set_cons_succ]
            refine wpHL_take (i := 9) (v := ?_) rfl (by kernel_rfl) (fun _ _ _ h => h) hHeld (Or.inl ⟨by rfl, ?_⟩) ?_
            rotate_left
            · (intro w hSw; obtain ⟨y0, y1, y2⟩ := hSw; go_simp; try with_reducible rfl)
            simp only [Act.put, List.getElem_toArray, List.getElem_cons_succ, List.getElem_cons_zero, List.setIfInBounds_toArray, List.set_cons_zero, List.set_cons_succ]
            refine wpHL_take (i := 14) (v := ?_) rfl (by kernel_rfl) (fun _ _ _ h => h) hHeld (Or.inl ⟨by rfl, ?_⟩) ?_
            rotate_left
            · (intro w hSw; obtain ⟨y0, y1, y2⟩ := hSw; go_simp; try with_reducible rfl)
            simp only [Act.put, List.getElem_toArray, List.getElem_cons_succ, List.getElem_cons_zero, List.setIfInBounds_toArray, List.set_cons_zero, List.set_cons_succ]
            refine wpHL_take (i := 15) (v := ?_) rfl (by kernel_rfl) (fun _ _ _ h => h) hHeld (Or.inl ⟨by rfl, ?_⟩) ?_
            rotate_left
            · (intro w hSw; obtain ⟨y0, y1, y2⟩ := hSw; go_simp; try with_reducible rfl)
            simp only [Act.put, List.getElem_toArray, List.getElem_cons_succ, List.getElem_cons_zero, List.setIfInBounds_toArray, List.set_cons_zero, List.set_cons_succ]
            clear hHeld
            refine wpHL_last (by kernel_rfl) ?_
            --CUT u5
            go_wp2_with fail
            have hne : W.heap.size ≤ g := HNW.out g rfl
            have hup : Upd (fun k => k = g) wr ((wr.setCell ⟨g, q, none⟩ (.int .u8 (bits BinOp.xor IntKind.u8 z Y))).drew) := (Upd.setCell (S := fun k => k = g) wr (.inl rfl) _).trans (Upd.drew (fun k => k = g) _) (fun _ h _ => h)
            have HZN : Hid ((zs.set q (bits BinOp.xor IntKind.u8 z Y)).length = nN ∧ ((wr.setCell ⟨g, q, none⟩ (.int .u8 (bits BinOp.xor IntKind.u8 z Y))).drew).ownsRow 0 5 1 (.slice (some ⟨g, 0, none⟩) nN bC) nN (bv (zs.set q (bits BinOp.xor IntKind.u8 z Y))) ∧ (∀ y ∈ zs.set q (bits BinOp.xor IntKind.u8 z Y), 0 ≤ y ∧ y ≤ 255) ∧ Upd (fun _ => False) W ((wr.setCell ⟨g, q, none⟩ (.int .u8 (bits BinOp.xor IntKind.u8 z Y))).drew)) := Lib.hid ⟨by simpa using HZ.out.1, by
              have h1 := rowSet HZ.out.2.1 q (.int .u8 (bits BinOp.xor IntKind.u8 z Y))
              have h2 := ownsRow_upd h1 (Upd.drew (fun _ => False) _) (fun _ _ h => h)
              simpa [bv, List.map_set] using h2, fun y hy => by
              rcases List.mem_or_eq_of_mem_set hy with hy | rfl
              · exact HZ.out.2.2.1 y hy
              · exact xor8 z Y, HZ.out.2.2.2.trans hup (fun i hi hlt => by omega)⟩
            go_roundw
            case rel => exact ⟨k + 1, _, by omega, by go_num, HZN⟩
            case measure => simp [RowKit.intOf]; omega
            --D}xr
          · have hor : AT.length ≤ k ∨ (k < AT.length ∧ BY.length ≤ k) ∨ (k < AT.length ∧ k < BY.length ∧ k = 3) ∨ (k < AT.length ∧ k < BY.length ∧ k < 3 ∧ nN = 0) := by omega
            clear hgo
            have HSZ : Hid (Bs W wr (.slice bA nN bC) zs) := Lib.hid ⟨HZ.out.2.2.2, vw_of_row (by rw [HZ.out.1]; exact HZ.out.2.1) HZ.out.2.2.1, fun k hk => (HZ.out.2.1.lt k hk).2⟩
            have HZL := Lib.hid HZ.out.1
            obtain ⟨ys2, hys2⟩ : ∃ ys2, ys2 = zs := ⟨_, rfl⟩
            rw [← hys2] at HSZ HZL
            clear hys2
            rcases hor with h1 | ⟨h1, h2⟩ | ⟨h1, h2, rfl⟩ | ⟨h1, h2, h3, rfl⟩
            · as_aux_lemma =>
              --D{y1
              go_wp2_with fail
              --CUT t1
              refine (cImgRead _ _ (ys2) HSZ.out.vw).mono ?_
              rintro e w20 ⟨r, rfl, hI, hu⟩
              obtain ⟨I, hIe⟩ : ∃ I, I = (readP (ys2)).2 := ⟨_, rfl⟩
              obtain ⟨er, her⟩ : ∃ er, er = (readP (ys2)).1 := ⟨_, rfl⟩
              rw [← hIe] at hI
              rw [← her]
              have HRE := Lib.hid (show rReadP (ys2) = (er, I) by rw [rRead_eq HSZ.out.vw.1, her, hIe])
              have HI := Lib.hid hI
              obtain ⟨f, i, m, x, rfl, hf, hi, hm, hx, -⟩ := hI
              obtain ⟨fa, fc, rfl, -, -⟩ := hf.slice
              obtain ⟨ia, ic, rfl, -, -⟩ := hi.slice
              obtain ⟨ma, mc, rfl, -, -⟩ := hm.slice
              obtain ⟨xa, xc, rfl, -, -⟩ := hx.slice
              have ha := hu.trans (Upd.alloc (fun _ => False) w20 (.cells #[.string I.name, .slice fa I.fields.length fc, .slice ia I.imports.length ic, .slice ma I.methods.length mc, .slice xa I.exports.length xc] 32)) (fun _ h _ => h)
              have HX := Lib.hid (topAt w20 (.cells #[.string I.name, .slice fa I.fields.length fc, .slice ia I.imports.length ic, .slice ma I.methods.length mc, .slice xa I.exports.length xc] 32) _ rfl)
              have HIX := Lib.hid (HI.out.later (upd_below (Upd.alloc (fun _ => False) w20 (.cells #[.string I.name, .slice fa I.fields.length fc, .slice ia I.imports.length ic, .slice ma I.methods.length mc, .slice xa I.exports.length xc] 32))))
              have H20 := Lib.hid (HSZ.out.quiet ha)
              have HRD := Lib.hid (rImgRead _ _ (ys2) H20.out.vw H20.out.lt (HNO.out.later (upd_below H20.out.up)))
              rw [HRE.out] at HRD
              clear hf hi hm hx hu ha hIe her HI
              --CUT t2
              go_wp2_with fail
              --CUT t3
              refine HRD.out.mono ?_
              rintro e w21 ⟨r, rfl, hJ, hu⟩
              have HJ := Lib.hid hJ
              obtain ⟨f, i, m, x, rfl, hf, hi, hm, hx, -⟩ := hJ
              obtain ⟨fb, fd, rfl, -, -⟩ := hf.slice
              obtain ⟨ib, id, rfl, -, -⟩ := hi.slice
              obtain ⟨mb, md, rfl, -, -⟩ := hm.slice
              obtain ⟨xb, xd, rfl, -, -⟩ := hx.slice
              have ha := hu.trans (Upd.alloc (fun _ => False) w21 (.cells #[.string I.name, .slice fb I.fields.length fd, .slice ib I.imports.length id, .slice mb I.methods.length md, .slice xb I.exports.length xd] 32)) (fun _ h _ => h)
              have HX2 := Lib.hid (stay_blk ha HX.out (fun h => h))
              have HY := Lib.hid (topAt w21 (.cells #[.string I.name, .slice fb I.fields.length fd, .slice ib I.imports.length id, .slice mb I.methods.length md, .slice xb I.exports.length xd] 32) _ rfl)
              have HIX2 := Lib.hid (HIX.out.later (upd_below ha))
              have HJX := Lib.hid (HJ.out.later (upd_below (Upd.alloc (fun _ => False) w21 (.cells #[.string I.name, .slice fb I.fields.length fd, .slice ib I.imports.length id, .slice mb I.methods.length md, .slice xb I.exports.length xd] 32))))
              have H21 := Lib.hid (H20.out.quiet ha)
              have hbe : (er == er) = true := by simp
              clear hf hi hm hx hu ha HJ HX HIX H20 HRD
              --CUT t4
              go_wp2_with fail
              --CUT t5
              refine (known4 _).mono ?_
              rintro e w22 ⟨rfl, hu⟩
              have HX3 := Lib.hid (stay_blk hu HX2.out (fun h => h))
              have HY3 := Lib.hid (stay_blk hu HY.out (fun h => h))
              have HIX3 := Lib.hid (HIX2.out.later (upd_below hu))
              have HJX3 := Lib.hid (HJX.out.later (upd_below hu))
              have H22 := Lib.hid (H21.out.quiet hu)
              obtain ⟨c0, c1, c2, c3, c4⟩ := ilCell5 HX3.out
              obtain ⟨d0, d1, d2, d3, d4⟩ := ilCell5 HY3.out
              clear hu HX2 HY HIX2 HJX H21
              --CUT t6
              go_wp2_with fail
              --CUT t7
              refine (rSame _ _ _ I I HIX3.out HJX3.out).mono ?_
              rintro e w23 ⟨r, rfl, hr, hu⟩
              obtain rfl : r = true := hr.2 rfl
              have HU23 := Lib.hid (H22.out.up.trans hu (fun _ h _ => h))
              clear hr hu
              go_wp2_with fail
              go_ret
              exact ⟨rfl, HU23.out⟩
              --D}y1
            · as_aux_lemma =>
              --D{y2
              go_wp2_with fail
              --CUT t1
              refine (cImgRead _ _ (ys2) HSZ.out.vw).mono ?_
              rintro e w20 ⟨r, rfl, hI, hu⟩
              obtain ⟨I, hIe⟩ : ∃ I, I = (readP (ys2)).2 := ⟨_, rfl⟩
              obtain ⟨er, her⟩ : ∃ er, er = (readP (ys2)).1 := ⟨_, rfl⟩
              rw [← hIe] at hI
              rw [← her]
              have HRE := Lib.hid (show rReadP (ys2) = (er, I) by rw [rRead_eq HSZ.out.vw.1, her, hIe])
              have HI := Lib.hid hI
              obtain ⟨f, i, m, x, rfl, hf, hi, hm, hx, -⟩ := hI
              obtain ⟨fa, fc, rfl, -, -⟩ := hf.slice
              obtain ⟨ia, ic, rfl, -, -⟩ := hi.slice
              obtain ⟨ma, mc, rfl, -, -⟩ := hm.slice
              obtain ⟨xa, xc, rfl, -, -⟩ := hx.slice
              have ha := hu.trans (Upd.alloc (fun _ => False) w20 (.cells #[.string I.name, .slice fa I.fields.length fc, .slice ia I.imports.length ic, .slice ma I.methods.length mc, .slice xa I.exports.length xc] 32)) (fun _ h _ => h)
              have HX := Lib.hid (topAt w20 (.cells #[.string I.name, .slice fa I.fields.length fc, .slice ia I.imports.length ic, .slice ma I.methods.length mc, .slice xa I.exports.length xc] 32) _ rfl)
              have HIX := Lib.hid (HI.out.later (upd_below (Upd.alloc (fun _ => False) w20 (.cells #[.string I.name, .slice fa I.fields.length fc, .slice ia I.imports.length ic, .slice ma I.methods.length mc, .slice xa I.exports.length xc] 32))))
              have H20 := Lib.hid (HSZ.out.quiet ha)
              have HRD := Lib.hid (rImgRead _ _ (ys2) H20.out.vw H20.out.lt (HNO.out.later (upd_below H20.out.up)))
              rw [HRE.out] at HRD
              clear hf hi hm hx hu ha hIe her HI
              --CUT t2
              go_wp2_with fail
              --CUT t3
              refine HRD.out.mono ?_
              rintro e w21 ⟨r, rfl, hJ, hu⟩
              have HJ := Lib.hid hJ
              obtain ⟨f, i, m, x, rfl, hf, hi, hm, hx, -⟩ := hJ
              obtain ⟨fb, fd, rfl, -, -⟩ := hf.slice
              obtain ⟨ib, id, rfl, -, -⟩ := hi.slice
              obtain ⟨mb, md, rfl, -, -⟩ := hm.slice
              obtain ⟨xb, xd, rfl, -, -⟩ := hx.slice
              have ha := hu.trans (Upd.alloc (fun _ => False) w21 (.cells #[.string I.name, .slice fb I.fields.length fd, .slice ib I.imports.length id, .slice mb I.methods.length md, .slice xb I.exports.length xd] 32)) (fun _ h _ => h)
              have HX2 := Lib.hid (stay_blk ha HX.out (fun h => h))
              have HY := Lib.hid (topAt w21 (.cells #[.string I.name, .slice fb I.fields.length fd, .slice ib I.imports.length id, .slice mb I.methods.length md, .slice xb I.exports.length xd] 32) _ rfl)
              have HIX2 := Lib.hid (HIX.out.later (upd_below ha))
              have HJX := Lib.hid (HJ.out.later (upd_below (Upd.alloc (fun _ => False) w21 (.cells #[.string I.name, .slice fb I.fields.length fd, .slice ib I.imports.length id, .slice mb I.methods.length md, .slice xb I.exports.length xd] 32))))
              have H21 := Lib.hid (H20.out.quiet ha)
              have hbe : (er == er) = true := by simp
              clear hf hi hm hx hu ha HJ HX HIX H20 HRD
              --CUT t4
              go_wp2_with fail
              --CUT t5
              refine (known4 _).mono ?_
              rintro e w22 ⟨rfl, hu⟩
              have HX3 := Lib.hid (stay_blk hu HX2.out (fun h => h))
              have HY3 := Lib.hid (stay_blk hu HY.out (fun h => h))
              have HIX3 := Lib.hid (HIX2.out.later (upd_below hu))
              have HJX3 := Lib.hid (HJX.out.later (upd_below hu))
              have H22 := Lib.hid (H21.out.quiet hu)
              obtain ⟨c0, c1, c2, c3, c4⟩ := ilCell5 HX3.out
              obtain ⟨d0, d1, d2, d3, d4⟩ := ilCell5 HY3.out
              clear hu HX2 HY HIX2 HJX H21
              --CUT t6
              go_wp2_with fail
              --CUT t7
              refine (rSame _ _ _ I I HIX3.out HJX3.out).mono ?_
              rintro e w23 ⟨r, rfl, hr, hu⟩
              obtain rfl : r = true := hr.2 rfl
              have HU23 := Lib.hid (H22.out.up.trans hu (fun _ h _ => h))
              clear hr hu
              go_wp2_with fail
              go_ret
              exact ⟨rfl, HU23.out⟩
              --D}y2
            · as_aux_lemma =>
              --D{y3
              go_wp2_with fail
              --CUT t1
              refine (cImgRead _ _ (ys2) HSZ.out.vw).mono ?_
              rintro e w20 ⟨r, rfl, hI, hu⟩
              obtain ⟨I, hIe⟩ : ∃ I, I = (readP (ys2)).2 := ⟨_, rfl⟩
              obtain ⟨er, her⟩ : ∃ er, er = (readP (ys2)).1 := ⟨_, rfl⟩
              rw [← hIe] at hI
              rw [← her]
              have HRE := Lib.hid (show rReadP (ys2) = (er, I) by rw [rRead_eq HSZ.out.vw.1, her, hIe])
              have HI := Lib.hid hI
              obtain ⟨f, i, m, x, rfl, hf, hi, hm, hx, -⟩ := hI
              obtain ⟨fa, fc, rfl, -, -⟩ := hf.slice
              obtain ⟨ia, ic, rfl, -, -⟩ := hi.slice
              obtain ⟨ma, mc, rfl, -, -⟩ := hm.slice
              obtain ⟨xa, xc, rfl, -, -⟩ := hx.slice
              have ha := hu.trans (Upd.alloc (fun _ => False) w20 (.cells #[.string I.name, .slice fa I.fields.length fc, .slice ia I.imports.length ic, .slice ma I.methods.length mc, .slice xa I.exports.length xc] 32)) (fun _ h _ => h)
              have HX := Lib.hid (topAt w20 (.cells #[.string I.name, .slice fa I.fields.length fc, .slice ia I.imports.length ic, .slice ma I.methods.length mc, .slice xa I.exports.length xc] 32) _ rfl)
              have HIX := Lib.hid (HI.out.later (upd_below (Upd.alloc (fun _ => False) w20 (.cells #[.string I.name, .slice fa I.fields.length fc, .slice ia I.imports.length ic, .slice ma I.methods.length mc, .slice xa I.exports.length xc] 32))))
              have H20 := Lib.hid (HSZ.out.quiet ha)
              have HRD := Lib.hid (rImgRead _ _ (ys2) H20.out.vw H20.out.lt (HNO.out.later (upd_below H20.out.up)))
              rw [HRE.out] at HRD
              clear hf hi hm hx hu ha hIe her HI
              --CUT t2
              go_wp2_with fail
              --CUT t3
              refine HRD.out.mono ?_
              rintro e w21 ⟨r, rfl, hJ, hu⟩
              have HJ := Lib.hid hJ
              obtain ⟨f, i, m, x, rfl, hf, hi, hm, hx, -⟩ := hJ
              obtain ⟨fb, fd, rfl, -, -⟩ := hf.slice
              obtain ⟨ib, id, rfl, -, -⟩ := hi.slice
              obtain ⟨mb, md, rfl, -, -⟩ := hm.slice
              obtain ⟨xb, xd, rfl, -, -⟩ := hx.slice
              have ha := hu.trans (Upd.alloc (fun _ => False) w21 (.cells #[.string I.name, .slice fb I.fields.length fd, .slice ib I.imports.length id, .slice mb I.methods.length md, .slice xb I.exports.length xd] 32)) (fun _ h _ => h)
              have HX2 := Lib.hid (stay_blk ha HX.out (fun h => h))
              have HY := Lib.hid (topAt w21 (.cells #[.string I.name, .slice fb I.fields.length fd, .slice ib I.imports.length id, .slice mb I.methods.length md, .slice xb I.exports.length xd] 32) _ rfl)
              have HIX2 := Lib.hid (HIX.out.later (upd_below ha))
              have HJX := Lib.hid (HJ.out.later (upd_below (Upd.alloc (fun _ => False) w21 (.cells #[.string I.name, .slice fb I.fields.length fd, .slice ib I.imports.length id, .slice mb I.methods.length md, .slice xb I.exports.length xd] 32))))
              have H21 := Lib.hid (H20.out.quiet ha)
              have hbe : (er == er) = true := by simp
              clear hf hi hm hx hu ha HJ HX HIX H20 HRD
              --CUT t4
              go_wp2_with fail
              --CUT t5
              refine (known4 _).mono ?_
              rintro e w22 ⟨rfl, hu⟩
              have HX3 := Lib.hid (stay_blk hu HX2.out (fun h => h))
              have HY3 := Lib.hid (stay_blk hu HY.out (fun h => h))
              have HIX3 := Lib.hid (HIX2.out.later (upd_below hu))
              have HJX3 := Lib.hid (HJX.out.later (upd_below hu))
              have H22 := Lib.hid (H21.out.quiet hu)
              obtain ⟨c0, c1, c2, c3, c4⟩ := ilCell5 HX3.out
              obtain ⟨d0, d1, d2, d3, d4⟩ := ilCell5 HY3.out
              clear hu HX2 HY HIX2 HJX H21
              --CUT t6
              go_wp2_with fail
              --CUT t7
              refine (rSame _ _ _ I I HIX3.out HJX3.out).mono ?_
              rintro e w23 ⟨r, rfl, hr, hu⟩
              obtain rfl : r = true := hr.2 rfl
              have HU23 := Lib.hid (H22.out.up.trans hu (fun _ h _ => h))
              clear hr hu
              go_wp2_with fail
              go_ret
              exact ⟨rfl, HU23.out⟩
              --D}y3
            · as_aux_lemma =>
              --D{y4
              go_wp2_with fail
              --CUT t1
              refine (cImgRead _ _ (ys2) HSZ.out.vw).mono ?_
              rintro e w20 ⟨r, rfl, hI, hu⟩
              obtain ⟨I, hIe⟩ : ∃ I, I = (readP (ys2)).2 := ⟨_, rfl⟩
              obtain ⟨er, her⟩ : ∃ er, er = (readP (ys2)).1 := ⟨_, rfl⟩
              rw [← hIe] at hI
              rw [← her]
              have HRE := Lib.hid (show rReadP (ys2) = (er, I) by rw [rRead_eq HSZ.out.vw.1, her, hIe])
              have HI := Lib.hid hI
              obtain ⟨f, i, m, x, rfl, hf, hi, hm, hx, -⟩ := hI
              obtain ⟨fa, fc, rfl, -, -⟩ := hf.slice
              obtain ⟨ia, ic, rfl, -, -⟩ := hi.slice
              obtain ⟨ma, mc, rfl, -, -⟩ := hm.slice
              obtain ⟨xa, xc, rfl, -, -⟩ := hx.slice
              have ha := hu.trans (Upd.alloc (fun _ => False) w20 (.cells #[.string I.name, .slice fa I.fields.length fc, .slice ia I.imports.length ic, .slice ma I.methods.length mc, .slice xa I.exports.length xc] 32)) (fun _ h _ => h)
              have HX := Lib.hid (topAt w20 (.cells #[.string I.name, .slice fa I.fields.length fc, .slice ia I.imports.length ic, .slice ma I.methods.length mc, .slice xa I.exports.length xc] 32) _ rfl)
              have HIX := Lib.hid (HI.out.later (upd_below (Upd.alloc (fun _ => False) w20 (.cells #[.string I.name, .slice fa I.fields.length fc, .slice ia I.imports.length ic, .slice ma I.methods.length mc, .slice xa I.exports.length xc] 32))))
              have H20 := Lib.hid (HSZ.out.quiet ha)
              have HRD := Lib.hid (rImgRead _ _ (ys2) H20.out.vw H20.out.lt (HNO.out.later (upd_below H20.out.up)))
              rw [HRE.out] at HRD
              clear hf hi hm hx hu ha hIe her HI
              --CUT t2
              go_wp2_with fail
              --CUT t3
              refine HRD.out.mono ?_
              rintro e w21 ⟨r, rfl, hJ, hu⟩
              have HJ := Lib.hid hJ
              obtain ⟨f, i, m, x, rfl, hf, hi, hm, hx, -⟩ := hJ
              obtain ⟨fb, fd, rfl, -, -⟩ := hf.slice
              obtain ⟨ib, id, rfl, -, -⟩ := hi.slice
              obtain ⟨mb, md, rfl, -, -⟩ := hm.slice
              obtain ⟨xb, xd, rfl, -, -⟩ := hx.slice
              have ha := hu.trans (Upd.alloc (fun _ => False) w21 (.cells #[.string I.name, .slice fb I.fields.length fd, .slice ib I.imports.length id, .slice mb I.methods.length md, .slice xb I.exports.length xd] 32)) (fun _ h _ => h)
              have HX2 := Lib.hid (stay_blk ha HX.out (fun h => h))
              have HY := Lib.hid (topAt w21 (.cells #[.string I.name, .slice fb I.fields.length fd, .slice ib I.imports.length id, .slice mb I.methods.length md, .slice xb I.exports.length xd] 32) _ rfl)
              have HIX2 := Lib.hid (HIX.out.later (upd_below ha))
              have HJX := Lib.hid (HJ.out.later (upd_below (Upd.alloc (fun _ => False) w21 (.cells #[.string I.name, .slice fb I.fields.length fd, .slice ib I.imports.length id, .slice mb I.methods.length md, .slice xb I.exports.length xd] 32))))
              have H21 := Lib.hid (H20.out.quiet ha)
              have hbe : (er == er) = true := by simp
              clear hf hi hm hx hu ha HJ HX HIX H20 HRD
              --CUT t4
              go_wp2_with fail
              --CUT t5
              refine (known4 _).mono ?_
              rintro e w22 ⟨rfl, hu⟩
              have HX3 := Lib.hid (stay_blk hu HX2.out (fun h => h))
              have HY3 := Lib.hid (stay_blk hu HY.out (fun h => h))
              have HIX3 := Lib.hid (HIX2.out.later (upd_below hu))
              have HJX3 := Lib.hid (HJX.out.later (upd_below hu))
              have H22 := Lib.hid (H21.out.quiet hu)
              obtain ⟨c0, c1, c2, c3, c4⟩ := ilCell5 HX3.out
              obtain ⟨d0, d1, d2, d3, d4⟩ := ilCell5 HY3.out
              clear hu HX2 HY HIX2 HJX H21
              --CUT t6
              go_wp2_with fail
              --CUT t7
              refine (rSame _ _ _ I I HIX3.out HJX3.out).mono ?_
              rintro e w23 ⟨r, rfl, hr, hu⟩
              obtain rfl : r = true := hr.2 rfl
              have HU23 := Lib.hid (H22.out.up.trans hu (fun _ h _ => h))
              clear hr hu
              go_wp2_with fail
              go_ret
              exact ⟨rfl, HU23.out⟩
              --D}y4
        --D}x0
      · as_aux_lemma =>
        --D{x1
        by_cases hal : 0 < AT.length
        · obtain ⟨ga, oa, rfl, ca, -⟩ := (HAT.out.later (upd_below HO.out.2.2.2.1)).at hal
          obtain ⟨A, hA⟩ : ∃ A, A = AT.getD 0 0 := ⟨_, rfl⟩
          rw [← hA] at ca
          clear hA
          obtain ⟨q, hq, hq2⟩ : ∃ q : Nat, A % ((nN : Int) + 1) = (q : Int) ∧ q ≤ nN := by
            have h1 := Int.emod_nonneg A (b := (nN : Int) + 1) (by omega)
            have h2 := Int.emod_lt_of_pos A (b := (nN : Int) + 1) (by omega)
            exact ⟨(A % ((nN : Int) + 1)).toNat, by omega, by omega⟩
          have hn46 := HO.out.2.2.2.2.2
          have hcap := HO.out.2.2.2.2.1
          have hwn : IntKind.i64.wrap ((nN : Int) + 1) = (nN : Int) + 1 := IntWalk.i64_in _ (by omega)
          have HS7 : Hid (Bs W wX (.slice bA q bC) (yS.take q)) := Lib.hid ⟨HO.out.2.2.2.1, (vw_of_row (by rw [HO.out.1]; exact HO.out.2.1) HO.out.2.2.1).take rfl q (by rw [HO.out.1]; exact hq2), fun k hk => by
            cases bA with
            | none => simp [Value.ownBlock] at hk
            | some a => exact (HO.out.2.1.lt k hk).2⟩
          have hi4 : (0 : Int) ≤ (q : Int) := Int.natCast_nonneg _
          have hi5 : (q : Int) ≤ (nN : Int) := by omega
          rw [Nat.add_zero] at ca
          go_wp2_with fail
          refine (hPick _ _ _ (by omega) (by omega)).mono ?_
          rw [hq]
          rintro e w' ⟨rfl, rfl⟩
          go_wp2_with fail
          --CUT t1
          refine (cImgRead _ _ (yS.take q) HS7.out.vw).mono ?_
          rintro e w20 ⟨r, rfl, hI, hu⟩
          obtain ⟨I, hIe⟩ : ∃ I, I = (readP (yS.take q)).2 := ⟨_, rfl⟩
          obtain ⟨er, her⟩ : ∃ er, er = (readP (yS.take q)).1 := ⟨_, rfl⟩
          rw [← hIe] at hI
          rw [← her]
          have HRE := Lib.hid (show rReadP (yS.take q) = (er, I) by rw [rRead_eq HS7.out.vw.1, her, hIe])
          have HI := Lib.hid hI
          obtain ⟨f, i, m, x, rfl, hf, hi, hm, hx, -⟩ := hI
          obtain ⟨fa, fc, rfl, -, -⟩ := hf.slice
          obtain ⟨ia, ic, rfl, -, -⟩ := hi.slice
          obtain ⟨ma, mc, rfl, -, -⟩ := hm.slice
          obtain ⟨xa, xc, rfl, -, -⟩ := hx.slice
          have ha := hu.trans (Upd.alloc (fun _ => False) w20 (.cells #[.string I.name, .slice fa I.fields.length fc, .slice ia I.imports.length ic, .slice ma I.methods.length mc, .slice xa I.exports.length xc] 32)) (fun _ h _ => h)
          have HX := Lib.hid (topAt w20 (.cells #[.string I.name, .slice fa I.fields.length fc, .slice ia I.imports.length ic, .slice ma I.methods.length mc, .slice xa I.exports.length xc] 32) _ rfl)
          have HIX := Lib.hid (HI.out.later (upd_below (Upd.alloc (fun _ => False) w20 (.cells #[.string I.name, .slice fa I.fields.length fc, .slice ia I.imports.length ic, .slice ma I.methods.length mc, .slice xa I.exports.length xc] 32))))
          have H20 := Lib.hid (HS7.out.quiet ha)
          have HRD := Lib.hid (rImgRead _ _ (yS.take q) H20.out.vw H20.out.lt (HNO.out.later (upd_below H20.out.up)))
          rw [HRE.out] at HRD
          clear hf hi hm hx hu ha hIe her HI
          --CUT t2
          go_wp2_with fail
          --CUT t3
          refine HRD.out.mono ?_
          rintro e w21 ⟨r, rfl, hJ, hu⟩
          have HJ := Lib.hid hJ
          obtain ⟨f, i, m, x, rfl, hf, hi, hm, hx, -⟩ := hJ
          obtain ⟨fb, fd, rfl, -, -⟩ := hf.slice
          obtain ⟨ib, id, rfl, -, -⟩ := hi.slice
          obtain ⟨mb, md, rfl, -, -⟩ := hm.slice
          obtain ⟨xb, xd, rfl, -, -⟩ := hx.slice
          have ha := hu.trans (Upd.alloc (fun _ => False) w21 (.cells #[.string I.name, .slice fb I.fields.length fd, .slice ib I.imports.length id, .slice mb I.methods.length md, .slice xb I.exports.length xd] 32)) (fun _ h _ => h)
          have HX2 := Lib.hid (stay_blk ha HX.out (fun h => h))
          have HY := Lib.hid (topAt w21 (.cells #[.string I.name, .slice fb I.fields.length fd, .slice ib I.imports.length id, .slice mb I.methods.length md, .slice xb I.exports.length xd] 32) _ rfl)
          have HIX2 := Lib.hid (HIX.out.later (upd_below ha))
          have HJX := Lib.hid (HJ.out.later (upd_below (Upd.alloc (fun _ => False) w21 (.cells #[.string I.name, .slice fb I.fields.length fd, .slice ib I.imports.length id, .slice mb I.methods.length md, .slice xb I.exports.length xd] 32))))
          have H21 := Lib.hid (H20.out.quiet ha)
          have hbe : (er == er) = true := by simp
          clear hf hi hm hx hu ha HJ HX HIX H20 HRD
          --CUT t4
          go_wp2_with fail
          --CUT t5
          refine (known4 _).mono ?_
          rintro e w22 ⟨rfl, hu⟩
          have HX3 := Lib.hid (stay_blk hu HX2.out (fun h => h))
          have HY3 := Lib.hid (stay_blk hu HY.out (fun h => h))
          have HIX3 := Lib.hid (HIX2.out.later (upd_below hu))
          have HJX3 := Lib.hid (HJX.out.later (upd_below hu))
          have H22 := Lib.hid (H21.out.quiet hu)
          obtain ⟨c0, c1, c2, c3, c4⟩ := ilCell5 HX3.out
          obtain ⟨d0, d1, d2, d3, d4⟩ := ilCell5 HY3.out
          clear hu HX2 HY HIX2 HJX H21
          --CUT t6
          go_wp2_with fail
          --CUT t7
          refine (rSame _ _ _ I I HIX3.out HJX3.out).mono ?_
          rintro e w23 ⟨r, rfl, hr, hu⟩
          obtain rfl : r = true := hr.2 rfl
          have HU23 := Lib.hid (H22.out.up.trans hu (fun _ h _ => h))
          clear hr hu
          go_wp2_with fail
          go_ret
          exact ⟨rfl, HU23.out⟩
        · as_aux_lemma =>
          go_wp2_with fail
          --CUT t1
          refine (cImgRead _ _ (yS) HSX.out.vw).mono ?_
          rintro e w20 ⟨r, rfl, hI, hu⟩
          obtain ⟨I, hIe⟩ : ∃ I, I = (readP (yS)).2 := ⟨_, rfl⟩
          obtain ⟨er, her⟩ : ∃ er, er = (readP (yS)).1 := ⟨_, rfl⟩
          rw [← hIe] at hI
          rw [← her]
          have HRE := Lib.hid (show rReadP (yS) = (er, I) by rw [rRead_eq HSX.out.vw.1, her, hIe])
          have HI := Lib.hid hI
          obtain ⟨f, i, m, x, rfl, hf, hi, hm, hx, -⟩ := hI
          obtain ⟨fa, fc, rfl, -, -⟩ := hf.slice
          obtain ⟨ia, ic, rfl, -, -⟩ := hi.slice
          obtain ⟨ma, mc, rfl, -, -⟩ := hm.slice
          obtain ⟨xa, xc, rfl, -, -⟩ := hx.slice
          have ha := hu.trans (Upd.alloc (fun _ => False) w20 (.cells #[.string I.name, .slice fa I.fields.length fc, .slice ia I.imports.length ic, .slice ma I.methods.length mc, .slice xa I.exports.length xc] 32)) (fun _ h _ => h)
          have HX := Lib.hid (topAt w20 (.cells #[.string I.name, .slice fa I.fields.length fc, .slice ia I.imports.length ic, .slice ma I.methods.length mc, .slice xa I.exports.length xc] 32) _ rfl)
          have HIX := Lib.hid (HI.out.later (upd_below (Upd.alloc (fun _ => False) w20 (.cells #[.string I.name, .slice fa I.fields.length fc, .slice ia I.imports.length ic, .slice ma I.methods.length mc, .slice xa I.exports.length xc] 32))))
          have H20 := Lib.hid (HSX.out.quiet ha)
          have HRD := Lib.hid (rImgRead _ _ (yS) H20.out.vw H20.out.lt (HNO.out.later (upd_below H20.out.up)))
          rw [HRE.out] at HRD
          clear hf hi hm hx hu ha hIe her HI
          --CUT t2
          go_wp2_with fail
          --CUT t3
          refine HRD.out.mono ?_
          rintro e w21 ⟨r, rfl, hJ, hu⟩
          have HJ := Lib.hid hJ
          obtain ⟨f, i, m, x, rfl, hf, hi, hm, hx, -⟩ := hJ
          obtain ⟨fb, fd, rfl, -, -⟩ := hf.slice
          obtain ⟨ib, id, rfl, -, -⟩ := hi.slice
          obtain ⟨mb, md, rfl, -, -⟩ := hm.slice
          obtain ⟨xb, xd, rfl, -, -⟩ := hx.slice
          have ha := hu.trans (Upd.alloc (fun _ => False) w21 (.cells #[.string I.name, .slice fb I.fields.length fd, .slice ib I.imports.length id, .slice mb I.methods.length md, .slice xb I.exports.length xd] 32)) (fun _ h _ => h)
          have HX2 := Lib.hid (stay_blk ha HX.out (fun h => h))
          have HY := Lib.hid (topAt w21 (.cells #[.string I.name, .slice fb I.fields.length fd, .slice ib I.imports.length id, .slice mb I.methods.length md, .slice xb I.exports.length xd] 32) _ rfl)
          have HIX2 := Lib.hid (HIX.out.later (upd_below ha))
          have HJX := Lib.hid (HJ.out.later (upd_below (Upd.alloc (fun _ => False) w21 (.cells #[.string I.name, .slice fb I.fields.length fd, .slice ib I.imports.length id, .slice mb I.methods.length md, .slice xb I.exports.length xd] 32))))
          have H21 := Lib.hid (H20.out.quiet ha)
          have hbe : (er == er) = true := by simp
          clear hf hi hm hx hu ha HJ HX HIX H20 HRD
          --CUT t4
          go_wp2_with fail
          --CUT t5
          refine (known4 _).mono ?_
          rintro e w22 ⟨rfl, hu⟩
          have HX3 := Lib.hid (stay_blk hu HX2.out (fun h => h))
          have HY3 := Lib.hid (stay_blk hu HY.out (fun h => h))
          have HIX3 := Lib.hid (HIX2.out.later (upd_below hu))
          have HJX3 := Lib.hid (HJX.out.later (upd_below hu))
          have H22 := Lib.hid (H21.out.quiet hu)
          obtain ⟨c0, c1, c2, c3, c4⟩ := ilCell5 HX3.out
          obtain ⟨d0, d1, d2, d3, d4⟩ := ilCell5 HY3.out
          clear hu HX2 HY HIX2 HJX H21
          --CUT t6
          go_wp2_with fail
          --CUT t7
          refine (rSame _ _ _ I I HIX3.out HJX3.out).mono ?_
          rintro e w23 ⟨r, rfl, hr, hu⟩
          obtain rfl : r = true := hr.2 rfl
          have HU23 := Lib.hid (H22.out.up.trans hu (fun _ h _ => h))
          clear hr hu
          go_wp2_with fail
          go_ret
          exact ⟨rfl, HU23.out⟩
        --D}x1
      · as_aux_lemma =>
        --D{x2
        have HROW := Lib.hid HO.out.2.1
        have hn46 := HO.out.2.2.2.2.2
        have HSRC := Lib.hid ((HBV.out.upd HO.out.2.2.2.1 (fun _ _ h => h)).src)
        go_wp2_with (at_builtin; go_loud (refine wpList_append_mine _ rfl _ _ 23 rfl 0 5 i0 (.int .u8 0) 1 1 Tryz.underlying23 hi hz0 hz1 hz2 rfl (by decide) (.slice bA nN bC) nN (bv yS) rfl HROW.out BY.length (bv BY) HSRC.out (by unfold maxLen; omega) (by omega) (Nat.zero_le _) ?_))
        intro v7 w7 ho hg hf
        have HU7 := Lib.hid (HO.out.2.2.2.1.trans (Upd.row (Upd.refl _ _) hg) (fun i hi hlt => by have := HNW.out i hi; omega))
        obtain ⟨a7, c7, rfl⟩ := ownsRow_slice ho
        have HS7 : Hid (Bs W w7 (.slice a7 (nN + BY.length) c7) (yS ++ BY)) := Lib.hid ⟨HU7.out, by
          have h : Vw w7 (.slice a7 (nN + BY.length) c7) (yS ++ BY) := vw_of_row (by rw [List.length_append, HO.out.1, bv_append]; exact ho) (fun y hy => by
            rcases List.mem_append.1 hy with h | h
            · exact HO.out.2.2.1 y h
            · exact HBV.out.1 y h)
          exact h, fun k hk => (ho.lt k hk).2⟩
        clear ho hg hf
        go_wp2_with fail
        --CUT t1
        refine (cImgRead _ _ (yS ++ BY) HS7.out.vw).mono ?_
        rintro e w20 ⟨r, rfl, hI, hu⟩
        obtain ⟨I, hIe⟩ : ∃ I, I = (readP (yS ++ BY)).2 := ⟨_, rfl⟩
        obtain ⟨er, her⟩ : ∃ er, er = (readP (yS ++ BY)).1 := ⟨_, rfl⟩
        rw [← hIe] at hI
        rw [← her]
        have HRE := Lib.hid (show rReadP (yS ++ BY) = (er, I) by rw [rRead_eq HS7.out.vw.1, her, hIe])
        have HI := Lib.hid hI
        obtain ⟨f, i, m, x, rfl, hf, hi, hm, hx, -⟩ := hI
        obtain ⟨fa, fc, rfl, -, -⟩ := hf.slice
        obtain ⟨ia, ic, rfl, -, -⟩ := hi.slice
        obtain ⟨ma, mc, rfl, -, -⟩ := hm.slice
        obtain ⟨xa, xc, rfl, -, -⟩ := hx.slice
        have ha := hu.trans (Upd.alloc (fun _ => False) w20 (.cells #[.string I.name, .slice fa I.fields.length fc, .slice ia I.imports.length ic, .slice ma I.methods.length mc, .slice xa I.exports.length xc] 32)) (fun _ h _ => h)
        have HX := Lib.hid (topAt w20 (.cells #[.string I.name, .slice fa I.fields.length fc, .slice ia I.imports.length ic, .slice ma I.methods.length mc, .slice xa I.exports.length xc] 32) _ rfl)
        have HIX := Lib.hid (HI.out.later (upd_below (Upd.alloc (fun _ => False) w20 (.cells #[.string I.name, .slice fa I.fields.length fc, .slice ia I.imports.length ic, .slice ma I.methods.length mc, .slice xa I.exports.length xc] 32))))
        have H20 := Lib.hid (HS7.out.quiet ha)
        have HRD := Lib.hid (rImgRead _ _ (yS ++ BY) H20.out.vw H20.out.lt (HNO.out.later (upd_below H20.out.up)))
        rw [HRE.out] at HRD
        clear hf hi hm hx hu ha hIe her HI
        --CUT t2
        go_wp2_with fail
        --CUT t3
        refine HRD.out.mono ?_
        rintro e w21 ⟨r, rfl, hJ, hu⟩
        have HJ := Lib.hid hJ
        obtain ⟨f, i, m, x, rfl, hf, hi, hm, hx, -⟩ := hJ
        obtain ⟨fb, fd, rfl, -, -⟩ := hf.slice
        obtain ⟨ib, id, rfl, -, -⟩ := hi.slice
        obtain ⟨mb, md, rfl, -, -⟩ := hm.slice
        obtain ⟨xb, xd, rfl, -, -⟩ := hx.slice
        have ha := hu.trans (Upd.alloc (fun _ => False) w21 (.cells #[.string I.name, .slice fb I.fields.length fd, .slice ib I.imports.length id, .slice mb I.methods.length md, .slice xb I.exports.length xd] 32)) (fun _ h _ => h)
        have HX2 := Lib.hid (stay_blk ha HX.out (fun h => h))
        have HY := Lib.hid (topAt w21 (.cells #[.string I.name, .slice fb I.fields.length fd, .slice ib I.imports.length id, .slice mb I.methods.length md, .slice xb I.exports.length xd] 32) _ rfl)
        have HIX2 := Lib.hid (HIX.out.later (upd_below ha))
        have HJX := Lib.hid (HJ.out.later (upd_below (Upd.alloc (fun _ => False) w21 (.cells #[.string I.name, .slice fb I.fields.length fd, .slice ib I.imports.length id, .slice mb I.methods.length md, .slice xb I.exports.length xd] 32))))
        have H21 := Lib.hid (H20.out.quiet ha)
        have hbe : (er == er) = true := by simp
        clear hf hi hm hx hu ha HJ HX HIX H20 HRD
        --CUT t4
        go_wp2_with fail
        --CUT t5
        refine (known4 _).mono ?_
        rintro e w22 ⟨rfl, hu⟩
        have HX3 := Lib.hid (stay_blk hu HX2.out (fun h => h))
        have HY3 := Lib.hid (stay_blk hu HY.out (fun h => h))
        have HIX3 := Lib.hid (HIX2.out.later (upd_below hu))
        have HJX3 := Lib.hid (HJX.out.later (upd_below hu))
        have H22 := Lib.hid (H21.out.quiet hu)
        obtain ⟨c0, c1, c2, c3, c4⟩ := ilCell5 HX3.out
        obtain ⟨d0, d1, d2, d3, d4⟩ := ilCell5 HY3.out
        clear hu HX2 HY HIX2 HJX H21
        --CUT t6
        go_wp2_with fail
        --CUT t7
        refine (rSame _ _ _ I I HIX3.out HJX3.out).mono ?_
        rintro e w23 ⟨r, rfl, hr, hu⟩
        obtain rfl : r = true := hr.2 rfl
        have HU23 := Lib.hid (H22.out.up.trans hu (fun _ h _ => h))
        clear hr hu
        go_wp2_with fail
        go_ret
        exact ⟨rfl, HU23.out⟩
        --D}x2
      · as_aux_lemma =>
        --D{x3
        go_wp2_with fail
        --CUT t1
        refine (cImgRead _ _ (yS) HSX.out.vw).mono ?_
        rintro e w20 ⟨r, rfl, hI, hu⟩
        obtain ⟨I, hIe⟩ : ∃ I, I = (readP (yS)).2 := ⟨_, rfl⟩
        obtain ⟨er, her⟩ : ∃ er, er = (readP (yS)).1 := ⟨_, rfl⟩
        rw [← hIe] at hI
        rw [← her]
        have HRE := Lib.hid (show rReadP (yS) = (er, I) by rw [rRead_eq HSX.out.vw.1, her, hIe])
        have HI := Lib.hid hI
        obtain ⟨f, i, m, x, rfl, hf, hi, hm, hx, -⟩ := hI
        obtain ⟨fa, fc, rfl, -, -⟩ := hf.slice
        obtain ⟨ia, ic, rfl, -, -⟩ := hi.slice
        obtain ⟨ma, mc, rfl, -, -⟩ := hm.slice
        obtain ⟨xa, xc, rfl, -, -⟩ := hx.slice
        have ha := hu.trans (Upd.alloc (fun _ => False) w20 (.cells #[.string I.name, .slice fa I.fields.length fc, .slice ia I.imports.length ic, .slice ma I.methods.length mc, .slice xa I.exports.length xc] 32)) (fun _ h _ => h)
        have HX := Lib.hid (topAt w20 (.cells #[.string I.name, .slice fa I.fields.length fc, .slice ia I.imports.length ic, .slice ma I.methods.length mc, .slice xa I.exports.length xc] 32) _ rfl)
        have HIX := Lib.hid (HI.out.later (upd_below (Upd.alloc (fun _ => False) w20 (.cells #[.string I.name, .slice fa I.fields.length fc, .slice ia I.imports.length ic, .slice ma I.methods.length mc, .slice xa I.exports.length xc] 32))))
        have H20 := Lib.hid (HSX.out.quiet ha)
        have HRD := Lib.hid (rImgRead _ _ (yS) H20.out.vw H20.out.lt (HNO.out.later (upd_below H20.out.up)))
        rw [HRE.out] at HRD
        clear hf hi hm hx hu ha hIe her HI
        --CUT t2
        go_wp2_with fail
        --CUT t3
        refine HRD.out.mono ?_
        rintro e w21 ⟨r, rfl, hJ, hu⟩
        have HJ := Lib.hid hJ
        obtain ⟨f, i, m, x, rfl, hf, hi, hm, hx, -⟩ := hJ
        obtain ⟨fb, fd, rfl, -, -⟩ := hf.slice
        obtain ⟨ib, id, rfl, -, -⟩ := hi.slice
        obtain ⟨mb, md, rfl, -, -⟩ := hm.slice
        obtain ⟨xb, xd, rfl, -, -⟩ := hx.slice
        have ha := hu.trans (Upd.alloc (fun _ => False) w21 (.cells #[.string I.name, .slice fb I.fields.length fd, .slice ib I.imports.length id, .slice mb I.methods.length md, .slice xb I.exports.length xd] 32)) (fun _ h _ => h)
        have HX2 := Lib.hid (stay_blk ha HX.out (fun h => h))
        have HY := Lib.hid (topAt w21 (.cells #[.string I.name, .slice fb I.fields.length fd, .slice ib I.imports.length id, .slice mb I.methods.length md, .slice xb I.exports.length xd] 32) _ rfl)
        have HIX2 := Lib.hid (HIX.out.later (upd_below ha))
        have HJX := Lib.hid (HJ.out.later (upd_below (Upd.alloc (fun _ => False) w21 (.cells #[.string I.name, .slice fb I.fields.length fd, .slice ib I.imports.length id, .slice mb I.methods.length md, .slice xb I.exports.length xd] 32))))
        have H21 := Lib.hid (H20.out.quiet ha)
        have hbe : (er == er) = true := by simp
        clear hf hi hm hx hu ha HJ HX HIX H20 HRD
        --CUT t4
        go_wp2_with fail
        --CUT t5
        refine (known4 _).mono ?_
        rintro e w22 ⟨rfl, hu⟩
        have HX3 := Lib.hid (stay_blk hu HX2.out (fun h => h))
        have HY3 := Lib.hid (stay_blk hu HY.out (fun h => h))
        have HIX3 := Lib.hid (HIX2.out.later (upd_below hu))
        have HJX3 := Lib.hid (HJX.out.later (upd_below hu))
        have H22 := Lib.hid (H21.out.quiet hu)
        obtain ⟨c0, c1, c2, c3, c4⟩ := ilCell5 HX3.out
        obtain ⟨d0, d1, d2, d3, d4⟩ := ilCell5 HY3.out
        clear hu HX2 HY HIX2 HJX H21
        --CUT t6
        go_wp2_with fail
        --CUT t7
        refine (rSame _ _ _ I I HIX3.out HJX3.out).mono ?_
        rintro e w23 ⟨r, rfl, hr, hu⟩
        obtain rfl : r = true := hr.2 rfl
        have HU23 := Lib.hid (H22.out.up.trans hu (fun _ h _ => h))
        clear hr hu
        go_wp2_with fail
        go_ret
        exact ⟨rfl, HU23.out⟩
        --D}x3
    --D}A
  · as_aux_lemma =>
    --D{B
    have HSX : Hid (Bs W w1 (.slice ba n bc) ys) := Lib.hid ⟨HO1.out.2.2.2.1, vw_of_row (by rw [HO1.out.1]; exact HO1.out.2.1) HO1.out.2.2.1, fun k hk => (HO1.out.2.1.lt k hk).2⟩
    go_wp2_with fail
    --CUT t1
    refine (cImgRead _ _ (ys) HSX.out.vw).mono ?_
    rintro e w20 ⟨r, rfl, hI, hu⟩
    obtain ⟨I, hIe⟩ : ∃ I, I = (readP (ys)).2 := ⟨_, rfl⟩
    obtain ⟨er, her⟩ : ∃ er, er = (readP (ys)).1 := ⟨_, rfl⟩
    rw [← hIe] at hI
    rw [← her]
    have HRE := Lib.hid (show rReadP (ys) = (er, I) by rw [rRead_eq HSX.out.vw.1, her, hIe])
    have HI := Lib.hid hI
    obtain ⟨f, i, m, x, rfl, hf, hi, hm, hx, -⟩ := hI
    obtain ⟨fa, fc, rfl, -, -⟩ := hf.slice
    obtain ⟨ia, ic, rfl, -, -⟩ := hi.slice
    obtain ⟨ma, mc, rfl, -, -⟩ := hm.slice
    obtain ⟨xa, xc, rfl, -, -⟩ := hx.slice
    have ha := hu.trans (Upd.alloc (fun _ => False) w20 (.cells #[.string I.name, .slice fa I.fields.length fc, .slice ia I.imports.length ic, .slice ma I.methods.length mc, .slice xa I.exports.length xc] 32)) (fun _ h _ => h)
    have HX := Lib.hid (topAt w20 (.cells #[.string I.name, .slice fa I.fields.length fc, .slice ia I.imports.length ic, .slice ma I.methods.length mc, .slice xa I.exports.length xc] 32) _ rfl)
    have HIX := Lib.hid (HI.out.later (upd_below (Upd.alloc (fun _ => False) w20 (.cells #[.string I.name, .slice fa I.fields.length fc, .slice ia I.imports.length ic, .slice ma I.methods.length mc, .slice xa I.exports.length xc] 32))))
    have H20 := Lib.hid (HSX.out.quiet ha)
    have HRD := Lib.hid (rImgRead _ _ (ys) H20.out.vw H20.out.lt (HNO.out.later (upd_below H20.out.up)))
    rw [HRE.out] at HRD
    clear hf hi hm hx hu ha hIe her HI
    --CUT t2
    go_wp2_with fail
    --CUT t3
    refine HRD.out.mono ?_
    rintro e w21 ⟨r, rfl, hJ, hu⟩
    have HJ := Lib.hid hJ
    obtain ⟨f, i, m, x, rfl, hf, hi, hm, hx, -⟩ := hJ
    obtain ⟨fb, fd, rfl, -, -⟩ := hf.slice
    obtain ⟨ib, id, rfl, -, -⟩ := hi.slice
    obtain ⟨mb, md, rfl, -, -⟩ := hm.slice
    obtain ⟨xb, xd, rfl, -, -⟩ := hx.slice
    have ha := hu.trans (Upd.alloc (fun _ => False) w21 (.cells #[.string I.name, .slice fb I.fields.length fd, .slice ib I.imports.length id, .slice mb I.methods.length md, .slice xb I.exports.length xd] 32)) (fun _ h _ => h)
    have HX2 := Lib.hid (stay_blk ha HX.out (fun h => h))
    have HY := Lib.hid (topAt w21 (.cells #[.string I.name, .slice fb I.fields.length fd, .slice ib I.imports.length id, .slice mb I.methods.length md, .slice xb I.exports.length xd] 32) _ rfl)
    have HIX2 := Lib.hid (HIX.out.later (upd_below ha))
    have HJX := Lib.hid (HJ.out.later (upd_below (Upd.alloc (fun _ => False) w21 (.cells #[.string I.name, .slice fb I.fields.length fd, .slice ib I.imports.length id, .slice mb I.methods.length md, .slice xb I.exports.length xd] 32))))
    have H21 := Lib.hid (H20.out.quiet ha)
    have hbe : (er == er) = true := by simp
    clear hf hi hm hx hu ha HJ HX HIX H20 HRD
    --CUT t4
    go_wp2_with fail
    --CUT t5
    refine (known4 _).mono ?_
    rintro e w22 ⟨rfl, hu⟩
    have HX3 := Lib.hid (stay_blk hu HX2.out (fun h => h))
    have HY3 := Lib.hid (stay_blk hu HY.out (fun h => h))
    have HIX3 := Lib.hid (HIX2.out.later (upd_below hu))
    have HJX3 := Lib.hid (HJX.out.later (upd_below hu))
    have H22 := Lib.hid (H21.out.quiet hu)
    obtain ⟨c0, c1, c2, c3, c4⟩ := ilCell5 HX3.out
    obtain ⟨d0, d1, d2, d3, d4⟩ := ilCell5 HY3.out
    clear hu HX2 HY HIX2 HJX H21
    --CUT t6
    go_wp2_with fail
    --CUT t7
    refine (rSame _ _ _ I I HIX3.out HJX3.out).mono ?_
    rintro e w23 ⟨r, rfl, hr, hu⟩
    obtain rfl : r = true := hr.2 rfl
    have HU23 := Lib.hid (H22.out.up.trans hu (fun _ h _ => h))
    clear hr hu
    go_wp2_with fail
    go_ret
    exact ⟨rfl, HU23.out⟩
    --D}B
end
end Go.Proofs.YtmbdfmgidnjgeaaGreatDoor

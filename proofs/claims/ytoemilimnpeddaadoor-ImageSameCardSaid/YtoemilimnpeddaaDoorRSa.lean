/- The reference's Same: true just where the plain images are the same. -/
import Derived.Test.YtoemilimnpeddaaDoorIz
namespace Go.Proofs.YtoemilimnpeddaaDoor
open Go.RowKit Go.Lib Go.Shelf
set_option linter.unusedVariables false
set_option linter.unusedSimpArgs false

set_option maxRecDepth 100000 in
set_option maxHeartbeats 2000000 in
theorem rSameInts (w : World) (v u : Value) (L M : List Int) (h : Ints w v L) (k : Ints w u M) :
    Calls Tryd.prog 67 #[v, u] w fun e w' => e = .returned (.bool (decide (L = M))) ∧ Upd (fun _ => False) w w' := by
  have HL := Lib.hid h
  have HM := Lib.hid k
  obtain ⟨a, c, rfl, h1, h2⟩ := h.slice
  obtain ⟨a', c', rfl, h1', h2'⟩ := k.slice
  clear h k
  unfold maxLen at h2 h2'
  by_cases hl : L.length = M.length
  · have hb : ((L.length : Int) == (M.length : Int)) = true := by simp [hl]
    have hb' : ((L.length : Int) != (M.length : Int)) = false := by simp [bne, hb]
    have H0 := Lib.hid (Upd.refl (fun _ => False) w)
    have HT0 : Hid (L.take 0 = M.take 0) := Lib.hid rfl
    have hle : L.length ≤ M.length := by omega
    have hge : M.length ≤ L.length := by omega
    clear hl
    go_enter Tryd.func67, Tryd.ntmps67
    go_wp2_with fail
    go_loopw [5] (fun i wr => ∃ k : Nat, k ≤ L.length ∧ i = .int .i64 k ∧ Hid (Upd (fun _ => False) w wr) ∧ Hid (L.take k = M.take k)) (fun i _ => L.length - (intOf i).toNat)
    case atStart => exact ⟨0, Nat.zero_le _, rfl, H0, HT0⟩
    case round =>
      obtain ⟨k, hk, rfl, HU, HT⟩ := hrel
      by_cases hlt : k < L.length
      · have hltm : k < M.length := by omega
        obtain ⟨g1, o1, rfl, hc1, -⟩ := (HL.out.later (upd_below HU.out)).at hlt
        obtain ⟨g2, o2, rfl, hc2, -⟩ := (HM.out.later (upd_below HU.out)).at hltm
        obtain ⟨n, hn⟩ : ∃ n, n = L.getD k 0 := ⟨_, rfl⟩
        obtain ⟨m, hm⟩ : ∃ m, m = M.getD k 0 := ⟨_, rfl⟩
        rw [← hn] at hc1
        rw [← hm] at hc2
        have HN := Lib.hid hn
        have HMM := Lib.hid hm
        have hi1 : (0 : Int) ≤ (k : Int) := Int.natCast_nonneg _
        have hi2 : (k : Int) < (L.length : Int) := by omega
        have hi3 : (k : Int) < (M.length : Int) := by omega
        clear hn hm
        by_cases he : n = m
        · have hq : (n == m) = true := by simp [he]
          have hq' : (n != m) = false := by simp [bne, hq]
          have HT2 := Lib.hid (take_eq hlt hltm HT.out (by show L.getD k 0 = M.getD k 0; rw [← HN.out, ← HMM.out, he]))
          clear he
          go_wp2_with fail
          go_quiet (fail)
          go_wp2_with fail
          go_roundw
          case rel => exact ⟨k + 1, by omega, by go_num, Lib.hid (HU.out.trans (upd_drewN _ _ _) (fun _ h _ => h)), HT2⟩
          case measure => simp [intOf]; omega
        · have hq : (n == m) = false := beq_eq_false_iff_ne.2 he
          have hq' : (n != m) = true := by simp [bne, hq]
          have HF := Lib.hid (show L ≠ M from take_ne (k := k) (by show L.getD k 0 ≠ M.getD k 0; rw [← HN.out, ← HMM.out]; exact he))
          clear he
          go_wp2_with fail
          go_quiet (fail)
          go_wp2_with fail
          go_ret
          exact ⟨ret_bool (by simp [HF.out]), HU.out.trans (upd_drewN _ _ _) (fun _ h _ => h)⟩
      · have HE := Lib.hid (show L = M from take_all (k := k) (by omega) (by omega) HT.out)
        go_wp2_with fail
        go_ret
        exact ⟨ret_bool (by simp [HE.out]), HU.out⟩
  · have hb : ((L.length : Int) == (M.length : Int)) = false := beq_eq_false_iff_ne.2 (by omega)
    have hb' : ((L.length : Int) != (M.length : Int)) = true := by simp [bne, hb]
    have HF := Lib.hid (show L ≠ M from fun h => hl (by rw [h]))
    clear hl
    go_enter Tryd.func67, Tryd.ntmps67
    go_wp2_with fail
    go_ret
    exact ⟨ret_bool (by simp [HF.out]), Upd.refl _ _⟩
theorem neB (x : Bool) : (!x) = !x := rfl
theorem insE_of {a b : InsM} (h1 : a.op = b.op) (h2 : a.a = b.a) (h3 : a.b = b.b) : a = b := by
  cases a; cases b; simp only at h1 h2 h3; subst h1 h2 h3; rfl

set_option maxRecDepth 100000 in
set_option maxHeartbeats 20000000 in
theorem rSame (w : World) (v u : Value) (I J : ImgM) (h : Img w v I) (k : Img w u J) :
    Calls Tryd.prog 22 #[v, u] w fun e w' => ∃ r : Bool, e = .returned (.bool r) ∧ (r = true ↔ I = J) ∧ Upd (fun _ => False) w w' := by
  obtain ⟨f, i, m, x, rfl, hf, hi, hm, hx, -⟩ := h
  obtain ⟨g, j, n, y, rfl, hg, hj, hn, hy, -⟩ := k
  have HF := Lib.hid hf
  have HI := Lib.hid hi
  have HM := Lib.hid hm
  have HX := Lib.hid hx
  have HG := Lib.hid hg
  have HJ := Lib.hid hj
  have HN := Lib.hid hn
  have HY := Lib.hid hy
  obtain ⟨fa, fc, rfl, ufa, vfa⟩ := hf.slice
  unfold maxLen at vfa
  obtain ⟨ia, ic, rfl, uia, via⟩ := hi.slice
  unfold maxLen at via
  obtain ⟨ma, mc, rfl, uma, vma⟩ := hm.slice
  unfold maxLen at vma
  obtain ⟨xa, xc, rfl, uxa, vxa⟩ := hx.slice
  unfold maxLen at vxa
  obtain ⟨ga, gc, rfl, uga, vga⟩ := hg.slice
  unfold maxLen at vga
  obtain ⟨ja, jc, rfl, uja, vja⟩ := hj.slice
  unfold maxLen at vja
  obtain ⟨na, nc, rfl, una, vna⟩ := hn.slice
  unfold maxLen at vna
  obtain ⟨ya, yc, rfl, uya, vya⟩ := hy.slice
  unfold maxLen at vya
  have HA := Lib.hid ((Upd.alloc (fun _ => False) w (.cells #[.string I.name, .slice fa I.fields.length fc, .slice ia I.imports.length ic, .slice ma I.methods.length mc, .slice xa I.exports.length xc] 27)).trans (Upd.alloc (fun _ => False) _ (.cells #[.string J.name, .slice ga J.fields.length gc, .slice ja J.imports.length jc, .slice na J.methods.length nc, .slice ya J.exports.length yc] 27)) (fun _ h _ => h))
  clear hf hi hm hx hg hj hn hy
  cases h1 : (I.name.toList == J.name.toList) with
  | false =>
    have HE := Lib.hid (show I ≠ J from fun e => by rw [e] at h1; simp at h1)
    have h1' : (I.name.toList != J.name.toList) = true := by simp only [bne, h1]; rfl
    go_enter Tryd.func22, Tryd.ntmps22
    go_wp2_with fail
    go_ret
    exact ⟨_, rfl, by simp [HE.out], HA.out⟩
  | true =>
    have H1 := Lib.hid (name_eq.1 h1)
    have h1' : (I.name.toList != J.name.toList) = false := by simp only [bne, h1]; rfl
    go_enter Tryd.func22, Tryd.ntmps22
    go_wp2_with fail
    refine (rSameInts _ _ _ I.fields J.fields (HF.out.later (upd_below HA.out)) (HG.out.later (upd_below HA.out))).mono ?_
    rintro e w1 ⟨rfl, hu⟩
    have HB := Lib.hid hu
    obtain ⟨⟨c0, c1, c2, c3, c4⟩, d0, d1, d2, d3, d4⟩ := boxes5 hu
    obtain ⟨q, hq⟩ : ∃ q, q = decide (I.fields = J.fields) := ⟨_, rfl⟩
    rw [← hq]
    have HQ := Lib.hid hq
    clear hu hq
    cases q with
    | false =>
      have HE := Lib.hid (show I ≠ J from fun e => by have := HQ.out; rw [e] at this; simp at this)
      go_wp2_with fail
      go_ret
      exact ⟨_, rfl, by simp [HE.out], HA.out.trans HB.out (fun _ h _ => h)⟩
    | true =>
      have H2 := Lib.hid (show I.fields = J.fields by simpa using HQ.out.symm)
      clear HQ
      go_wp2_with fail
      refine (rSameInts _ _ _ I.exports J.exports (HX.out.later (upd_below (HA.out.trans HB.out (fun _ h _ => h)))) (HY.out.later (upd_below (HA.out.trans HB.out (fun _ h _ => h))))).mono ?_
      rintro e w2 ⟨rfl, hu⟩
      replace HB := Lib.hid (HB.out.trans hu (fun _ h _ => h))
      clear c0 c1 c2 c3 c4 d0 d1 d2 d3 d4
      obtain ⟨⟨c0, c1, c2, c3, c4⟩, d0, d1, d2, d3, d4⟩ := boxes5 HB.out
      obtain ⟨q, hq⟩ : ∃ q, q = decide (I.exports = J.exports) := ⟨_, rfl⟩
      rw [← hq]
      have HQ := Lib.hid hq
      clear hu hq
      cases q with
      | false =>
        have HE := Lib.hid (show I ≠ J from fun e => by have := HQ.out; rw [e] at this; simp at this)
        go_wp2_with fail
        go_ret
        exact ⟨_, rfl, by simp [HE.out], HA.out.trans HB.out (fun _ h _ => h)⟩
      | true =>
        have H3 := Lib.hid (show I.exports = J.exports by simpa using HQ.out.symm)
        clear HQ
        cases h4 : ((I.imports.length : Int) == (J.imports.length : Int)) with
        | false =>
          have h4' : ((I.imports.length : Int) != (J.imports.length : Int)) = true := by simp only [bne, h4]; rfl
          have HE := Lib.hid (show I ≠ J from fun e => by rw [e] at h4; simp at h4)
          go_wp2_with fail
          go_ret
          exact ⟨_, rfl, by simp [HE.out], HA.out.trans HB.out (fun _ h _ => h)⟩
        | true =>
          have h4' : ((I.imports.length : Int) != (J.imports.length : Int)) = false := by simp only [bne, h4]; rfl
          have le_imports : I.imports.length = J.imports.length := by have := beq_iff_eq.1 h4; omega
          have l1_imports : I.imports.length ≤ J.imports.length := by omega
          have l2_imports : J.imports.length ≤ I.imports.length := by omega
          clear le_imports
          cases h5 : ((I.methods.length : Int) == (J.methods.length : Int)) with
          | false =>
            have h5' : ((I.methods.length : Int) != (J.methods.length : Int)) = true := by simp only [bne, h5]; rfl
            have HE := Lib.hid (show I ≠ J from fun e => by rw [e] at h5; simp at h5)
            go_wp2_with fail
            go_ret
            exact ⟨_, rfl, by simp [HE.out], HA.out.trans HB.out (fun _ h _ => h)⟩
          | true =>
            have h5' : ((I.methods.length : Int) != (J.methods.length : Int)) = false := by simp only [bne, h5]; rfl
            have le_methods : I.methods.length = J.methods.length := by have := beq_iff_eq.1 h5; omega
            have l1_methods : I.methods.length ≤ J.methods.length := by omega
            have l2_methods : J.methods.length ≤ I.methods.length := by omega
            clear le_methods
            have HT0 : Hid (I.imports.take 0 = J.imports.take 0) := Lib.hid rfl
            have HS0 : Hid (I.methods.take 0 = J.methods.take 0) := Lib.hid rfl
            go_wp2_with fail
            go_loopw [5, 6, 7] (fun i _ _ wr => ∃ k : Nat, k ≤ I.imports.length ∧ i = .int .i64 k ∧ Hid (Upd (fun _ => False) ((w.alloc (.cells #[.string I.name, .slice fa I.fields.length fc, .slice ia I.imports.length ic, .slice ma I.methods.length mc, .slice xa I.exports.length xc] 27)).alloc (.cells #[.string J.name, .slice ga J.fields.length gc, .slice ja J.imports.length jc, .slice na J.methods.length nc, .slice ya J.exports.length yc] 27)) wr) ∧ Hid (I.imports.take k = J.imports.take k)) (fun i _ _ _ => I.imports.length - (intOf i).toNat)
            case atStart => exact ⟨0, Nat.zero_le _, rfl, HB, HT0⟩
            case round =>
              clear c0 c1 c2 c3 c4 d0 d1 d2 d3 d4
              obtain ⟨k, hk, rfl, HU, HT⟩ := hrel
              obtain ⟨⟨c0, c1, c2, c3, c4⟩, d0, d1, d2, d3, d4⟩ := boxes5 HU.out
              by_cases hlt : k < I.imports.length
              · have hltm : k < J.imports.length := by omega
                have HW := Lib.hid (HA.out.trans HU.out (fun _ h _ => h))
                obtain ⟨g1, o1, pv, rfl, hc0, hc1, hc2, hc3, hX⟩ := (HI.out.later (upd_below HW.out)).at hlt
                obtain ⟨g2, o2, qv, rfl, hd0, hd1, hd2, hd3, hY⟩ := (HJ.out.later (upd_below HW.out)).at hltm
                obtain ⟨n, hn⟩ : ∃ n, n = I.imports.getD k default := ⟨_, rfl⟩
                obtain ⟨m, hm⟩ : ∃ m, m = J.imports.getD k default := ⟨_, rfl⟩
                try rw [← hn] at hc0
                try rw [← hn] at hc1
                try rw [← hn] at hc2
                try rw [← hn] at hc3
                rw [← hn] at hX
                try rw [← hm] at hd0
                try rw [← hm] at hd1
                try rw [← hm] at hd2
                try rw [← hm] at hd3
                rw [← hm] at hY
                obtain ⟨pa, pc, rfl, -, -⟩ := hX.1.slice
                obtain ⟨qa, qc, rfl, -, -⟩ := hY.1.slice
                have HP := Lib.hid hX.1
                have HQ := Lib.hid hY.1
                have HN := Lib.hid hn
                have HMM := Lib.hid hm
                have HA1 := Lib.hid (Upd.alloc (fun _ => False) wr (.cells #[.string n.name, .int .i64 n.exp, .slice pa n.params.length pc, .int .i64 n.res] 59))
                have HA2 := Lib.hid (HA1.out.trans (Upd.alloc (fun _ => False) _ (.cells #[.string m.name, .int .i64 m.exp, .slice qa m.params.length qc, .int .i64 m.res] 59)) (fun _ h _ => h))
                have hd0' := later (upd_below HA1.out) hd0
                have hd1' := later (upd_below HA1.out) hd1
                have hd2' := later (upd_below HA1.out) hd2
                have hd3' := later (upd_below HA1.out) hd3
                have e2 := later (upd_below HA1.out) d2
                have HUE := Lib.hid (HU.out.trans HA2.out (fun _ h _ => h))
                have hi1 : (0 : Int) ≤ (k : Int) := Int.natCast_nonneg _
                have hi2 : (k : Int) < (I.imports.length : Int) := by omega
                have hi3 : (k : Int) < (J.imports.length : Int) := by omega
                clear hn hm hX hY
                cases x1 : (n.name.toList == m.name.toList) with
                | false =>
                  have x1' : (n.name.toList != m.name.toList) = true := by simp only [bne, x1]; rfl
                  have HE := Lib.hid (show I ≠ J from fun e => by
                    have : n = m := by rw [HN.out, HMM.out, e]
                    rw [this] at x1
                    simp at x1)
                  go_wp2_with fail
                  go_ret
                  exact ⟨_, rfl, by simp [HE.out], HW.out.trans HA2.out (fun _ h _ => h)⟩
                | true =>
                  have x1' : (n.name.toList != m.name.toList) = false := by simp only [bne, x1]; rfl
                  cases x2 : (n.exp == m.exp) with
                  | false =>
                    have x2' : (n.exp != m.exp) = true := by simp only [bne, x2]; rfl
                    have HE := Lib.hid (show I ≠ J from fun e => by
                      have : n = m := by rw [HN.out, HMM.out, e]
                      rw [this] at x2
                      simp at x2)
                    go_wp2_with fail
                    go_ret
                    exact ⟨_, rfl, by simp [HE.out], HW.out.trans HA2.out (fun _ h _ => h)⟩
                  | true =>
                    have x2' : (n.exp != m.exp) = false := by simp only [bne, x2]; rfl
                    cases x3 : (n.res == m.res) with
                    | false =>
                      have x3' : (n.res != m.res) = true := by simp only [bne, x3]; rfl
                      have HE := Lib.hid (show I ≠ J from fun e => by
                        have : n = m := by rw [HN.out, HMM.out, e]
                        rw [this] at x3
                        simp at x3)
                      go_wp2_with fail
                      go_ret
                      exact ⟨_, rfl, by simp [HE.out], HW.out.trans HA2.out (fun _ h _ => h)⟩
                    | true =>
                      have x3' : (n.res != m.res) = false := by simp only [bne, x3]; rfl
                      go_wp2_with fail
                      refine (rSameInts _ _ _ n.params m.params (HP.out.later (upd_below HA2.out)) (HQ.out.later (upd_below HA2.out))).mono ?_
                      rintro e w5 ⟨rfl, hu⟩
                      have HU5 := Lib.hid (HUE.out.trans hu (fun _ h _ => h))
                      obtain ⟨q, hq⟩ : ∃ q, q = decide (n.params = m.params) := ⟨_, rfl⟩
                      rw [← hq]
                      have HQQ := Lib.hid hq
                      clear hu hq hc0 hc1 hc2 hc3 hd0 hd1 hd2 hd3 hd0' hd1' hd2' hd3' c0 c1 c2 c3 c4 d0 d1 d2 d3 d4 e2
                      cases q with
                      | false =>
                        have HE := Lib.hid (show I ≠ J from fun e => by
                          have h := HQQ.out
                          have : n = m := by rw [HN.out, HMM.out, e]
                          rw [this] at h
                          simp at h)
                        go_wp2_with fail
                        go_ret
                        exact ⟨_, rfl, by simp [HE.out], HA.out.trans HU5.out (fun _ h _ => h)⟩
                      | true =>
                        have hnm : n = m := (impE_iff n m).1 (by unfold impE; simp only [x1, x2, x3, ← HQQ.out, Bool.and_self, Bool.and_true])
                        have HT2 := Lib.hid (take_eq hlt hltm HT.out (by rw [← HN.out, ← HMM.out]; exact hnm))
                        clear hnm
                        go_wp2_with fail
                        go_roundw
                        case rel => exact ⟨k + 1, by omega, by go_num, HU5, HT2⟩
                        case measure => simp [intOf]; omega
              · have H4 := Lib.hid (show I.imports = J.imports from take_all (k := k) (by omega) (by omega) HT.out)
                go_wp2_with fail
                go_loopw [8, 9, 10, 11] (fun i _ _ _ wr => ∃ k : Nat, k ≤ I.methods.length ∧ i = .int .i64 k ∧ Hid (Upd (fun _ => False) ((w.alloc (.cells #[.string I.name, .slice fa I.fields.length fc, .slice ia I.imports.length ic, .slice ma I.methods.length mc, .slice xa I.exports.length xc] 27)).alloc (.cells #[.string J.name, .slice ga J.fields.length gc, .slice ja J.imports.length jc, .slice na J.methods.length nc, .slice ya J.exports.length yc] 27)) wr) ∧ Hid (I.methods.take k = J.methods.take k)) (fun i _ _ _ _ => I.methods.length - (intOf i).toNat)
                case atStart => exact ⟨0, Nat.zero_le _, rfl, HU, HS0⟩
                case round =>
                  clear c0 c1 c2 c3 c4 d0 d1 d2 d3 d4
                  obtain ⟨k, hk, rfl, HUM, HS⟩ := hrel
                  obtain ⟨⟨c0, c1, c2, c3, c4⟩, d0, d1, d2, d3, d4⟩ := boxes5 HUM.out
                  by_cases hlt : k < I.methods.length
                  · have hltm : k < J.methods.length := by omega
                    have HW := Lib.hid (HA.out.trans HUM.out (fun _ h _ => h))
                    obtain ⟨g1, o1, pv, lv, kv, rfl, hc0, hc1, hc2, hc3, hXp, hXl, hXk, -⟩ := (HM.out.later (upd_below HW.out)).at hlt
                    obtain ⟨g2, o2, qv, mv, jv, rfl, hd0, hd1, hd2, hd3, hYp, hYl, hYk, -⟩ := (HN.out.later (upd_below HW.out)).at hltm
                    obtain ⟨n, hn⟩ : ∃ n, n = I.methods.getD k default := ⟨_, rfl⟩
                    obtain ⟨m, hm⟩ : ∃ m, m = J.methods.getD k default := ⟨_, rfl⟩
                    try rw [← hn] at hc0
                    try rw [← hn] at hc1
                    try rw [← hn] at hc2
                    try rw [← hn] at hc3
                    rw [← hn] at hXp hXl hXk
                    try rw [← hm] at hd0
                    try rw [← hm] at hd1
                    try rw [← hm] at hd2
                    try rw [← hm] at hd3
                    rw [← hm] at hYp hYl hYk
                    obtain ⟨pa, pc, rfl, upa, vpa⟩ := hXp.slice
                    unfold maxLen at vpa
                    obtain ⟨la, lc, rfl, ula, vla⟩ := hXl.slice
                    unfold maxLen at vla
                    obtain ⟨ka, kc, rfl, uka, vka⟩ := hXk.slice
                    unfold maxLen at vka
                    obtain ⟨qa, qc, rfl, uqa, vqa⟩ := hYp.slice
                    unfold maxLen at vqa
                    obtain ⟨sa, sc, rfl, usa, vsa⟩ := hYl.slice
                    unfold maxLen at vsa
                    obtain ⟨ta, tc, rfl, uta, vta⟩ := hYk.slice
                    unfold maxLen at vta
                    have HXP := Lib.hid hXp
                    have HXL := Lib.hid hXl
                    have HXK := Lib.hid hXk
                    have HYP := Lib.hid hYp
                    have HYL := Lib.hid hYl
                    have HYK := Lib.hid hYk
                    have HEN := Lib.hid hn
                    have HEM := Lib.hid hm
                    have HA1 := Lib.hid (Upd.alloc (fun _ => False) wr (.cells #[.slice pa n.params.length pc, .int .i64 n.res, .slice la n.locals.length lc, .slice ka n.code.length kc] 64))
                    have HA2 := Lib.hid (HA1.out.trans (Upd.alloc (fun _ => False) _ (.cells #[.slice qa m.params.length qc, .int .i64 m.res, .slice sa m.locals.length sc, .slice ta m.code.length tc] 64)) (fun _ h _ => h))
                    have hd0' := later (upd_below HA1.out) hd0
                    have hd1' := later (upd_below HA1.out) hd1
                    have hd2' := later (upd_below HA1.out) hd2
                    have hd3' := later (upd_below HA1.out) hd3
                    have e3 := later (upd_below HA1.out) d3
                    have hi1 : (0 : Int) ≤ (k : Int) := Int.natCast_nonneg _
                    have hi2 : (k : Int) < (I.methods.length : Int) := by omega
                    have hi3 : (k : Int) < (J.methods.length : Int) := by omega
                    clear hn hm hXp hXl hXk hYp hYl hYk
                    cases x1 : (n.res == m.res) with
                    | false =>
                      have x1' : (n.res != m.res) = true := by simp only [bne, x1]; rfl
                      have HE := Lib.hid (show I ≠ J from fun e => by
                        have : n = m := by rw [HEN.out, HEM.out, e]
                        rw [this] at x1
                        simp at x1)
                      go_wp2_with fail
                      go_ret
                      exact ⟨_, rfl, by simp [HE.out], HW.out.trans HA2.out (fun _ h _ => h)⟩
                    | true =>
                      have x1' : (n.res != m.res) = false := by simp only [bne, x1]; rfl
                      go_wp2_with fail
                      refine (rSameInts _ _ _ n.params m.params (HXP.out.later (upd_below HA2.out)) (HYP.out.later (upd_below HA2.out))).mono ?_
                      rintro e w5 ⟨rfl, hu⟩
                      have HC : Hid (Upd (fun _ => False) ((wr.alloc (.cells #[.slice pa n.params.length pc, .int .i64 n.res, .slice la n.locals.length lc, .slice ka n.code.length kc] 64)).alloc (.cells #[.slice qa m.params.length qc, .int .i64 m.res, .slice sa m.locals.length sc, .slice ta m.code.length tc] 64)) w5) := Lib.hid hu
                      clear hc0 hc1 hc2 hc3 hd0 hd1 hd2 hd3 hd0' hd1' hd2' hd3' c0 c1 c2 c3 c4 d0 d1 d2 d3 d4 e3
                      obtain ⟨⟨b0, b1, b2, b3⟩, a0, a1, a2, a3⟩ := boxes4 HC.out
                      obtain ⟨q, hq⟩ : ∃ q, q = decide (n.params = m.params) := ⟨_, rfl⟩
                      rw [← hq]
                      have HQ_params := Lib.hid hq
                      clear hu hq
                      cases q with
                      | false =>
                        have HE := Lib.hid (show I ≠ J from fun e => by
                          have h := HQ_params.out
                          have : n = m := by rw [HEN.out, HEM.out, e]
                          rw [this] at h
                          simp at h)
                        go_wp2_with fail
                        go_ret
                        exact ⟨_, rfl, by simp [HE.out], (HW.out.trans HA2.out (fun _ h _ => h)).trans HC.out (fun _ h _ => h)⟩
                      | true =>
                        go_wp2_with fail
                        refine (rSameInts _ _ _ n.locals m.locals (HXL.out.later (upd_below (HA2.out.trans HC.out (fun _ h _ => h)))) (HYL.out.later (upd_below (HA2.out.trans HC.out (fun _ h _ => h))))).mono ?_
                        rintro e w5 ⟨rfl, hu⟩
                        replace HC := Lib.hid (HC.out.trans hu (fun _ h _ => h))
                        clear b0 b1 b2 b3 a0 a1 a2 a3
                        obtain ⟨⟨b0, b1, b2, b3⟩, a0, a1, a2, a3⟩ := boxes4 HC.out
                        obtain ⟨q, hq⟩ : ∃ q, q = decide (n.locals = m.locals) := ⟨_, rfl⟩
                        rw [← hq]
                        have HQ_locals := Lib.hid hq
                        clear hu hq
                        cases q with
                        | false =>
                          have HE := Lib.hid (show I ≠ J from fun e => by
                            have h := HQ_locals.out
                            have : n = m := by rw [HEN.out, HEM.out, e]
                            rw [this] at h
                            simp at h)
                          go_wp2_with fail
                          go_ret
                          exact ⟨_, rfl, by simp [HE.out], (HW.out.trans HA2.out (fun _ h _ => h)).trans HC.out (fun _ h _ => h)⟩
                        | true =>
                          cases x4 : ((n.code.length : Int) == (m.code.length : Int)) with
                          | false =>
                            have x4' : ((n.code.length : Int) != (m.code.length : Int)) = true := by simp only [bne, x4]; rfl
                            have HE := Lib.hid (show I ≠ J from fun e => by
                              have : n = m := by rw [HEN.out, HEM.out, e]
                              rw [this] at x4
                              simp at x4)
                            go_wp2_with fail
                            go_ret
                            exact ⟨_, rfl, by simp [HE.out], (HW.out.trans HA2.out (fun _ h _ => h)).trans HC.out (fun _ h _ => h)⟩
                          | true =>
                            have x4' : ((n.code.length : Int) != (m.code.length : Int)) = false := by simp only [bne, x4]; rfl
                            have le4 : n.code.length = m.code.length := by have := beq_iff_eq.1 x4; omega
                            have l14 : n.code.length ≤ m.code.length := by omega
                            have l24 : m.code.length ≤ n.code.length := by omega
                            clear le4
                            have HR0 : Hid (n.code.take 0 = m.code.take 0) := Lib.hid rfl
                            go_wp2_with fail
                            go_loopw [11] (fun i w' => ∃ j : Nat, j ≤ n.code.length ∧ i = .int .i64 j ∧ Hid (Upd (fun _ => False) ((wr.alloc (.cells #[.slice pa n.params.length pc, .int .i64 n.res, .slice la n.locals.length lc, .slice ka n.code.length kc] 64)).alloc (.cells #[.slice qa m.params.length qc, .int .i64 m.res, .slice sa m.locals.length sc, .slice ta m.code.length tc] 64)) w') ∧ Hid (n.code.take j = m.code.take j)) (fun i _ => n.code.length - (intOf i).toNat)
                            case atStart => exact ⟨0, Nat.zero_le _, rfl, HC, HR0⟩
                            case round =>
                              clear b0 b1 b2 b3 a0 a1 a2 a3
                              obtain ⟨j, hj, rfl, HUC, HR⟩ := hrel
                              rename_i w'
                              obtain ⟨⟨b0, b1, b2, b3⟩, a0, a1, a2, a3⟩ := boxes4 HUC.out
                              have HWC := Lib.hid (HA2.out.trans HUC.out (fun _ h _ => h))
                              by_cases hjl : j < n.code.length
                              · have hjm : j < m.code.length := by omega
                                obtain ⟨g3, o3, rfl, t0, t1, t2, -⟩ := (HXK.out.later (upd_below HWC.out)).at hjl
                                obtain ⟨g4, o4, rfl, s0, s1, s2, -⟩ := (HYK.out.later (upd_below HWC.out)).at hjm
                                obtain ⟨y, hy⟩ : ∃ y, y = n.code.getD j default := ⟨_, rfl⟩
                                obtain ⟨z, hz⟩ : ∃ z, z = m.code.getD j default := ⟨_, rfl⟩
                                rw [← hy] at t0 t1 t2
                                rw [← hz] at s0 s1 s2
                                have HYY := Lib.hid hy
                                have HZZ := Lib.hid hz
                                have hj1 : (0 : Int) ≤ (j : Int) := Int.natCast_nonneg _
                                have hj2 : (j : Int) < (n.code.length : Int) := by omega
                                have hj3 : (j : Int) < (m.code.length : Int) := by omega
                                clear hy hz
                                by_cases hyz : y = z
                                · have HR2 := Lib.hid (take_eq hjl hjm HR.out (by rw [← HYY.out, ← HZZ.out]; exact hyz))
                                  subst hyz
                                  go_wp2_with fail
                                  go_quiet (fail)
                                  go_wp2_with fail
                                  go_roundw
                                  case rel => exact ⟨j + 1, by omega, by go_num, Lib.hid (HUC.out.trans (upd_drewN _ _ _) (fun _ h _ => h)), HR2⟩
                                  case measure => simp [intOf]; omega
                                · have HE := Lib.hid (show I ≠ J from fun e => by
                                    have : n = m := by rw [HEN.out, HEM.out, e]
                                    apply hyz
                                    rw [HYY.out, HZZ.out, this])
                                  have hdif : y.op ≠ z.op ∨ (y.op = z.op ∧ y.a ≠ z.a) ∨ (y.op = z.op ∧ y.a = z.a ∧ y.b ≠ z.b) := by
                                    by_cases h1 : y.op = z.op
                                    · by_cases h2 : y.a = z.a
                                      · exact .inr (.inr ⟨h1, h2, fun h3 => hyz (insE_of h1 h2 h3)⟩)
                                      · exact .inr (.inl ⟨h1, h2⟩)
                                    · exact .inl h1
                                  clear hyz
                                  rcases hdif with h1 | ⟨h1, h2⟩ | ⟨h1, h2, h3⟩
                                  all_goals
                                    go_wp2_with fail
                                    go_quiet (fail)
                                    go_wp2_with fail
                                    go_ret
                                    exact ⟨_, rfl, by simp [HE.out], (HW.out.trans HWC.out (fun _ h _ => h)).trans (upd_drewN _ _ _) (fun _ h _ => h)⟩
                              · have hcode : n.code = m.code := take_all (k := j) (by omega) (by omega) HR.out
                                have hnm : n = m := (metE_iff n m).1 (by unfold metE; simp only [x1, ← HQ_params.out, ← HQ_locals.out, hcode, decide_true, Bool.and_self])
                                have HS2 := Lib.hid (take_eq hlt hltm HS.out (by rw [← HEN.out, ← HEM.out]; exact hnm))
                                have HUM2 := Lib.hid (HUM.out.trans HWC.out (fun _ h _ => h))
                                clear hcode hnm
                                go_wp2_with fail
                                go_roundw
                                case rel => exact ⟨k + 1, by omega, by go_num, HUM2, HS2⟩
                                case measure => simp [intOf]; omega
                  · have H5 := Lib.hid (show I.methods = J.methods from take_all (k := k) (by omega) (by omega) HS.out)
                    have HALL := Lib.hid (img_ext H1.out H2.out H4.out H5.out H3.out)
                    go_wp2_with fail
                    go_ret
                    exact ⟨_, rfl, by simp [HALL.out], HA.out.trans HUM.out (fun _ h _ => h)⟩
end Go.Proofs.YtoemilimnpeddaaDoor

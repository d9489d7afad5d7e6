/- The reference's Same. TextRunes, walked. -/
import Derived.Test.YtbjmmdomdijilabDoorTD
import Derived.Test.YtbjmmdomdijilabDoorMvw
import Derived.Test.YtbjmmdomdijilabDoorIs
import Derived.Deep.QuietTactic
import Derived.BigQuiet
import Derived.Laws.Cover4
import Derived.Lib.TrimAscii
import Derived.OpenShut
import Derived.Lib.SmallJoins
namespace Go.Proofs.YtbjmmdomdijilabDoor
section
open Go.RowKit Go.Lib Go.Shelf
set_option linter.unusedVariables false

theorem upd_drewN (S : Nat → Prop) (w : World) (n : Nat) : Upd S w (w.drewN n) := ⟨rfl, rfl, rfl, Nat.le_refl _, fun _ _ _ => rfl⟩
theorem take_eq {α : Type} [Inhabited α] {L M : List α} {k : Nat} (h1 : k < L.length) (h2 : k < M.length) (h : L.take k = M.take k) (he : L.getD k default = M.getD k default) : L.take (k + 1) = M.take (k + 1) := by
  rw [List.take_succ_eq_append_getElem h1, List.take_succ_eq_append_getElem h2, h]
  have e1 : L.getD k default = L[k] := by simp [List.getD, h1]
  have e2 : M.getD k default = M[k] := by simp [List.getD, h2]
  rw [← e1, ← e2, he]
theorem take_ne {α : Type} [Inhabited α] {L M : List α} {k : Nat} (he : L.getD k default ≠ M.getD k default) : L ≠ M := fun h => he (by rw [h])
theorem take_all {α : Type} {L M : List α} {k : Nat} (h1 : L.length ≤ k) (h2 : M.length ≤ k) (h : L.take k = M.take k) : L = M := by
  rwa [List.take_of_length_le h1, List.take_of_length_le h2] at h

def impE (a b : ImpM) : Bool := (a.name.toList == b.name.toList) && ((a.exp == b.exp) && (decide (a.params = b.params) && (a.res == b.res)))
theorem name_eq {s t : ByteArray} : (s.toList == t.toList) = true ↔ s = t := by rw [same_str]; simp
theorem impE_iff (a b : ImpM) : impE a b = true ↔ a = b := by
  unfold impE
  simp only [Bool.and_eq_true, decide_eq_true_eq, beq_iff_eq (α := Int), name_eq]
  constructor
  · rintro ⟨h1, h2, h3, h4⟩
    cases a; cases b
    simp at h1 h2 h3 h4
    simp [h1, h2, h3, h4]
  · rintro rfl; simp
def metE (a b : MetM) : Bool := decide (a.params = b.params) && ((a.res == b.res) && (decide (a.locals = b.locals) && decide (a.code = b.code)))
theorem metE_iff (a b : MetM) : metE a b = true ↔ a = b := by
  unfold metE
  simp only [Bool.and_eq_true, decide_eq_true_eq, beq_iff_eq]
  constructor
  · rintro ⟨h1, h2, h3, h4⟩
    cases a; cases b
    simp at h1 h2 h3 h4
    simp [h1, h2, h3, h4]
  · rintro rfl; simp
/-- two boxes of four, behind a call that turned nothing -/
theorem boxes4 {w w1 : World} {x y z u x' y' z' u' : Value} {t : TypeId} (hu : Upd (fun _ => False) ((w.alloc (.cells #[x, y, z, u] t)).alloc (.cells #[x', y', z', u'] t)) w1) :
    (w1.cell? ⟨w.heap.size, 0, none⟩ = some x ∧ w1.cell? ⟨w.heap.size, 1, none⟩ = some y ∧ w1.cell? ⟨w.heap.size, 2, none⟩ = some z ∧ w1.cell? ⟨w.heap.size, 3, none⟩ = some u) ∧
    (w1.cell? ⟨w.heap.size + 1, 0, none⟩ = some x' ∧ w1.cell? ⟨w.heap.size + 1, 1, none⟩ = some y' ∧ w1.cell? ⟨w.heap.size + 1, 2, none⟩ = some z' ∧ w1.cell? ⟨w.heap.size + 1, 3, none⟩ = some u') := by
  refine ⟨cell4 ((Upd.alloc (fun _ => False) (w.alloc (.cells #[x, y, z, u] t)) (.cells #[x', y', z', u'] t)).trans hu (fun _ h _ => h)) (fun h => h), ?_⟩
  have := cell4 (w := w.alloc (.cells #[x, y, z, u] t)) hu (fun h => h)
  rwa [show (w.alloc (.cells #[x, y, z, u] t)).heap.size = w.heap.size + 1 by simp] at this

theorem later {W w : World} {p : Addr} {v : Value} (hb : Below W.heap.size W w) (h : W.cell? p = some v) : w.cell? p = some v := (hb.cell (World.block_lt_of_cell? W _ h)).trans h

theorem boxes5 {w w1 : World} {x y z u s x' y' z' u' s' : Value} {t : TypeId} (hu : Upd (fun _ => False) ((w.alloc (.cells #[x, y, z, u, s] t)).alloc (.cells #[x', y', z', u', s'] t)) w1) :
    (w1.cell? ⟨w.heap.size, 0, none⟩ = some x ∧ w1.cell? ⟨w.heap.size, 1, none⟩ = some y ∧ w1.cell? ⟨w.heap.size, 2, none⟩ = some z ∧ w1.cell? ⟨w.heap.size, 3, none⟩ = some u ∧ w1.cell? ⟨w.heap.size, 4, none⟩ = some s) ∧
    (w1.cell? ⟨w.heap.size + 1, 0, none⟩ = some x' ∧ w1.cell? ⟨w.heap.size + 1, 1, none⟩ = some y' ∧ w1.cell? ⟨w.heap.size + 1, 2, none⟩ = some z' ∧ w1.cell? ⟨w.heap.size + 1, 3, none⟩ = some u' ∧ w1.cell? ⟨w.heap.size + 1, 4, none⟩ = some s') := by
  refine ⟨cell5 ((Upd.alloc (fun _ => False) (w.alloc (.cells #[x, y, z, u, s] t)) (.cells #[x', y', z', u', s'] t)).trans hu (fun _ h _ => h)) (fun h => h), ?_⟩
  have := cell5 (w := w.alloc (.cells #[x, y, z, u, s] t)) hu (fun h => h)
  rwa [show (w.alloc (.cells #[x, y, z, u, s] t)).heap.size = w.heap.size + 1 by simp] at this
theorem img_ext {I J : ImgM} (h1 : I.name = J.name) (h2 : I.fields = J.fields) (h3 : I.imports = J.imports) (h4 : I.methods = J.methods) (h5 : I.exports = J.exports) : I = J := by
  cases I; cases J
  simp at h1 h2 h3 h4 h5
  simp [h1, h2, h3, h4, h5]

end

section
open Go.RowKit Go.Lib Go.Shelf
set_option linter.unusedVariables false
set_option linter.unusedSimpArgs false

set_option maxRecDepth 100000 in
set_option maxHeartbeats 2000000 in
theorem rSameInts (w : World) (v u : Value) (L M : List Int) (h : Ints w v L) (k : Ints w u M) :
    Calls Tryd.prog 21 #[v, u] w fun e w' => e = .returned (.bool (decide (L = M))) ∧ Upd (fun _ => False) w w' := by
  have HL := Lib.hid h
  have HM := Lib.hid k
  obtain ⟨a, c, rfl, h1, h2⟩ := h.slice
  obtain ⟨a', c', rfl, h1', h2'⟩ := k.slice
  clear h k
  unfold maxLen at h2 h2'
  by_cases hl : L.length = M.length
  · have hb : ((L.length : Int) == (M.length : Int)) = true := by simp [hl]
    have hb' : ((L.length : Int) != (M.length : Int)) = false := by simp [bne, hb]
    have H0 := Lib.hid (Upd.refl (fun _ => False) w)
    have HT0 : Hid (L.take 0 = M.take 0) := Lib.hid rfl
    have hle : L.length ≤ M.length := by omega
    have hge : M.length ≤ L.length := by omega
    clear hl
    go_enter Tryd.func21, Tryd.ntmps21
    go_wp2_with fail
    go_loopw [5] (fun i wr => ∃ k : Nat, k ≤ L.length ∧ i = .int .i64 k ∧ Hid (Upd (fun _ => False) w wr) ∧ Hid (L.take k = M.take k)) (fun i _ => L.length - (RowKit.intOf i).toNat)
    case atStart => exact ⟨0, Nat.zero_le _, rfl, H0, HT0⟩
    case round =>
      obtain ⟨k, hk, rfl, HU, HT⟩ := hrel
      by_cases hlt : k < L.length
      · have hltm : k < M.length := by omega
        obtain ⟨g1, o1, rfl, hc1, -⟩ := (HL.out.later (upd_below HU.out)).at hlt
        obtain ⟨g2, o2, rfl, hc2, -⟩ := (HM.out.later (upd_below HU.out)).at hltm
        obtain ⟨n, hn⟩ : ∃ n, n = L.getD k 0 := ⟨_, rfl⟩
        obtain ⟨m, hm⟩ : ∃ m, m = M.getD k 0 := ⟨_, rfl⟩
        rw [← hn] at hc1
        rw [← hm] at hc2
        have HN := Lib.hid hn
        have HMM := Lib.hid hm
        have hi1 : (0 : Int) ≤ (k : Int) := Int.natCast_nonneg _
        have hi2 : (k : Int) < (L.length : Int) := by omega
        have hi3 : (k : Int) < (M.length : Int) := by omega
        clear hn hm
        by_cases he : n = m
        · have hq : (n == m) = true := by simp [he]
          have hq' : (n != m) = false := by simp [bne, hq]
          have HT2 := Lib.hid (take_eq hlt hltm HT.out (by show L.getD k 0 = M.getD k 0; rw [← HN.out, ← HMM.out, he]))
          clear he
          go_wp2_with fail
          go_quiet (fail)
          go_wp2_with fail
          go_roundw
          case rel => exact ⟨k + 1, by omega, by go_num, Lib.hid (HU.out.trans (upd_drewN _ _ _) (fun _ h _ => h)), HT2⟩
          case measure => simp [RowKit.intOf]; omega
        · have hq : (n == m) = false := beq_eq_false_iff_ne.2 he
          have hq' : (n != m) = true := by simp [bne, hq]
          have HF := Lib.hid (show L ≠ M from take_ne (k := k) (by show L.getD k 0 ≠ M.getD k 0; rw [← HN.out, ← HMM.out]; exact he))
          clear he
          go_wp2_with fail
          go_quiet (fail)
          go_wp2_with fail
          go_ret
          exact ⟨ret_bool (by simp [HF.out]), HU.out.trans (upd_drewN _ _ _) (fun _ h _ => h)⟩
      · have HE := Lib.hid (show L = M from take_all (k := k) (by omega) (by omega) HT.out)
        go_wp2_with fail
        go_ret
        exact ⟨ret_bool (by simp [HE.out]), HU.out⟩
  · have hb : ((L.length : Int) == (M.length : Int)) = false := beq_eq_false_iff_ne.2 (by omega)
    have hb' : ((L.length : Int) != (M.length : Int)) = true := by simp [bne, hb]
    have HF := Lib.hid (show L ≠ M from fun h => hl (by rw [h]))
    clear hl
    go_enter Tryd.func21, Tryd.ntmps21
    go_wp2_with fail
    go_ret
    exact ⟨ret_bool (by simp [HF.out]), Upd.refl _ _⟩
theorem neB (x : Bool) : (!x) = !x := rfl
theorem insE_of {a b : InsM} (h1 : a.op = b.op) (h2 : a.a = b.a) (h3 : a.b = b.b) : a = b := by
  cases a; cases b; simp only at h1 h2 h3; subst h1 h2 h3; rfl

set_option maxRecDepth 100000 in
set_option maxHeartbeats 20000000 in
theorem rSame (w : World) (v u : Value) (I J : ImgM) (h : Img w v I) (k : Img w u J) :
    Calls Tryd.prog 9 #[v, u] w fun e w' => ∃ r : Bool, e = .returned (.bool r) ∧ (r = true ↔ I = J) ∧ Upd (fun _ => False) w w' := by
  obtain ⟨f, i, m, x, rfl, hf, hi, hm, hx, -⟩ := h
  obtain ⟨g, j, n, y, rfl, hg, hj, hn, hy, -⟩ := k
  have HF := Lib.hid hf
  have HI := Lib.hid hi
  have HM := Lib.hid hm
  have HX := Lib.hid hx
  have HG := Lib.hid hg
  have HJ := Lib.hid hj
  have HN := Lib.hid hn
  have HY := Lib.hid hy
  obtain ⟨fa, fc, rfl, ufa, vfa⟩ := hf.slice
  unfold maxLen at vfa
  obtain ⟨ia, ic, rfl, uia, via⟩ := hi.slice
  unfold maxLen at via
  obtain ⟨ma, mc, rfl, uma, vma⟩ := hm.slice
  unfold maxLen at vma
  obtain ⟨xa, xc, rfl, uxa, vxa⟩ := hx.slice
  unfold maxLen at vxa
  obtain ⟨ga, gc, rfl, uga, vga⟩ := hg.slice
  unfold maxLen at vga
  obtain ⟨ja, jc, rfl, uja, vja⟩ := hj.slice
  unfold maxLen at vja
  obtain ⟨na, nc, rfl, una, vna⟩ := hn.slice
  unfold maxLen at vna
  obtain ⟨ya, yc, rfl, uya, vya⟩ := hy.slice
  unfold maxLen at vya
  have HA := Lib.hid ((Upd.alloc (fun _ => False) w (.cells #[.string I.name, .slice fa I.fields.length fc, .slice ia I.imports.length ic, .slice ma I.methods.length mc, .slice xa I.exports.length xc] 29)).trans (Upd.alloc (fun _ => False) _ (.cells #[.string J.name, .slice ga J.fields.length gc, .slice ja J.imports.length jc, .slice na J.methods.length nc, .slice ya J.exports.length yc] 29)) (fun _ h _ => h))
  clear hf hi hm hx hg hj hn hy
  cases h1 : (I.name.toList == J.name.toList) with
  | false =>
    have HE := Lib.hid (show I ≠ J from fun e => by rw [e] at h1; simp at h1)
    have h1' : (I.name.toList != J.name.toList) = true := by simp only [bne, h1]; rfl
    go_enter Tryd.func9, Tryd.ntmps9
    go_wp2_with fail
    go_ret
    exact ⟨_, rfl, by simp [HE.out], HA.out⟩
  | true =>
    have H1 := Lib.hid (name_eq.1 h1)
    have h1' : (I.name.toList != J.name.toList) = false := by simp only [bne, h1]; rfl
    go_enter Tryd.func9, Tryd.ntmps9
    go_wp2_with fail
    refine (rSameInts _ _ _ I.fields J.fields (HF.out.later (upd_below HA.out)) (HG.out.later (upd_below HA.out))).mono ?_
    rintro e w1 ⟨rfl, hu⟩
    have HB := Lib.hid hu
    obtain ⟨⟨c0, c1, c2, c3, c4⟩, d0, d1, d2, d3, d4⟩ := boxes5 hu
    obtain ⟨q, hq⟩ : ∃ q, q = decide (I.fields = J.fields) := ⟨_, rfl⟩
    rw [← hq]
    have HQ := Lib.hid hq
    clear hu hq
    cases q with
    | false =>
      have HE := Lib.hid (show I ≠ J from fun e => by have := HQ.out; rw [e] at this; simp at this)
      go_wp2_with fail
      go_ret
      exact ⟨_, rfl, by simp [HE.out], HA.out.trans HB.out (fun _ h _ => h)⟩
    | true =>
      have H2 := Lib.hid (show I.fields = J.fields by simpa using HQ.out.symm)
      clear HQ
      go_wp2_with fail
      refine (rSameInts _ _ _ I.exports J.exports (HX.out.later (upd_below (HA.out.trans HB.out (fun _ h _ => h)))) (HY.out.later (upd_below (HA.out.trans HB.out (fun _ h _ => h))))).mono ?_
      rintro e w2 ⟨rfl, hu⟩
      replace HB := Lib.hid (HB.out.trans hu (fun _ h _ => h))
      clear c0 c1 c2 c3 c4 d0 d1 d2 d3 d4
      obtain ⟨⟨c0, c1, c2, c3, c4⟩, d0, d1, d2, d3, d4⟩ := boxes5 HB.out
      obtain ⟨q, hq⟩ : ∃ q, q = decide (I.exports = J.exports) := ⟨_, rfl⟩
      rw [← hq]
      have HQ := Lib.hid hq
      clear hu hq
      cases q with
      | false =>
        have HE := Lib.hid (show I ≠ J from fun e => by have := HQ.out; rw [e] at this; simp at this)
        go_wp2_with fail
        go_ret
        exact ⟨_, rfl, by simp [HE.out], HA.out.trans HB.out (fun _ h _ => h)⟩
      | true =>
        have H3 := Lib.hid (show I.exports = J.exports by simpa using HQ.out.symm)
        clear HQ
        cases h4 : ((I.imports.length : Int) == (J.imports.length : Int)) with
        | false =>
          have h4' : ((I.imports.length : Int) != (J.imports.length : Int)) = true := by simp only [bne, h4]; rfl
          have HE := Lib.hid (show I ≠ J from fun e => by rw [e] at h4; simp at h4)
          go_wp2_with fail
          go_ret
          exact ⟨_, rfl, by simp [HE.out], HA.out.trans HB.out (fun _ h _ => h)⟩
        | true =>
          have h4' : ((I.imports.length : Int) != (J.imports.length : Int)) = false := by simp only [bne, h4]; rfl
          have le_imports : I.imports.length = J.imports.length := by have := beq_iff_eq.1 h4; omega
          have l1_imports : I.imports.length ≤ J.imports.length := by omega
          have l2_imports : J.imports.length ≤ I.imports.length := by omega
          clear le_imports
          cases h5 : ((I.methods.length : Int) == (J.methods.length : Int)) with
          | false =>
            have h5' : ((I.methods.length : Int) != (J.methods.length : Int)) = true := by simp only [bne, h5]; rfl
            have HE := Lib.hid (show I ≠ J from fun e => by rw [e] at h5; simp at h5)
            go_wp2_with fail
            go_ret
            exact ⟨_, rfl, by simp [HE.out], HA.out.trans HB.out (fun _ h _ => h)⟩
          | true =>
            have h5' : ((I.methods.length : Int) != (J.methods.length : Int)) = false := by simp only [bne, h5]; rfl
            have le_methods : I.methods.length = J.methods.length := by have := beq_iff_eq.1 h5; omega
            have l1_methods : I.methods.length ≤ J.methods.length := by omega
            have l2_methods : J.methods.length ≤ I.methods.length := by omega
            clear le_methods
            have HT0 : Hid (I.imports.take 0 = J.imports.take 0) := Lib.hid rfl
            have HS0 : Hid (I.methods.take 0 = J.methods.take 0) := Lib.hid rfl
            go_wp2_with fail
            go_loopw [5, 6, 7] (fun i _ _ wr => ∃ k : Nat, k ≤ I.imports.length ∧ i = .int .i64 k ∧ Hid (Upd (fun _ => False) ((w.alloc (.cells #[.string I.name, .slice fa I.fields.length fc, .slice ia I.imports.length ic, .slice ma I.methods.length mc, .slice xa I.exports.length xc] 29)).alloc (.cells #[.string J.name, .slice ga J.fields.length gc, .slice ja J.imports.length jc, .slice na J.methods.length nc, .slice ya J.exports.length yc] 29)) wr) ∧ Hid (I.imports.take k = J.imports.take k)) (fun i _ _ _ => I.imports.length - (RowKit.intOf i).toNat)
            case atStart => exact ⟨0, Nat.zero_le _, rfl, HB, HT0⟩
            case round =>
              clear c0 c1 c2 c3 c4 d0 d1 d2 d3 d4
              obtain ⟨k, hk, rfl, HU, HT⟩ := hrel
              obtain ⟨⟨c0, c1, c2, c3, c4⟩, d0, d1, d2, d3, d4⟩ := boxes5 HU.out
              by_cases hlt : k < I.imports.length
              · have hltm : k < J.imports.length := by omega
                have HW := Lib.hid (HA.out.trans HU.out (fun _ h _ => h))
                obtain ⟨g1, o1, pv, rfl, hc0, hc1, hc2, hc3, hX⟩ := (HI.out.later (upd_below HW.out)).at hlt
                obtain ⟨g2, o2, qv, rfl, hd0, hd1, hd2, hd3, hY⟩ := (HJ.out.later (upd_below HW.out)).at hltm
                obtain ⟨n, hn⟩ : ∃ n, n = I.imports.getD k default := ⟨_, rfl⟩
                obtain ⟨m, hm⟩ : ∃ m, m = J.imports.getD k default := ⟨_, rfl⟩
                try rw [← hn] at hc0
                try rw [← hn] at hc1
                try rw [← hn] at hc2
                try rw [← hn] at hc3
                rw [← hn] at hX
                try rw [← hm] at hd0
                try rw [← hm] at hd1
                try rw [← hm] at hd2
                try rw [← hm] at hd3
                rw [← hm] at hY
                obtain ⟨pa, pc, rfl, -, -⟩ := hX.1.slice
                obtain ⟨qa, qc, rfl, -, -⟩ := hY.1.slice
                have HP := Lib.hid hX.1
                have HQ := Lib.hid hY.1
                have HN := Lib.hid hn
                have HMM := Lib.hid hm
                have HA1 := Lib.hid (Upd.alloc (fun _ => False) wr (.cells #[.string n.name, .int .i64 n.exp, .slice pa n.params.length pc, .int .i64 n.res] 42))
                have HA2 := Lib.hid (HA1.out.trans (Upd.alloc (fun _ => False) _ (.cells #[.string m.name, .int .i64 m.exp, .slice qa m.params.length qc, .int .i64 m.res] 42)) (fun _ h _ => h))
                have hd0' := later (upd_below HA1.out) hd0
                have hd1' := later (upd_below HA1.out) hd1
                have hd2' := later (upd_below HA1.out) hd2
                have hd3' := later (upd_below HA1.out) hd3
                have e2 := later (upd_below HA1.out) d2
                have HUE := Lib.hid (HU.out.trans HA2.out (fun _ h _ => h))
                have hi1 : (0 : Int) ≤ (k : Int) := Int.natCast_nonneg _
                have hi2 : (k : Int) < (I.imports.length : Int) := by omega
                have hi3 : (k : Int) < (J.imports.length : Int) := by omega
                clear hn hm hX hY
                cases x1 : (n.name.toList == m.name.toList) with
                | false =>
                  have x1' : (n.name.toList != m.name.toList) = true := by simp only [bne, x1]; rfl
                  have HE := Lib.hid (show I ≠ J from fun e => by
                    have : n = m := by rw [HN.out, HMM.out, e]
                    rw [this] at x1
                    simp at x1)
                  go_wp2_with fail
                  go_ret
                  exact ⟨_, rfl, by simp [HE.out], HW.out.trans HA2.out (fun _ h _ => h)⟩
                | true =>
                  have x1' : (n.name.toList != m.name.toList) = false := by simp only [bne, x1]; rfl
                  cases x2 : (n.exp == m.exp) with
                  | false =>
                    have x2' : (n.exp != m.exp) = true := by simp only [bne, x2]; rfl
                    have HE := Lib.hid (show I ≠ J from fun e => by
                      have : n = m := by rw [HN.out, HMM.out, e]
                      rw [this] at x2
                      simp at x2)
                    go_wp2_with fail
                    go_ret
                    exact ⟨_, rfl, by simp [HE.out], HW.out.trans HA2.out (fun _ h _ => h)⟩
                  | true =>
                    have x2' : (n.exp != m.exp) = false := by simp only [bne, x2]; rfl
                    cases x3 : (n.res == m.res) with
                    | false =>
                      have x3' : (n.res != m.res) = true := by simp only [bne, x3]; rfl
                      have HE := Lib.hid (show I ≠ J from fun e => by
                        have : n = m := by rw [HN.out, HMM.out, e]
                        rw [this] at x3
                        simp at x3)
                      go_wp2_with fail
                      go_ret
                      exact ⟨_, rfl, by simp [HE.out], HW.out.trans HA2.out (fun _ h _ => h)⟩
                    | true =>
                      have x3' : (n.res != m.res) = false := by simp only [bne, x3]; rfl
                      go_wp2_with fail
                      refine (rSameInts _ _ _ n.params m.params (HP.out.later (upd_below HA2.out)) (HQ.out.later (upd_below HA2.out))).mono ?_
                      rintro e w5 ⟨rfl, hu⟩
                      have HU5 := Lib.hid (HUE.out.trans hu (fun _ h _ => h))
                      obtain ⟨q, hq⟩ : ∃ q, q = decide (n.params = m.params) := ⟨_, rfl⟩
                      rw [← hq]
                      have HQQ := Lib.hid hq
                      clear hu hq hc0 hc1 hc2 hc3 hd0 hd1 hd2 hd3 hd0' hd1' hd2' hd3' c0 c1 c2 c3 c4 d0 d1 d2 d3 d4 e2
                      cases q with
                      | false =>
                        have HE := Lib.hid (show I ≠ J from fun e => by
                          have h := HQQ.out
                          have : n = m := by rw [HN.out, HMM.out, e]
                          rw [this] at h
                          simp at h)
                        go_wp2_with fail
                        go_ret
                        exact ⟨_, rfl, by simp [HE.out], HA.out.trans HU5.out (fun _ h _ => h)⟩
                      | true =>
                        have hnm : n = m := (impE_iff n m).1 (by unfold impE; simp only [x1, x2, x3, ← HQQ.out, Bool.and_self, Bool.and_true])
                        have HT2 := Lib.hid (take_eq hlt hltm HT.out (by rw [← HN.out, ← HMM.out]; exact hnm))
                        clear hnm
                        go_wp2_with fail
                        go_roundw
                        case rel => exact ⟨k + 1, by omega, by go_num, HU5, HT2⟩
                        case measure => simp [RowKit.intOf]; omega
              · have H4 := Lib.hid (show I.imports = J.imports from take_all (k := k) (by omega) (by omega) HT.out)
                go_wp2_with fail
                go_loopw [8, 9, 10, 11] (fun i _ _ _ wr => ∃ k : Nat, k ≤ I.methods.length ∧ i = .int .i64 k ∧ Hid (Upd (fun _ => False) ((w.alloc (.cells #[.string I.name, .slice fa I.fields.length fc, .slice ia I.imports.length ic, .slice ma I.methods.length mc, .slice xa I.exports.length xc] 29)).alloc (.cells #[.string J.name, .slice ga J.fields.length gc, .slice ja J.imports.length jc, .slice na J.methods.length nc, .slice ya J.exports.length yc] 29)) wr) ∧ Hid (I.methods.take k = J.methods.take k)) (fun i _ _ _ _ => I.methods.length - (RowKit.intOf i).toNat)
                case atStart => exact ⟨0, Nat.zero_le _, rfl, HU, HS0⟩
                case round =>
                  clear c0 c1 c2 c3 c4 d0 d1 d2 d3 d4
                  obtain ⟨k, hk, rfl, HUM, HS⟩ := hrel
                  obtain ⟨⟨c0, c1, c2, c3, c4⟩, d0, d1, d2, d3, d4⟩ := boxes5 HUM.out
                  by_cases hlt : k < I.methods.length
                  · have hltm : k < J.methods.length := by omega
                    have HW := Lib.hid (HA.out.trans HUM.out (fun _ h _ => h))
                    obtain ⟨g1, o1, pv, lv, kv, rfl, hc0, hc1, hc2, hc3, hXp, hXl, hXk, -⟩ := (HM.out.later (upd_below HW.out)).at hlt
                    obtain ⟨g2, o2, qv, mv, jv, rfl, hd0, hd1, hd2, hd3, hYp, hYl, hYk, -⟩ := (HN.out.later (upd_below HW.out)).at hltm
                    obtain ⟨n, hn⟩ : ∃ n, n = I.methods.getD k default := ⟨_, rfl⟩
                    obtain ⟨m, hm⟩ : ∃ m, m = J.methods.getD k default := ⟨_, rfl⟩
                    try rw [← hn] at hc0
                    try rw [← hn] at hc1
                    try rw [← hn] at hc2
                    try rw [← hn] at hc3
                    rw [← hn] at hXp hXl hXk
                    try rw [← hm] at hd0
                    try rw [← hm] at hd1
                    try rw [← hm] at hd2
                    try rw [← hm] at hd3
                    rw [← hm] at hYp hYl hYk
                    obtain ⟨pa, pc, rfl, upa, vpa⟩ := hXp.slice
                    unfold maxLen at vpa
                    obtain ⟨la, lc, rfl, ula, vla⟩ := hXl.slice
                    unfold maxLen at vla
                    obtain ⟨ka, kc, rfl, uka, vka⟩ := hXk.slice
                    unfold maxLen at vka
                    obtain ⟨qa, qc, rfl, uqa, vqa⟩ := hYp.slice
                    unfold maxLen at vqa
                    obtain ⟨sa, sc, rfl, usa, vsa⟩ := hYl.slice
                    unfold maxLen at vsa
                    obtain ⟨ta, tc, rfl, uta, vta⟩ := hYk.slice
                    unfold maxLen at vta
                    have HXP := Lib.hid hXp
                    have HXL := Lib.hid hXl
                    have HXK := Lib.hid hXk
                    have HYP := Lib.hid hYp
                    have HYL := Lib.hid hYl
                    have HYK := Lib.hid hYk
                    have HEN := Lib.hid hn
                    have HEM := Lib.hid hm
                    have HA1 := Lib.hid (Upd.alloc (fun _ => False) wr (.cells #[.slice pa n.params.length pc, .int .i64 n.res, .slice la n.locals.length lc, .slice ka n.code.length kc] 45))
                    have HA2 := Lib.hid (HA1.out.trans (Upd.alloc (fun _ => False) _ (.cells #[.slice qa m.params.length qc, .int .i64 m.res, .slice sa m.locals.length sc, .slice ta m.code.length tc] 45)) (fun _ h _ => h))
                    have hd0' := later (upd_below HA1.out) hd0
                    have hd1' := later (upd_below HA1.out) hd1
                    have hd2' := later (upd_below HA1.out) hd2
                    have hd3' := later (upd_below HA1.out) hd3
                    have e3 := later (upd_below HA1.out) d3
                    have hi1 : (0 : Int) ≤ (k : Int) := Int.natCast_nonneg _
                    have hi2 : (k : Int) < (I.methods.length : Int) := by omega
                    have hi3 : (k : Int) < (J.methods.length : Int) := by omega
                    clear hn hm hXp hXl hXk hYp hYl hYk
                    cases x1 : (n.res == m.res) with
                    | false =>
                      have x1' : (n.res != m.res) = true := by simp only [bne, x1]; rfl
                      have HE := Lib.hid (show I ≠ J from fun e => by
                        have : n = m := by rw [HEN.out, HEM.out, e]
                        rw [this] at x1
                        simp at x1)
                      go_wp2_with fail
                      go_ret
                      exact ⟨_, rfl, by simp [HE.out], HW.out.trans HA2.out (fun _ h _ => h)⟩
                    | true =>
                      have x1' : (n.res != m.res) = false := by simp only [bne, x1]; rfl
                      go_wp2_with fail
                      refine (rSameInts _ _ _ n.params m.params (HXP.out.later (upd_below HA2.out)) (HYP.out.later (upd_below HA2.out))).mono ?_
                      rintro e w5 ⟨rfl, hu⟩
                      have HC : Hid (Upd (fun _ => False) ((wr.alloc (.cells #[.slice pa n.params.length pc, .int .i64 n.res, .slice la n.locals.length lc, .slice ka n.code.length kc] 45)).alloc (.cells #[.slice qa m.params.length qc, .int .i64 m.res, .slice sa m.locals.length sc, .slice ta m.code.length tc] 45)) w5) := Lib.hid hu
                      clear hc0 hc1 hc2 hc3 hd0 hd1 hd2 hd3 hd0' hd1' hd2' hd3' c0 c1 c2 c3 c4 d0 d1 d2 d3 d4 e3
                      obtain ⟨⟨b0, b1, b2, b3⟩, a0, a1, a2, a3⟩ := boxes4 HC.out
                      obtain ⟨q, hq⟩ : ∃ q, q = decide (n.params = m.params) := ⟨_, rfl⟩
                      rw [← hq]
                      have HQ_params := Lib.hid hq
                      clear hu hq
                      cases q with
                      | false =>
                        have HE := Lib.hid (show I ≠ J from fun e => by
                          have h := HQ_params.out
                          have : n = m := by rw [HEN.out, HEM.out, e]
                          rw [this] at h
                          simp at h)
                        go_wp2_with fail
                        go_ret
                        exact ⟨_, rfl, by simp [HE.out], (HW.out.trans HA2.out (fun _ h _ => h)).trans HC.out (fun _ h _ => h)⟩
                      | true =>
                        go_wp2_with fail
                        refine (rSameInts _ _ _ n.locals m.locals (HXL.out.later (upd_below (HA2.out.trans HC.out (fun _ h _ => h)))) (HYL.out.later (upd_below (HA2.out.trans HC.out (fun _ h _ => h))))).mono ?_
                        rintro e w5 ⟨rfl, hu⟩
                        replace HC := Lib.hid (HC.out.trans hu (fun _ h _ => h))
                        clear b0 b1 b2 b3 a0 a1 a2 a3
                        obtain ⟨⟨b0, b1, b2, b3⟩, a0, a1, a2, a3⟩ := boxes4 HC.out
                        obtain ⟨q, hq⟩ : ∃ q, q = decide (n.locals = m.locals) := ⟨_, rfl⟩
                        rw [← hq]
                        have HQ_locals := Lib.hid hq
                        clear hu hq
                        cases q with
                        | false =>
                          have HE := Lib.hid (show I ≠ J from fun e => by
                            have h := HQ_locals.out
                            have : n = m := by rw [HEN.out, HEM.out, e]
                            rw [this] at h
                            simp at h)
                          go_wp2_with fail
                          go_ret
                          exact ⟨_, rfl, by simp [HE.out], (HW.out.trans HA2.out (fun _ h _ => h)).trans HC.out (fun _ h _ => h)⟩
                        | true =>
                          cases x4 : ((n.code.length : Int) == (m.code.length : Int)) with
                          | false =>
                            have x4' : ((n.code.length : Int) != (m.code.length : Int)) = true := by simp only [bne, x4]; rfl
                            have HE := Lib.hid (show I ≠ J from fun e => by
                              have : n = m := by rw [HEN.out, HEM.out, e]
                              rw [this] at x4
                              simp at x4)
                            go_wp2_with fail
                            go_ret
                            exact ⟨_, rfl, by simp [HE.out], (HW.out.trans HA2.out (fun _ h _ => h)).trans HC.out (fun _ h _ => h)⟩
                          | true =>
                            have x4' : ((n.code.length : Int) != (m.code.length : Int)) = false := by simp only [bne, x4]; rfl
                            have le4 : n.code.length = m.code.length := by have := beq_iff_eq.1 x4; omega
                            have l14 : n.code.length ≤ m.code.length := by omega
                            have l24 : m.code.length ≤ n.code.length := by omega
                            clear le4
                            have HR0 : Hid (n.code.take 0 = m.code.take 0) := Lib.hid rfl
                            go_wp2_with fail
                            go_loopw [11] (fun i w' => ∃ j : Nat, j ≤ n.code.length ∧ i = .int .i64 j ∧ Hid (Upd (fun _ => False) ((wr.alloc (.cells #[.slice pa n.params.length pc, .int .i64 n.res, .slice la n.locals.length lc, .slice ka n.code.length kc] 45)).alloc (.cells #[.slice qa m.params.length qc, .int .i64 m.res, .slice sa m.locals.length sc, .slice ta m.code.length tc] 45)) w') ∧ Hid (n.code.take j = m.code.take j)) (fun i _ => n.code.length - (RowKit.intOf i).toNat)
                            case atStart => exact ⟨0, Nat.zero_le _, rfl, HC, HR0⟩
                            case round =>
                              clear b0 b1 b2 b3 a0 a1 a2 a3
                              obtain ⟨j, hj, rfl, HUC, HR⟩ := hrel
                              rename_i w'
                              obtain ⟨⟨b0, b1, b2, b3⟩, a0, a1, a2, a3⟩ := boxes4 HUC.out
                              have HWC := Lib.hid (HA2.out.trans HUC.out (fun _ h _ => h))
                              by_cases hjl : j < n.code.length
                              · have hjm : j < m.code.length := by omega
                                obtain ⟨g3, o3, rfl, t0, t1, t2, -⟩ := (HXK.out.later (upd_below HWC.out)).at hjl
                                obtain ⟨g4, o4, rfl, s0, s1, s2, -⟩ := (HYK.out.later (upd_below HWC.out)).at hjm
                                obtain ⟨y, hy⟩ : ∃ y, y = n.code.getD j default := ⟨_, rfl⟩
                                obtain ⟨z, hz⟩ : ∃ z, z = m.code.getD j default := ⟨_, rfl⟩
                                rw [← hy] at t0 t1 t2
                                rw [← hz] at s0 s1 s2
                                have HYY := Lib.hid hy
                                have HZZ := Lib.hid hz
                                have hj1 : (0 : Int) ≤ (j : Int) := Int.natCast_nonneg _
                                have hj2 : (j : Int) < (n.code.length : Int) := by omega
                                have hj3 : (j : Int) < (m.code.length : Int) := by omega
                                clear hy hz
                                by_cases hyz : y = z
                                · have HR2 := Lib.hid (take_eq hjl hjm HR.out (by rw [← HYY.out, ← HZZ.out]; exact hyz))
                                  subst hyz
                                  go_wp2_with fail
                                  go_quiet (fail)
                                  go_wp2_with fail
                                  go_roundw
                                  case rel => exact ⟨j + 1, by omega, by go_num, Lib.hid (HUC.out.trans (upd_drewN _ _ _) (fun _ h _ => h)), HR2⟩
                                  case measure => simp [RowKit.intOf]; omega
                                · have HE := Lib.hid (show I ≠ J from fun e => by
                                    have : n = m := by rw [HEN.out, HEM.out, e]
                                    apply hyz
                                    rw [HYY.out, HZZ.out, this])
                                  have hdif : y.op ≠ z.op ∨ (y.op = z.op ∧ y.a ≠ z.a) ∨ (y.op = z.op ∧ y.a = z.a ∧ y.b ≠ z.b) := by
                                    by_cases h1 : y.op = z.op
                                    · by_cases h2 : y.a = z.a
                                      · exact .inr (.inr ⟨h1, h2, fun h3 => hyz (insE_of h1 h2 h3)⟩)
                                      · exact .inr (.inl ⟨h1, h2⟩)
                                    · exact .inl h1
                                  clear hyz
                                  rcases hdif with h1 | ⟨h1, h2⟩ | ⟨h1, h2, h3⟩
                                  all_goals
                                    go_wp2_with fail
                                    go_quiet (fail)
                                    go_wp2_with fail
                                    go_ret
                                    exact ⟨_, rfl, by simp [HE.out], (HW.out.trans HWC.out (fun _ h _ => h)).trans (upd_drewN _ _ _) (fun _ h _ => h)⟩
                              · have hcode : n.code = m.code := take_all (k := j) (by omega) (by omega) HR.out
                                have hnm : n = m := (metE_iff n m).1 (by unfold metE; simp only [x1, ← HQ_params.out, ← HQ_locals.out, hcode, decide_true, Bool.and_self])
                                have HS2 := Lib.hid (take_eq hlt hltm HS.out (by rw [← HEN.out, ← HEM.out]; exact hnm))
                                have HUM2 := Lib.hid (HUM.out.trans HWC.out (fun _ h _ => h))
                                clear hcode hnm
                                go_wp2_with fail
                                go_roundw
                                case rel => exact ⟨k + 1, by omega, by go_num, HUM2, HS2⟩
                                case measure => simp [RowKit.intOf]; omega
                  · have H5 := Lib.hid (show I.methods = J.methods from take_all (k := k) (by omega) (by omega) HS.out)
                    have HALL := Lib.hid (img_ext H1.out H2.out H4.out H5.out H3.out)
                    go_wp2_with fail
                    go_ret
                    exact ⟨_, rfl, by simp [HALL.out], HA.out.trans HUM.out (fun _ h _ => h)⟩
end
section
open Go.RowKit Go.Shelf Go.Lib
set_option linter.unusedVariables false
set_option linter.unusedSimpArgs false

/-- the law's runes, and their bytes -/
def runeN (q : Nat) : Int := match q with
  | 0 => 97
  | 1 => 113
  | 2 => 122
  | 3 => 48
  | 4 => 57
  | 5 => 45
  | 6 => 46
  | 7 => 224
  | 8 => 233
  | _ => 255
def runeB (q : Nat) : By := match q with
  | 0 => [97]
  | 1 => [113]
  | 2 => [122]
  | 3 => [48]
  | 4 => [57]
  | 5 => [45]
  | 6 => [46]
  | 7 => [195, 160]
  | 8 => [195, 169]
  | _ => [195, 191]
theorem ten {q : Nat} (h : q < 10) : q = 0 ∨ q = 1 ∨ q = 2 ∨ q = 3 ∨ q = 4 ∨ q = 5 ∨ q = 6 ∨ q = 7 ∨ q = 8 ∨ q = 9 := by omega
theorem runeB_len (q : Nat) : 1 ≤ (runeB q).length ∧ (runeB q).length ≤ 2 := by
  unfold runeB
  split <;> simp
theorem runes_one (q : Nat) (h : q < 10) : runesBytes [runeN q] = bs (runeB q) := by
  rcases ten h with rfl | rfl | rfl | rfl | rfl | rfl | rfl | rfl | rfl | rfl <;> kernel_rfl
theorem two_byte (b : UInt8) (t : By) (hb : b = 160 ∨ b = 169 ∨ b = 191) : decodeL (195 :: b :: t) = (192 + (b.toNat - 128), 2) := by
  rw [decodeL_N]
  have hn : ¬ (195 :: b :: t).length < 2 := by simp
  rcases hb with rfl | rfl | rfl <;> simp [decodeN, List.getD]
theorem nm_runes : ∀ qs : List Nat, (∀ q ∈ qs, q < 10) → nmR (qs.flatMap runeB) = true
  | [], _ => rfl
  | q :: qs, h => by
    have ih := nm_runes qs (fun r hr => h r (by simp [hr]))
    rw [List.flatMap_cons]
    generalize qs.flatMap runeB = t at *
    rcases ten (h q (by simp)) with rfl | rfl | rfl | rfl | rfl | rfl | rfl | rfl | rfl | rfl
    · show nmR (97 :: t) = true
      rw [nmR_step _ (by simp), decodeL_ascii 97 t (by decide), List.drop_succ_cons, List.drop_zero, ih]; decide
    · show nmR (113 :: t) = true
      rw [nmR_step _ (by simp), decodeL_ascii 113 t (by decide), List.drop_succ_cons, List.drop_zero, ih]; decide
    · show nmR (122 :: t) = true
      rw [nmR_step _ (by simp), decodeL_ascii 122 t (by decide), List.drop_succ_cons, List.drop_zero, ih]; decide
    · show nmR (48 :: t) = true
      rw [nmR_step _ (by simp), decodeL_ascii 48 t (by decide), List.drop_succ_cons, List.drop_zero, ih]; decide
    · show nmR (57 :: t) = true
      rw [nmR_step _ (by simp), decodeL_ascii 57 t (by decide), List.drop_succ_cons, List.drop_zero, ih]; decide
    · show nmR (45 :: t) = true
      rw [nmR_step _ (by simp), decodeL_ascii 45 t (by decide), List.drop_succ_cons, List.drop_zero, ih]; decide
    · show nmR (46 :: t) = true
      rw [nmR_step _ (by simp), decodeL_ascii 46 t (by decide), List.drop_succ_cons, List.drop_zero, ih]; decide
    · show nmR (195 :: 160 :: t) = true
      rw [nmR_step _ (by simp), two_byte 160 t (by simp), List.drop_succ_cons, List.drop_succ_cons, List.drop_zero, ih]; decide
    · show nmR (195 :: 169 :: t) = true
      rw [nmR_step _ (by simp), two_byte 169 t (by simp), List.drop_succ_cons, List.drop_succ_cons, List.drop_zero, ih]; decide
    · show nmR (195 :: 191 :: t) = true
      rw [nmR_step _ (by simp), two_byte 191 t (by simp), List.drop_succ_cons, List.drop_succ_cons, List.drop_zero, ih]; decide
theorem runes_len (qs : List Nat) : qs.length ≤ (qs.flatMap runeB).length ∧ (qs.flatMap runeB).length ≤ 2 * qs.length := by
  induction qs with
  | nil => simp
  | cons q qs ih =>
    have := runeB_len q
    rw [List.flatMap_cons, List.length_append, List.length_cons]
    omega
/-- the name: of these runes, or x -/
def nameR (qs : List Nat) : By := match decide (qs = []) with
  | true => [120]
  | false => qs.flatMap runeB
theorem nameR_ok (qs : List Nat) (h : ∀ q ∈ qs, q < 10) (h8 : qs.length ≤ 8) : nmB (bs (nameR qs)) = true ∧ (nameR qs).length ≤ 16 := by
  have hl := runes_len qs
  unfold nameR
  split
  · exact ⟨by decide, by simp⟩
  · rename_i hne
    have hp : 0 < qs.length := List.length_pos_iff.2 (by simpa using hne)
    refine ⟨?_, by omega⟩
    unfold nmB
    rw [bs_size, bs_data, nm_runes qs h]
    simp only [Bool.and_true, decide_eq_true_eq]
    omega
set_option maxRecDepth 100000 in
theorem ixRune (k : Nat) (hk : k < 10) : ∀ w : World, (Instr.index 23 (.agg #[.int .i32 97, .int .i32 113, .int .i32 122, .int .i32 48, .int .i32 57, .int .i32 45, .int .i32 46, .int .i32 224, .int .i32 233, .int .i32 255]) (.int .i64 k)).run Tryd.prog w = .ok (.int .i32 (runeN k)) w := by
  rcases ten hk with rfl | rfl | rfl | rfl | rfl | rfl | rfl | rfl | rfl | rfl <;> exact fun w => by kernel_rfl
theorem convRune (u : World) (q : Nat) (hq : q < 10) : (convert 25 9 (.slice (some ⟨u.heap.size, 0, none⟩) 1 1)).run Tryd.prog (u.alloc (.cells #[.int .i32 (runeN q)] 21)) = .ok (.string (bs (runeB q))) (u.alloc (.cells #[.int .i32 (runeN q)] 21)) := by
  have h := run_convert_runes (P := Tryd.prog) (u.alloc (.cells #[.int .i32 (runeN q)] 21)) 25 9 21 ⟨u.heap.size, 0, none⟩ 1 1 [runeN q] (by simp) Tryd.underlying25 Tryd.underlying21 Tryd.underlying9 (fun j hj => by
    have : j = 0 := by simpa using hj
    subst this
    show World.cell? _ _ = _
    rw [show (⟨u.heap.size, 0, none⟩ : Addr).add 0 = ⟨u.heap.size, 0, none⟩ by rw [addr_add], World.cell?_alloc_new]
    rfl)
  rw [show ([runeN q] : List Int).take 1 = [runeN q] from rfl, runes_one q hq] at h
  exact h
theorem nmOf_ok (j : Int) : nmB (nmOf j) = true := by
  unfold nmOf nmK
  split <;> decide +kernel
theorem applet_ok {y : By} {s1 s2 : ByteArray} {C0 C1 C2 : List InsM} (hy : nmB (bs y) = true) (h1 : nmB s1 = true) (h2 : nmB s2 = true) (k0 : RC C0) (k1 : RC C1) (k2 : RC C2) : imgB insB ⟨bs y, [1, 2, 3, 4], appImps s1 s2, appMets C0 C1 C2, [1, 2]⟩ = true := by
  have hm : ∀ (ps ls : List Int) (r : Int) (C : List InsM), RC C → callB ps r = true → kindsB ls (10 - ps.length) = true → metB insB ⟨ps, r, ls, C⟩ = true := fun ps ls r C hC hc hk => by
    unfold metB
    simp only [hc, hk, Bool.true_and]
    obtain ⟨⟨a, b⟩, c⟩ := hC
    simp only [Bool.and_eq_true, decide_eq_true_eq, List.all_eq_true]
    exact ⟨a, by omega, c⟩
  unfold imgB
  simp only [hy, Bool.true_and]
  have e1 : ([⟨s1, 0, [1, 2], 2⟩, ⟨s2, 1, [4, 3], 3⟩] : List ImpM).all impB = true := by
    simp only [List.all_cons, List.all_nil, Bool.and_true, Bool.and_eq_true]
    unfold impB
    simp only [h1, h2, Bool.true_and]
    exact ⟨by decide, by decide⟩
  have e2 : (appMets C0 C1 C2).all (metB insB) = true := by
    unfold appMets
    simp only [List.all_cons, List.all_nil, Bool.and_true, Bool.and_eq_true]
    exact ⟨hm _ _ _ _ k0 (by decide) (by decide), hm _ _ _ _ k1 (by decide) (by decide), hm _ _ _ _ k2 (by decide) (by decide)⟩
  show (kindsB [1, 2, 3, 4] 8 && ((decide (2 ≤ 4) && (appImps s1 s2).all impB) && (decide (0 < 3) && ((decide (3 ≤ 8) && (appMets C0 C1 C2).all (metB insB)) && (firstB (appMets C0 C1 C2) && (decide (2 ≤ 4) && ([1, 2] : List Int).all (expB 3))))))) = true
  rw [show (appImps s1 s2).all impB = true from e1, e2]
  rfl
theorem cells_at6 {w : World} {g : Nat} {C : Array Value} {e : TypeId} {fr : Nat × Nat} (h : w.heap[g]? = some (.cells C e fr)) (j : Nat) (x : Value) (hx : C[j]? = some x) : w.cell? ⟨g, j, none⟩ = some x := by
  show (match w.heap[g]? with | some (.cells c _ _) => _ | _ => _) = _
  rw [h]
  simpa using hx
theorem binsUpdH {w w' : World} (h : Bins ⟨w, fun _ => False⟩) (hu : Upd (fun _ => False) w w') : Bins ⟨w', fun _ => False⟩ :=
  ⟨fun h => h, fun k hk => (hu.cell (World.block_lt_of_cell? _ _ (h.2 k hk)) id).trans (h.2 k hk)⟩
theorem raws_nilH (w : World) : RawsAt w (.slice none 0 0) [] := .inl ⟨⟨none, 0, rfl⟩, rfl⟩
section
open Go.ChangeShapes Go.WideShapes
theorem bounds64H {n : Int} (h : (Lit.int .i64 n).wf = true) : wi64 n := bounds_i64 h
theorem open_numsH {H : Type} {enc : TypeId × Value → H} {W : World} {n : Nat} {v : Value} {x : DataW H × List MemPlace} (h : DataW.trod enc Tryd.prog W 0 (fun _ => true) true n 22 [v] = some x) :
    ∃ ys, Ints W v ys := by
  rcases open_ints Tryd.underlying22 Tryd.underlying3 (by kernel_rfl) h with ⟨hcs, hx⟩ | ⟨a, len, cap, zs, hcs, _, hl, hm, hz, hx, hcell, hwz⟩
  · simp at hcs
    subst hcs
    exact ⟨[], Sl.nil _ _ _, by simp⟩
  · simp at hcs
    subst hcs
    simp at hz
    have hlen : (zs.take len).length = len := by simp; omega
    refine ⟨zs.take len, ⟨a, cap, by rw [hlen], by omega, hm, ?_⟩, fun y hy => bounds64H (hwz y (List.mem_of_mem_take hy))⟩
    rw [hlen]
    obtain ⟨b, off, spot⟩ := a
    by_cases h0 : spot = none
    · subst h0
      refine .inr ⟨b, off, rfl, fun i hi j hj => ?_⟩
      have := hcell i (by omega)
      rw [addr_add] at this
      obtain rfl : j = 0 := by omega
      rw [Nat.mul_one, Nat.add_zero, this]
      simp [List.getD, hi]
    · refine .inl ?_
      rcases Nat.eq_zero_or_pos cap with h | h
      · omega
      · have := hcell 0 (by omega)
        have := World.cell?_spot this
        simp [Addr.add] at this
        exact absurd this h0
end
theorem pickH (n : Int) : ∃ q : Nat, q < 10 ∧ ∀ u : World, Calls Tryd.prog 4 #[.int .i64 n, .int .i64 10] u fun e w' => e = .returned (.int .i64 q) ∧ u = w' := by
  have h1 := Int.emod_nonneg n (b := 10) (by omega)
  have h2 := Int.emod_lt_of_pos n (b := 10) (by omega)
  refine ⟨(n % 10).toNat, by omega, fun u => ?_⟩
  have h := hPick n 10 u (by omega) (by omega)
  rw [show n % 10 = (((n % 10).toNat : Nat) : Int) by omega] at h
  exact h.mono fun e w' ⟨a, b⟩ => ⟨a, by first | exact b | exact b.symm⟩
set_option maxRecDepth 100000 in
set_option maxHeartbeats 8000000 in
theorem textRunes_walk (w : World) (lv : Value) (Ls : List Int) (hl : Ints w lv Ls) (hB : Bins ⟨w, fun _ => False⟩) (ht : Tb w.heap.size w) : Calls Tryd.prog 3 #[lv] w fun e w' => e = .returned (.bool true) ∧ Upd (fun _ => False) w w' := by
  obtain ⟨la, lc, rfl, hl1, hl2⟩ := hl.slice
  unfold maxLen at hl2
  have HL := Lib.hid hl
  have HB := Lib.hid hB
  have HT := Lib.hid ht
  have H0 := Lib.hid (Upd.refl (fun _ => False) w)
  clear hl hB ht
  go_enter Tryd.func3, Tryd.ntmps3
  go_wp2_with fail
  go_loopw [3, 4] (fun nm i wr => ∃ qs : List Nat, qs.length ≤ 8 ∧ qs.length ≤ Ls.length ∧ i = .int .i64 (qs.length : Nat) ∧ nm = .string (bs (qs.flatMap runeB)) ∧ Hid (∀ q ∈ qs, q < 10) ∧ Hid (Upd (fun _ => False) w wr)) (fun _ i _ => 8 - (RowKit.intOf i).toNat)
  case atStart => exact ⟨[], by simp, by simp, rfl, rfl, Lib.hid (by simp), H0⟩
  case round =>
    obtain ⟨qs, h8, hls, rfl, rfl, HQ, HU⟩ := hrel
    by_cases hlt : qs.length < Ls.length ∧ qs.length < 8
    · obtain ⟨hlt1, hlt2⟩ := hlt
      obtain ⟨g1, o1, rfl, hc1, -⟩ := (HL.out.later (upd_below HU.out)).at hlt1
      generalize Ls.getD qs.length 0 = z at *
      obtain ⟨q, hq, HPK⟩ := pickH z
      have HPK := Lib.hid HPK
      have HQ9 := Lib.hid hq
      have hix := ixRune q hq
      have hcv := convRune wr q hq
      have hrl := runes_len qs
      have hxz := bs_size (qs.flatMap runeB)
      have hbl := runeB_len q
      have hyz := bs_size (runeB q)
      obtain ⟨y, hy⟩ : ∃ y, y = (qs ++ [q]).flatMap runeB := ⟨_, rfl⟩
      have hap : bs (qs.flatMap runeB) ++ bs (runeB q) = bs y := by
        rw [hy, bs_app, List.flatMap_append]
        simp
      have HY := Lib.hid hy
      have HU2 := Lib.hid (HU.out.trans (Upd.alloc (fun _ => False) wr (.cells #[.int .i32 (runeN q)] 21)) (fun _ h _ => h))
      have hi1 : (0 : Int) ≤ (qs.length : Int) := Int.natCast_nonneg _
      have hi2 : (qs.length : Int) < (Ls.length : Int) := by omega
      have hi3 : (qs.length : Int) < 8 := by omega
      clear hy hq
      go_wp2_with fail
      refine (HPK.out _).mono ?_
      rintro e _ ⟨rfl, rfl⟩
      go_wp2_with fail
      go_roundw
      case rel => exact ⟨qs ++ [q], by simp; omega, by simp; omega, by simp, by rw [HY.out], Lib.hid (fun r hr => by
        rcases List.mem_append.1 hr with hr | hr
        · exact HQ.out r hr
        · simp at hr; rw [hr]; exact HQ9.out), HU2⟩
      case measure => simp [RowKit.intOf]; omega
    · have hex : qs.length = Ls.length ∨ qs.length = 8 := by omega
      have hok := nameR_ok qs HQ.out h8
      obtain ⟨y, hy⟩ : ∃ y, y = nameR qs := ⟨_, rfl⟩
      rw [← hy] at hok
      have HOK := Lib.hid hok
      have hyz : (bs y).size ≤ 16 := by rw [bs_size]; exact hok.2
      have HNMR : Hid (y = match decide (qs = []) with | true => [120] | false => qs.flatMap runeB) := Lib.hid hy
      have he := bs_empty (qs.flatMap runeB)
      have hlx := runes_len qs
      have hxz := bs_size (qs.flatMap runeB)
      have HB1 := Lib.hid (binsUpdH HB.out HU.out)
      clear hok hlt hy
      have hcase : (qs = [] ∧ y = [120] ∧ (bs (qs.flatMap runeB)).toList.isEmpty = true) ∨ (y = qs.flatMap runeB ∧ (bs (qs.flatMap runeB)).toList.isEmpty = false) := by
        by_cases h0 : qs = []
        · left
          refine ⟨h0, ?_, ?_⟩
          · rw [HNMR.out, show decide (qs = []) = true by simpa using h0]
          · rw [he, h0]; rfl
        · right
          have hp : 0 < qs.length := List.length_pos_iff.2 h0
          refine ⟨?_, ?_⟩
          · rw [HNMR.out, show decide (qs = []) = false by simpa using h0]
          · rw [he]
            simp only [decide_eq_false_iff_not]
            intro e
            have h9 := hlx.1
            rw [e] at h9
            exact h0 (List.eq_nil_of_length_eq_zero (by simpa using h9))
      have HCASE := Lib.hid hcase
      have hi1 : (0 : Int) ≤ (qs.length : Int) := Int.natCast_nonneg _
      clear he hcase
      obtain ⟨x, hx⟩ : ∃ x, x = qs.flatMap runeB := ⟨_, rfl⟩
      rw [← hx] at HCASE hxz hlx ⊢
      clear hx
      by_cases hlt1 : qs.length < Ls.length
      · have hi2 : (qs.length : Int) < (Ls.length : Int) := by omega
        have hi3 : ¬ ((qs.length : Int) < 8) := by omega
        rcases HCASE.out with ⟨h1, h2, h3⟩ | ⟨h2, h3⟩
        · exfalso
          rw [h1] at hi3
          simp at hi3
        · subst h2
          go_wp2_with fail
          refine (hAppletR _ 0 _ [] (raws_nilH _) (by simp) rfl HB1.out).mono ?_
          rintro e w1 ⟨s0, s1, s2, c0, c1, c2, C0, C1, C2, rfl, hA, ⟨k0, k1, k2⟩, rfl, rfl, ⟨j2, rfl⟩⟩
          have hri : imgB insB ⟨bs y, [1, 2, 3, 4], appImps (nmOf (wrap64 (0 + 1))) (nmOf j2), appMets C0 C1 C2, [1, 2]⟩ = true := applet_ok HOK.out.1 (nmOf_ok (wrap64 (0 + 1))) (nmOf_ok j2) k0 k1 k2
          have HRI := Lib.hid hri
          have HAU := Lib.hid hA.up
          obtain ⟨W, hW⟩ : ∃ W, W = w1.alloc (.cells #[.string (bs y), .slice (some ⟨wr.heap.size + 2, 0, none⟩) 4 4, .slice (some ⟨wr.heap.size + 7, 0, none⟩) 2 2, .slice (some ⟨wr.heap.size + 10, 0, none⟩) 3 3, .slice (some ⟨wr.heap.size + 3, 0, none⟩) 2 2] 29) := ⟨_, rfl⟩
          have hal : Upd (fun _ => False) w1 W := by rw [hW]; exact Upd.alloc (fun _ => False) _ _
          have hbk : W.heap[w1.heap.size]? = some (.cells #[.string (bs y), .slice (some ⟨wr.heap.size + 2, 0, none⟩) 4 4, .slice (some ⟨wr.heap.size + 7, 0, none⟩) 2 2, .slice (some ⟨wr.heap.size + 10, 0, none⟩) 3 3, .slice (some ⟨wr.heap.size + 3, 0, none⟩) 2 2] 29 (0, 0)) := by rw [hW]; exact blk_top _ _ _ rfl
          have hAW := hA.keep hal
          have hI : Img W (img5 (bs y) (.slice (some ⟨wr.heap.size + 2, 0, none⟩) 4 4) (.slice (some ⟨wr.heap.size + 7, 0, none⟩) 2 2) (.slice (some ⟨wr.heap.size + 10, 0, none⟩) 3 3) (.slice (some ⟨wr.heap.size + 3, 0, none⟩) 2 2)) ⟨bs y, [1, 2, 3, 4], appImps (nmOf (wrap64 (0 + 1))) (nmOf j2), appMets C0 C1 C2, [1, 2]⟩ :=
            ⟨_, _, _, _, rfl, Ints.blk hAW.b2 [1, 2, 3, 4] ⟨[], rfl⟩ 4 (by decide) (by decide) (by simp [wi64]), hAW.imps, hAW.mets, Ints.blk hAW.b3 [1, 2] ⟨[], rfl⟩ 2 (by decide) (by decide) (by simp [wi64]), by show (bs y).size ≤ maxLen; unfold maxLen; omega⟩
          have HI := Lib.hid hI
          have HBK := Lib.hid hbk
          have HUW := Lib.hid ((HU.out.trans HAU.out (fun _ h _ => h)).trans hal (fun _ h _ => h))
          have HWW := Lib.hid hW
          clear hri hA k0 k1 k2 hal hbk hAW hI hW
          go_wp2_with fail
          rw [← HWW.out]
          refine (tPrint HI.out (HT.out.kept (upd_below HUW.out)) HUW.out.size).mono ?_
          rintro e w2 ⟨rfl, hu⟩
          rw [print_yes HRI.out.symm]
          have HU2 := Lib.hid (HUW.out.trans hu (fun _ h _ => h))
          have HI2 := Lib.hid (HI.out.later (upd_below hu))
          have hlt := (Array.getElem?_eq_some_iff.1 HBK.out).1
          have HBK2 := Lib.hid ((hu.block w1.heap.size hlt id).trans HBK.out)
          have hln := right_len HRI.out
          have HPB := Lib.hid (parse_back HRI.out)
          clear hu hlt HWW HBK HI HUW
          generalize w1.heap.size = X at *
          obtain ⟨I, hIe⟩ : ∃ I : ImgM, I = ⟨bs y, [1, 2, 3, 4], appImps (nmOf (wrap64 (0 + 1))) (nmOf j2), appMets C0 C1 C2, [1, 2]⟩ := ⟨_, rfl⟩
          have hnm : I.name = bs y := by rw [hIe]
          rw [← hIe] at HI2 HPB hln ⊢
          have HNI := Lib.hid hnm
          clear hIe hnm
          dsimp only
          go_wp2_with fail
          refine (tParse (linesI I) _ (by unfold maxLen; omega)).mono ?_
          rintro e w4 ⟨v4, rfl, hI4, hu⟩
          rw [HPB.out] at hI4 ⊢
          obtain ⟨fb, fd, ib, id', mb, md, xb, xd, rfl⟩ := img_openE hI4
          have hal := Upd.alloc (fun _ => False) w4 (.cells #[.string I.name, .slice fb I.fields.length fd, .slice ib I.imports.length id', .slice mb I.methods.length md, .slice xb I.exports.length xd] IMG)
          have HU4 := Lib.hid ((HU2.out.trans hu (fun _ h _ => h)).trans hal (fun _ h _ => h))
          have HI5 := Lib.hid ((HI2.out.later (upd_below hu)).later (upd_below hal))
          have HJ5 := Lib.hid (hI4.later (upd_below hal))
          have hbk4 := (hu.block X (Array.getElem?_eq_some_iff.1 HBK2.out).1 id).trans HBK2.out
          have HBK5 := Lib.hid ((hal.block X (Array.getElem?_eq_some_iff.1 hbk4).1 id).trans hbk4)
          have HBJ5 := Lib.hid (blk_top w4 (.cells #[.string I.name, .slice fb I.fields.length fd, .slice ib I.imports.length id', .slice mb I.methods.length md, .slice xb I.exports.length xd] IMG) w4.heap.size rfl)
          clear hI4 hu hal hbk4
          dsimp only
          go_wp2_with fail
          refine (known5 _).mono ?_
          rintro e w5 ⟨rfl, hu⟩
          have HU5 := Lib.hid (HU4.out.trans hu (fun _ h _ => h))
          have HI6 := Lib.hid (HI5.out.later (upd_below hu))
          have HJ6 := Lib.hid (HJ5.out.later (upd_below hu))
          have hb6 := (hu.block X (Array.getElem?_eq_some_iff.1 HBK5.out).1 id).trans HBK5.out
          have hj6 := (hu.block w4.heap.size (Array.getElem?_eq_some_iff.1 HBJ5.out).1 id).trans HBJ5.out
          rw [HNI.out] at hj6 HJ6
          have x0 := cells_at6 hb6 0 _ rfl
          have x1 := cells_at6 hb6 1 _ rfl
          have x2 := cells_at6 hb6 2 _ rfl
          have x3 := cells_at6 hb6 3 _ rfl
          have x4 := cells_at6 hb6 4 _ rfl
          have y0 := cells_at6 hj6 0 _ rfl
          have y1 := cells_at6 hj6 1 _ rfl
          have y2 := cells_at6 hj6 2 _ rfl
          have y3 := cells_at6 hj6 3 _ rfl
          have y4 := cells_at6 hj6 4 _ rfl
          generalize w4.heap.size = Y at *
          have hnn : ((bs y).toList == (bs y).toList) = true := by simp
          clear hu hb6 hj6
          go_wp2_with fail
          refine (rSame _ _ _ I I HI6.out HJ6.out).mono ?_
          rintro e w6 ⟨r, rfl, hr, hu⟩
          obtain rfl : r = true := hr.2 rfl
          have HU6 := Lib.hid (HU5.out.trans hu (fun _ h _ => h))
          clear hu hr
          go_wp2_with fail
          go_ret
          exact ⟨rfl, HU6.out⟩
      · have hi2 : ¬ ((qs.length : Int) < (Ls.length : Int)) := by omega
        rcases HCASE.out with ⟨h1, h2, h3⟩ | ⟨h2, h3⟩
        · subst h2
          clear h1
          go_wp2_with fail
          refine (hAppletR _ 0 _ [] (raws_nilH _) (by simp) rfl HB1.out).mono ?_
          rintro e w1 ⟨s0, s1, s2, c0, c1, c2, C0, C1, C2, rfl, hA, ⟨k0, k1, k2⟩, rfl, rfl, ⟨j2, rfl⟩⟩
          have hri : imgB insB ⟨({ data := #[120] } : ByteArray), [1, 2, 3, 4], appImps (nmOf (wrap64 (0 + 1))) (nmOf j2), appMets C0 C1 C2, [1, 2]⟩ = true := applet_ok HOK.out.1 (nmOf_ok (wrap64 (0 + 1))) (nmOf_ok j2) k0 k1 k2
          have HRI := Lib.hid hri
          have HAU := Lib.hid hA.up
          obtain ⟨W, hW⟩ : ∃ W, W = w1.alloc (.cells #[.string (({ data := #[120] } : ByteArray)), .slice (some ⟨wr.heap.size + 2, 0, none⟩) 4 4, .slice (some ⟨wr.heap.size + 7, 0, none⟩) 2 2, .slice (some ⟨wr.heap.size + 10, 0, none⟩) 3 3, .slice (some ⟨wr.heap.size + 3, 0, none⟩) 2 2] 29) := ⟨_, rfl⟩
          have hal : Upd (fun _ => False) w1 W := by rw [hW]; exact Upd.alloc (fun _ => False) _ _
          have hbk : W.heap[w1.heap.size]? = some (.cells #[.string (({ data := #[120] } : ByteArray)), .slice (some ⟨wr.heap.size + 2, 0, none⟩) 4 4, .slice (some ⟨wr.heap.size + 7, 0, none⟩) 2 2, .slice (some ⟨wr.heap.size + 10, 0, none⟩) 3 3, .slice (some ⟨wr.heap.size + 3, 0, none⟩) 2 2] 29 (0, 0)) := by rw [hW]; exact blk_top _ _ _ rfl
          have hAW := hA.keep hal
          have hI : Img W (img5 (({ data := #[120] } : ByteArray)) (.slice (some ⟨wr.heap.size + 2, 0, none⟩) 4 4) (.slice (some ⟨wr.heap.size + 7, 0, none⟩) 2 2) (.slice (some ⟨wr.heap.size + 10, 0, none⟩) 3 3) (.slice (some ⟨wr.heap.size + 3, 0, none⟩) 2 2)) ⟨({ data := #[120] } : ByteArray), [1, 2, 3, 4], appImps (nmOf (wrap64 (0 + 1))) (nmOf j2), appMets C0 C1 C2, [1, 2]⟩ :=
            ⟨_, _, _, _, rfl, Ints.blk hAW.b2 [1, 2, 3, 4] ⟨[], rfl⟩ 4 (by decide) (by decide) (by simp [wi64]), hAW.imps, hAW.mets, Ints.blk hAW.b3 [1, 2] ⟨[], rfl⟩ 2 (by decide) (by decide) (by simp [wi64]), by show (1 : Nat) ≤ maxLen; unfold maxLen; omega⟩
          have HI := Lib.hid hI
          have HBK := Lib.hid hbk
          have HUW := Lib.hid ((HU.out.trans HAU.out (fun _ h _ => h)).trans hal (fun _ h _ => h))
          have HWW := Lib.hid hW
          clear hri hA k0 k1 k2 hal hbk hAW hI hW
          go_wp2_with fail
          rw [← HWW.out]
          refine (tPrint HI.out (HT.out.kept (upd_below HUW.out)) HUW.out.size).mono ?_
          rintro e w2 ⟨rfl, hu⟩
          rw [print_yes HRI.out.symm]
          have HU2 := Lib.hid (HUW.out.trans hu (fun _ h _ => h))
          have HI2 := Lib.hid (HI.out.later (upd_below hu))
          have hlt := (Array.getElem?_eq_some_iff.1 HBK.out).1
          have HBK2 := Lib.hid ((hu.block w1.heap.size hlt id).trans HBK.out)
          have hln := right_len HRI.out
          have HPB := Lib.hid (parse_back HRI.out)
          clear hu hlt HWW HBK HI HUW
          generalize w1.heap.size = X at *
          obtain ⟨I, hIe⟩ : ∃ I : ImgM, I = ⟨({ data := #[120] } : ByteArray), [1, 2, 3, 4], appImps (nmOf (wrap64 (0 + 1))) (nmOf j2), appMets C0 C1 C2, [1, 2]⟩ := ⟨_, rfl⟩
          have hnm : I.name = ({ data := #[120] } : ByteArray) := by rw [hIe]
          rw [← hIe] at HI2 HPB hln ⊢
          have HNI := Lib.hid hnm
          clear hIe hnm
          dsimp only
          go_wp2_with fail
          refine (tParse (linesI I) _ (by unfold maxLen; omega)).mono ?_
          rintro e w4 ⟨v4, rfl, hI4, hu⟩
          rw [HPB.out] at hI4 ⊢
          obtain ⟨fb, fd, ib, id', mb, md, xb, xd, rfl⟩ := img_openE hI4
          have hal := Upd.alloc (fun _ => False) w4 (.cells #[.string I.name, .slice fb I.fields.length fd, .slice ib I.imports.length id', .slice mb I.methods.length md, .slice xb I.exports.length xd] IMG)
          have HU4 := Lib.hid ((HU2.out.trans hu (fun _ h _ => h)).trans hal (fun _ h _ => h))
          have HI5 := Lib.hid ((HI2.out.later (upd_below hu)).later (upd_below hal))
          have HJ5 := Lib.hid (hI4.later (upd_below hal))
          have hbk4 := (hu.block X (Array.getElem?_eq_some_iff.1 HBK2.out).1 id).trans HBK2.out
          have HBK5 := Lib.hid ((hal.block X (Array.getElem?_eq_some_iff.1 hbk4).1 id).trans hbk4)
          have HBJ5 := Lib.hid (blk_top w4 (.cells #[.string I.name, .slice fb I.fields.length fd, .slice ib I.imports.length id', .slice mb I.methods.length md, .slice xb I.exports.length xd] IMG) w4.heap.size rfl)
          clear hI4 hu hal hbk4
          dsimp only
          go_wp2_with fail
          refine (known5 _).mono ?_
          rintro e w5 ⟨rfl, hu⟩
          have HU5 := Lib.hid (HU4.out.trans hu (fun _ h _ => h))
          have HI6 := Lib.hid (HI5.out.later (upd_below hu))
          have HJ6 := Lib.hid (HJ5.out.later (upd_below hu))
          have hb6 := (hu.block X (Array.getElem?_eq_some_iff.1 HBK5.out).1 id).trans HBK5.out
          have hj6 := (hu.block w4.heap.size (Array.getElem?_eq_some_iff.1 HBJ5.out).1 id).trans HBJ5.out
          rw [HNI.out] at hj6 HJ6
          have x0 := cells_at6 hb6 0 _ rfl
          have x1 := cells_at6 hb6 1 _ rfl
          have x2 := cells_at6 hb6 2 _ rfl
          have x3 := cells_at6 hb6 3 _ rfl
          have x4 := cells_at6 hb6 4 _ rfl
          have y0 := cells_at6 hj6 0 _ rfl
          have y1 := cells_at6 hj6 1 _ rfl
          have y2 := cells_at6 hj6 2 _ rfl
          have y3 := cells_at6 hj6 3 _ rfl
          have y4 := cells_at6 hj6 4 _ rfl
          generalize w4.heap.size = Y at *
          have hnn : ((({ data := #[120] } : ByteArray)).toList == (({ data := #[120] } : ByteArray)).toList) = true := by simp
          clear hu hb6 hj6
          go_wp2_with fail
          refine (rSame _ _ _ I I HI6.out HJ6.out).mono ?_
          rintro e w6 ⟨r, rfl, hr, hu⟩
          obtain rfl : r = true := hr.2 rfl
          have HU6 := Lib.hid (HU5.out.trans hu (fun _ h _ => h))
          clear hu hr
          go_wp2_with fail
          go_ret
          exact ⟨rfl, HU6.out⟩
        · subst h2
          go_wp2_with fail
          refine (hAppletR _ 0 _ [] (raws_nilH _) (by simp) rfl HB1.out).mono ?_
          rintro e w1 ⟨s0, s1, s2, c0, c1, c2, C0, C1, C2, rfl, hA, ⟨k0, k1, k2⟩, rfl, rfl, ⟨j2, rfl⟩⟩
          have hri : imgB insB ⟨bs y, [1, 2, 3, 4], appImps (nmOf (wrap64 (0 + 1))) (nmOf j2), appMets C0 C1 C2, [1, 2]⟩ = true := applet_ok HOK.out.1 (nmOf_ok (wrap64 (0 + 1))) (nmOf_ok j2) k0 k1 k2
          have HRI := Lib.hid hri
          have HAU := Lib.hid hA.up
          obtain ⟨W, hW⟩ : ∃ W, W = w1.alloc (.cells #[.string (bs y), .slice (some ⟨wr.heap.size + 2, 0, none⟩) 4 4, .slice (some ⟨wr.heap.size + 7, 0, none⟩) 2 2, .slice (some ⟨wr.heap.size + 10, 0, none⟩) 3 3, .slice (some ⟨wr.heap.size + 3, 0, none⟩) 2 2] 29) := ⟨_, rfl⟩
          have hal : Upd (fun _ => False) w1 W := by rw [hW]; exact Upd.alloc (fun _ => False) _ _
          have hbk : W.heap[w1.heap.size]? = some (.cells #[.string (bs y), .slice (some ⟨wr.heap.size + 2, 0, none⟩) 4 4, .slice (some ⟨wr.heap.size + 7, 0, none⟩) 2 2, .slice (some ⟨wr.heap.size + 10, 0, none⟩) 3 3, .slice (some ⟨wr.heap.size + 3, 0, none⟩) 2 2] 29 (0, 0)) := by rw [hW]; exact blk_top _ _ _ rfl
          have hAW := hA.keep hal
          have hI : Img W (img5 (bs y) (.slice (some ⟨wr.heap.size + 2, 0, none⟩) 4 4) (.slice (some ⟨wr.heap.size + 7, 0, none⟩) 2 2) (.slice (some ⟨wr.heap.size + 10, 0, none⟩) 3 3) (.slice (some ⟨wr.heap.size + 3, 0, none⟩) 2 2)) ⟨bs y, [1, 2, 3, 4], appImps (nmOf (wrap64 (0 + 1))) (nmOf j2), appMets C0 C1 C2, [1, 2]⟩ :=
            ⟨_, _, _, _, rfl, Ints.blk hAW.b2 [1, 2, 3, 4] ⟨[], rfl⟩ 4 (by decide) (by decide) (by simp [wi64]), hAW.imps, hAW.mets, Ints.blk hAW.b3 [1, 2] ⟨[], rfl⟩ 2 (by decide) (by decide) (by simp [wi64]), by show (bs y).size ≤ maxLen; unfold maxLen; omega⟩
          have HI := Lib.hid hI
          have HBK := Lib.hid hbk
          have HUW := Lib.hid ((HU.out.trans HAU.out (fun _ h _ => h)).trans hal (fun _ h _ => h))
          have HWW := Lib.hid hW
          clear hri hA k0 k1 k2 hal hbk hAW hI hW
          go_wp2_with fail
          rw [← HWW.out]
          refine (tPrint HI.out (HT.out.kept (upd_below HUW.out)) HUW.out.size).mono ?_
          rintro e w2 ⟨rfl, hu⟩
          rw [print_yes HRI.out.symm]
          have HU2 := Lib.hid (HUW.out.trans hu (fun _ h _ => h))
          have HI2 := Lib.hid (HI.out.later (upd_below hu))
          have hlt := (Array.getElem?_eq_some_iff.1 HBK.out).1
          have HBK2 := Lib.hid ((hu.block w1.heap.size hlt id).trans HBK.out)
          have hln := right_len HRI.out
          have HPB := Lib.hid (parse_back HRI.out)
          clear hu hlt HWW HBK HI HUW
          generalize w1.heap.size = X at *
          obtain ⟨I, hIe⟩ : ∃ I : ImgM, I = ⟨bs y, [1, 2, 3, 4], appImps (nmOf (wrap64 (0 + 1))) (nmOf j2), appMets C0 C1 C2, [1, 2]⟩ := ⟨_, rfl⟩
          have hnm : I.name = bs y := by rw [hIe]
          rw [← hIe] at HI2 HPB hln ⊢
          have HNI := Lib.hid hnm
          clear hIe hnm
          dsimp only
          go_wp2_with fail
          refine (tParse (linesI I) _ (by unfold maxLen; omega)).mono ?_
          rintro e w4 ⟨v4, rfl, hI4, hu⟩
          rw [HPB.out] at hI4 ⊢
          obtain ⟨fb, fd, ib, id', mb, md, xb, xd, rfl⟩ := img_openE hI4
          have hal := Upd.alloc (fun _ => False) w4 (.cells #[.string I.name, .slice fb I.fields.length fd, .slice ib I.imports.length id', .slice mb I.methods.length md, .slice xb I.exports.length xd] IMG)
          have HU4 := Lib.hid ((HU2.out.trans hu (fun _ h _ => h)).trans hal (fun _ h _ => h))
          have HI5 := Lib.hid ((HI2.out.later (upd_below hu)).later (upd_below hal))
          have HJ5 := Lib.hid (hI4.later (upd_below hal))
          have hbk4 := (hu.block X (Array.getElem?_eq_some_iff.1 HBK2.out).1 id).trans HBK2.out
          have HBK5 := Lib.hid ((hal.block X (Array.getElem?_eq_some_iff.1 hbk4).1 id).trans hbk4)
          have HBJ5 := Lib.hid (blk_top w4 (.cells #[.string I.name, .slice fb I.fields.length fd, .slice ib I.imports.length id', .slice mb I.methods.length md, .slice xb I.exports.length xd] IMG) w4.heap.size rfl)
          clear hI4 hu hal hbk4
          dsimp only
          go_wp2_with fail
          refine (known5 _).mono ?_
          rintro e w5 ⟨rfl, hu⟩
          have HU5 := Lib.hid (HU4.out.trans hu (fun _ h _ => h))
          have HI6 := Lib.hid (HI5.out.later (upd_below hu))
          have HJ6 := Lib.hid (HJ5.out.later (upd_below hu))
          have hb6 := (hu.block X (Array.getElem?_eq_some_iff.1 HBK5.out).1 id).trans HBK5.out
          have hj6 := (hu.block w4.heap.size (Array.getElem?_eq_some_iff.1 HBJ5.out).1 id).trans HBJ5.out
          rw [HNI.out] at hj6 HJ6
          have x0 := cells_at6 hb6 0 _ rfl
          have x1 := cells_at6 hb6 1 _ rfl
          have x2 := cells_at6 hb6 2 _ rfl
          have x3 := cells_at6 hb6 3 _ rfl
          have x4 := cells_at6 hb6 4 _ rfl
          have y0 := cells_at6 hj6 0 _ rfl
          have y1 := cells_at6 hj6 1 _ rfl
          have y2 := cells_at6 hj6 2 _ rfl
          have y3 := cells_at6 hj6 3 _ rfl
          have y4 := cells_at6 hj6 4 _ rfl
          generalize w4.heap.size = Y at *
          have hnn : ((bs y).toList == (bs y).toList) = true := by simp
          clear hu hb6 hj6
          go_wp2_with fail
          refine (rSame _ _ _ I I HI6.out HJ6.out).mono ?_
          rintro e w6 ⟨r, rfl, hr, hu⟩
          obtain rfl : r = true := hr.2 rfl
          have HU6 := Lib.hid (HU5.out.trans hu (fun _ h _ => h))
          clear hu hr
          go_wp2_with fail
          go_ret
          exact ⟨rfl, HU6.out⟩
end
end Go.Proofs.YtbjmmdomdijilabDoor

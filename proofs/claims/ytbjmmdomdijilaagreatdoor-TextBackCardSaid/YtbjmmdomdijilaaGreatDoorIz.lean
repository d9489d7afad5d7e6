/- Package image's Same. -/
import Derived.Test.YtbjmmdomdijilaaGreatDoorIs
import Derived.Deep.QuietTactic
import Derived.BigQuiet
namespace Go.Proofs.YtbjmmdomdijilaaGreatDoor
open Go.RowKit Go.Lib Go.Shelf
set_option linter.unusedVariables false

theorem upd_drewN (S : Nat → Prop) (w : World) (n : Nat) : Upd S w (w.drewN n) := ⟨rfl, rfl, rfl, Nat.le_refl _, fun _ _ _ => rfl⟩
theorem take_eq {α : Type} [Inhabited α] {L M : List α} {k : Nat} (h1 : k < L.length) (h2 : k < M.length) (h : L.take k = M.take k) (he : L.getD k default = M.getD k default) : L.take (k + 1) = M.take (k + 1) := by
  rw [List.take_succ_eq_append_getElem h1, List.take_succ_eq_append_getElem h2, h]
  have e1 : L.getD k default = L[k] := by simp [List.getD, h1]
  have e2 : M.getD k default = M[k] := by simp [List.getD, h2]
  rw [← e1, ← e2, he]
theorem take_ne {α : Type} [Inhabited α] {L M : List α} {k : Nat} (he : L.getD k default ≠ M.getD k default) : L ≠ M := fun h => he (by rw [h])
theorem take_all {α : Type} {L M : List α} {k : Nat} (h1 : L.length ≤ k) (h2 : M.length ≤ k) (h : L.take k = M.take k) : L = M := by
  rwa [List.take_of_length_le h1, List.take_of_length_le h2] at h

set_option maxRecDepth 100000 in
set_option maxHeartbeats 2000000 in
theorem cEqInts (w : World) (v u : Value) (L M : List Int) (h : Ints w v L) (k : Ints w u M) :
    Calls Tryz.prog 39 #[v, u] w fun e w' => e = .returned (.bool (decide (L = M))) ∧ Upd (fun _ => False) w w' := by
  have HL := Lib.hid h
  have HM := Lib.hid k
  obtain ⟨a, c, rfl, h1, h2⟩ := h.slice
  obtain ⟨a', c', rfl, h1', h2'⟩ := k.slice
  clear h k
  unfold maxLen at h2 h2'
  by_cases hl : L.length = M.length
  · have hb : ((L.length : Int) == (M.length : Int)) = true := by simp [hl]
    have hb' : ((L.length : Int) != (M.length : Int)) = false := by simp [bne, hb]
    have H0 := Lib.hid (Upd.refl (fun _ => False) w)
    have HT0 : Hid (L.take 0 = M.take 0) := Lib.hid rfl
    have hle : L.length ≤ M.length := by omega
    have hge : M.length ≤ L.length := by omega
    clear hl
    go_enter Tryz.func39, Tryz.ntmps39
    go_wp2_with fail
    go_loopw [13, 5] (fun i _ wr => ∃ k : Nat, k ≤ L.length ∧ i = .int .i64 k ∧ Hid (Upd (fun _ => False) w wr) ∧ Hid (L.take k = M.take k)) (fun i _ _ => L.length - (intOf i).toNat)
    case atStart => exact ⟨0, Nat.zero_le _, rfl, H0, HT0⟩
    case round =>
      obtain ⟨k, hk, rfl, HU, HT⟩ := hrel
      by_cases hlt : k < L.length
      · have hltm : k < M.length := by omega
        obtain ⟨g1, o1, rfl, hc1, -⟩ := (HL.out.later (upd_below HU.out)).at hlt
        obtain ⟨g2, o2, rfl, hc2, -⟩ := (HM.out.later (upd_below HU.out)).at hltm
        obtain ⟨n, hn⟩ : ∃ n, n = L.getD k 0 := ⟨_, rfl⟩
        obtain ⟨m, hm⟩ : ∃ m, m = M.getD k 0 := ⟨_, rfl⟩
        rw [← hn] at hc1
        rw [← hm] at hc2
        have HN := Lib.hid hn
        have HMM := Lib.hid hm
        have hi1 : (0 : Int) ≤ (k : Int) := Int.natCast_nonneg _
        have hi2 : (k : Int) < (L.length : Int) := by omega
        have hi3 : (k : Int) < (M.length : Int) := by omega
        clear hn hm
        by_cases he : n = m
        · have hq : (n == m) = true := by simp [he]
          have hq' : (n != m) = false := by simp [bne, hq]
          have HT2 := Lib.hid (take_eq hlt hltm HT.out (by show L.getD k 0 = M.getD k 0; rw [← HN.out, ← HMM.out, he]))
          clear he
          go_wp2_with fail
          go_quiet (fail)
          go_wp2_with fail
          go_roundw
          case rel => exact ⟨k + 1, by omega, by go_num, Lib.hid (HU.out.trans (upd_drewN _ _ _) (fun _ h _ => h)), HT2⟩
          case measure => simp [intOf]; omega
        · have hq : (n == m) = false := beq_eq_false_iff_ne.2 he
          have hq' : (n != m) = true := by simp [bne, hq]
          have HF := Lib.hid (show L ≠ M from take_ne (k := k) (by show L.getD k 0 ≠ M.getD k 0; rw [← HN.out, ← HMM.out]; exact he))
          clear he
          go_wp2_with fail
          go_quiet (fail)
          go_wp2_with fail
          go_ret
          exact ⟨ret_bool (by simp [HF.out]), HU.out.trans (upd_drewN _ _ _) (fun _ h _ => h)⟩
      · have HE := Lib.hid (show L = M from take_all (k := k) (by omega) (by omega) HT.out)
        go_wp2_with fail
        go_ret
        exact ⟨ret_bool (by simp [HE.out]), HU.out⟩
  · have hb : ((L.length : Int) == (M.length : Int)) = false := beq_eq_false_iff_ne.2 (by omega)
    have hb' : ((L.length : Int) != (M.length : Int)) = true := by simp [bne, hb]
    have HF := Lib.hid (show L ≠ M from fun h => hl (by rw [h]))
    clear hl
    go_enter Tryz.func39, Tryz.ntmps39
    go_wp2_with fail
    go_ret
    exact ⟨ret_bool (by simp [HF.out]), Upd.refl _ _⟩
set_option maxRecDepth 100000 in
set_option maxHeartbeats 2000000 in
theorem cEqCode (w : World) (v u : Value) (L M : List InsM) (h : Inss w v L) (k : Inss w u M) :
    Calls Tryz.prog 69 #[v, u] w fun e w' => e = .returned (.bool (decide (L = M))) ∧ Upd (fun _ => False) w w' := by
  have HL := Lib.hid h
  have HM := Lib.hid k
  obtain ⟨a, c, rfl, h1, h2⟩ := h.slice
  obtain ⟨a', c', rfl, h1', h2'⟩ := k.slice
  clear h k
  unfold maxLen at h2 h2'
  by_cases hl : L.length = M.length
  · have hb : ((L.length : Int) == (M.length : Int)) = true := by simp [hl]
    have hb' : ((L.length : Int) != (M.length : Int)) = false := by simp [bne, hb]
    have H0 := Lib.hid (Upd.refl (fun _ => False) w)
    have HT0 : Hid (L.take 0 = M.take 0) := Lib.hid rfl
    have hle : L.length ≤ M.length := by omega
    have hge : M.length ≤ L.length := by omega
    clear hl
    go_enter Tryz.func69, Tryz.ntmps69
    go_wp2_with fail
    go_loopw [13, 5] (fun i _ wr => ∃ k : Nat, k ≤ L.length ∧ i = .int .i64 k ∧ Hid (Upd (fun _ => False) w wr) ∧ Hid (L.take k = M.take k)) (fun i _ _ => L.length - (intOf i).toNat)
    case atStart => exact ⟨0, Nat.zero_le _, rfl, H0, HT0⟩
    case round =>
      obtain ⟨k, hk, rfl, HU, HT⟩ := hrel
      by_cases hlt : k < L.length
      · have hltm : k < M.length := by omega
        obtain ⟨g1, o1, rfl, hc1, hd1, he1, -⟩ := (HL.out.later (upd_below HU.out)).at hlt
        obtain ⟨g2, o2, rfl, hc2, hd2, he2, -⟩ := (HM.out.later (upd_below HU.out)).at hltm
        obtain ⟨n, hn⟩ : ∃ n, n = L.getD k default := ⟨_, rfl⟩
        obtain ⟨m, hm⟩ : ∃ m, m = M.getD k default := ⟨_, rfl⟩
        rw [← hn] at hc1 hd1 he1
        rw [← hm] at hc2 hd2 he2
        have HN := Lib.hid hn
        have HMM := Lib.hid hm
        have hi1 : (0 : Int) ≤ (k : Int) := Int.natCast_nonneg _
        have hi2 : (k : Int) < (L.length : Int) := by omega
        have hi3 : (k : Int) < (M.length : Int) := by omega
        clear hn hm
        by_cases h1 : n.op = m.op
        · by_cases h2 : n.a = m.a
          · by_cases h3 : n.b = m.b
            · have he : n = m := by cases n; cases m; simp at h1 h2 h3; simp [h1, h2, h3]
              have HT2 := Lib.hid (take_eq hlt hltm HT.out (by rw [← HN.out, ← HMM.out, he]))
              subst he
              clear h1 h2 h3
              go_wp2_with fail
              go_quiet (fail)
              go_wp2_with fail
              go_roundw
              case rel => exact ⟨k + 1, by omega, by go_num, Lib.hid (HU.out.trans (upd_drewN _ _ _) (fun _ h _ => h)), HT2⟩
              case measure => simp [intOf]; omega
            · have HF := Lib.hid (show L ≠ M from take_ne (k := k) (by rw [← HN.out, ← HMM.out]; intro e; apply h3; rw [e]))
              go_wp2_with fail
              go_quiet (fail)
              go_wp2_with fail
              go_ret
              exact ⟨ret_bool (by simp [HF.out]), HU.out.trans (upd_drewN _ _ _) (fun _ h _ => h)⟩
          · have HF := Lib.hid (show L ≠ M from take_ne (k := k) (by rw [← HN.out, ← HMM.out]; intro e; apply h2; rw [e]))
            go_wp2_with fail
            go_quiet (fail)
            go_wp2_with fail
            go_ret
            exact ⟨ret_bool (by simp [HF.out]), HU.out.trans (upd_drewN _ _ _) (fun _ h _ => h)⟩
        · have HF := Lib.hid (show L ≠ M from take_ne (k := k) (by rw [← HN.out, ← HMM.out]; intro e; apply h1; rw [e]))
          go_wp2_with fail
          go_quiet (fail)
          go_wp2_with fail
          go_ret
          exact ⟨ret_bool (by simp [HF.out]), HU.out.trans (upd_drewN _ _ _) (fun _ h _ => h)⟩
      · have HE := Lib.hid (show L = M from take_all (k := k) (by omega) (by omega) HT.out)
        go_wp2_with fail
        go_ret
        exact ⟨ret_bool (by simp [HE.out]), HU.out⟩
  · have hb : ((L.length : Int) == (M.length : Int)) = false := beq_eq_false_iff_ne.2 (by omega)
    have hb' : ((L.length : Int) != (M.length : Int)) = true := by simp [bne, hb]
    have HF := Lib.hid (show L ≠ M from fun h => hl (by rw [h]))
    clear hl
    go_enter Tryz.func69, Tryz.ntmps69
    go_wp2_with fail
    go_ret
    exact ⟨ret_bool (by simp [HF.out]), Upd.refl _ _⟩

def impE (a b : ImpM) : Bool := (a.name.toList == b.name.toList) && ((a.exp == b.exp) && (decide (a.params = b.params) && (a.res == b.res)))
theorem name_eq {s t : ByteArray} : (s.toList == t.toList) = true ↔ s = t := by rw [same_str]; simp
theorem impE_iff (a b : ImpM) : impE a b = true ↔ a = b := by
  unfold impE
  simp only [Bool.and_eq_true, decide_eq_true_eq, beq_iff_eq (α := Int), name_eq]
  constructor
  · rintro ⟨h1, h2, h3, h4⟩
    cases a; cases b
    simp at h1 h2 h3 h4
    simp [h1, h2, h3, h4]
  · rintro rfl; simp
def metE (a b : MetM) : Bool := decide (a.params = b.params) && ((a.res == b.res) && (decide (a.locals = b.locals) && decide (a.code = b.code)))
theorem metE_iff (a b : MetM) : metE a b = true ↔ a = b := by
  unfold metE
  simp only [Bool.and_eq_true, decide_eq_true_eq, beq_iff_eq]
  constructor
  · rintro ⟨h1, h2, h3, h4⟩
    cases a; cases b
    simp at h1 h2 h3 h4
    simp [h1, h2, h3, h4]
  · rintro rfl; simp
/-- two boxes of four, behind a call that turned nothing -/
theorem boxes4 {w w1 : World} {x y z u x' y' z' u' : Value} {t : TypeId} (hu : Upd (fun _ => False) ((w.alloc (.cells #[x, y, z, u] t)).alloc (.cells #[x', y', z', u'] t)) w1) :
    (w1.cell? ⟨w.heap.size, 0, none⟩ = some x ∧ w1.cell? ⟨w.heap.size, 1, none⟩ = some y ∧ w1.cell? ⟨w.heap.size, 2, none⟩ = some z ∧ w1.cell? ⟨w.heap.size, 3, none⟩ = some u) ∧
    (w1.cell? ⟨w.heap.size + 1, 0, none⟩ = some x' ∧ w1.cell? ⟨w.heap.size + 1, 1, none⟩ = some y' ∧ w1.cell? ⟨w.heap.size + 1, 2, none⟩ = some z' ∧ w1.cell? ⟨w.heap.size + 1, 3, none⟩ = some u') := by
  refine ⟨cell4 ((Upd.alloc (fun _ => False) (w.alloc (.cells #[x, y, z, u] t)) (.cells #[x', y', z', u'] t)).trans hu (fun _ h _ => h)) (fun h => h), ?_⟩
  have := cell4 (w := w.alloc (.cells #[x, y, z, u] t)) hu (fun h => h)
  rwa [show (w.alloc (.cells #[x, y, z, u] t)).heap.size = w.heap.size + 1 by simp] at this

set_option maxHeartbeats 2000000 in
theorem cSameImport (w : World) (v u : Value) (a b : ImpM) (h : Imp w v a) (k : Imp w u b) :
    Calls Tryz.prog 41 #[v, u] w fun e w' => e = .returned (.bool (impE a b)) ∧ Upd (fun _ => False) w w' := by
  have HN := Lib.hid (show impE a b = ((a.name.toList == b.name.toList) && ((a.exp == b.exp) && (decide (a.params = b.params) && (a.res == b.res)))) from rfl)
  obtain ⟨pv, rfl, hp, -⟩ := h
  obtain ⟨qv, rfl, hq, -⟩ := k
  have HP := Lib.hid hp
  have HQ := Lib.hid hq
  obtain ⟨pa, pc, rfl, -, -⟩ := hp.slice
  obtain ⟨qa, qc, rfl, -, -⟩ := hq.slice
  have HA := Lib.hid ((Upd.alloc (fun _ => False) w (.cells #[.string a.name, .int .i64 a.exp, .slice pa a.params.length pc, .int .i64 a.res] 49)).trans (Upd.alloc (fun _ => False) _ (.cells #[.string b.name, .int .i64 b.exp, .slice qa b.params.length qc, .int .i64 b.res] 49)) (fun _ h _ => h))
  clear hp hq
  cases h1 : (a.name.toList == b.name.toList) with
  | false =>
    have H1 := Lib.hid h1
    go_enter Tryz.func41, Tryz.ntmps41
    go_wp2_with fail
    go_ret
    exact ⟨ret_bool (by rw [HN.out, H1.out]; rfl), HA.out⟩
  | true =>
    have H1 := Lib.hid h1
    cases h2 : (a.exp == b.exp) with
    | false =>
      have H2 := Lib.hid h2
      go_enter Tryz.func41, Tryz.ntmps41
      go_wp2_with fail
      go_ret
      exact ⟨ret_bool (by rw [HN.out, H1.out, H2.out]; rfl), HA.out⟩
    | true =>
      have H2 := Lib.hid h2
      go_enter Tryz.func41, Tryz.ntmps41
      go_wp2_with fail
      refine (cEqInts _ _ _ a.params b.params (HP.out.later (upd_below HA.out)) (HQ.out.later (upd_below HA.out))).mono ?_
      rintro e w1 ⟨rfl, hu⟩
      obtain ⟨⟨-, -, -, c3⟩, -, -, -, d3⟩ := boxes4 hu
      have HU := Lib.hid (HA.out.trans hu (fun _ h _ => h))
      obtain ⟨q, hq⟩ : ∃ q, q = decide (a.params = b.params) := ⟨_, rfl⟩
      rw [← hq]
      have HQQ := Lib.hid hq
      clear hu hq
      cases q with
      | false =>
        go_wp2_with fail
        go_ret
        exact ⟨ret_bool (by rw [HN.out, H1.out, H2.out, ← HQQ.out]; rfl), HU.out⟩
      | true =>
        go_wp2_with fail
        go_ret
        exact ⟨ret_bool (by rw [HN.out, H1.out, H2.out, ← HQQ.out]; rfl), HU.out⟩

set_option maxHeartbeats 2000000 in
theorem cSameMethod (w : World) (v u : Value) (a b : MetM) (h : Met w v a) (k : Met w u b) :
    Calls Tryz.prog 43 #[v, u] w fun e w' => e = .returned (.bool (metE a b)) ∧ Upd (fun _ => False) w w' := by
  have HN := Lib.hid (show metE a b = (decide (a.params = b.params) && ((a.res == b.res) && (decide (a.locals = b.locals) && decide (a.code = b.code)))) from rfl)
  obtain ⟨p1, l1, c1, rfl, hp1, hl1, hc1, -⟩ := h
  obtain ⟨p2, l2, c2, rfl, hp2, hl2, hc2, -⟩ := k
  have HP1 := Lib.hid hp1
  have HP2 := Lib.hid hp2
  have HL1 := Lib.hid hl1
  have HL2 := Lib.hid hl2
  have HC1 := Lib.hid hc1
  have HC2 := Lib.hid hc2
  obtain ⟨pa, pc, rfl, -, -⟩ := hp1.slice
  obtain ⟨qa, qc, rfl, -, -⟩ := hp2.slice
  obtain ⟨la, lc, rfl, -, -⟩ := hl1.slice
  obtain ⟨ma, mc, rfl, -, -⟩ := hl2.slice
  obtain ⟨ca, cc, rfl, -, -⟩ := hc1.slice
  obtain ⟨da, dc, rfl, -, -⟩ := hc2.slice
  have HA := Lib.hid ((Upd.alloc (fun _ => False) w (.cells #[.slice pa a.params.length pc, .int .i64 a.res, .slice la a.locals.length lc, .slice ca a.code.length cc] 45)).trans (Upd.alloc (fun _ => False) _ (.cells #[.slice qa b.params.length qc, .int .i64 b.res, .slice ma b.locals.length mc, .slice da b.code.length dc] 45)) (fun _ h _ => h))
  clear hp1 hp2 hl1 hl2 hc1 hc2
  go_enter Tryz.func43, Tryz.ntmps43
  go_wp2_with fail
  refine (cEqInts _ _ _ a.params b.params (HP1.out.later (upd_below HA.out)) (HP2.out.later (upd_below HA.out))).mono ?_
  rintro e w1 ⟨rfl, hu⟩
  have HB := Lib.hid hu
  obtain ⟨⟨-, i1, i2, i3⟩, -, j1, j2, j3⟩ := boxes4 hu
  have HU := Lib.hid (HA.out.trans hu (fun _ h _ => h))
  obtain ⟨q, hq⟩ : ∃ q, q = decide (a.params = b.params) := ⟨_, rfl⟩
  rw [← hq]
  have HQ := Lib.hid hq
  clear hu hq
  cases q with
  | false =>
    go_wp2_with fail
    go_ret
    exact ⟨ret_bool (by rw [HN.out, ← HQ.out]; rfl), HU.out⟩
  | true =>
    cases h2 : (a.res == b.res) with
    | false =>
      have H2 := Lib.hid h2
      go_wp2_with fail
      go_ret
      exact ⟨ret_bool (by rw [HN.out, ← HQ.out, H2.out]; rfl), HU.out⟩
    | true =>
      have H2 := Lib.hid h2
      go_wp2_with fail
      refine (cEqInts _ _ _ a.locals b.locals (HL1.out.later (upd_below HU.out)) (HL2.out.later (upd_below HU.out))).mono ?_
      rintro e w2 ⟨rfl, hu⟩
      have hu2 := HB.out.trans hu (fun _ h _ => h)
      clear i1 i2 i3 j1 j2 j3
      obtain ⟨⟨-, i1, i2, i3⟩, -, j1, j2, j3⟩ := boxes4 hu2
      have HU2 := Lib.hid (HA.out.trans hu2 (fun _ h _ => h))
      obtain ⟨q, hq⟩ : ∃ q, q = decide (a.locals = b.locals) := ⟨_, rfl⟩
      rw [← hq]
      have HQ2 := Lib.hid hq
      clear hu hu2 hq
      cases q with
      | false =>
        go_wp2_with fail
        go_ret
        exact ⟨ret_bool (by rw [HN.out, ← HQ.out, H2.out, ← HQ2.out]; rfl), HU2.out⟩
      | true =>
        go_wp2_with fail
        refine (cEqCode _ _ _ a.code b.code (HC1.out.later (upd_below HU2.out)) (HC2.out.later (upd_below HU2.out))).mono ?_
        rintro e w3 ⟨rfl, hu⟩
        have HU3 := Lib.hid (HU2.out.trans hu (fun _ h _ => h))
        clear hu i1 i2 i3 j1 j2 j3
        go_wp2_with fail
        go_ret
        exact ⟨ret_bool (by rw [HN.out, ← HQ.out, H2.out, ← HQ2.out]; rfl), HU3.out⟩

theorem later {W w : World} {p : Addr} {v : Value} (hb : Below W.heap.size W w) (h : W.cell? p = some v) : w.cell? p = some v := (hb.cell (World.block_lt_of_cell? W _ h)).trans h

set_option maxRecDepth 100000 in
set_option maxHeartbeats 4000000 in
theorem cEqImps (w : World) (v u : Value) (L M : List ImpM) (h : Imps w v L) (k : Imps w u M) :
    Calls Tryz.prog 40 #[v, u, .func (.func 41) #[] #[]] w fun e w' => ∃ r : Bool, e = .returned (.bool r) ∧ (r = true ↔ L = M) ∧ Upd (fun _ => False) w w' := by
  have HL := Lib.hid h
  have HM := Lib.hid k
  obtain ⟨a, c, rfl, h1, h2⟩ := h.slice
  obtain ⟨a', c', rfl, h1', h2'⟩ := k.slice
  clear h k
  unfold maxLen at h2 h2'
  by_cases hl : L.length = M.length
  · have hb : ((L.length : Int) == (M.length : Int)) = true := by simp [hl]
    have hb' : ((L.length : Int) != (M.length : Int)) = false := by simp [bne, hb]
    have H0 := Lib.hid (Upd.refl (fun _ => False) w)
    have HT0 : Hid (L.take 0 = M.take 0) := Lib.hid rfl
    have hle : L.length ≤ M.length := by omega
    have hge : M.length ≤ L.length := by omega
    clear hl
    go_enter Tryz.func40, Tryz.ntmps40
    go_wp2_with fail
    go_loopw [17, 7, 8, 9] (fun i _ _ _ wr => ∃ k : Nat, k ≤ L.length ∧ i = .int .i64 k ∧ Hid (Upd (fun _ => False) w wr) ∧ Hid (L.take k = M.take k)) (fun i _ _ _ _ => L.length - (intOf i).toNat)
    case atStart => exact ⟨0, Nat.zero_le _, rfl, H0, HT0⟩
    case round =>
      obtain ⟨k, hk, rfl, HU, HT⟩ := hrel
      by_cases hlt : k < L.length
      · have hltm : k < M.length := by omega
        obtain ⟨g1, o1, pv, rfl, hc0, hc1, hc2, hc3, hX⟩ := (HL.out.later (upd_below HU.out)).at hlt
        obtain ⟨g2, o2, qv, rfl, hd0, hd1, hd2, hd3, hY⟩ := (HM.out.later (upd_below HU.out)).at hltm
        obtain ⟨n, hn⟩ : ∃ n, n = L.getD k default := ⟨_, rfl⟩
        obtain ⟨m, hm⟩ : ∃ m, m = M.getD k default := ⟨_, rfl⟩
        try rw [← hn] at hc0
        try rw [← hn] at hc1
        try rw [← hn] at hc2
        try rw [← hn] at hc3
        rw [← hn] at hX
        try rw [← hm] at hd0
        try rw [← hm] at hd1
        try rw [← hm] at hd2
        try rw [← hm] at hd3
        rw [← hm] at hY
        obtain ⟨pa, pc, rfl, -, -⟩ := hX.1.slice
        obtain ⟨qa, qc, rfl, -, -⟩ := hY.1.slice
        have HX := Lib.hid (show Imp wr (imp4 n.name n.exp (.slice pa n.params.length pc) n.res) n from ⟨_, rfl, hX⟩)
        have HY := Lib.hid (show Imp wr (imp4 m.name m.exp (.slice qa m.params.length qc) m.res) m from ⟨_, rfl, hY⟩)
        have HN := Lib.hid hn
        have HMM := Lib.hid hm
        have HA := Lib.hid ((Upd.alloc (fun _ => False) wr (.cells #[.string n.name, .int .i64 n.exp, .slice pa n.params.length pc, .int .i64 n.res] 49)).trans (Upd.alloc (fun _ => False) _ (.cells #[.string m.name, .int .i64 m.exp, .slice qa m.params.length qc, .int .i64 m.res] 49)) (fun _ h _ => h))
        clear hn hm hX hY
        have hd0' := later (upd_below (Upd.alloc (fun _ => False) wr (.cells #[.string n.name, .int .i64 n.exp, .slice pa n.params.length pc, .int .i64 n.res] 49))) hd0
        have hd1' := later (upd_below (Upd.alloc (fun _ => False) wr (.cells #[.string n.name, .int .i64 n.exp, .slice pa n.params.length pc, .int .i64 n.res] 49))) hd1
        have hd2' := later (upd_below (Upd.alloc (fun _ => False) wr (.cells #[.string n.name, .int .i64 n.exp, .slice pa n.params.length pc, .int .i64 n.res] 49))) hd2
        have hd3' := later (upd_below (Upd.alloc (fun _ => False) wr (.cells #[.string n.name, .int .i64 n.exp, .slice pa n.params.length pc, .int .i64 n.res] 49))) hd3
        go_wp2_with fail
        refine (cSameImport _ _ _ n m (HX.out.later (upd_below HA.out)) (HY.out.later (upd_below HA.out))).mono ?_
        rintro e w2 ⟨rfl, hu⟩
        have HU2 := Lib.hid ((HU.out.trans HA.out (fun _ h _ => h)).trans hu (fun _ h _ => h))
        obtain ⟨q, hq⟩ : ∃ q, q = impE n m := ⟨_, rfl⟩
        rw [← hq]
        have HQ := Lib.hid hq
        clear hu hq hc0 hc1 hc2 hc3 hd0 hd1 hd2 hd3 hd0' hd1' hd2' hd3'
        cases q with
        | true =>
          have HT2 := Lib.hid (take_eq hlt hltm HT.out (by rw [← HN.out, ← HMM.out]; exact (impE_iff n m).1 HQ.out.symm))
          go_wp2_with fail
          go_roundw
          case rel => exact ⟨k + 1, by omega, by go_num, HU2, HT2⟩
          case measure => simp [intOf]; omega
        | false =>
          have HF := Lib.hid (show L ≠ M from take_ne (k := k) (by rw [← HN.out, ← HMM.out]; intro e; have := (impE_iff n m).2 e; rw [← HQ.out] at this; cases this))
          go_wp2_with fail
          go_ret
          exact ⟨_, rfl, by simp [HF.out], HU2.out⟩
      · have HE := Lib.hid (show L = M from take_all (k := k) (by omega) (by omega) HT.out)
        go_wp2_with fail
        go_ret
        exact ⟨_, rfl, by simp [HE.out], HU.out⟩
  · have hb : ((L.length : Int) == (M.length : Int)) = false := beq_eq_false_iff_ne.2 (by omega)
    have hb' : ((L.length : Int) != (M.length : Int)) = true := by simp [bne, hb]
    have HF := Lib.hid (show L ≠ M from fun h => hl (by rw [h]))
    clear hl
    go_enter Tryz.func40, Tryz.ntmps40
    go_wp2_with fail
    go_ret
    exact ⟨_, rfl, by simp [HF.out], Upd.refl _ _⟩

set_option maxRecDepth 100000 in
set_option maxHeartbeats 4000000 in
theorem cEqMets (w : World) (v u : Value) (L M : List MetM) (h : Mets w v L) (k : Mets w u M) :
    Calls Tryz.prog 42 #[v, u, .func (.func 43) #[] #[]] w fun e w' => ∃ r : Bool, e = .returned (.bool r) ∧ (r = true ↔ L = M) ∧ Upd (fun _ => False) w w' := by
  have HL := Lib.hid h
  have HM := Lib.hid k
  obtain ⟨a, c, rfl, h1, h2⟩ := h.slice
  obtain ⟨a', c', rfl, h1', h2'⟩ := k.slice
  clear h k
  unfold maxLen at h2 h2'
  by_cases hl : L.length = M.length
  · have hb : ((L.length : Int) == (M.length : Int)) = true := by simp [hl]
    have hb' : ((L.length : Int) != (M.length : Int)) = false := by simp [bne, hb]
    have H0 := Lib.hid (Upd.refl (fun _ => False) w)
    have HT0 : Hid (L.take 0 = M.take 0) := Lib.hid rfl
    have hle : L.length ≤ M.length := by omega
    have hge : M.length ≤ L.length := by omega
    clear hl
    go_enter Tryz.func42, Tryz.ntmps42
    go_wp2_with fail
    go_loopw [17, 7, 8, 9] (fun i _ _ _ wr => ∃ k : Nat, k ≤ L.length ∧ i = .int .i64 k ∧ Hid (Upd (fun _ => False) w wr) ∧ Hid (L.take k = M.take k)) (fun i _ _ _ _ => L.length - (intOf i).toNat)
    case atStart => exact ⟨0, Nat.zero_le _, rfl, H0, HT0⟩
    case round =>
      obtain ⟨k, hk, rfl, HU, HT⟩ := hrel
      by_cases hlt : k < L.length
      · have hltm : k < M.length := by omega
        obtain ⟨g1, o1, pv, lv, cv, rfl, hc0, hc1, hc2, hc3, hX⟩ := (HL.out.later (upd_below HU.out)).at hlt
        obtain ⟨g2, o2, qv, mv, dv, rfl, hd0, hd1, hd2, hd3, hY⟩ := (HM.out.later (upd_below HU.out)).at hltm
        obtain ⟨n, hn⟩ : ∃ n, n = L.getD k default := ⟨_, rfl⟩
        obtain ⟨m, hm⟩ : ∃ m, m = M.getD k default := ⟨_, rfl⟩
        try rw [← hn] at hc0
        try rw [← hn] at hc1
        try rw [← hn] at hc2
        try rw [← hn] at hc3
        rw [← hn] at hX
        try rw [← hm] at hd0
        try rw [← hm] at hd1
        try rw [← hm] at hd2
        try rw [← hm] at hd3
        rw [← hm] at hY
        obtain ⟨pa, pc, rfl, -, -⟩ := hX.1.slice
        obtain ⟨la, lc, rfl, -, -⟩ := hX.2.1.slice
        obtain ⟨xa, xc, rfl, -, -⟩ := hX.2.2.1.slice
        obtain ⟨qa, qc, rfl, -, -⟩ := hY.1.slice
        obtain ⟨ma, mc, rfl, -, -⟩ := hY.2.1.slice
        obtain ⟨ya, yc, rfl, -, -⟩ := hY.2.2.1.slice
        have HX := Lib.hid (show Met wr (met4 (.slice pa n.params.length pc) n.res (.slice la n.locals.length lc) (.slice xa n.code.length xc)) n from ⟨_, _, _, rfl, hX⟩)
        have HY := Lib.hid (show Met wr (met4 (.slice qa m.params.length qc) m.res (.slice ma m.locals.length mc) (.slice ya m.code.length yc)) m from ⟨_, _, _, rfl, hY⟩)
        have HN := Lib.hid hn
        have HMM := Lib.hid hm
        have HA := Lib.hid ((Upd.alloc (fun _ => False) wr (.cells #[.slice pa n.params.length pc, .int .i64 n.res, .slice la n.locals.length lc, .slice xa n.code.length xc] 45)).trans (Upd.alloc (fun _ => False) _ (.cells #[.slice qa m.params.length qc, .int .i64 m.res, .slice ma m.locals.length mc, .slice ya m.code.length yc] 45)) (fun _ h _ => h))
        clear hn hm hX hY
        have hd0' := later (upd_below (Upd.alloc (fun _ => False) wr (.cells #[.slice pa n.params.length pc, .int .i64 n.res, .slice la n.locals.length lc, .slice xa n.code.length xc] 45))) hd0
        have hd1' := later (upd_below (Upd.alloc (fun _ => False) wr (.cells #[.slice pa n.params.length pc, .int .i64 n.res, .slice la n.locals.length lc, .slice xa n.code.length xc] 45))) hd1
        have hd2' := later (upd_below (Upd.alloc (fun _ => False) wr (.cells #[.slice pa n.params.length pc, .int .i64 n.res, .slice la n.locals.length lc, .slice xa n.code.length xc] 45))) hd2
        have hd3' := later (upd_below (Upd.alloc (fun _ => False) wr (.cells #[.slice pa n.params.length pc, .int .i64 n.res, .slice la n.locals.length lc, .slice xa n.code.length xc] 45))) hd3
        go_wp2_with fail
        refine (cSameMethod _ _ _ n m (HX.out.later (upd_below HA.out)) (HY.out.later (upd_below HA.out))).mono ?_
        rintro e w2 ⟨rfl, hu⟩
        have HU2 := Lib.hid ((HU.out.trans HA.out (fun _ h _ => h)).trans hu (fun _ h _ => h))
        obtain ⟨q, hq⟩ : ∃ q, q = metE n m := ⟨_, rfl⟩
        rw [← hq]
        have HQ := Lib.hid hq
        clear hu hq hc0 hc1 hc2 hc3 hd0 hd1 hd2 hd3 hd0' hd1' hd2' hd3'
        cases q with
        | true =>
          have HT2 := Lib.hid (take_eq hlt hltm HT.out (by rw [← HN.out, ← HMM.out]; exact (metE_iff n m).1 HQ.out.symm))
          go_wp2_with fail
          go_roundw
          case rel => exact ⟨k + 1, by omega, by go_num, HU2, HT2⟩
          case measure => simp [intOf]; omega
        | false =>
          have HF := Lib.hid (show L ≠ M from take_ne (k := k) (by rw [← HN.out, ← HMM.out]; intro e; have := (metE_iff n m).2 e; rw [← HQ.out] at this; cases this))
          go_wp2_with fail
          go_ret
          exact ⟨_, rfl, by simp [HF.out], HU2.out⟩
      · have HE := Lib.hid (show L = M from take_all (k := k) (by omega) (by omega) HT.out)
        go_wp2_with fail
        go_ret
        exact ⟨_, rfl, by simp [HE.out], HU.out⟩
  · have hb : ((L.length : Int) == (M.length : Int)) = false := beq_eq_false_iff_ne.2 (by omega)
    have hb' : ((L.length : Int) != (M.length : Int)) = true := by simp [bne, hb]
    have HF := Lib.hid (show L ≠ M from fun h => hl (by rw [h]))
    clear hl
    go_enter Tryz.func42, Tryz.ntmps42
    go_wp2_with fail
    go_ret
    exact ⟨_, rfl, by simp [HF.out], Upd.refl _ _⟩

theorem boxes5 {w w1 : World} {x y z u s x' y' z' u' s' : Value} {t : TypeId} (hu : Upd (fun _ => False) ((w.alloc (.cells #[x, y, z, u, s] t)).alloc (.cells #[x', y', z', u', s'] t)) w1) :
    (w1.cell? ⟨w.heap.size, 0, none⟩ = some x ∧ w1.cell? ⟨w.heap.size, 1, none⟩ = some y ∧ w1.cell? ⟨w.heap.size, 2, none⟩ = some z ∧ w1.cell? ⟨w.heap.size, 3, none⟩ = some u ∧ w1.cell? ⟨w.heap.size, 4, none⟩ = some s) ∧
    (w1.cell? ⟨w.heap.size + 1, 0, none⟩ = some x' ∧ w1.cell? ⟨w.heap.size + 1, 1, none⟩ = some y' ∧ w1.cell? ⟨w.heap.size + 1, 2, none⟩ = some z' ∧ w1.cell? ⟨w.heap.size + 1, 3, none⟩ = some u' ∧ w1.cell? ⟨w.heap.size + 1, 4, none⟩ = some s') := by
  refine ⟨cell5 ((Upd.alloc (fun _ => False) (w.alloc (.cells #[x, y, z, u, s] t)) (.cells #[x', y', z', u', s'] t)).trans hu (fun _ h _ => h)) (fun h => h), ?_⟩
  have := cell5 (w := w.alloc (.cells #[x, y, z, u, s] t)) hu (fun h => h)
  rwa [show (w.alloc (.cells #[x, y, z, u, s] t)).heap.size = w.heap.size + 1 by simp] at this
theorem img_ext {I J : ImgM} (h1 : I.name = J.name) (h2 : I.fields = J.fields) (h3 : I.imports = J.imports) (h4 : I.methods = J.methods) (h5 : I.exports = J.exports) : I = J := by
  cases I; cases J
  simp at h1 h2 h3 h4 h5
  simp [h1, h2, h3, h4, h5]

set_option maxRecDepth 100000 in
set_option maxHeartbeats 4000000 in
theorem cImgSame (w : World) (v u : Value) (I J : ImgM) (h : Img w v I) (k : Img w u J) :
    Calls Tryz.prog 15 #[v, u] w fun e w' => ∃ r : Bool, e = .returned (.bool r) ∧ (r = true ↔ I = J) ∧ Upd (fun _ => False) w w' := by
  obtain ⟨f, i, m, x, rfl, hf, hi, hm, hx, -⟩ := h
  obtain ⟨g, j, n, y, rfl, hg, hj, hn, hy, -⟩ := k
  have HF := Lib.hid hf
  have HI := Lib.hid hi
  have HM := Lib.hid hm
  have HX := Lib.hid hx
  have HG := Lib.hid hg
  have HJ := Lib.hid hj
  have HN := Lib.hid hn
  have HY := Lib.hid hy
  obtain ⟨fa, fc, rfl, -, -⟩ := hf.slice
  obtain ⟨ia, ic, rfl, -, -⟩ := hi.slice
  obtain ⟨ma, mc, rfl, -, -⟩ := hm.slice
  obtain ⟨xa, xc, rfl, -, -⟩ := hx.slice
  obtain ⟨ga, gc, rfl, -, -⟩ := hg.slice
  obtain ⟨ja, jc, rfl, -, -⟩ := hj.slice
  obtain ⟨na, nc, rfl, -, -⟩ := hn.slice
  obtain ⟨ya, yc, rfl, -, -⟩ := hy.slice
  have HA := Lib.hid ((Upd.alloc (fun _ => False) w (.cells #[.string I.name, .slice fa I.fields.length fc, .slice ia I.imports.length ic, .slice ma I.methods.length mc, .slice xa I.exports.length xc] 27)).trans (Upd.alloc (fun _ => False) _ (.cells #[.string J.name, .slice ga J.fields.length gc, .slice ja J.imports.length jc, .slice na J.methods.length nc, .slice ya J.exports.length yc] 27)) (fun _ h _ => h))
  clear hf hi hm hx hg hj hn hy
  cases h1 : (I.name.toList == J.name.toList) with
  | false =>
    have HE := Lib.hid (show I ≠ J from fun e => by rw [e] at h1; simp at h1)
    go_enter Tryz.func15, Tryz.ntmps15
    go_wp2_with fail
    go_ret
    exact ⟨_, rfl, by simp [HE.out], HA.out⟩
  | true =>
    have H1 := Lib.hid (name_eq.1 h1)
    go_enter Tryz.func15, Tryz.ntmps15
    go_wp2_with fail
    refine (cEqInts _ _ _ I.fields J.fields (HF.out.later (upd_below HA.out)) (HG.out.later (upd_below HA.out))).mono ?_
    rintro e w1 ⟨rfl, hu⟩
    have HB := Lib.hid hu
    obtain ⟨⟨-, -, c2, c3, c4⟩, -, -, d2, d3, d4⟩ := boxes5 hu
    have HU := Lib.hid (HA.out.trans hu (fun _ h _ => h))
    obtain ⟨q, hq⟩ : ∃ q, q = decide (I.fields = J.fields) := ⟨_, rfl⟩
    rw [← hq]
    have HQ := Lib.hid hq
    clear hu hq
    cases q with
    | false =>
      have HE := Lib.hid (show I ≠ J from fun e => by have := HQ.out; rw [e] at this; simp at this)
      go_wp2_with fail
      go_ret
      exact ⟨_, rfl, by simp [HE.out], HU.out⟩
    | true =>
      have H2 := Lib.hid (show I.fields = J.fields by simpa using HQ.out.symm)
      go_wp2_with fail
      refine (cEqImps _ _ _ I.imports J.imports (HI.out.later (upd_below HU.out)) (HJ.out.later (upd_below HU.out))).mono ?_
      rintro e w2 ⟨r, rfl, hr, hu⟩
      have hu2 := HB.out.trans hu (fun _ h _ => h)
      have HB2 := Lib.hid hu2
      clear c2 c3 c4 d2 d3 d4
      obtain ⟨⟨-, -, -, c3, c4⟩, -, -, -, d3, d4⟩ := boxes5 hu2
      have HU2 := Lib.hid (HA.out.trans hu2 (fun _ h _ => h))
      have HR := Lib.hid hr
      clear hu hu2 hr
      cases r with
      | false =>
        have HE := Lib.hid (show I ≠ J from fun e => by have := HR.out.2 (by rw [e]); cases this)
        go_wp2_with fail
        go_ret
        exact ⟨_, rfl, by simp [HE.out], HU2.out⟩
      | true =>
        have H3 := Lib.hid (HR.out.1 rfl)
        go_wp2_with fail
        refine (cEqMets _ _ _ I.methods J.methods (HM.out.later (upd_below HU2.out)) (HN.out.later (upd_below HU2.out))).mono ?_
        rintro e w3 ⟨r, rfl, hr, hu⟩
        have hu3 := HB2.out.trans hu (fun _ h _ => h)
        clear c3 c4 d3 d4
        obtain ⟨⟨-, -, -, -, c4⟩, -, -, -, -, d4⟩ := boxes5 hu3
        have HU3 := Lib.hid (HA.out.trans hu3 (fun _ h _ => h))
        have HR2 := Lib.hid hr
        clear hu hu3 hr
        cases r with
        | false =>
          have HE := Lib.hid (show I ≠ J from fun e => by have := HR2.out.2 (by rw [e]); cases this)
          go_wp2_with fail
          go_ret
          exact ⟨_, rfl, by simp [HE.out], HU3.out⟩
        | true =>
          have H4 := Lib.hid (HR2.out.1 rfl)
          go_wp2_with fail
          refine (cEqInts _ _ _ I.exports J.exports (HX.out.later (upd_below HU3.out)) (HY.out.later (upd_below HU3.out))).mono ?_
          rintro e w4 ⟨rfl, hu⟩
          have HU4 := Lib.hid (HU3.out.trans hu (fun _ h _ => h))
          clear hu c4 d4
          go_wp2_with fail
          go_ret
          refine ⟨_, rfl, ?_, HU4.out⟩
          rw [decide_eq_true_eq]
          exact ⟨fun h5 => img_ext H1.out H2.out H3.out H4.out h5, fun e => by rw [e]⟩
end Go.Proofs.YtbjmmdomdijilaaGreatDoor

/- Package verify's calls on lists: EqualFunc, Equal, Concat, JoinAll, IndexFunc. -/
import Derived.Test.YtebgmpggedeplaaVb
import Derived.Lib.AppendZeros
import Derived.Lib.AppendZerosOnto
namespace Go.Proofs.Ytebgmpggedeplaa
open Go.RowKit Go.Lib Go.ChangeShapes Go.WideShapes
set_option linter.unusedVariables false
set_option linter.unusedSimpArgs false

theorem bneT {n m : Int} (h : (n == m) = true) : (n != m) = false := by simp only [bne, h]; rfl
theorem bneF {n m : Int} (h : (n == m) = false) : (n != m) = true := by simp only [bne, h]; rfl
def joinR (A B : List Int) : List Int := if allB joinB A B = true then joinL A B else []
theorem joinR_yes {A B : List Int} (h : allB joinB A B = true) : joinR A B = joinL A B := if_pos h
theorem joinR_no {A B : List Int} (h : allB joinB A B = false) : joinR A B = [] := if_neg (by rw [h]; decide)
def eqB (a b : Int) : Bool := a == b
theorem allB_eq {A B : List Int} : allB eqB A B = true ↔ A = B := by
  rw [allB_iff]
  constructor
  · rintro ⟨hl, h⟩
    refine List.ext_getElem hl fun i h1 h2 => ?_
    have := h i h1
    simpa [eqB, List.getD, h1, h2] using this
  · rintro rfl
    exact ⟨rfl, fun j _ => by simp [eqB]⟩

set_option maxRecDepth 100000 in
set_option maxHeartbeats 4000000 in
theorem vEqSuits (w : World) (v u : Value) (L M : List Int) (h : Ints w v L) (k : Ints w u M) :
    Calls Try.prog 49 #[v, u, .func (.func 50) #[] #[]] w fun e w' => e = .returned (.bool (allB suitB L M)) ∧ Upd (fun _ => False) w w' := by
  have HL := Lib.hid h
  have HM := Lib.hid k
  obtain ⟨a, c, rfl, h1, h2⟩ := h.slice
  obtain ⟨a', c', rfl, h1', h2'⟩ := k.slice
  clear h k
  unfold maxLen at h2 h2'
  by_cases hl : L.length = M.length
  · have hb : ((L.length : Int) == (M.length : Int)) = true := by simp [hl]
    have hb' : ((L.length : Int) != (M.length : Int)) = false := by simp [bne, hb]
    have H0 := Lib.hid (Upd.refl (fun _ => False) w)
    have HT0 : Hid (∀ j, j < 0 → suitB (L.getD j 0) (M.getD j 0) = true) := Lib.hid (fun j hj => absurd hj (Nat.not_lt_zero j))
    have HEQ := Lib.hid hl
    have hle : L.length ≤ M.length := by omega
    have hge : M.length ≤ L.length := by omega
    clear hl
    go_enter Try.func49, Try.ntmps49
    go_wp2_with fail
    go_loopw [17, 7, 8, 9] (fun i _ _ _ wr => ∃ k : Nat, k ≤ L.length ∧ i = .int .i64 k ∧ Hid (Upd (fun _ => False) w wr) ∧ Hid (∀ j, j < k → suitB (L.getD j 0) (M.getD j 0) = true)) (fun i _ _ _ _ => L.length - (intOf i).toNat)
    case atStart => exact ⟨0, Nat.zero_le _, rfl, H0, HT0⟩
    case round =>
      obtain ⟨k, hk, rfl, HU, HT⟩ := hrel
      by_cases hlt : k < L.length
      · have hltm : k < M.length := by omega
        obtain ⟨g1, o1, rfl, hc1, -⟩ := (HL.out.later (lbBelow HU.out)).at hlt
        obtain ⟨g2, o2, rfl, hc2, -⟩ := (HM.out.later (lbBelow HU.out)).at hltm
        obtain ⟨n, hn⟩ : ∃ n, n = L.getD k 0 := ⟨_, rfl⟩
        obtain ⟨m, hm⟩ : ∃ m, m = M.getD k 0 := ⟨_, rfl⟩
        rw [← hn] at hc1
        rw [← hm] at hc2
        have HN := Lib.hid hn
        have HMM := Lib.hid hm
        have hi1 : (0 : Int) ≤ (k : Int) := Int.natCast_nonneg _
        have hi2 : (k : Int) < (L.length : Int) := by omega
        have hi3 : (k : Int) < (M.length : Int) := by omega
        clear hn hm
        cases hq : suitB n m with
        | true =>
          have HT2 := Lib.hid (upto_succ (f := fun j => suitB (L.getD j 0) (M.getD j 0)) HT.out (by show suitB (L.getD k 0) (M.getD k 0) = true; rw [← HN.out, ← HMM.out]; exact hq))
          skip
          go_wp2_with (with_reducible refine (vSuits _ _ _).mono ?_; rintro e _ ⟨rfl, rfl⟩)
          skip
          go_roundw
          case rel => exact ⟨k + 1, by omega, by go_num, Lib.hid (HU.out), HT2⟩
          case measure => simp [intOf]; omega
        | false =>
          have HF := Lib.hid (allB_no (f := suitB) (A := L) (B := M) hlt (by rw [← HN.out, ← HMM.out]; exact hq))
          skip
          go_wp2_with (with_reducible refine (vSuits _ _ _).mono ?_; rintro e _ ⟨rfl, rfl⟩)
          skip
          go_ret
          exact ⟨lbRet HF.out.symm, HU.out⟩
      · have HE := Lib.hid (allB_yes (f := suitB) HEQ.out (by omega) HT.out)
        go_wp2_with fail
        go_ret
        exact ⟨lbRet HE.out.symm, HU.out⟩
  · have hb : ((L.length : Int) == (M.length : Int)) = false := beq_eq_false_iff_ne.2 (by omega)
    have hb' : ((L.length : Int) != (M.length : Int)) = true := by simp [bne, hb]
    have HF := Lib.hid (allB_len (f := suitB) hl)
    clear hl
    go_enter Try.func49, Try.ntmps49
    go_wp2_with fail
    go_ret
    exact ⟨lbRet HF.out.symm, Upd.refl _ _⟩

set_option maxRecDepth 100000 in
set_option maxHeartbeats 4000000 in
theorem vEqKept (w : World) (v u : Value) (L M : List Int) (h : Ints w v L) (k : Ints w u M) :
    Calls Try.prog 49 #[v, u, .func (.func 52) #[] #[]] w fun e w' => e = .returned (.bool (allB keptB L M)) ∧ Upd (fun _ => False) w w' := by
  have HL := Lib.hid h
  have HM := Lib.hid k
  obtain ⟨a, c, rfl, h1, h2⟩ := h.slice
  obtain ⟨a', c', rfl, h1', h2'⟩ := k.slice
  clear h k
  unfold maxLen at h2 h2'
  by_cases hl : L.length = M.length
  · have hb : ((L.length : Int) == (M.length : Int)) = true := by simp [hl]
    have hb' : ((L.length : Int) != (M.length : Int)) = false := by simp [bne, hb]
    have H0 := Lib.hid (Upd.refl (fun _ => False) w)
    have HT0 : Hid (∀ j, j < 0 → keptB (L.getD j 0) (M.getD j 0) = true) := Lib.hid (fun j hj => absurd hj (Nat.not_lt_zero j))
    have HEQ := Lib.hid hl
    have hle : L.length ≤ M.length := by omega
    have hge : M.length ≤ L.length := by omega
    clear hl
    go_enter Try.func49, Try.ntmps49
    go_wp2_with fail
    go_loopw [17, 7, 8, 9] (fun i _ _ _ wr => ∃ k : Nat, k ≤ L.length ∧ i = .int .i64 k ∧ Hid (Upd (fun _ => False) w wr) ∧ Hid (∀ j, j < k → keptB (L.getD j 0) (M.getD j 0) = true)) (fun i _ _ _ _ => L.length - (intOf i).toNat)
    case atStart => exact ⟨0, Nat.zero_le _, rfl, H0, HT0⟩
    case round =>
      obtain ⟨k, hk, rfl, HU, HT⟩ := hrel
      by_cases hlt : k < L.length
      · have hltm : k < M.length := by omega
        obtain ⟨g1, o1, rfl, hc1, -⟩ := (HL.out.later (lbBelow HU.out)).at hlt
        obtain ⟨g2, o2, rfl, hc2, -⟩ := (HM.out.later (lbBelow HU.out)).at hltm
        obtain ⟨n, hn⟩ : ∃ n, n = L.getD k 0 := ⟨_, rfl⟩
        obtain ⟨m, hm⟩ : ∃ m, m = M.getD k 0 := ⟨_, rfl⟩
        rw [← hn] at hc1
        rw [← hm] at hc2
        have HN := Lib.hid hn
        have HMM := Lib.hid hm
        have hi1 : (0 : Int) ≤ (k : Int) := Int.natCast_nonneg _
        have hi2 : (k : Int) < (L.length : Int) := by omega
        have hi3 : (k : Int) < (M.length : Int) := by omega
        clear hn hm
        cases hq : keptB n m with
        | true =>
          have HT2 := Lib.hid (upto_succ (f := fun j => keptB (L.getD j 0) (M.getD j 0)) HT.out (by show keptB (L.getD k 0) (M.getD k 0) = true; rw [← HN.out, ← HMM.out]; exact hq))
          skip
          go_wp2_with (with_reducible refine (vIsKept _ _ _).mono ?_; rintro e _ ⟨rfl, rfl⟩)
          skip
          go_roundw
          case rel => exact ⟨k + 1, by omega, by go_num, Lib.hid (HU.out), HT2⟩
          case measure => simp [intOf]; omega
        | false =>
          have HF := Lib.hid (allB_no (f := keptB) (A := L) (B := M) hlt (by rw [← HN.out, ← HMM.out]; exact hq))
          skip
          go_wp2_with (with_reducible refine (vIsKept _ _ _).mono ?_; rintro e _ ⟨rfl, rfl⟩)
          skip
          go_ret
          exact ⟨lbRet HF.out.symm, HU.out⟩
      · have HE := Lib.hid (allB_yes (f := keptB) HEQ.out (by omega) HT.out)
        go_wp2_with fail
        go_ret
        exact ⟨lbRet HE.out.symm, HU.out⟩
  · have hb : ((L.length : Int) == (M.length : Int)) = false := beq_eq_false_iff_ne.2 (by omega)
    have hb' : ((L.length : Int) != (M.length : Int)) = true := by simp [bne, hb]
    have HF := Lib.hid (allB_len (f := keptB) hl)
    clear hl
    go_enter Try.func49, Try.ntmps49
    go_wp2_with fail
    go_ret
    exact ⟨lbRet HF.out.symm, Upd.refl _ _⟩

set_option maxRecDepth 100000 in
set_option maxHeartbeats 4000000 in
theorem vEqual (w : World) (v u : Value) (L M : List Int) (h : Ints w v L) (k : Ints w u M) :
    Calls Try.prog 39 #[v, u] w fun e w' => e = .returned (.bool (allB eqB L M)) ∧ Upd (fun _ => False) w w' := by
  have HL := Lib.hid h
  have HM := Lib.hid k
  obtain ⟨a, c, rfl, h1, h2⟩ := h.slice
  obtain ⟨a', c', rfl, h1', h2'⟩ := k.slice
  clear h k
  unfold maxLen at h2 h2'
  by_cases hl : L.length = M.length
  · have hb : ((L.length : Int) == (M.length : Int)) = true := by simp [hl]
    have hb' : ((L.length : Int) != (M.length : Int)) = false := by simp [bne, hb]
    have H0 := Lib.hid (Upd.refl (fun _ => False) w)
    have HT0 : Hid (∀ j, j < 0 → eqB (L.getD j 0) (M.getD j 0) = true) := Lib.hid (fun j hj => absurd hj (Nat.not_lt_zero j))
    have HEQ := Lib.hid hl
    have hle : L.length ≤ M.length := by omega
    have hge : M.length ≤ L.length := by omega
    clear hl
    go_enter Try.func39, Try.ntmps39
    go_wp2_with fail
    go_loopw [13, 5] (fun i _ wr => ∃ k : Nat, k ≤ L.length ∧ i = .int .i64 k ∧ Hid (Upd (fun _ => False) w wr) ∧ Hid (∀ j, j < k → eqB (L.getD j 0) (M.getD j 0) = true)) (fun i _ _ => L.length - (intOf i).toNat)
    case atStart => exact ⟨0, Nat.zero_le _, rfl, H0, HT0⟩
    case round =>
      obtain ⟨k, hk, rfl, HU, HT⟩ := hrel
      by_cases hlt : k < L.length
      · have hltm : k < M.length := by omega
        obtain ⟨g1, o1, rfl, hc1, -⟩ := (HL.out.later (lbBelow HU.out)).at hlt
        obtain ⟨g2, o2, rfl, hc2, -⟩ := (HM.out.later (lbBelow HU.out)).at hltm
        obtain ⟨n, hn⟩ : ∃ n, n = L.getD k 0 := ⟨_, rfl⟩
        obtain ⟨m, hm⟩ : ∃ m, m = M.getD k 0 := ⟨_, rfl⟩
        rw [← hn] at hc1
        rw [← hm] at hc2
        have HN := Lib.hid hn
        have HMM := Lib.hid hm
        have hi1 : (0 : Int) ≤ (k : Int) := Int.natCast_nonneg _
        have hi2 : (k : Int) < (L.length : Int) := by omega
        have hi3 : (k : Int) < (M.length : Int) := by omega
        clear hn hm
        cases hq : (n == m) with
        | true =>
          have HT2 := Lib.hid (upto_succ (f := fun j => eqB (L.getD j 0) (M.getD j 0)) HT.out (by show eqB (L.getD k 0) (M.getD k 0) = true; rw [← HN.out, ← HMM.out]; exact hq))
          first | have hq' := bneT hq | have hq' := bneF hq
          go_wp2_with fail
          go_quiet (fail)
          go_wp2_with fail
          go_roundw
          case rel => exact ⟨k + 1, by omega, by go_num, Lib.hid (HU.out.trans (lbDrewN (fun _ => False) _ _) (fun _ h _ => h)), HT2⟩
          case measure => simp [intOf]; omega
        | false =>
          have HF := Lib.hid (allB_no (f := eqB) (A := L) (B := M) hlt (by rw [← HN.out, ← HMM.out]; exact hq))
          first | have hq' := bneT hq | have hq' := bneF hq
          go_wp2_with fail
          go_quiet (fail)
          go_wp2_with fail
          go_ret
          exact ⟨lbRet HF.out.symm, HU.out.trans (lbDrewN (fun _ => False) _ _) (fun _ h _ => h)⟩
      · have HE := Lib.hid (allB_yes (f := eqB) HEQ.out (by omega) HT.out)
        go_wp2_with fail
        go_ret
        exact ⟨lbRet HE.out.symm, HU.out⟩
  · have hb : ((L.length : Int) == (M.length : Int)) = false := beq_eq_false_iff_ne.2 (by omega)
    have hb' : ((L.length : Int) != (M.length : Int)) = true := by simp [bne, hb]
    have HF := Lib.hid (allB_len (f := eqB) hl)
    clear hl
    go_enter Try.func39, Try.ntmps39
    go_wp2_with fail
    go_ret
    exact ⟨lbRet HF.out.symm, Upd.refl _ _⟩

theorem made_lv (n : Nat) : (madeCells #[Value.int .i64 0] n).toList = List.replicate n (.int .i64 0) := by
  refine List.ext_getElem (by simp [madeCells]) fun i h1 h2 => ?_
  simp [madeCells, Nat.mod_one]

set_option maxRecDepth 100000 in
set_option maxHeartbeats 4000000 in
theorem vJoinAll (w : World) (v u : Value) (L M : List Int) (h : Ints w v L) (k : Ints w u M) (hlen : L.length ≤ 10) :
    Calls Try.prog 38 #[v, u] w fun e w' => ∃ r, e = .returned (.tuple #[r, .bool (allB joinB L M)]) ∧ ORow w' r (joinR L M) ∧ Upd (fun _ => False) w w' ∧ Newer w.heap.size r := by
  obtain ⟨i0, hi, hz0, hz1, hz2⟩ := info_parts lbInfo
  have HL := Lib.hid h
  have HM := Lib.hid k
  obtain ⟨a, c, rfl, h1, h2⟩ := h.slice
  obtain ⟨a', c', rfl, h1', h2'⟩ := k.slice
  clear h k
  unfold maxLen at h2 h2'
  by_cases hl : L.length = M.length
  · have hb : ((L.length : Int) == (M.length : Int)) = true := by simp [hl]
    have hb' : ((L.length : Int) != (M.length : Int)) = false := by simp [bne, hb]
    have HT0 : Hid (∀ j, j < 0 → joinB (L.getD j 0) (M.getD j 0) = true) := Lib.hid (fun j hj => absurd hj (Nat.not_lt_zero j))
    have HEQ := Lib.hid hl
    have hle : L.length ≤ M.length := by omega
    have hge : M.length ≤ L.length := by omega
    obtain ⟨N, hN⟩ : ∃ N, N = L.length := ⟨_, rfl⟩
    have HN0 := Lib.hid hN
    have hN1 : N ≤ 10 := by omega
    clear hl
    go_enter Try.func38, Try.ntmps38
    go_wp2_with ((refine wpList_make_full w rfl _ _ 27 rfl 0 3 i0 (.int .i64 0) 1 Try.underlying27 hi hz0 hz1 .i64 .i64 (L.length : Int) (L.length : Int) L.length rfl rfl rfl rfl (by rw [hz2]; omega) (by unfold maxLen; omega) (Nat.zero_le _) ?_))
    intro w1 ho hg
    have hP : (joinL L M).length = L.length := joinL_len L M
    have HR0 : Hid (w1.ownsRow 0 3 1 (.slice (some ⟨w.heap.size, 0, none⟩) L.length L.length) L.length (lv (midL (joinL L M) 0))) := Lib.hid (by
      have e : (madeCells #[Value.int .i64 0] L.length).toList = lv (midL (joinL L M) 0) := by rw [made_lv, midL, hP]; simp [lv]
      rw [← e]; exact ho)
    have HU0 : Hid (Upd (fun _ => False) w w1) := Lib.hid (Upd.grown hg (fun k hk => by cases hk))
    have HP := Lib.hid hP
    clear ho hg hP
    go_wp2_with fail
    go_loopw [21, 7, 8, 9, 10] (fun i _ _ _ _ wr => ∃ k : Nat, k ≤ L.length ∧ i = .int .i64 k ∧ Hid (Upd (fun _ => False) w wr) ∧ Hid (wr.ownsRow 0 3 1 (.slice (some ⟨w.heap.size, 0, none⟩) L.length L.length) L.length (lv (midL (joinL L M) k))) ∧ Hid (∀ j, j < k → joinB (L.getD j 0) (M.getD j 0) = true)) (fun i _ _ _ _ _ => L.length - (intOf i).toNat)
    case atStart => exact ⟨0, Nat.zero_le _, rfl, HU0, HR0, HT0⟩
    case round =>
      obtain ⟨k, hk, rfl, HU, HR, HT⟩ := hrel
      by_cases hlt : k < L.length
      · have hltm : k < M.length := by omega
        obtain ⟨g1, o1, rfl, hc1, -⟩ := (HL.out.later (lbBelow HU.out)).at hlt
        obtain ⟨g2, o2, rfl, hc2, -⟩ := (HM.out.later (lbBelow HU.out)).at hltm
        obtain ⟨n, hn⟩ : ∃ n, n = L.getD k 0 := ⟨_, rfl⟩
        obtain ⟨m, hm⟩ : ∃ m, m = M.getD k 0 := ⟨_, rfl⟩
        rw [← hn] at hc1
        rw [← hm] at hc2
        have HN := Lib.hid hn
        have HMM := Lib.hid hm
        have hi1 : (0 : Int) ≤ (k : Int) := Int.natCast_nonneg _
        have hi2 : (k : Int) < (L.length : Int) := by omega
        have hi3 : (k : Int) < (M.length : Int) := by omega
        have hcz : ∃ z, wr.cell? ⟨w.heap.size, k, none⟩ = some z := by
          have hr := HR.out
          have hll : k < (lv (midL (joinL L M) k)).length := by rw [lv_len, midL_len (by rw [HP.out]; omega), HP.out]; exact hlt
          have := hr.cells (g := w.heap.size) rfl k _ (List.getElem?_eq_getElem hll)
          rw [addr_add, Nat.zero_add] at this
          exact ⟨_, this⟩
        obtain ⟨z, hcz⟩ := hcz
        have hfz := lbFrozen HR.out k
        clear hn hm
        cases hq : joinB n m with
        | true =>
          have HT2 := Lib.hid (upto_succ (f := fun j => joinB (L.getD j 0) (M.getD j 0)) HT.out (by show joinB (L.getD k 0) (M.getD k 0) = true; rw [← HN.out, ← HMM.out]; exact hq))
          have HR2 : Hid ((wr.setCell ⟨w.heap.size, k, none⟩ (.int .i64 (joinV n m))).ownsRow 0 3 1 (.slice (some ⟨w.heap.size, 0, none⟩) L.length L.length) L.length (lv (midL (joinL L M) (k + 1)))) := Lib.hid (by
            have h1 := lbSet HR.out k (.int .i64 (joinV n m))
            rw [HN.out, HMM.out, ← joinL_at hlt, midL_set (by rw [HP.out]; exact hlt)] at h1
            rw [HN.out, HMM.out, ← joinL_at hlt]
            exact h1)
          have HU2 : Hid (Upd (fun _ => False) w (wr.setCell ⟨w.heap.size, k, none⟩ (.int .i64 (joinV n m)))) := Lib.hid (HU.out.trans (Upd.setCell (S := fun k => k = w.heap.size) wr (.inl rfl) _) (fun i h hlt => by omega))
          go_wp2_with (with_reducible refine (lJoin _ _ _).mono ?_; rintro e _ ⟨rfl, rfl⟩)
          go_roundw
          case rel => exact ⟨k + 1, by omega, by go_num, HU2, HR2, HT2⟩
          case measure => simp [intOf]; omega
        | false =>
          have HF := Lib.hid (allB_no (f := joinB) (A := L) (B := M) hlt (by rw [← HN.out, ← HMM.out]; exact hq))
          go_wp2_with (with_reducible refine (lJoin _ _ _).mono ?_; rintro e _ ⟨rfl, rfl⟩)
          go_ret2
          exact ⟨.slice none 0 0, by rw [HF.out]; rfl, by rw [joinR_no HF.out]; exact ORow.none _, HU.out, Newer.nil _ _ _⟩
      · have HE := Lib.hid (allB_yes (f := joinB) HEQ.out (by omega) HT.out)
        go_wp2_with fail
        go_ret2
        refine ⟨.slice (some ⟨w.heap.size, 0, none⟩) L.length L.length, by rw [HE.out]; rfl, ?_, HU.out, Newer.new _ _ _ _⟩
        rw [joinR_yes HE.out]
        have hr := HR.out
        rw [midL_all (by rw [HP.out]; omega)] at hr
        exact ⟨by rw [HP.out]; exact hr, joinL_wi HL.out.2 HM.out.2⟩
  · have hb : ((L.length : Int) == (M.length : Int)) = false := beq_eq_false_iff_ne.2 (by omega)
    have hb' : ((L.length : Int) != (M.length : Int)) = true := by simp [bne, hb]
    have HF := Lib.hid (allB_len (f := joinB) hl)
    clear hl
    go_enter Try.func38, Try.ntmps38
    go_wp2_with fail
    go_ret2
    exact ⟨.slice none 0 0, by rw [HF.out]; rfl, by rw [joinR_no HF.out]; exact ORow.none _, Upd.refl _ _, Newer.nil _ _ _⟩


theorem zeros_lv (n : Nat) : (Builtin.zeroCells (#[Value.int .i64 0]) n).toList = List.replicate n (.int .i64 0) := by
  refine List.ext_getElem (by simp [Builtin.zeroCells]) fun i h1 h2 => ?_
  simp [Builtin.zeroCells, Nat.mod_one]
/-- room for n numbers -/
theorem vGrow (w : World) (n : Nat) (hn : n ≤ 1000) : Calls Try.prog 45 #[.slice none 0 0, .int .i64 n] w fun e w' => ∃ r, e = .returned r ∧ w'.ownsRow 0 3 1 r 0 [] ∧ Upd (fun _ => False) w w' ∧ Newer w.heap.size r := by
  obtain ⟨i0, hi, hz0, hz1, hz2⟩ := info_parts lbInfo
  rcases Nat.eq_zero_or_pos n with rfl | h0
  · go_enter Try.func45, Try.ntmps45
    go_wp2_with fail
    go_ret
    exact ⟨_, rfl, World.ownsRow_nil _ _ _ _, Upd.refl _ _, Newer.nil _ _ _⟩
  · have hrz : ∀ ty, (Builtin.append_ #[27, 3] ty #[.slice none 0 0, .int .i64 (n : Int)]).run Try.prog w =
        .ok (.slice (some ⟨w.heap.size, 0, none⟩) n (grownCap w n 0 3)) (w.drew.alloc (.cells (#[] ++ Builtin.zeroCells #[.int .i64 0] n ++ Builtin.zeroCells #[.int .i64 0] (grownCap w n 0 3 - n)) 3)) := fun ty => by
      have h := Lib.run_append_grow_zeros w 27 3 ty 3 i0 (.int .i64 0) .i64 .i64 Try.underlying27 Try.underlying3 hi hz0 none 0 0 [] (run_firstCells_none w.drew i0.size 0 0 0) n (by omega) (by omega) (by omega) (by omega)
        (by rw [hz2]; omega) (by rw [Nat.zero_add]; exact growslice_fits (by omega) (by rw [hz2]; omega))
      rw [Nat.zero_add] at h
      exact h
    have hGn : n ≤ grownCap w n 0 3 := grownCap_ge w _ _ _
    obtain ⟨G, hG⟩ : ∃ G, G = grownCap w n 0 3 := ⟨_, rfl⟩
    have hG63 : G ≤ maxLen := by
      rw [hG]; exact grownCap_le_maxLen w n 0 3 (by unfold maxLen; omega)
    rw [← hG] at hrz hGn
    have HG := Lib.hid hG63
    have hG64 : G ≤ 9223372036854775807 := by unfold maxLen at hG63; omega
    clear hG hG63
    have h1 : ¬ ((n : Int) < 0) := by omega
    have h4 : (n : Int) > 0 := by omega
    have hwn : IntKind.i64.wrap (n : Int) = n := IntWalk.i64_in _ (by omega)
    go_enter Try.func45, Try.ntmps45
    have HO : Hid ((w.alloc (.cells (Builtin.zeroCells #[.int .i64 0] n ++ Builtin.zeroCells #[.int .i64 0] (G - n)) 3)).drew.ownsRow 0 3 1 (.slice (some ⟨w.heap.size, 0, none⟩) 0 G) 0 []) := Lib.hid ⟨rfl, .inr ⟨w.heap.size, G, _, rfl, Nat.zero_le _, Array.getElem?_push_size, Nat.zero_le _, HG.out, by simp [Builtin.zeroCells]; omega, rfl⟩⟩
    have HU : Hid (Upd (fun _ => False) w (w.alloc (.cells (Builtin.zeroCells #[.int .i64 0] n ++ Builtin.zeroCells #[.int .i64 0] (G - n)) 3)).drew) := Lib.hid ((Upd.alloc (fun _ => False) w _).trans (Upd.drew (fun _ => False) _) (fun _ h _ => h))
    go_wp2_with (at_builtin; refine Lib.wpList_append_run _ rfl _ _ _ _ rfl _ _ rfl rfl _ _ (hrz _) ?_)
    go_ret
    exact ⟨_, rfl, HO.out, HU.out, Newer.new _ _ _ _⟩

end Go.Proofs.Ytebgmpggedeplaa

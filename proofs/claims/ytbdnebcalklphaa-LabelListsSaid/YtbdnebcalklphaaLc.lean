/- Lists of kinds: ints, JoinAll, FitsAll, package label's and the reference's. -/
import Derived.Test.YtbdnebcalklphaaLb
namespace Go.Proofs.Ytbdnebcalklphaa
open Go.RowKit Go.Lib Go.ChangeShapes Go.WideShapes
set_option linter.unusedVariables false

theorem bneT {n m : Int} (h : (n == m) = true) : (n != m) = false := by simp only [bne, h]; rfl
theorem bneF {n m : Int} (h : (n == m) = false) : (n != m) = true := by simp only [bne, h]; rfl
def joinR (A B : List Int) : List Int := if allB joinB A B = true then joinL A B else []
theorem joinR_yes {A B : List Int} (h : allB joinB A B = true) : joinR A B = joinL A B := if_pos h
theorem joinR_no {A B : List Int} (h : allB joinB A B = false) : joinR A B = [] := if_neg (by rw [h]; decide)
def eqB (a b : Int) : Bool := a == b
theorem allB_eq {A B : List Int} : allB eqB A B = true ↔ A = B := by
  rw [allB_iff]
  constructor
  · rintro ⟨hl, h⟩
    refine List.ext_getElem hl fun i h1 h2 => ?_
    have := h i h1
    simpa [eqB, List.getD, h1, h2] using this
  · rintro rfl
    exact ⟨rfl, fun j _ => by simp [eqB]⟩

set_option maxRecDepth 100000 in
set_option maxHeartbeats 4000000 in
theorem lbInts (w : World) (v u : Value) (L M : List Int) (h : Ints w v L) (k : Ints w u M) :
    Calls Try.prog 26 #[v, u] w fun e w' => e = .returned (.bool (allB eqB L M)) ∧ Upd (fun _ => False) w w' := by
  have HL := Lib.hid h
  have HM := Lib.hid k
  obtain ⟨a, c, rfl, h1, h2⟩ := h.slice
  obtain ⟨a', c', rfl, h1', h2'⟩ := k.slice
  clear h k
  unfold maxLen at h2 h2'
  by_cases hl : L.length = M.length
  · have hb : ((L.length : Int) == (M.length : Int)) = true := by simp [hl]
    have hb' : ((L.length : Int) != (M.length : Int)) = false := by simp [bne, hb]
    have H0 := Lib.hid (Upd.refl (fun _ => False) w)
    have HT0 : Hid (∀ j, j < 0 → eqB (L.getD j 0) (M.getD j 0) = true) := Lib.hid (fun j hj => absurd hj (Nat.not_lt_zero j))
    have HEQ := Lib.hid hl
    have hle : L.length ≤ M.length := by omega
    have hge : M.length ≤ L.length := by omega
    clear hl
    go_enter Try.func26, Try.ntmps26
    go_wp2_with fail
    go_loopw [5] (fun i wr => ∃ k : Nat, k ≤ L.length ∧ i = .int .i64 k ∧ Hid (Upd (fun _ => False) w wr) ∧ Hid (∀ j, j < k → eqB (L.getD j 0) (M.getD j 0) = true)) (fun i _ => L.length - (intOf i).toNat)
    case atStart => exact ⟨0, Nat.zero_le _, rfl, H0, HT0⟩
    case round =>
      obtain ⟨k, hk, rfl, HU, HT⟩ := hrel
      by_cases hlt : k < L.length
      · have hltm : k < M.length := by omega
        obtain ⟨g1, o1, rfl, hc1, -⟩ := (HL.out.later (lbBelow HU.out)).at hlt
        obtain ⟨g2, o2, rfl, hc2, -⟩ := (HM.out.later (lbBelow HU.out)).at hltm
        obtain ⟨n, hn⟩ : ∃ n, n = L.getD k 0 := ⟨_, rfl⟩
        obtain ⟨m, hm⟩ : ∃ m, m = M.getD k 0 := ⟨_, rfl⟩
        rw [← hn] at hc1
        rw [← hm] at hc2
        have HN := Lib.hid hn
        have HMM := Lib.hid hm
        have hi1 : (0 : Int) ≤ (k : Int) := Int.natCast_nonneg _
        have hi2 : (k : Int) < (L.length : Int) := by omega
        have hi3 : (k : Int) < (M.length : Int) := by omega
        clear hn hm
        cases hq : (n == m) with
        | true =>
          have HT2 := Lib.hid (upto_succ (f := fun j => eqB (L.getD j 0) (M.getD j 0)) HT.out (by show eqB (L.getD k 0) (M.getD k 0) = true; rw [← HN.out, ← HMM.out]; exact hq))
          first | have hq' := bneT hq | have hq' := bneF hq
          go_wp2_with fail
          go_quiet (fail)
          go_wp2_with fail
          go_roundw
          case rel => exact ⟨k + 1, by omega, by go_num, Lib.hid (HU.out.trans (lbDrewN (fun _ => False) _ _) (fun _ h _ => h)), HT2⟩
          case measure => simp [intOf]; omega
        | false =>
          have HF := Lib.hid (allB_no (f := eqB) (A := L) (B := M) hlt (by rw [← HN.out, ← HMM.out]; exact hq))
          first | have hq' := bneT hq | have hq' := bneF hq
          go_wp2_with fail
          go_quiet (fail)
          go_wp2_with fail
          go_ret
          exact ⟨lbRet HF.out.symm, HU.out.trans (lbDrewN (fun _ => False) _ _) (fun _ h _ => h)⟩
      · have HE := Lib.hid (allB_yes (f := eqB) HEQ.out (by omega) HT.out)
        go_wp2_with fail
        go_ret
        exact ⟨lbRet HE.out.symm, HU.out⟩
  · have hb : ((L.length : Int) == (M.length : Int)) = false := beq_eq_false_iff_ne.2 (by omega)
    have hb' : ((L.length : Int) != (M.length : Int)) = true := by simp [bne, hb]
    have HF := Lib.hid (allB_len (f := eqB) hl)
    clear hl
    go_enter Try.func26, Try.ntmps26
    go_wp2_with fail
    go_ret
    exact ⟨lbRet HF.out.symm, Upd.refl _ _⟩

set_option maxRecDepth 100000 in
set_option maxHeartbeats 4000000 in
theorem lbEqFunc (w : World) (v u : Value) (L M : List Int) (h : Ints w v L) (k : Ints w u M) :
    Calls Try.prog 30 #[v, u, .func (.func 17) #[] #[]] w fun e w' => e = .returned (.bool (allB fitB L M)) ∧ Upd (fun _ => False) w w' := by
  have HL := Lib.hid h
  have HM := Lib.hid k
  obtain ⟨a, c, rfl, h1, h2⟩ := h.slice
  obtain ⟨a', c', rfl, h1', h2'⟩ := k.slice
  clear h k
  unfold maxLen at h2 h2'
  by_cases hl : L.length = M.length
  · have hb : ((L.length : Int) == (M.length : Int)) = true := by simp [hl]
    have hb' : ((L.length : Int) != (M.length : Int)) = false := by simp [bne, hb]
    have H0 := Lib.hid (Upd.refl (fun _ => False) w)
    have HT0 : Hid (∀ j, j < 0 → fitB (L.getD j 0) (M.getD j 0) = true) := Lib.hid (fun j hj => absurd hj (Nat.not_lt_zero j))
    have HEQ := Lib.hid hl
    have hle : L.length ≤ M.length := by omega
    have hge : M.length ≤ L.length := by omega
    clear hl
    go_enter Try.func30, Try.ntmps30
    go_wp2_with fail
    go_loopw [17, 7, 8, 9] (fun i _ _ _ wr => ∃ k : Nat, k ≤ L.length ∧ i = .int .i64 k ∧ Hid (Upd (fun _ => False) w wr) ∧ Hid (∀ j, j < k → fitB (L.getD j 0) (M.getD j 0) = true)) (fun i _ _ _ _ => L.length - (intOf i).toNat)
    case atStart => exact ⟨0, Nat.zero_le _, rfl, H0, HT0⟩
    case round =>
      obtain ⟨k, hk, rfl, HU, HT⟩ := hrel
      by_cases hlt : k < L.length
      · have hltm : k < M.length := by omega
        obtain ⟨g1, o1, rfl, hc1, -⟩ := (HL.out.later (lbBelow HU.out)).at hlt
        obtain ⟨g2, o2, rfl, hc2, -⟩ := (HM.out.later (lbBelow HU.out)).at hltm
        obtain ⟨n, hn⟩ : ∃ n, n = L.getD k 0 := ⟨_, rfl⟩
        obtain ⟨m, hm⟩ : ∃ m, m = M.getD k 0 := ⟨_, rfl⟩
        rw [← hn] at hc1
        rw [← hm] at hc2
        have HN := Lib.hid hn
        have HMM := Lib.hid hm
        have hi1 : (0 : Int) ≤ (k : Int) := Int.natCast_nonneg _
        have hi2 : (k : Int) < (L.length : Int) := by omega
        have hi3 : (k : Int) < (M.length : Int) := by omega
        clear hn hm
        cases hq : fitB n m with
        | true =>
          have HT2 := Lib.hid (upto_succ (f := fun j => fitB (L.getD j 0) (M.getD j 0)) HT.out (by show fitB (L.getD k 0) (M.getD k 0) = true; rw [← HN.out, ← HMM.out]; exact hq))
          skip
          go_wp2_with (with_reducible refine (lFits _ _ _).mono ?_; rintro e _ ⟨rfl, rfl⟩)
          skip
          go_roundw
          case rel => exact ⟨k + 1, by omega, by go_num, Lib.hid (HU.out), HT2⟩
          case measure => simp [intOf]; omega
        | false =>
          have HF := Lib.hid (allB_no (f := fitB) (A := L) (B := M) hlt (by rw [← HN.out, ← HMM.out]; exact hq))
          skip
          go_wp2_with (with_reducible refine (lFits _ _ _).mono ?_; rintro e _ ⟨rfl, rfl⟩)
          skip
          go_ret
          exact ⟨lbRet HF.out.symm, HU.out⟩
      · have HE := Lib.hid (allB_yes (f := fitB) HEQ.out (by omega) HT.out)
        go_wp2_with fail
        go_ret
        exact ⟨lbRet HE.out.symm, HU.out⟩
  · have hb : ((L.length : Int) == (M.length : Int)) = false := beq_eq_false_iff_ne.2 (by omega)
    have hb' : ((L.length : Int) != (M.length : Int)) = true := by simp [bne, hb]
    have HF := Lib.hid (allB_len (f := fitB) hl)
    clear hl
    go_enter Try.func30, Try.ntmps30
    go_wp2_with fail
    go_ret
    exact ⟨lbRet HF.out.symm, Upd.refl _ _⟩

set_option maxRecDepth 100000 in
set_option maxHeartbeats 4000000 in
theorem rFitsAll (w : World) (v u : Value) (L M : List Int) (h : Ints w v L) (k : Ints w u M) :
    Calls Try.prog 28 #[v, u] w fun e w' => e = .returned (.bool (allB fitB L M)) ∧ Upd (fun _ => False) w w' := by
  have HL := Lib.hid h
  have HM := Lib.hid k
  obtain ⟨a, c, rfl, h1, h2⟩ := h.slice
  obtain ⟨a', c', rfl, h1', h2'⟩ := k.slice
  clear h k
  unfold maxLen at h2 h2'
  by_cases hl : L.length = M.length
  · have hb : ((L.length : Int) == (M.length : Int)) = true := by simp [hl]
    have hb' : ((L.length : Int) != (M.length : Int)) = false := by simp [bne, hb]
    have H0 := Lib.hid (Upd.refl (fun _ => False) w)
    have HT0 : Hid (∀ j, j < 0 → fitB (L.getD j 0) (M.getD j 0) = true) := Lib.hid (fun j hj => absurd hj (Nat.not_lt_zero j))
    have HEQ := Lib.hid hl
    have hle : L.length ≤ M.length := by omega
    have hge : M.length ≤ L.length := by omega
    clear hl
    go_enter Try.func28, Try.ntmps28
    go_wp2_with fail
    go_loopw [5] (fun i wr => ∃ k : Nat, k ≤ L.length ∧ i = .int .i64 k ∧ Hid (Upd (fun _ => False) w wr) ∧ Hid (∀ j, j < k → fitB (L.getD j 0) (M.getD j 0) = true)) (fun i _ => L.length - (intOf i).toNat)
    case atStart => exact ⟨0, Nat.zero_le _, rfl, H0, HT0⟩
    case round =>
      obtain ⟨k, hk, rfl, HU, HT⟩ := hrel
      by_cases hlt : k < L.length
      · have hltm : k < M.length := by omega
        obtain ⟨g1, o1, rfl, hc1, -⟩ := (HL.out.later (lbBelow HU.out)).at hlt
        obtain ⟨g2, o2, rfl, hc2, -⟩ := (HM.out.later (lbBelow HU.out)).at hltm
        obtain ⟨n, hn⟩ : ∃ n, n = L.getD k 0 := ⟨_, rfl⟩
        obtain ⟨m, hm⟩ : ∃ m, m = M.getD k 0 := ⟨_, rfl⟩
        rw [← hn] at hc1
        rw [← hm] at hc2
        have HN := Lib.hid hn
        have HMM := Lib.hid hm
        have hi1 : (0 : Int) ≤ (k : Int) := Int.natCast_nonneg _
        have hi2 : (k : Int) < (L.length : Int) := by omega
        have hi3 : (k : Int) < (M.length : Int) := by omega
        clear hn hm
        cases hq : fitB n m with
        | true =>
          have HT2 := Lib.hid (upto_succ (f := fun j => fitB (L.getD j 0) (M.getD j 0)) HT.out (by show fitB (L.getD k 0) (M.getD k 0) = true; rw [← HN.out, ← HMM.out]; exact hq))
          skip
          go_wp2_with fail
          go_quiet (exact Calls.quiet_of_same ((rFits _ _ _).mono fun _ _ h => ⟨h.1, h.2.symm⟩))
          go_wp2_with fail
          go_roundw
          case rel => exact ⟨k + 1, by omega, by go_num, Lib.hid (HU.out.trans (lbDrewN (fun _ => False) _ _) (fun _ h _ => h)), HT2⟩
          case measure => simp [intOf]; omega
        | false =>
          have HF := Lib.hid (allB_no (f := fitB) (A := L) (B := M) hlt (by rw [← HN.out, ← HMM.out]; exact hq))
          skip
          go_wp2_with fail
          go_quiet (exact Calls.quiet_of_same ((rFits _ _ _).mono fun _ _ h => ⟨h.1, h.2.symm⟩))
          go_wp2_with fail
          go_ret
          exact ⟨lbRet HF.out.symm, HU.out.trans (lbDrewN (fun _ => False) _ _) (fun _ h _ => h)⟩
      · have HE := Lib.hid (allB_yes (f := fitB) HEQ.out (by omega) HT.out)
        go_wp2_with fail
        go_ret
        exact ⟨lbRet HE.out.symm, HU.out⟩
  · have hb : ((L.length : Int) == (M.length : Int)) = false := beq_eq_false_iff_ne.2 (by omega)
    have hb' : ((L.length : Int) != (M.length : Int)) = true := by simp [bne, hb]
    have HF := Lib.hid (allB_len (f := fitB) hl)
    clear hl
    go_enter Try.func28, Try.ntmps28
    go_wp2_with fail
    go_ret
    exact ⟨lbRet HF.out.symm, Upd.refl _ _⟩

theorem lFitsAll (w : World) (v u : Value) (L M : List Int) (h : Ints w v L) (k : Ints w u M) :
    Calls Try.prog 27 #[v, u] w fun e w' => e = .returned (.bool (allB fitB L M)) ∧ Upd (fun _ => False) w w' := by
  have HL := Lib.hid h
  have HM := Lib.hid k
  obtain ⟨a, c, rfl, h1, h2⟩ := h.slice
  obtain ⟨a', c', rfl, h1', h2'⟩ := k.slice
  clear h k
  go_enter Try.func27, Try.ntmps27
  go_wp2_with fail
  refine (lbEqFunc _ _ _ L M HL.out HM.out).mono ?_
  rintro e w1 ⟨rfl, hu⟩
  have HU := Lib.hid hu
  clear hu
  go_wp2_with fail
  go_ret
  exact ⟨rfl, HU.out⟩

theorem made_lv (n : Nat) : (madeCells #[Value.int .i64 0] n).toList = List.replicate n (.int .i64 0) := by
  refine List.ext_getElem (by simp [madeCells]) fun i h1 h2 => ?_
  simp [madeCells, Nat.mod_one]

set_option maxRecDepth 100000 in
set_option maxHeartbeats 4000000 in
theorem lJoinAll (w : World) (v u : Value) (L M : List Int) (h : Ints w v L) (k : Ints w u M) (hlen : L.length ≤ 10) :
    Calls Try.prog 24 #[v, u] w fun e w' => ∃ r, e = .returned (.tuple #[r, .bool (allB joinB L M)]) ∧ ORow w' r (joinR L M) ∧ Upd (fun _ => False) w w' := by
  obtain ⟨i0, hi, hz0, hz1, hz2⟩ := info_parts lbInfo
  have HL := Lib.hid h
  have HM := Lib.hid k
  obtain ⟨a, c, rfl, h1, h2⟩ := h.slice
  obtain ⟨a', c', rfl, h1', h2'⟩ := k.slice
  clear h k
  unfold maxLen at h2 h2'
  by_cases hl : L.length = M.length
  · have hb : ((L.length : Int) == (M.length : Int)) = true := by simp [hl]
    have hb' : ((L.length : Int) != (M.length : Int)) = false := by simp [bne, hb]
    have HT0 : Hid (∀ j, j < 0 → joinB (L.getD j 0) (M.getD j 0) = true) := Lib.hid (fun j hj => absurd hj (Nat.not_lt_zero j))
    have HEQ := Lib.hid hl
    have hle : L.length ≤ M.length := by omega
    have hge : M.length ≤ L.length := by omega
    obtain ⟨N, hN⟩ : ∃ N, N = L.length := ⟨_, rfl⟩
    have HN0 := Lib.hid hN
    have hN1 : N ≤ 10 := by omega
    clear hl
    go_enter Try.func24, Try.ntmps24
    go_wp2_with ((refine wpList_make_full w rfl _ _ 29 rfl 0 3 i0 (.int .i64 0) 1 Try.underlying29 hi hz0 hz1 .i64 .i64 (L.length : Int) (L.length : Int) L.length rfl rfl rfl rfl (by rw [hz2]; omega) (by unfold maxLen; omega) (Nat.zero_le _) ?_))
    intro w1 ho hg
    have hP : (joinL L M).length = L.length := joinL_len L M
    have HR0 : Hid (w1.ownsRow 0 3 1 (.slice (some ⟨w.heap.size, 0, none⟩) L.length L.length) L.length (lv (midL (joinL L M) 0))) := Lib.hid (by
      have e : (madeCells #[Value.int .i64 0] L.length).toList = lv (midL (joinL L M) 0) := by rw [made_lv, midL, hP]; simp [lv]
      rw [← e]; exact ho)
    have HU0 : Hid (Upd (fun _ => False) w w1) := Lib.hid (Upd.grown hg (fun k hk => by cases hk))
    have HP := Lib.hid hP
    clear ho hg hP
    go_wp2_with fail
    go_loopw [21, 7, 8, 9, 10] (fun i _ _ _ _ wr => ∃ k : Nat, k ≤ L.length ∧ i = .int .i64 k ∧ Hid (Upd (fun _ => False) w wr) ∧ Hid (wr.ownsRow 0 3 1 (.slice (some ⟨w.heap.size, 0, none⟩) L.length L.length) L.length (lv (midL (joinL L M) k))) ∧ Hid (∀ j, j < k → joinB (L.getD j 0) (M.getD j 0) = true)) (fun i _ _ _ _ _ => L.length - (intOf i).toNat)
    case atStart => exact ⟨0, Nat.zero_le _, rfl, HU0, HR0, HT0⟩
    case round =>
      obtain ⟨k, hk, rfl, HU, HR, HT⟩ := hrel
      by_cases hlt : k < L.length
      · have hltm : k < M.length := by omega
        obtain ⟨g1, o1, rfl, hc1, -⟩ := (HL.out.later (lbBelow HU.out)).at hlt
        obtain ⟨g2, o2, rfl, hc2, -⟩ := (HM.out.later (lbBelow HU.out)).at hltm
        obtain ⟨n, hn⟩ : ∃ n, n = L.getD k 0 := ⟨_, rfl⟩
        obtain ⟨m, hm⟩ : ∃ m, m = M.getD k 0 := ⟨_, rfl⟩
        rw [← hn] at hc1
        rw [← hm] at hc2
        have HN := Lib.hid hn
        have HMM := Lib.hid hm
        have hi1 : (0 : Int) ≤ (k : Int) := Int.natCast_nonneg _
        have hi2 : (k : Int) < (L.length : Int) := by omega
        have hi3 : (k : Int) < (M.length : Int) := by omega
        have hcz : ∃ z, wr.cell? ⟨w.heap.size, k, none⟩ = some z := by
          have hr := HR.out
          have hll : k < (lv (midL (joinL L M) k)).length := by rw [lv_len, midL_len (by rw [HP.out]; omega), HP.out]; exact hlt
          have := hr.cells (g := w.heap.size) rfl k _ (List.getElem?_eq_getElem hll)
          rw [addr_add, Nat.zero_add] at this
          exact ⟨_, this⟩
        obtain ⟨z, hcz⟩ := hcz
        have hfz := lbFrozen HR.out k
        clear hn hm
        cases hq : joinB n m with
        | true =>
          have HT2 := Lib.hid (upto_succ (f := fun j => joinB (L.getD j 0) (M.getD j 0)) HT.out (by show joinB (L.getD k 0) (M.getD k 0) = true; rw [← HN.out, ← HMM.out]; exact hq))
          have HR2 : Hid ((wr.setCell ⟨w.heap.size, k, none⟩ (.int .i64 (joinV n m))).ownsRow 0 3 1 (.slice (some ⟨w.heap.size, 0, none⟩) L.length L.length) L.length (lv (midL (joinL L M) (k + 1)))) := Lib.hid (by
            have h1 := lbSet HR.out k (.int .i64 (joinV n m))
            rw [HN.out, HMM.out, ← joinL_at hlt, midL_set (by rw [HP.out]; exact hlt)] at h1
            rw [HN.out, HMM.out, ← joinL_at hlt]
            exact h1)
          have HU2 : Hid (Upd (fun _ => False) w (wr.setCell ⟨w.heap.size, k, none⟩ (.int .i64 (joinV n m)))) := Lib.hid (HU.out.trans (Upd.setCell (S := fun k => k = w.heap.size) wr (.inl rfl) _) (fun i h hlt => by omega))
          go_wp2_with (with_reducible refine (lJoin _ _ _).mono ?_; rintro e _ ⟨rfl, rfl⟩)
          go_roundw
          case rel => exact ⟨k + 1, by omega, by go_num, HU2, HR2, HT2⟩
          case measure => simp [intOf]; omega
        | false =>
          have HF := Lib.hid (allB_no (f := joinB) (A := L) (B := M) hlt (by rw [← HN.out, ← HMM.out]; exact hq))
          go_wp2_with (with_reducible refine (lJoin _ _ _).mono ?_; rintro e _ ⟨rfl, rfl⟩)
          go_ret2
          exact ⟨.slice none 0 0, by rw [HF.out]; rfl, by rw [joinR_no HF.out]; exact ORow.none _, HU.out⟩
      · have HE := Lib.hid (allB_yes (f := joinB) HEQ.out (by omega) HT.out)
        go_wp2_with fail
        go_ret2
        refine ⟨.slice (some ⟨w.heap.size, 0, none⟩) L.length L.length, by rw [HE.out]; rfl, ?_, HU.out⟩
        rw [joinR_yes HE.out]
        have hr := HR.out
        rw [midL_all (by rw [HP.out]; omega)] at hr
        exact ⟨by rw [HP.out]; exact hr, joinL_wi HL.out.2 HM.out.2⟩
  · have hb : ((L.length : Int) == (M.length : Int)) = false := beq_eq_false_iff_ne.2 (by omega)
    have hb' : ((L.length : Int) != (M.length : Int)) = true := by simp [bne, hb]
    have HF := Lib.hid (allB_len (f := joinB) hl)
    clear hl
    go_enter Try.func24, Try.ntmps24
    go_wp2_with fail
    go_ret2
    exact ⟨.slice none 0 0, by rw [HF.out]; rfl, by rw [joinR_no HF.out]; exact ORow.none _, Upd.refl _ _⟩

set_option maxRecDepth 100000 in
set_option maxHeartbeats 4000000 in
theorem rJoinAll (w : World) (v u : Value) (L M : List Int) (h : Ints w v L) (k : Ints w u M) (hlen : L.length ≤ 10) :
    Calls Try.prog 25 #[v, u] w fun e w' => ∃ r, e = .returned (.tuple #[r, .bool (allB joinB L M)]) ∧ ORow w' r (joinR L M) ∧ Upd (fun _ => False) w w' := by
  obtain ⟨i0, hi, hz0, hz1, hz2⟩ := info_parts lbInfo
  have HL := Lib.hid h
  have HM := Lib.hid k
  obtain ⟨a, c, rfl, h1, h2⟩ := h.slice
  obtain ⟨a', c', rfl, h1', h2'⟩ := k.slice
  clear h k
  unfold maxLen at h2 h2'
  by_cases hl : L.length = M.length
  · have hb : ((L.length : Int) == (M.length : Int)) = true := by simp [hl]
    have hb' : ((L.length : Int) != (M.length : Int)) = false := by simp [bne, hb]
    have HT0 : Hid (∀ j, j < 0 → joinB (L.getD j 0) (M.getD j 0) = true) := Lib.hid (fun j hj => absurd hj (Nat.not_lt_zero j))
    have HEQ := Lib.hid hl
    have hle : L.length ≤ M.length := by omega
    have hge : M.length ≤ L.length := by omega
    have HP := Lib.hid (joinL_len L M)
    have HR0 : Hid (ORow w (.slice none 0 0) ((joinL L M).take 0)) := Lib.hid (ORow.none w)
    have HF0 : Hid (∀ k, (Value.slice none 0 0).ownBlock = some k → w.heap.size ≤ k) := Lib.hid (by simp [Value.ownBlock])
    have HU0 : Hid (Upd (fun _ => False) w w) := Lib.hid (Upd.refl _ _)
    clear hl
    go_enter Try.func25, Try.ntmps25
    go_wp2_with fail
    go_loopw [6, 7, 8, 9] (fun out i _ _ wr => ∃ (k : Nat) (na : Option Addr) (nc : Nat), k ≤ L.length ∧ i = .int .i64 k ∧ out = .slice na k nc ∧ Hid (ORow wr out ((joinL L M).take k)) ∧ Hid (∀ j, out.ownBlock = some j → w.heap.size ≤ j) ∧ Hid (Upd (fun _ => False) w wr) ∧ Hid (∀ j, j < k → joinB (L.getD j 0) (M.getD j 0) = true)) (fun _ i _ _ _ => L.length - (intOf i).toNat)
    case atStart => exact ⟨0, none, 0, Nat.zero_le _, rfl, rfl, HR0, HF0, HU0, HT0⟩
    case round =>
      obtain ⟨k, na, nc, hk, rfl, rfl, HR, HF, HU, HT⟩ := hrel
      by_cases hlt : k < L.length
      · have hltm : k < M.length := by omega
        obtain ⟨g1, o1, rfl, hc1, -⟩ := (HL.out.later (lbBelow HU.out)).at hlt
        obtain ⟨g2, o2, rfl, hc2, -⟩ := (HM.out.later (lbBelow HU.out)).at hltm
        obtain ⟨n, hn⟩ : ∃ n, n = L.getD k 0 := ⟨_, rfl⟩
        obtain ⟨m, hm⟩ : ∃ m, m = M.getD k 0 := ⟨_, rfl⟩
        rw [← hn] at hc1
        rw [← hm] at hc2
        have HN := Lib.hid hn
        have HMM := Lib.hid hm
        have hi1 : (0 : Int) ≤ (k : Int) := Int.natCast_nonneg _
        have hi2 : (k : Int) < (L.length : Int) := by omega
        have hi3 : (k : Int) < (M.length : Int) := by omega
        have hl : ((joinL L M).take k).length = k := by rw [List.length_take, HP.out]; omega
        have HROW := HR.out.1
        rw [hl] at HROW
        have HRR := Lib.hid HROW
        clear hn hm hl HROW
        cases hq : joinB n m with
        | true =>
          have HT2 := Lib.hid (upto_succ (f := fun j => joinB (L.getD j 0) (M.getD j 0)) HT.out (by show joinB (L.getD k 0) (M.getD k 0) = true; rw [← HN.out, ← HMM.out]; exact hq))
          have HTK : Hid ((joinL L M).take (k + 1) = (joinL L M).take k ++ [joinV n m]) := Lib.hid (by
            have hlj : k < (joinL L M).length := by rw [HP.out]; exact hlt
            have e := joinL_at (B := M) hlt
            rw [← HN.out, ← HMM.out] at e
            rw [List.take_succ_eq_append_getElem hlj, ← e]
            simp [List.getD, hlj])
          go_wp2_with fail
          go_quiet (exact Calls.quiet_of_same ((rJoin _ _ _).mono fun _ _ h => ⟨h.1, h.2.symm⟩))
          have HRD := Lib.hid (ownsRow_upd HRR.out (lbDrewN (fun _ => False) wr nq) (fun _ _ h => h))
          have HUD := Lib.hid (HU.out.trans (lbDrewN (fun _ => False) wr nq) (fun _ h _ => h))
          go_wp2_with (at_builtin; go_loud (refine wpList_append_mine _ rfl _ _ 29 rfl 0 3 i0 (.int .i64 0) 1 8 Try.underlying29 hi hz0 hz1 hz2 rfl (by decide) (.slice na k nc) k (lv ((joinL L M).take k)) rfl (HRD.out.alloc _) 1 [.int .i64 (joinV n m)] (lbSrc (wr.drewN nq) 3 #[.int .i64 (joinV n m)] 1 (by simp [Value.oneCell']) 1 _ rfl) (by unfold maxLen; omega) (by omega) (Nat.zero_le _) ?_))
          intro v' w2 ho hg hf
          obtain ⟨va, vc, rfl⟩ := ownsRow_slice ho
          have HR2 : Hid (ORow w2 (.slice va (k + 1) vc) ((joinL L M).take (k + 1))) := Lib.hid ⟨by
            have hl2 : ((joinL L M).take (k + 1)).length = k + 1 := by rw [List.length_take, HP.out]; omega
            rw [hl2, HTK.out]; simpa [lv] using ho, fun y hy => joinL_wi HL.out.2 HM.out.2 y (List.mem_of_mem_take hy)⟩
          have HF2 : Hid (∀ j, (Value.slice va (k + 1) vc).ownBlock = some j → w.heap.size ≤ j) := Lib.hid (fun j hj => by
            rcases hf j hj with h | h
            · exact HF.out j h
            · have := HU.out.size; simp at h; omega)
          have HU2 : Hid (Upd (fun _ => False) w w2) := Lib.hid (HUD.out.trans (Upd.row (Upd.alloc _ _ _) hg) (fun i h hlt => by have := HF.out i h; omega))
          clear ho hg hf hc1 hc2
          go_wp2_with fail
          go_roundw
          case rel => exact ⟨k + 1, _, _, by omega, by go_num, rfl, HR2, HF2, HU2, HT2⟩
          case measure => simp [intOf]; omega
        | false =>
          have HFF := Lib.hid (allB_no (f := joinB) (A := L) (B := M) hlt (by rw [← HN.out, ← HMM.out]; exact hq))
          go_wp2_with fail
          go_quiet (exact Calls.quiet_of_same ((rJoin _ _ _).mono fun _ _ h => ⟨h.1, h.2.symm⟩))
          go_wp2_with fail
          go_ret2
          exact ⟨.slice none 0 0, by rw [HFF.out]; rfl, by rw [joinR_no HFF.out]; exact ORow.none _, HU.out.trans (lbDrewN (fun _ => False) wr nq) (fun _ h _ => h)⟩
      · have HE := Lib.hid (allB_yes (f := joinB) HEQ.out (by omega) HT.out)
        go_wp2_with fail
        go_ret2
        refine ⟨.slice na k nc, by rw [HE.out]; rfl, ?_, HU.out⟩
        rw [joinR_yes HE.out]
        have hr := HR.out
        rw [List.take_of_length_le (by rw [HP.out]; omega)] at hr
        exact hr
  · have hb : ((L.length : Int) == (M.length : Int)) = false := beq_eq_false_iff_ne.2 (by omega)
    have hb' : ((L.length : Int) != (M.length : Int)) = true := by simp [bne, hb]
    have HF := Lib.hid (allB_len (f := joinB) hl)
    clear hl
    go_enter Try.func25, Try.ntmps25
    go_wp2_with fail
    go_ret2
    exact ⟨.slice none 0 0, by rw [HF.out]; rfl, by rw [joinR_no HF.out]; exact ORow.none _, Upd.refl _ _⟩
end Go.Proofs.Ytbdnebcalklphaa

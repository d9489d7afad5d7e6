/- The reference's Right. -/
import Derived.Test.YtkdmppgjmmmclaaZw
namespace Go.Proofs.Ytkdmppgjmmmclaa
open Go.RowKit
set_option linter.unusedVariables false
set_option linter.unusedSimpArgs false

set_option maxHeartbeats 2000000 in
theorem qRight1 (i : I6) (h : (i.op != 41 && i.cond != 0 || i.op == 41 && !inP i.cond 0 13 1) = true) (w : World) : Calls Try.prog 15 #[i.val] w fun e w' => e = .returned (.bool false) ∧ New w w' := by
  cases h1 : (i.op == 41)
  · cases h2 : (i.cond == 0)
    · have n1 : (i.op != 41) = true := by simp only [bne, h1]; rfl
      have n2 : (i.cond != 0) = true := by simp only [bne, h2]; rfl
      clear h h1 h2
      go_enter Try.func15, Try.ntmps15
      go_wp2
      go_ret
      exact ⟨rfl, New.alloc _ _⟩
    · simp [h1, h2, bne] at h
  · have n1 : (i.op != 41) = false := by simp only [bne, h1]; rfl
    have n3 : inP i.cond 0 13 1 = false := by simpa [h1, bne] using h
    clear h
    go_enter Try.func15, Try.ntmps15
    go_wp2_with (first
      | (with_reducible refine (qIn _ _ _ _ (by decide) _).mono ?_; rintro e _ ⟨rfl, rfl⟩))
    go_ret
    exact ⟨rfl, New.alloc _ _⟩

def movR (i : I6) : Bool := (i.n == 0) && (i.imm == 0) && inP i.d 0 14 1 && (i.d != 13) && inP i.m 0 14 1
set_option maxHeartbeats 2000000 in
theorem qRight28 (i : I6) (h0 : (i.op != 41 && i.cond != 0 || i.op == 41 && !inP i.cond 0 13 1) = false) (h28 : (i.op == 28) = true) (w : World) : Calls Try.prog 15 #[i.val] w fun e w' => e = .returned (.bool (movR i)) ∧ New w w' := by
  have h1 : (i.op == 41) = false := by simp at h28; simp [h28]
  have n1 : (i.op != 41) = true := by simp only [bne, h1]; rfl
  have n2 : (i.cond != 0) = false := by simpa [h1, n1] using h0
  clear h0
  cases c1 : (i.n == 0)
  · go_enter Try.func15, Try.ntmps15
    go_wp2_with (first
      | (with_reducible refine (qIn _ _ _ _ (by decide) _).mono ?_; rintro e _ ⟨rfl, rfl⟩))
    go_ret
    exact ⟨by simp [movR, c1], New.alloc _ _⟩
  cases c2 : (i.imm == 0)
  · go_enter Try.func15, Try.ntmps15
    go_wp2_with (first
      | (with_reducible refine (qIn _ _ _ _ (by decide) _).mono ?_; rintro e _ ⟨rfl, rfl⟩))
    go_ret
    exact ⟨by simp [movR, c1, c2], New.alloc _ _⟩
  cases c3 : inP i.d 0 14 1
  · go_enter Try.func15, Try.ntmps15
    go_wp2_with (first
      | (with_reducible refine (qIn _ _ _ _ (by decide) _).mono ?_; rintro e _ ⟨rfl, rfl⟩))
    go_ret
    exact ⟨by simp [movR, c1, c2, c3], New.alloc _ _⟩
  cases c4 : (i.d != 13)
  · go_enter Try.func15, Try.ntmps15
    go_wp2_with (first
      | (with_reducible refine (qIn _ _ _ _ (by decide) _).mono ?_; rintro e _ ⟨rfl, rfl⟩))
    go_ret
    exact ⟨by simp [movR, c1, c2, c3, c4], New.alloc _ _⟩
  cases c5 : inP i.m 0 14 1
  · go_enter Try.func15, Try.ntmps15
    go_wp2_with (first
      | (with_reducible refine (qIn _ _ _ _ (by decide) _).mono ?_; rintro e _ ⟨rfl, rfl⟩))
    go_ret
    exact ⟨by simp [movR, c1, c2, c3, c4, c5], New.alloc _ _⟩
  · go_enter Try.func15, Try.ntmps15
    go_wp2_with (first
      | (with_reducible refine (qIn _ _ _ _ (by decide) _).mono ?_; rintro e _ ⟨rfl, rfl⟩))
    go_ret
    exact ⟨by simp [movR, c1, c2, c3, c4, c5], New.alloc _ _⟩

def restR (i : I6) : Bool := match formsP i.op with
  | none => false
  | some f => if !useP f.d i.d || !useP f.n i.n || !useP f.m i.m then false
      else if f.by' == 0 then i.imm == 0 else inP i.imm f.lo f.hi f.by'
theorem Fm.kept {w w1 : World} {f : Fm} {t : TypeId} (h : New (w.alloc (.cells #[.bool f.d, .bool f.n, .bool f.m, .int .i64 f.lo, .int .i64 f.hi, .int .i64 f.by'] t)) w1) : w.heap.size < w1.heap.size := by
  have hs := h.size
  simp at hs
  omega
theorem forms_all : (List.range 46).all (fun k => match formsP (k : Int) with
  | some f => decide (f.by' = 0 ∨ 0 < f.by')
  | none => true) = true := by decide +kernel
theorem forms_by {op : Int} {f : Fm} (h : formsP op = some f) : f.by' = 0 ∨ 0 < f.by' := by
  by_cases h0 : op < 1 ∨ 45 < op
  · rw [forms_none h0] at h; cases h
  · have e : op = ((op.toNat : Nat) : Int) := by omega
    have := List.all_eq_true.1 forms_all op.toNat (List.mem_range.2 (by omega))
    rw [← e, h] at this
    exact of_decide_eq_true this
set_option maxHeartbeats 4000000 in
theorem qRightR (i : I6) (h28 : (i.op == 28) = false) (w : World)
    (HG : ((i.op != 41) = true ∧ (i.cond != 0) = false ∧ (i.op == 41) = false) ∨ ((i.op != 41) = false ∧ (i.op == 41) = true ∧ inP i.cond 0 13 1 = true)) :
    Calls Try.prog 15 #[i.val] w fun e w' => e = .returned (.bool (restR i)) ∧ New w w' := by
  cases hf : formsP i.op with
  | none =>
    have HF := Lib.hid hf
    clear hf
    rcases HG with ⟨n1, n2, n3⟩ | ⟨n1, n3, n4⟩
    all_goals
      go_enter Try.func15, Try.ntmps15
      go_wp2_with (with_reducible refine (qIn _ _ _ _ (by decide) _).mono ?_; rintro e _ ⟨rfl, rfl⟩)
      refine (qForms i.op _).mono ?_
      rintro e w1 ⟨rfl, hw⟩
      obtain ⟨hlt, c0, c1, c2, c3, c4, c5⟩ := I6.kept hw
      have HW := Lib.hid (New.trans (New.alloc _ _) hw)
      clear hw
      rw [HF.out]
      unfold fmV
      go_wp2
      go_ret
      exact ⟨by simp [restR, HF.out], New.trans HW.out (New.alloc _ _)⟩
  | some f =>
    have HF := Lib.hid hf
    have hby := forms_by hf
    clear hf
    cases u1 : useP f.d i.d
    · rcases HG with ⟨n1, n2, n3⟩ | ⟨n1, n3, n4⟩
      all_goals
        go_enter Try.func15, Try.ntmps15
        go_wp2_with (with_reducible refine (qIn _ _ _ _ (by decide) _).mono ?_; rintro e _ ⟨rfl, rfl⟩)
        refine (qForms i.op _).mono ?_
        rintro e w1 ⟨rfl, hw⟩
        obtain ⟨hlt, c0, c1, c2, c3, c4, c5⟩ := I6.kept hw
        have HW := Lib.hid (New.trans (New.alloc _ _) hw)
        clear hw
        rw [HF.out]
        unfold fmV
        go_wp2_with (first
          | (with_reducible refine (qUse _ _ _).mono ?_; rintro e _ ⟨rfl, rfl⟩)
        )
        go_ret
        exact ⟨by simp [restR, HF.out, u1], New.trans HW.out (New.alloc _ _)⟩
    cases u2 : useP f.n i.n
    · rcases HG with ⟨n1, n2, n3⟩ | ⟨n1, n3, n4⟩
      all_goals
        go_enter Try.func15, Try.ntmps15
        go_wp2_with (with_reducible refine (qIn _ _ _ _ (by decide) _).mono ?_; rintro e _ ⟨rfl, rfl⟩)
        refine (qForms i.op _).mono ?_
        rintro e w1 ⟨rfl, hw⟩
        obtain ⟨hlt, c0, c1, c2, c3, c4, c5⟩ := I6.kept hw
        have HW := Lib.hid (New.trans (New.alloc _ _) hw)
        clear hw
        rw [HF.out]
        unfold fmV
        go_wp2_with (first
          | (with_reducible refine (qUse _ _ _).mono ?_; rintro e _ ⟨rfl, rfl⟩)
        )
        go_ret
        exact ⟨by simp [restR, HF.out, u1, u2], New.trans HW.out (New.alloc _ _)⟩
    cases u3 : useP f.m i.m
    · rcases HG with ⟨n1, n2, n3⟩ | ⟨n1, n3, n4⟩
      all_goals
        go_enter Try.func15, Try.ntmps15
        go_wp2_with (with_reducible refine (qIn _ _ _ _ (by decide) _).mono ?_; rintro e _ ⟨rfl, rfl⟩)
        refine (qForms i.op _).mono ?_
        rintro e w1 ⟨rfl, hw⟩
        obtain ⟨hlt, c0, c1, c2, c3, c4, c5⟩ := I6.kept hw
        have HW := Lib.hid (New.trans (New.alloc _ _) hw)
        clear hw
        rw [HF.out]
        unfold fmV
        go_wp2_with (first
          | (with_reducible refine (qUse _ _ _).mono ?_; rintro e _ ⟨rfl, rfl⟩)
        )
        go_ret
        exact ⟨by simp [restR, HF.out, u1, u2, u3], New.trans HW.out (New.alloc _ _)⟩
    cases cb : (f.by' == 0)
    · have h9 : ¬ f.by' = 0 := by simpa using cb
      have HB : Hid (0 < f.by') := Lib.hid (by omega)
      clear hby h9
      rcases HG with ⟨n1, n2, n3⟩ | ⟨n1, n3, n4⟩
      all_goals
        go_enter Try.func15, Try.ntmps15
        go_wp2_with (with_reducible refine (qIn _ _ _ _ (by decide) _).mono ?_; rintro e _ ⟨rfl, rfl⟩)
        refine (qForms i.op _).mono ?_
        rintro e w1 ⟨rfl, hw⟩
        obtain ⟨hlt, c0, c1, c2, c3, c4, c5⟩ := I6.kept hw
        have HW := Lib.hid (New.trans (New.alloc _ _) hw)
        clear hw
        rw [HF.out]
        unfold fmV
        go_wp2_with (first
          | (with_reducible refine (qUse _ _ _).mono ?_; rintro e _ ⟨rfl, rfl⟩)
          | (with_reducible refine (qIn _ _ _ _ HB.out _).mono ?_; rintro e _ ⟨rfl, rfl⟩))
        go_ret
        exact ⟨by simp [restR, HF.out, u1, u2, u3, cb], New.trans HW.out (New.alloc _ _)⟩
    · rcases HG with ⟨n1, n2, n3⟩ | ⟨n1, n3, n4⟩
      all_goals
        go_enter Try.func15, Try.ntmps15
        go_wp2_with (with_reducible refine (qIn _ _ _ _ (by decide) _).mono ?_; rintro e _ ⟨rfl, rfl⟩)
        refine (qForms i.op _).mono ?_
        rintro e w1 ⟨rfl, hw⟩
        obtain ⟨hlt, c0, c1, c2, c3, c4, c5⟩ := I6.kept hw
        have HW := Lib.hid (New.trans (New.alloc _ _) hw)
        clear hw
        rw [HF.out]
        unfold fmV
        go_wp2_with (first
          | (with_reducible refine (qUse _ _ _).mono ?_; rintro e _ ⟨rfl, rfl⟩))
        go_ret
        exact ⟨by simp [restR, HF.out, u1, u2, u3, cb], New.trans HW.out (New.alloc _ _)⟩
theorem qRight (i : I6) (w : World) : Calls Try.prog 15 #[i.val] w fun e w' => e = .returned (.bool (refR i)) ∧ New w w' := by
  unfold refR
  cases h0 : (i.op != 41 && i.cond != 0 || i.op == 41 && !inP i.cond 0 13 1)
  · cases h28 : (i.op == 28)
    · refine qRightR i h28 w ?_
      cases h1 : (i.op == 41)
      · have n1 : (i.op != 41) = true := by simp only [bne, h1]; rfl
        exact .inl ⟨n1, by simpa [h1, n1] using h0, rfl⟩
      · have n1 : (i.op != 41) = false := by simp only [bne, h1]; rfl
        exact .inr ⟨n1, rfl, by simpa [h1, n1] using h0⟩
    · exact qRight28 i h0 h28 w
  · exact qRight1 i h0 w
end Go.Proofs.Ytkdmppgjmmmclaa

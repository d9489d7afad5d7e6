/- The reference's Check and Range; known; a list of steps as an argument. -/
import Derived.Test.YteapemjkfncbjaaGa
import Derived.Test.YteapemjkfncbjaaHl
namespace Go.Proofs.Yteapemjkfncbjaa
open Go.RowKit Go.Lib Go.ChangeShapes Go.WideShapes Go.Deep
set_option linter.unusedVariables false
set_option linter.unusedSimpArgs false

section
variable {F : Nat → Prop} {w : World} {b : Nat} {m : HpM}
theorem rCheck (h : Hep RT F w b m) (hl : m.arrs.length ≤ 1000) (ref ap : Int) : Calls Try.prog 31 #[.pointer (some ⟨b, 0, none⟩), .int .i64 ref, .int .i64 ap] w fun e w' => e = .returned (.int .i64 (chkP m.arrs ref ap)) ∧ Upd (fun _ => False) w w' := by
  rcases chk_three m.arrs ref ap with ⟨hno, e1, e2⟩ | ⟨i, hi, rfl, hm⟩
  · rw [e1]
    have HA := Lib.hid (qAt_no h hl ref hno)
    clear h e1 e2 hno
    go_enter Try.func31, Try.ntmps31
    go_wp2_with fail
    refine HA.out.mono ?_
    rintro e w1 ⟨rfl, hu⟩
    have HU := Lib.hid (hu.trans (Upd.alloc (fun _ => False) w1 (.cells #[.int .i64 0, .int .i64 0, .int .i64 0, .bool false, .slice none 0 0] 38)) (fun _ h _ => h))
    clear hu
    simp only [zarr]
    go_wp2_with fail
    go_ret
    exact ⟨rfl, HU.out⟩
  · have HA := Lib.hid (qAt h hl hi)
    clear h
    generalize m.arrs.getD i default = a at *
    obtain ⟨own, lab, life, sh, ys⟩ := a
    rcases hm with ⟨hm, e1, e2⟩ | ⟨hm, e1, e2⟩
    all_goals
      rw [e1]
      have HM := Lib.hid hm
      clear e1 e2 hm
      go_enter Try.func31, Try.ntmps31
      go_wp2_with fail
      refine HA.out.mono ?_
      rintro e w1 ⟨da, dc, rfl, -, hu1⟩
      obtain ⟨w2, hw2⟩ : ∃ w2, w2 = w1.alloc (.cells #[.int .i64 own, .int .i64 lab, .int .i64 life, .bool sh, .slice da ys.length dc] 38) := ⟨_, rfl⟩
      have hu2 : Upd (fun _ => False) w w2 := by rw [hw2]; exact hu1.trans (Upd.alloc _ _ _) (fun _ h _ => h)
      have hx2 : w2.heap[w1.heap.size]? = some (.cells #[.int .i64 own, .int .i64 lab, .int .i64 life, .bool sh, .slice da ys.length dc] 38 (0, 0)) := by rw [hw2]; exact hpTop _ _ _ rfl
      obtain ⟨c0, c1, c2, c3, c4, -⟩ := five hx2
      have HW2 := Lib.hid hw2
      have HU2 := Lib.hid hu2
      have HMY := Lib.hid (rMay own lab life sh da ys.length dc ys ap w2)
      rw [HM.out] at HMY
      clear hu1 hu2 hx2 hw2
      simp only [aval]
      go_wp2_with fail
      rw [← HW2.out]
      go_wp2_with fail
      refine HMY.out.mono ?_
      rintro e w3 ⟨rfl, hu3⟩
      have HU3 := Lib.hid (HU2.out.trans hu3 (fun _ h _ => h))
      clear hu3 c0 c1 c2 c3 c4
      go_wp2_with fail
      go_ret
      exact ⟨rfl, HU3.out⟩
theorem in_four (at_ n len : Int) : (at_ < 0 ∧ inB at_ n len = false) ∨ (0 ≤ at_ ∧ n < 0 ∧ inB at_ n len = false) ∨ (0 ≤ at_ ∧ 0 ≤ n ∧ len < at_ ∧ inB at_ n len = false) ∨ (0 ≤ at_ ∧ 0 ≤ n ∧ at_ ≤ len ∧ len - at_ < n ∧ inB at_ n len = false) ∨ (0 ≤ at_ ∧ 0 ≤ n ∧ at_ ≤ len ∧ n ≤ len - at_ ∧ inB at_ n len = true) := by
  by_cases h1 : at_ < 0
  · exact .inl ⟨h1, by simp [inB]; omega⟩
  by_cases h2 : n < 0
  · exact .inr (.inl ⟨by omega, h2, by simp [inB]; omega⟩)
  by_cases h3 : len < at_
  · exact .inr (.inr (.inl ⟨by omega, by omega, h3, by simp [inB]; omega⟩))
  by_cases h4 : len - at_ < n
  · exact .inr (.inr (.inr (.inl ⟨by omega, by omega, by omega, h4, by simp [inB]; omega⟩)))
  · exact .inr (.inr (.inr (.inr ⟨by omega, by omega, by omega, by omega, by simp [inB]; omega⟩)))
theorem rRange (h : Hep RT F w b m) (hl : m.arrs.length ≤ 1000) (ref at_ n ap : Int) : Calls Try.prog 32 #[.pointer (some ⟨b, 0, none⟩), .int .i64 ref, .int .i64 at_, .int .i64 n, .int .i64 ap] w fun e w' => e = .returned (.int .i64 (rngP m.arrs ref at_ n ap)) ∧ Upd (fun _ => False) w w' := by
  have HC := Lib.hid (rCheck h hl ref ap)
  have HG := Lib.hid (show rngP m.arrs ref at_ n ap = if chkP m.arrs ref ap = 36864 then (if inB at_ n (lenP m.arrs ref ap) then 36864 else 28418) else chkP m.arrs ref ap from rfl)
  have hno : chkP m.arrs ref ap ≠ 36864 → Calls Try.prog 32 #[.pointer (some ⟨b, 0, none⟩), .int .i64 ref, .int .i64 at_, .int .i64 n, .int .i64 ap] w fun e w' => e = .returned (.int .i64 (rngP m.arrs ref at_ n ap)) ∧ Upd (fun _ => False) w w' := by
    intro hne
    rw [HG.out, if_neg hne]
    have hc : (chkP m.arrs ref ap != 36864) = true := by simpa using hne
    clear hne HG h
    generalize chkP m.arrs ref ap = st at *
    go_enter Try.func32, Try.ntmps32
    go_wp2_with (refine HC.out.mono ?_; rintro e w1 ⟨rfl, hu⟩; have HU := Lib.hid hu; clear hu)
    go_ret
    exact ⟨rfl, HU.out⟩
  rcases chk_three m.arrs ref ap with ⟨-, e1, -⟩ | ⟨i, hi, rfl, hm⟩
  · exact hno (by omega)
  rcases hm with ⟨-, e1, -⟩ | ⟨-, e1, e2⟩
  · exact hno (by omega)
  clear hno
  have HA : Hid (∀ u, Upd (fun _ => False) w u → Calls Try.prog 12 #[.pointer (some ⟨b, 0, none⟩), .int .i64 ((i : Int) + 1)] u fun e w' => ∃ a c, e = .returned (.tuple #[aval (m.arrs.getD i default) (.slice a (m.arrs.getD i default).data.length c), .bool true]) ∧ Vw w' (.slice a (m.arrs.getD i default).data.length c) (m.arrs.getD i default).data ∧ Upd (fun _ => False) u w') := Lib.hid (fun u hu => qAt (h.upd hu (fun _ _ h => h)) hl hi)
  have hdl : (m.arrs.getD i default).data.length ≤ 64 := by
    obtain ⟨av, R, h, hR⟩ := h
    obtain ⟨hr, e⟩ := fst_at hR hi
    rw [← e]
    exact (h.dat _ (List.getElem_mem hr)).len
  rw [e1] at HC
  have HG2 := Lib.hid ((HG.out.trans (if_pos e1)).trans (by rw [e2]))
  clear h e1 e2 HG
  generalize rngP m.arrs ((i : Int) + 1) at_ n ap = rg at *
  generalize m.arrs.getD i default = a at *
  obtain ⟨own, lab, life, sh, ys⟩ := a
  simp only at hdl HG2
  rcases in_four at_ n (ys.length : Int) with ⟨i1, hb⟩ | ⟨i1, i2, hb⟩ | ⟨i1, i2, i3, hb⟩ | ⟨i1, i2, i3, i4, hb⟩ | ⟨i1, i2, i3, i4, hb⟩
  all_goals
    rw [hb] at HG2
    clear hb
    try have hwr : IntKind.i64.wrap ((ys.length : Int) - at_) = (ys.length : Int) - at_ := IntWalk.i64_in _ (by omega)
    go_enter Try.func32, Try.ntmps32
    go_wp2_with (refine HC.out.mono ?_; rintro e w1 ⟨rfl, hu⟩; have HU := Lib.hid hu; clear hu)
    refine (HA.out _ HU.out).mono ?_
    rintro e w2 ⟨da, dc, rfl, -, hu2⟩
    obtain ⟨w3, hw3⟩ : ∃ w3, w3 = w2.alloc (.cells #[.int .i64 own, .int .i64 lab, .int .i64 life, .bool sh, .slice da ys.length dc] 38) := ⟨_, rfl⟩
    have hu3 : Upd (fun _ => False) w w3 := by rw [hw3]; exact HU.out.trans (hu2.trans (Upd.alloc _ _ _) (fun _ h _ => h)) (fun _ h _ => h)
    have hx3 : w3.heap[w2.heap.size]? = some (.cells #[.int .i64 own, .int .i64 lab, .int .i64 life, .bool sh, .slice da ys.length dc] 38 (0, 0)) := by rw [hw3]; exact hpTop _ _ _ rfl
    obtain ⟨c0, c1, c2, c3, c4, -⟩ := five hx3
    have HW3 := Lib.hid hw3
    have HU3 := Lib.hid hu3
    clear hu2 hu3 hx3 hw3
    simp only [aval]
    go_wp2_with fail
    rw [← HW3.out]
    go_wp2_with fail
    go_ret
    refine ⟨?_, HU3.out⟩
    rw [HG2.out]
    rfl
theorem known9 (w0 w : World) (hu : Upd (fun _ => False) w0 w) : Calls Try.prog 26 #[] w fun e w' => e = .returned (.bool true) ∧ Upd (fun _ => False) w0 w' := by
  have HU := Lib.hid hu
  clear hu
  go_enter Try.func26, Try.ntmps26
  go_wp2_with (refine (oNew (K := Free) HU.out (fun _ h => h.elim) 64 (by omega) (by omega)).mono ?_; rintro e w1 ⟨b, rfl, ho, -⟩; have H1 := Lib.hid ho; clear ho)
  refine (show Calls Try.prog 27 #[.pointer (some ⟨b, 0, none⟩), .int .i64 0, .int .i64 1] w1 fun e w' => e = .returned (.int .i64 28417) ∧ Upd (fun _ => False) w1 w' from wCheck H1.out.hp (by decide) 0 1).mono ?_
  rintro e w2 ⟨rfl, h2⟩
  have H2 := Lib.hid (H1.out.quiet h2).own
  clear h2
  go_wp2_with fail
  refine (show Calls Try.prog 27 #[.pointer (some ⟨b, 0, none⟩), .int .i64 1, .int .i64 1] w2 fun e w' => e = .returned (.int .i64 36864) ∧ Upd (fun _ => False) w2 w' from wCheck H2.out.hp (by decide) 1 1).mono ?_
  rintro e w3 ⟨rfl, h3⟩
  have H3 := Lib.hid (H2.out.quiet h3).own
  clear h3
  go_wp2_with fail
  refine (wCheck_nil 1 1 w3).mono ?_
  rintro e w4 ⟨rfl, rfl⟩
  go_wp2_with fail
  go_ret
  exact ⟨rfl, H3.out.up⟩
end
end Go.Proofs.Yteapemjkfncbjaa

/- What the law draws of raw numbers: an instruction, whichever. -/
import Derived.Test.YtcmdffkhofmfhaaCd
import Derived.Test.YtcmdffkhofmfhaaRaw
import Derived.Deep.RegionHeld3
import Derived.Deep.QuietTactic
import Derived.BigQuiet
import Derived.Outline
namespace Go.Proofs.Ytcmdffkhofmfhaa
open Go.RowKit
set_option linter.unusedVariables false


theorem ix8 (a m : Int) (wa : wf64 a) (h0 : 0 ≤ m) (h1 : m < 8) : ∃ u, wf64 u ∧ ∀ w : World, (Instr.index 73 (.agg #[.int .i64 a, .int .i64 0, .int .i64 119, .int .i64 120, .int .i64 (-1), .int .i64 2147483647, .int .i64 (-2147483648), .int .i64 2147483648]) (.int .i64 m)).run Try.prog w = .ok (.int .i64 u) w := by
  have hk : m = 0 ∨ m = 1 ∨ m = 2 ∨ m = 3 ∨ m = 4 ∨ m = 5 ∨ m = 6 ∨ m = 7 := by omega
  rcases hk with rfl | rfl | rfl | rfl | rfl | rfl | rfl | rfl
  · exact ⟨_, wa, fun w => by kernel_rfl⟩
  · exact ⟨0, by unfold wf64; decide, fun w => by kernel_rfl⟩
  · exact ⟨119, by unfold wf64; decide, fun w => by kernel_rfl⟩
  · exact ⟨120, by unfold wf64; decide, fun w => by kernel_rfl⟩
  · exact ⟨-1, by unfold wf64; decide, fun w => by kernel_rfl⟩
  · exact ⟨2147483647, by unfold wf64; decide, fun w => by kernel_rfl⟩
  · exact ⟨-2147483648, by unfold wf64; decide, fun w => by kernel_rfl⟩
  · exact ⟨2147483648, by unfold wf64; decide, fun w => by kernel_rfl⟩

theorem upd3 (w : World) (o1 o2 o3 : Obj) : Upd (fun _ => False) w (((w.alloc o1).alloc o2).alloc o3) := ((Upd.alloc _ w _).trans (Upd.alloc _ _ _) (fun _ h _ => h)).trans (Upd.alloc _ _ _) (fun _ h _ => h)
theorem ret_ins {fn : Func} {w0 w : World} {a : Act} {op a' b' : Int} (hr : (results fn a.tmps).run Try.prog w = .ok (ins op a' b') w) (hd : a.defers = []) (hw : wf64 op ∧ wf64 a' ∧ wf64 b') (hu : Upd (fun _ => False) w0 w) :
    bodyPost Try.prog fn (fun e w' => (∃ op a' b', e = .returned (ins op a' b') ∧ wf64 op ∧ wf64 a' ∧ wf64 b') ∧ Upd (fun _ => False) w0 w') .ret a w :=
  bodyPost_ret hr hd ⟨⟨_, _, _, rfl, hw⟩, hu⟩

set_option maxHeartbeats 4000000 in
theorem instr (o a b c : Int) (w : World) (wo : wf64 o) (wa : wf64 a) (wb : wf64 b) (wc : wf64 c) : Calls Try.prog 20 #[raw4 o a b c] w fun e w' =>
    (∃ op a' b', e = .returned (ins op a' b') ∧ wf64 op ∧ wf64 a' ∧ wf64 b') ∧ Upd (fun _ => False) w w' := by
  have WO := Lib.hid wo
  have WA := Lib.hid wa
  have WB := Lib.hid wb
  have WC := Lib.hid wc
  obtain ⟨u, hu1, hix⟩ := ix8 a (b % 8) wa (Int.emod_nonneg _ (by omega)) (Int.emod_lt_of_pos _ (by omega))
  have WU := Lib.hid hu1
  have HP9 := Lib.hid (fun w : World => pick w b 9 wb (by omega) (by omega))
  have hq1 : 0 ≤ b % 9 := Int.emod_nonneg _ (by omega)
  have hq2 : b % 9 < 9 := Int.emod_lt_of_pos _ (by omega)
  have WM := Lib.hid (show wf64 (b % 9 - 1) from WalkArith.wf_i64 (by omega))
  have HP8 := Lib.hid (fun w : World => pick w b 8 wb (by omega) (by omega))
  clear wo wa wb wc hu1
  go_enter Try.func20, Try.ntmps20
  go_wp2_with fail
  refine (pick _ o 41 WO.out (by omega) (by omega)).mono ?_
  rintro e w1 ⟨rfl, rfl⟩
  have hm1 : 0 ≤ o % 41 := Int.emod_nonneg _ (by omega)
  have hm2 : o % 41 < 41 := Int.emod_lt_of_pos _ (by omega)
  have WOP := Lib.hid (show wf64 (o % 41) from WalkArith.wf_i64 (by omega))
  generalize o % 41 = op at *
  go_wp2_with fail
  refine (rOperands _ _).mono ?_
  rintro e w1 ⟨rfl, rfl⟩
  by_cases h0 : 0 < opsB op
  · go_wp2_with fail
    refine (pick _ a 14 WA.out (by omega) (by omega)).mono ?_
    rintro e w1 ⟨rfl, rfl⟩
    have hn1 : 0 ≤ a % 14 := Int.emod_nonneg _ (by omega)
    have hn2 : a % 14 < 14 := Int.emod_lt_of_pos _ (by omega)
    have WN := Lib.hid (show wf64 (a % 14 - 1) from WalkArith.wf_i64 (by omega))
    generalize a % 14 = a1 at *
    by_cases hs : op = 1 ∨ op = 23 ∨ op = 24
    · have T := table op
      have ho : opsB op = 1 := by omega
      rcases hs with rfl | rfl | rfl
      all_goals
        clear T
        go_wp2_with fail
        go_region_with ((first
          | (go_at_call 28; (with_reducible refine (HP8.out _).mono ?_); rintro e w1 ⟨rfl, rfl⟩)))
        all_goals
          go_wp2_with fail
          all_goals
            go_light
            apply ret_ins
            · simp [results, Try.f20, go_sem]
              first | exact ⟨rfl, rfl, rfl⟩ | exact ⟨rfl, rfl⟩ | rfl
            · rfl
            · exact ⟨by first | exact WOP.out | (unfold wf64; decide), by first | exact WU.out | exact WA.out | exact WN.out | (unfold wf64; decide), by first | exact WB.out | exact WM.out | (unfold wf64; decide)⟩
            · first | exact upd3 _ _ _ _ | exact (upd3 _ _ _ _).trans (Upd.drew _ _) (fun _ h _ => h)
    · have b1 : (op == 1) = false := by simp at hs; simpa using hs.1
      have b2 : (op == 23) = false := by simp at hs; simpa using hs.2.1
      have b3 : (op == 24) = false := by simp at hs; simpa using hs.2.2
      clear hs
      by_cases h2 : 1 < opsB op
      · go_wp2_with fail
        refine (HP9.out _).mono ?_
        rintro e w1 ⟨rfl, rfl⟩
        go_wp2_with fail
        all_goals
          go_light
          apply ret_ins
          · simp [results, Try.f20, go_sem]
            first | exact ⟨rfl, rfl, rfl⟩ | exact ⟨rfl, rfl⟩ | rfl
          · rfl
          · exact ⟨by first | exact WOP.out | (unfold wf64; decide), by first | exact WU.out | exact WA.out | exact WN.out | (unfold wf64; decide), by first | exact WB.out | exact WM.out | (unfold wf64; decide)⟩
          · first | exact upd3 _ _ _ _ | exact (upd3 _ _ _ _).trans (Upd.drew _ _) (fun _ h _ => h)
      · go_wp2_with fail
        all_goals
          go_light
          apply ret_ins
          · simp [results, Try.f20, go_sem]
            first | exact ⟨rfl, rfl, rfl⟩ | exact ⟨rfl, rfl⟩ | rfl
          · rfl
          · exact ⟨by first | exact WOP.out | (unfold wf64; decide), by first | exact WU.out | exact WA.out | exact WN.out | (unfold wf64; decide), by first | exact WB.out | exact WM.out | (unfold wf64; decide)⟩
          · first | exact upd3 _ _ _ _ | exact (upd3 _ _ _ _).trans (Upd.drew _ _) (fun _ h _ => h)
  · have h2 : ¬ 1 < opsB op := by omega
    go_wp2_with fail
    all_goals
      go_light
      apply ret_ins
      · simp [results, Try.f20, go_sem]
        first | exact ⟨rfl, rfl, rfl⟩ | exact ⟨rfl, rfl⟩ | rfl
      · rfl
      · exact ⟨by first | exact WOP.out | (unfold wf64; decide), by first | exact WU.out | exact WA.out | exact WN.out | (unfold wf64; decide), by first | exact WB.out | exact WM.out | (unfold wf64; decide)⟩
      · first | exact upd3 _ _ _ _ | exact (upd3 _ _ _ _).trans (Upd.drew _ _) (fun _ h _ => h)
end Go.Proofs.Ytcmdffkhofmfhaa

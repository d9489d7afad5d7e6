/- Laying an instruction: the reference's. -/
import Derived.Test.YtmbdfmgidnjgeaaGreatDoorCl
namespace Go.Proofs.YtmbdfmgidnjgeaaGreatDoor
open Go.RowKit
set_option linter.unusedVariables false

set_option maxHeartbeats 2000000 in
theorem rLay (op a b : Int) (w : World) (p : Nat) (v : Value) (xs : List Int) (h : Wr 43 w p v xs) (hn : xs.length ≤ 1099511620000) (hr : rightB op a b = true) :
    Calls Tryz.prog 17 #[.pointer (some ⟨p, 0, none⟩), ins op a b] w fun e w' => e = .returned (.tuple #[]) ∧ Laid 43 w p v (xs ++ layB op a b) w' := by
  have HA := Lib.hid (Upd.alloc (fun _ => False) w (.cells #[.int .i64 op, .int .i64 a, .int .i64 b] 55))
  have HW1 := Lib.hid (h.upd HA.out (fun _ _ h => h))
  have HI := Lib.hid (wr_inn h)
  have R := (right_iff op a b).1 hr
  have T := table op
  have wo : (Lit.int .i64 op).wf = true := WalkArith.wf_i64 (by omega)
  have wa : (Lit.int .i64 a).wf = true := WalkArith.wf_i64 (by omega)
  have wb : (Lit.int .i64 b).wf = true := WalkArith.wf_i64 (by omega)
  have hlt2 : w.heap.size < (w.alloc (.cells #[.int .i64 op, .int .i64 a, .int .i64 b] 55)).heap.size := by simp
  clear h R hr
  go_enter Tryz.func17, Tryz.ntmps17
  go_wp2_with fail
  refine (refU8 _ p v xs op HW1.out (by omega) wo).mono ?_
  rintro e w3 ⟨rfl, v3, g1, g2, g3⟩
  obtain ⟨hd0, hd1, hd2⟩ := ins_cells g2 (fun hf => absurd (HI.out _ hf) (Nat.lt_irrefl _))
  have G1 := Lib.hid g1
  have G2 := Lib.hid g2
  have G3 := Lib.hid g3
  have HLT := Lib.hid (show w.heap.size < w3.heap.size by have := g2.size; simp at this; omega)
  clear g1 g2 g3
  by_cases h1 : op = 1
  · have HT := Lib.hid (show layB op a b = [op % 256, a / 16777216 % 256, a / 65536 % 256, a / 256 % 256, a % 256] by simp [layB, h1])
    have b1 : (op == 1) = true := by simpa using h1
    clear h1 T
    go_wp2_with fail
    refine (refS32 _ p v3 _ a G1.out (by simp; omega) wa).mono ?_
    rintro e w4 ⟨rfl, hL⟩
    have HL := Lib.hid hL
    clear hL
    go_wp2_with fail
    go_end0
    exact ⟨rfl, (Laid.then G1.out G2.out G3.out (by rw [HT.out]; simpa using HL.out)).pre HA.out⟩
  · have b1 : (op == 1) = false := by simpa using h1
    by_cases h2 : op = 23 ∨ op = 24
    · have HT := Lib.hid (show layB op a b = [op % 256, a / 256 % 256, a % 256] by simp [layB, h1, h2])
      have b2 : (op == 23) = true ∨ (op == 23) = false ∧ (op == 24) = true := by
        rcases h2 with q2 | q2
        · left; simpa using q2
        · right; subst q2; exact ⟨rfl, rfl⟩
      clear h1 h2 T
      rcases b2 with b2 | ⟨b2, b3⟩
      all_goals
        go_wp2_with fail
        refine (refU16 _ p v3 _ a G1.out (by simp; omega) wa).mono ?_
        rintro e w4 ⟨rfl, hL⟩
        have HL := Lib.hid hL
        clear hL
        go_wp2_with fail
        go_end0
        exact ⟨rfl, (Laid.then G1.out G2.out G3.out (by rw [HT.out]; simpa using HL.out)).pre HA.out⟩
    · have b2 : (op == 23) = false := by simp at h2; simpa using h2.1
      have b3 : (op == 24) = false := by simp at h2; simpa using h2.2
      have HT0 := Lib.hid (show layB op a b = op % 256 :: tailB op a b by simp [layB, h1, h2])
      by_cases h3 : op = 27
      · have HT := Lib.hid (show layB op a b = [op % 256, a % 256, b % 256] by rw [HT0.out, h3]; simp [tailB, ops27])
        have b4 : (op == 27) = true := by simpa using h3
        clear h1 h2 h3 T
        go_wp2_with fail
        refine (refU8 _ p v3 _ a G1.out (by simp; omega) wa).mono ?_
        rintro e w4 ⟨rfl, v4, k1, k2, k3⟩
        have hf : ¬ fp p v3 w.heap.size := fp_then HI.out hlt2 G3.out
        have e0 := (k2.cell (p := ⟨w.heap.size, 0, none⟩) HLT.out hf).trans hd0
        have e2 := (k2.cell (p := ⟨w.heap.size, 2, none⟩) HLT.out hf).trans hd2
        have HK := Lib.hid (show Laid 43 w3 p v3 (xs ++ [op % 256] ++ [a % 256]) w4 from ⟨v4, k1, k2, k3⟩)
        have K1 := Lib.hid k1
        clear k1 k2 k3 hd0 hd1 hd2 hf
        go_wp2_with fail
        refine (refU8 _ p v4 _ b K1.out (by simp; omega) wb).mono ?_
        rintro e w5 ⟨rfl, hL⟩
        have HL := Lib.hid hL
        clear hL
        go_wp2_with fail
        go_end0
        refine ⟨rfl, (Laid.then G1.out G2.out G3.out ?_).pre HA.out⟩
        refine HK.out.trans fun v' hv' => ?_
        have : v' = v4 := by have e1 := hv'.blk; rw [K1.out.blk] at e1; simpa using e1.symm
        subst this
        rw [HT.out]
        simpa using HL.out
      · have b4 : (op == 27) = false := by simpa using h3
        rcases ops3 op with ho | ho | ho
        · have HT := Lib.hid (show layB op a b = [op % 256] by rw [HT0.out]; simp [tailB, ho])
          clear h1 h2 h3 T
          go_wp2_with fail
          refine (rOperands _ _).mono ?_
          rw [ho]
          rintro e w4 ⟨rfl, rfl⟩
          go_wp2_with fail
          go_end0
          exact ⟨rfl, (Laid.then G1.out G2.out G3.out (by rw [HT.out]; exact Laid.same G1.out)).pre HA.out⟩
        · have HT := Lib.hid (show layB op a b = [op % 256, a % 256] by rw [HT0.out]; simp [tailB, ho])
          clear h1 h2 h3 T
          go_wp2_with fail
          refine (rOperands _ _).mono ?_
          rw [ho]
          rintro e w4' ⟨rfl, rfl⟩
          go_wp2_with fail
          refine (refU8 _ p v3 _ a G1.out (by simp; omega) wa).mono ?_
          rintro e w4 ⟨rfl, hL⟩
          have HL := Lib.hid hL
          clear hL
          go_wp2_with fail
          go_end0
          exact ⟨rfl, (Laid.then G1.out G2.out G3.out (by rw [HT.out]; simpa using HL.out)).pre HA.out⟩
        · omega
end Go.Proofs.YtmbdfmgidnjgeaaGreatDoor

/- The reference's Encode. -/
import Derived.Test.YtibmgmgkaacibaaZK
import Derived.Test.YtibmgmgkaacibaaZL
import Derived.Test.YtibmgmgkaacibaaZM
import Derived.Test.YtibmgmgkaacibaaZN
namespace Go.Proofs.Ytibmgmgkaacibaa
open Go.RowKit
set_option linter.unusedVariables false
set_option linter.unusedSimpArgs false

theorem refR_op {i : I6} (h : refR i = true) : 1 ≤ i.op ∧ i.op ≤ 45 := by
  by_cases h0 : i.op < 1 ∨ 45 < i.op
  · exfalso
    have hn := forms_none h0
    have h28 : (i.op == 28) = false := by simp; omega
    unfold refR at h
    rw [hn, h28] at h
    simp at h
  · omega
theorem enc_ref {i : I6} (hr : rightP i = true) (h43 : i.op ≠ 43) : encP i = [refE i] := by
  obtain ⟨h, hh, hf, hd⟩ := surj hr h43
  obtain ⟨_, _, _, he, r, hrow, hl⟩ := dec_some hh hf hd
  unfold encP
  rw [if_neg h43, hrow]
  simp only
  rw [hl, he]; rfl
theorem qEnc0 (o d n m s c : Int) (h : refR ⟨o, d, n, m, s, c⟩ = true) (h43 : o ≠ 43) (w : World) : Calls Try.prog 14 #[.agg #[.int .i64 o, .int .i64 d, .int .i64 n, .int .i64 m, .int .i64 s, .int .i64 c]] w fun e w' => (∃ v, e = .returned v ∧ VwH w' v [refE ⟨o, d, n, m, s, c⟩]) ∧ New w w' := by
  have hb := refR_op h
  simp only at hb
  have hc : o = 1 ∨ o = 2 ∨ o = 3 ∨ o = 4 ∨ o = 5 ∨ o = 6 ∨ o = 7 ∨ o = 8 ∨ o = 9 ∨ o = 10 ∨ o = 11 ∨ o = 12 ∨ o = 13 ∨ o = 14 ∨ o = 15 ∨ o = 16 ∨ o = 17 ∨ o = 18 ∨ o = 19 ∨ o = 20 ∨ o = 21 ∨ o = 22 ∨ o = 23 ∨ o = 24 ∨ o = 25 ∨ o = 26 ∨ o = 27 ∨ o = 28 ∨ o = 29 ∨ o = 30 ∨ o = 31 ∨ o = 32 ∨ o = 33 ∨ o = 34 ∨ o = 35 ∨ o = 36 ∨ o = 37 ∨ o = 38 ∨ o = 39 ∨ o = 40 ∨ o = 41 ∨ o = 42 ∨ o = 44 ∨ o = 45 := by omega
  rcases hc with rfl | rfl | rfl | rfl | rfl | rfl | rfl | rfl | rfl | rfl | rfl | rfl | rfl | rfl | rfl | rfl | rfl | rfl | rfl | rfl | rfl | rfl | rfl | rfl | rfl | rfl | rfl | rfl | rfl | rfl | rfl | rfl | rfl | rfl | rfl | rfl | rfl | rfl | rfl | rfl | rfl | rfl | rfl | rfl
  · exact qE1 d n m s c h w
  · exact qE2 d n m s c h w
  · exact qE3 d n m s c h w
  · exact qE4 d n m s c h w
  · exact qE5 d n m s c h w
  · exact qE6 d n m s c h w
  · exact qE7 d n m s c h w
  · exact qE8 d n m s c h w
  · exact qE9 d n m s c h w
  · exact qE10 d n m s c h w
  · exact qE11 d n m s c h w
  · exact qE12 d n m s c h w
  · exact qE13 d n m s c h w
  · exact qE14 d n m s c h w
  · exact qE15 d n m s c h w
  · exact qE16 d n m s c h w
  · exact qE17 d n m s c h w
  · exact qE18 d n m s c h w
  · exact qE19 d n m s c h w
  · exact qE20 d n m s c h w
  · exact qE21 d n m s c h w
  · exact qE22 d n m s c h w
  · exact qE23 d n m s c h w
  · exact qE24 d n m s c h w
  · exact qE25 d n m s c h w
  · exact qE26 d n m s c h w
  · exact qE27 d n m s c h w
  · exact qE28 d n m s c h w
  · exact qE29 d n m s c h w
  · exact qE30 d n m s c h w
  · exact qE31 d n m s c h w
  · exact qE32 d n m s c h w
  · exact qE33 d n m s c h w
  · exact qE34 d n m s c h w
  · exact qE35 d n m s c h w
  · exact qE36 d n m s c h w
  · exact qE37 d n m s c h w
  · exact qE38 d n m s c h w
  · exact qE39 d n m s c h w
  · exact qE40 d n m s c h w
  · exact qE41 d n m s c h w
  · exact qE42 d n m s c h w
  · exact qE44 d n m s c h w
  · exact qE45 d n m s c h w
theorem qEncode (i : I6) (hr : rightP i = true) (w : World) : Calls Try.prog 14 #[i.val] w fun e w' => (∃ v, e = .returned v ∧ VwH w' v (encP i)) ∧ New w w' := by
  by_cases h43 : i.op = 43
  · obtain ⟨h1, h2, h3, h4⟩ := far_right hr h43
    have he : encP i = [far1 i.imm, far2 i.imm] := by simp [encP, h43]
    rw [he, h1]
    exact qE43 i.imm h2 h3 w
  · rw [enc_ref hr h43]
    obtain ⟨o, d, n, m, s, c⟩ := i
    exact qEnc0 o d n m s c (by rw [← right_eq]; exact hr) h43 w
end Go.Proofs.Ytibmgmgkaacibaa

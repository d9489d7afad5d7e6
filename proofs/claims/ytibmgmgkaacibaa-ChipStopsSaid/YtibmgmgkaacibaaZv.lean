/- Decode is Encode's inverse, whatever stands behind: plainly. -/
import Derived.Test.YtibmgmgkaacibaaZi
import Derived.Test.YtibmgmgkaacibaaZu
namespace Go.Proofs.Ytibmgmgkaacibaa
open Go.RowKit
set_option linter.unusedVariables false
set_option linter.unusedSimpArgs false

theorem farP_eq (h g : Nat) : farP h g = -16777216 + ((farN h g : Int) + 16777216) % 33554432 := by
  unfold farP leastP
  rw [show ((2 : Int) ^ 25) = 33554432 by decide]
  omega
theorem far_right {i : I6} (hr : rightP i = true) (h : i.op = 43) : i = ⟨43, 0, 0, 0, i.imm, 0⟩ ∧ -16777216 ≤ i.imm ∧ i.imm ≤ 16777214 ∧ i.imm % 2 = 0 := by
  obtain ⟨op, d, n, m, imm, cond⟩ := i
  simp only at h
  subst h
  rw [right_eq] at hr
  simp [refR, formsP, inP, useP] at hr
  obtain ⟨h1, ⟨⟨⟨h2, h3⟩, h4⟩, h5⟩⟩ := hr
  subst h1 h2 h3 h4
  exact ⟨rfl, h5.1.1, h5.1.2, h5.2⟩
theorem right_far {imm : Int} (h : -16777216 ≤ imm ∧ imm ≤ 16777214 ∧ imm % 2 = 0) : rightP ⟨43, 0, 0, 0, imm, 0⟩ = true := by
  rw [right_eq]
  simp [refR, formsP, inP, useP]
  exact ⟨⟨h.1, h.2.1⟩, h.2.2⟩
theorem far_parts {imm : Int} {s b c A B : Nat} (hs : s < 2) (hb : b < 2) (hc : c < 2) (hA : A < 1024) (hB : B < 2048)
    (h : imm = -(s : Int) * 16777216 + (b : Int) * 8388608 + (c : Int) * 4194304 + (A : Int) * 4096 + (B : Int) * 2) :
    far1 imm = 61440 + s * 1024 + A ∧ far2 imm = 53248 + turnN b s * 8192 + turnN c s * 2048 + B := by
  have e1 : bitN imm 24 = s := by
    unfold bitN; rw [show ((2 : Int) ^ 24) = 16777216 by decide]; omega
  have e2 : bitN imm 23 = b := by
    unfold bitN; rw [show ((2 : Int) ^ 23) = 8388608 by decide]; omega
  have e3 : bitN imm 22 = c := by
    unfold bitN; rw [show ((2 : Int) ^ 22) = 4194304 by decide]; omega
  have e4 : (imm / 4096 % 1024).toNat = A := by omega
  have e5 : (imm / 2 % 2048).toNat = B := by omega
  unfold far1 far2
  rw [e1, e2, e3, e4, e5]
  exact ⟨rfl, rfl⟩
theorem far_have {imm : Int} (h : -16777216 ≤ imm ∧ imm ≤ 16777214 ∧ imm % 2 = 0) : ∃ s b c A B : Nat, s < 2 ∧ b < 2 ∧ c < 2 ∧ A < 1024 ∧ B < 2048 ∧
    imm = -(s : Int) * 16777216 + (b : Int) * 8388608 + (c : Int) * 4194304 + (A : Int) * 4096 + (B : Int) * 2 := by
  obtain ⟨x1, h1⟩ : ∃ x, imm / 2 = x := ⟨_, rfl⟩
  obtain ⟨x2, h2⟩ : ∃ x, x1 / 2048 = x := ⟨_, rfl⟩
  obtain ⟨x3, h3⟩ : ∃ x, x2 / 1024 = x := ⟨_, rfl⟩
  obtain ⟨x4, h4⟩ : ∃ x, x3 / 2 = x := ⟨_, rfl⟩
  obtain ⟨x5, h5⟩ : ∃ x, x4 / 2 = x := ⟨_, rfl⟩
  exact ⟨(-x5).toNat, (x4 % 2).toNat, (x3 % 2).toNat, (x2 % 1024).toNat, (x1 % 2048).toNat, by omega, by omega, by omega, by omega, by omega, by omega⟩
theorem turn_turn {b s : Nat} (hb : b < 2) (hs : s < 2) : turnN (turnN b s) s = b := by
  have : (b = 0 ∨ b = 1) ∧ (s = 0 ∨ s = 1) := by omega
  obtain ⟨h3, h4⟩ := this
  rcases h3 with rfl | rfl <;> rcases h4 with rfl | rfl <;> rfl
theorem far_sum {s T U A B : Nat} (hs : s < 2) (hT : T < 2) (hU : U < 2) (hA : A < 1024) (hB : B < 2048) :
    farP (61440 + s * 1024 + A) (53248 + T * 8192 + U * 2048 + B) = -(s : Int) * 16777216 + (turnN T s : Int) * 8388608 + (turnN U s : Int) * 4194304 + (A : Int) * 4096 + (B : Int) * 2 := by
  rw [farP_eq]
  unfold farN
  have e1 : (61440 + s * 1024 + A) / 1024 % 2 = s := by omega
  have e2 : (53248 + T * 8192 + U * 2048 + B) / 8192 % 2 = T := by omega
  have e3 : (53248 + T * 8192 + U * 2048 + B) / 2048 % 2 = U := by omega
  have e4 : (61440 + s * 1024 + A) % 1024 = A := by omega
  have e5 : (53248 + T * 8192 + U * 2048 + B) % 2048 = B := by omega
  rw [e1, e2, e3, e4, e5]
  have h1 := turn_lt T s
  have h2 := turn_lt U s
  omega
theorem far_back {imm : Int} (h : -16777216 ≤ imm ∧ imm ≤ 16777214 ∧ imm % 2 = 0) : isFarB (far1 imm) = true ∧ endsB (far2 imm) = true ∧ farP (far1 imm) (far2 imm) = imm := by
  obtain ⟨s, b, c, A, B, hs, hb, hc, hA, hB, e⟩ := far_have h
  obtain ⟨e1, e2⟩ := far_parts hs hb hc hA hB e
  have h1 := turn_lt b s
  have h2 := turn_lt c s
  rw [e1, e2, far_sum hs h1 h2 hA hB, turn_turn hb hs, turn_turn hc hs, ← e]
  unfold isFarB endsB
  simp only [Bool.and_eq_true, beq_iff_eq]
  refine ⟨by omega, ⟨by omega, by omega⟩, ?_⟩
  first | rfl | trivial
theorem far_forth {h g : Nat} (hh : h < 65536) (hg : g < 65536) (h1 : isFarB h = true) (h2 : endsB g = true) :
    (-16777216 ≤ farP h g ∧ farP h g ≤ 16777214 ∧ farP h g % 2 = 0) ∧ far1 (farP h g) = h ∧ far2 (farP h g) = g := by
  unfold isFarB at h1
  unfold endsB at h2
  simp only [Bool.and_eq_true, beq_iff_eq] at h1 h2
  obtain ⟨s, hs0⟩ : ∃ s, h / 1024 % 2 = s := ⟨_, rfl⟩
  obtain ⟨A, hA0⟩ : ∃ A, h % 1024 = A := ⟨_, rfl⟩
  obtain ⟨T, hT0⟩ : ∃ T, g / 8192 % 2 = T := ⟨_, rfl⟩
  obtain ⟨U, hU0⟩ : ∃ U, g / 2048 % 2 = U := ⟨_, rfl⟩
  obtain ⟨B, hB0⟩ : ∃ B, g % 2048 = B := ⟨_, rfl⟩
  have hs : s < 2 := by omega
  have hT : T < 2 := by omega
  have hU : U < 2 := by omega
  have hA : A < 1024 := by omega
  have hB : B < 2048 := by omega
  have eh : h = 61440 + s * 1024 + A := by omega
  have eg : g = 53248 + T * 8192 + U * 2048 + B := by omega
  have e := far_sum hs hT hU hA hB
  rw [← eh, ← eg] at e
  have ht1 := turn_lt T s
  have ht2 := turn_lt U s
  obtain ⟨e1, e2⟩ := far_parts hs ht1 ht2 hA hB e
  rw [turn_turn hT hs, turn_turn hU hs] at e2
  refine ⟨?_, by rw [e1, ← eh], by rw [e2, ← eg]⟩
  rw [e]
  omega
theorem isFar_iff (h : Nat) : isFarB h = true ↔ h / 2048 = 30 := by simp [isFarB]

/-- what may be is decoded from its halfwords, whatever stands behind -/
theorem enc_dec {i : I6} (hr : rightP i = true) (more : List Nat) :
    decA (encP i ++ more) = (i, ((encP i).length : Int), 0) ∧ (encP i).length = (if i.op = 43 then 2 else 1) ∧ ∀ x ∈ encP i, x < 65536 := by
  by_cases h43 : i.op = 43
  · obtain ⟨h1, h2⟩ := far_right hr h43
    obtain ⟨h3, h4, h5⟩ := far_back h2
    have he : encP i = [far1 i.imm, far2 i.imm] := by simp [encP, h43]
    rw [he]
    refine ⟨?_, by simp [h43], by simp [far1_lt, far2_lt]⟩
    show (if isFarB (far1 i.imm) = true then decFarA (far1 i.imm) (far2 i.imm :: more) else _) = _
    rw [if_pos h3]
    show (if endsB (far2 i.imm) = true then _ else _) = _
    rw [if_pos h4, h5, ← h1]
    rfl
  · obtain ⟨h, hh, hf, hd⟩ := surj hr h43
    obtain ⟨_, _, _, _, r, hrow, hl⟩ := dec_some hh hf hd
    have he : encP i = [h] := by
      unfold encP
      rw [if_neg h43, hrow]
      simp only
      rw [hl]; rfl
    rw [he]
    refine ⟨?_, by simp [h43], by simpa using hh⟩
    have hnf : isFarB h = false := by
      cases hq : isFarB h
      · rfl
      · exact absurd ((isFar_iff h).1 hq) hf
    have hu : decA (h :: more) = if isFarB h then decFarA h more else match decP h with
      | some i => (i, 1, 0)
      | none => (I6.zero, 0, 8) := rfl
    show decA (h :: more) = _
    rw [hu, hnf, hd]
    rfl
/-- what is decoded is encoded as the same halfwords -/
theorem dec_enc {h : Nat} {t : List Nat} (hh : h < 65536) (ht : ∀ y ∈ t, y < 65536) {j : I6} {n : Int} (hd : decA (h :: t) = (j, n, 0)) :
    rightP j = true ∧ ((n = 1 ∧ encP j = [h]) ∨ ∃ g u, t = g :: u ∧ n = 2 ∧ encP j = [h, g]) := by
  have hu : decA (h :: t) = if isFarB h then decFarA h t else match decP h with
    | some i => (i, 1, 0)
    | none => (I6.zero, 0, 8) := rfl
  rw [hu] at hd
  cases hf : isFarB h
  · rw [hf] at hd
    have hnf : h / 2048 ≠ 30 := fun h1 => by rw [(isFar_iff h).2 h1] at hf; cases hf
    cases hi : decP h with
    | none => rw [hi] at hd; simp at hd
    | some i =>
      rw [hi] at hd
      simp only [Bool.false_eq_true, if_false, Prod.mk.injEq] at hd
      obtain ⟨rfl, rfl, _⟩ := hd
      obtain ⟨_, h2, h3, _, r, hrow, hl⟩ := dec_some hh hnf hi
      refine ⟨h2, .inl ⟨rfl, ?_⟩⟩
      unfold encP
      rw [if_neg h3, hrow]
      simp only
      rw [hl]; rfl
  · rw [hf] at hd
    simp only [if_true] at hd
    cases t with
    | nil => simp [decFarA] at hd
    | cons g u =>
      have hv : decFarA h (g :: u) = if endsB g then (⟨43, 0, 0, 0, farP h g, 0⟩, 2, 0) else (I6.zero, 0, 8) := rfl
      rw [hv] at hd
      cases he : endsB g
      · rw [he] at hd; simp at hd
      · rw [he] at hd
        simp only [if_true, Prod.mk.injEq] at hd
        obtain ⟨rfl, rfl, _⟩ := hd
        obtain ⟨h1, h2, h3⟩ := far_forth hh (ht g (by simp)) hf he
        refine ⟨right_far h1, .inr ⟨g, u, rfl, rfl, ?_⟩⟩
        simp [encP, h2, h3]
theorem enc_inj {i j : I6} (hi : rightP i = true) (hj : rightP j = true) (h : encP i = encP j) : i = j := by
  have h1 := (enc_dec hi []).1
  have h2 := (enc_dec hj []).1
  rw [h, h2] at h1
  exact (Prod.mk.injEq _ _ _ _ ▸ h1).1.symm
end Go.Proofs.Ytibmgmgkaacibaa

/- Package chip: one step. -/
import Derived.Test.YtibmgmgkaacibaaEtk
import Derived.Test.YtibmgmgkaacibaaZv
namespace Go.Proofs.Ytibmgmgkaacibaa
open Go.RowKit Go.ChangeShapes Go.WideShapes Go.Deep Go.IntWalk
set_option linter.unusedVariables false
set_option linter.unusedSimpArgs false
theorem row_lens : rowL.all (fun r => decide (r.d.length ≤ 4 ∧ r.n.length ≤ 4 ∧ r.m.length ≤ 4 ∧ r.cond.length ≤ 4) && (decide (r.cond.length = 0) || decide (r.first = 41 ∧ r.p = []))) = true := by decide +kernel
theorem pow_le4 {k : Nat} (h : k ≤ 4) : (2 : Int) ^ k ≤ 16 := by
  rcases (by omega : k = 0 ∨ k = 1 ∨ k = 2 ∨ k = 3 ∨ k = 4) with rfl | rfl | rfl | rfl | rfl <;> decide
theorem row39 : rowOfP 39 = some ⟨39, 46080, [], [], [], [], [0, 1, 2, 3, 4, 5, 6, 7, 8], [], 1, 511, 0⟩ := by decide +kernel
theorem row40 : rowOfP 40 = some ⟨40, 48128, [], [], [], [], [0, 1, 2, 3, 4, 5, 6, 7, 8], [], 1, 511, 0⟩ := by decide +kernel
theorem right_inok {i : I6} (h : rightP i = true) : InOk i i.op.toNat i.d.toNat i.n.toNat i.m.toNat i.cond.toNat ∧ 1 ≤ i.op.toNat ∧ (i.op.toNat = 39 ∨ i.op.toNat = 40 → 1 ≤ i.imm ∧ i.imm ≤ 511) := by
  unfold rightP at h
  cases hr : rowOfP i.op with
  | none => rw [hr] at h; simp at h
  | some r =>
    rw [hr] at h
    obtain ⟨hin, hp, ho1, ho2⟩ := rowOf_in hr
    simp only [mayP, Bool.and_eq_true, decide_eq_true_eq] at h
    obtain ⟨⟨⟨⟨⟨⟨⟨hd, hn⟩, hm⟩, hc⟩, hl⟩, hmo⟩, hha⟩, hbar⟩ := h
    have hok := rows_ok hin
    have hlen := List.all_eq_true.1 row_lens r hin
    simp only [Bool.and_eq_true, Bool.or_eq_true, decide_eq_true_eq] at hlen
    obtain ⟨⟨l1, l2, l3, l4⟩, hcf⟩ := hlen
    have d1 := (fit_iff i.d r.d).1 hd
    have n1 := (fit_iff i.n r.n).1 hn
    have m1 := (fit_iff i.m r.m).1 hm
    have c1 := (fit_iff i.cond r.cond).1 hc
    have p1 := pow_le4 l1
    have p2 := pow_le4 l2
    have p3 := pow_le4 l3
    have p4 := pow_le4 l4
    have hcond : i.cond < 14 := by
      rcases hcf with h0 | ⟨h41, hpp⟩
      · rw [h0] at c1
        have := c1.2
        simp at this; omega
      · have hop : i.op = 41 := by
          have := (fit_iff _ _).1 hp
          rw [hpp, h41] at this
          simp at this; omega
        simp [barP, hop] at hbar
        omega
    have hle := hok.least
    have hmm := hok.most
    refine ⟨⟨by omega, by omega, by omega, by omega, by omega, by omega, by omega, by omega, by omega, by omega, by omega⟩, by omega, ?_⟩
    rintro (h39 | h40)
    · have e : i.op = 39 := by omega
      rw [e, row39] at hr
      simp at hr
      subst hr
      exact ⟨hl, hmo⟩
    · have e : i.op = 40 := by omega
      rw [e, row40] at hr
      simp at hr
      subst hr
      exact ⟨hl, hmo⟩
theorem read_right {M : Nat → Nat} (hM : MOk M) {a : Nat} (h : readB M a = true) : rightP (readI M a) = true := by
  unfold readB at h
  simp only [Bool.and_eq_true, beq_iff_eq] at h
  obtain ⟨h1, h2⟩ := h
  unfold readI
  rw [h1]
  show rightP (decA (hsP M a)).1 = true
  obtain ⟨x, hx⟩ : ∃ x, decA (hsP M a) = x := ⟨_, rfl⟩
  rw [hx] at h2 ⊢
  obtain ⟨j, n, e⟩ := x
  simp only at h2
  subst h2
  unfold hsP at hx
  exact (dec_enc (halfM_lt hM a) (by
    intro y hy
    split at hy
    · simp at hy; subst hy; exact halfM_lt hM (a + 2)
    · simp at hy) hx).1
def doOf (i : I6) (x : Ch) (M : Nat → Nat) : Rs := doP i.op.toNat i.d.toNat i.n.toNat i.m.toNat i.cond.toNat i.imm x M
def RsOk (x : Ch) (q : Rs) : Prop := 0 ≤ q.c ∧ q.c ≤ 1000 ∧ q.x.cyc = x.cyc
theorem rsOk (x y : Ch) (t c : Int) (M : Nat → Nat) (out : Nat) (h1 : 0 ≤ c) (h2 : c ≤ 1000) (h3 : y.cyc = x.cyc) : RsOk x ⟨y, t, c, M, out⟩ := ⟨h1, h2, h3⟩
theorem pushOk (imm : Nat) (x : Ch) (M : Nat → Nat) : RsOk x (pushP imm x M) := by
  unfold pushP
  have hl := regsP_len imm 14
  cases allSw (spLow (x.R 13) (regsP imm 14).length) (regsP imm 14).length
  · exact rsOk _ _ _ _ _ _ (by decide) (by decide) rfl
  · exact rsOk _ _ _ _ _ _ (by omega) (by omega) rfl
theorem popOk (imm : Nat) (x : Ch) (M : Nat → Nat) : RsOk x (popP imm x M) := by
  unfold popP
  have hl := regsP_len imm 15
  have h2 := popC_le 1 (regsP imm 15) (regsP imm 15).length
  exact rsOk _ _ _ _ _ _ (by omega) (by omega) rfl
theorem need_cyc (x : Ch) (ok : Bool) : (x.need ok).cyc = x.cyc := rfl
theorem outP_cyc (x : Ch) (n l : Nat) : (outP x n l).cyc = x.cyc := by unfold outP; split <;> rfl
theorem ansOk_1 (d cond : Nat) (imm : Int) (l r pc : Nat) (x : Ch) (M : Nat → Nat) : RsOk x (ansP 1 d cond imm l r pc x M) := by
  rw [ansP_1]; exact rsOk _ _ _ _ _ _ (by decide) (by decide) (outP_cyc _ _ _)
theorem ansOk_2 (d cond : Nat) (imm : Int) (l r pc : Nat) (x : Ch) (M : Nat → Nat) : RsOk x (ansP 2 d cond imm l r pc x M) := by
  rw [ansP_2]; exact rsOk _ _ _ _ _ _ (by decide) (by decide) (outP_cyc _ _ _)
theorem ansOk_3 (d cond : Nat) (imm : Int) (l r pc : Nat) (x : Ch) (M : Nat → Nat) : RsOk x (ansP 3 d cond imm l r pc x M) := by
  rw [ansP_3]; exact rsOk _ _ _ _ _ _ (by decide) (by decide) (outP_cyc _ _ _)
theorem ansOk_4 (d cond : Nat) (imm : Int) (l r pc : Nat) (x : Ch) (M : Nat → Nat) : RsOk x (ansP 4 d cond imm l r pc x M) := by
  rw [ansP_4]; exact rsOk _ _ _ _ _ _ (by decide) (by decide) rfl
theorem ansOk_5 (d cond : Nat) (imm : Int) (l r pc : Nat) (x : Ch) (M : Nat → Nat) : RsOk x (ansP 5 d cond imm l r pc x M) := by
  rw [ansP_5]; exact rsOk _ _ _ _ _ _ (by decide) (by decide) rfl
theorem ansOk_6 (d cond : Nat) (imm : Int) (l r pc : Nat) (x : Ch) (M : Nat → Nat) : RsOk x (ansP 6 d cond imm l r pc x M) := by
  rw [ansP_6]; exact rsOk _ _ _ _ _ _ (by decide) (by decide) rfl
theorem ansOk_7 (d cond : Nat) (imm : Int) (l r pc : Nat) (x : Ch) (M : Nat → Nat) : RsOk x (ansP 7 d cond imm l r pc x M) := by
  rw [ansP_7]; exact rsOk _ _ _ _ _ _ (by decide) (by decide) rfl
theorem ansOk_8 (d cond : Nat) (imm : Int) (l r pc : Nat) (x : Ch) (M : Nat → Nat) : RsOk x (ansP 8 d cond imm l r pc x M) := by
  rw [ansP_8]; exact rsOk _ _ _ _ _ _ (by decide) (by decide) rfl
theorem ansOk_9 (d cond : Nat) (imm : Int) (l r pc : Nat) (x : Ch) (M : Nat → Nat) : RsOk x (ansP 9 d cond imm l r pc x M) := by
  rw [ansP_9]; exact rsOk _ _ _ _ _ _ (by decide) (by decide) rfl
theorem ansOk_10 (d cond : Nat) (imm : Int) (l r pc : Nat) (x : Ch) (M : Nat → Nat) : RsOk x (ansP 10 d cond imm l r pc x M) := by
  rw [ansP_10]; exact rsOk _ _ _ _ _ _ (by decide) (by decide) rfl
theorem ansOk_11 (d cond : Nat) (imm : Int) (l r pc : Nat) (x : Ch) (M : Nat → Nat) : RsOk x (ansP 11 d cond imm l r pc x M) := by
  rw [ansP_11]; exact rsOk _ _ _ _ _ _ (by decide) (by decide) rfl
theorem ansOk_12 (d cond : Nat) (imm : Int) (l r pc : Nat) (x : Ch) (M : Nat → Nat) : RsOk x (ansP 12 d cond imm l r pc x M) := by
  rw [ansP_12]; exact rsOk _ _ _ _ _ _ (by decide) (by decide) rfl
theorem ansOk_13 (d cond : Nat) (imm : Int) (l r pc : Nat) (x : Ch) (M : Nat → Nat) : RsOk x (ansP 13 d cond imm l r pc x M) := by
  rw [ansP_13]; exact rsOk _ _ _ _ _ _ (by decide) (by decide) rfl
theorem ansOk_14 (d cond : Nat) (imm : Int) (l r pc : Nat) (x : Ch) (M : Nat → Nat) : RsOk x (ansP 14 d cond imm l r pc x M) := by
  rw [ansP_14]; exact rsOk _ _ _ _ _ _ (by decide) (by decide) (outP_cyc _ _ _)
theorem ansOk_15 (d cond : Nat) (imm : Int) (l r pc : Nat) (x : Ch) (M : Nat → Nat) : RsOk x (ansP 15 d cond imm l r pc x M) := by
  rw [ansP_15]; exact rsOk _ _ _ _ _ _ (by decide) (by decide) (outP_cyc _ _ _)
theorem ansOk_16 (d cond : Nat) (imm : Int) (l r pc : Nat) (x : Ch) (M : Nat → Nat) : RsOk x (ansP 16 d cond imm l r pc x M) := by
  rw [ansP_16]; exact rsOk _ _ _ _ _ _ (by decide) (by decide) (outP_cyc _ _ _)
theorem ansOk_17 (d cond : Nat) (imm : Int) (l r pc : Nat) (x : Ch) (M : Nat → Nat) : RsOk x (ansP 17 d cond imm l r pc x M) := by
  rw [ansP_17]; exact rsOk _ _ _ _ _ _ (by decide) (by decide) rfl
theorem ansOk_18 (d cond : Nat) (imm : Int) (l r pc : Nat) (x : Ch) (M : Nat → Nat) : RsOk x (ansP 18 d cond imm l r pc x M) := by
  rw [ansP_18]; exact rsOk _ _ _ _ _ _ (by decide) (by decide) rfl
theorem ansOk_19 (d cond : Nat) (imm : Int) (l r pc : Nat) (x : Ch) (M : Nat → Nat) : RsOk x (ansP 19 d cond imm l r pc x M) := by
  rw [ansP_19]; exact rsOk _ _ _ _ _ _ (by decide) (by decide) (outP_cyc _ _ _)
theorem ansOk_20 (d cond : Nat) (imm : Int) (l r pc : Nat) (x : Ch) (M : Nat → Nat) : RsOk x (ansP 20 d cond imm l r pc x M) := by
  rw [ansP_20]; exact rsOk _ _ _ _ _ _ (by decide) (by decide) rfl
theorem ansOk_21 (d cond : Nat) (imm : Int) (l r pc : Nat) (x : Ch) (M : Nat → Nat) : RsOk x (ansP 21 d cond imm l r pc x M) := by
  rw [ansP_21]; exact rsOk _ _ _ _ _ _ (by decide) (by decide) rfl
theorem ansOk_22 (d cond : Nat) (imm : Int) (l r pc : Nat) (x : Ch) (M : Nat → Nat) : RsOk x (ansP 22 d cond imm l r pc x M) := by
  rw [ansP_22]; exact rsOk _ _ _ _ _ _ (by decide) (by decide) rfl
theorem ansOk_23 (d cond : Nat) (imm : Int) (l r pc : Nat) (x : Ch) (M : Nat → Nat) : RsOk x (ansP 23 d cond imm l r pc x M) := by
  rw [ansP_23]; exact rsOk _ _ _ _ _ _ (by decide) (by decide) rfl
theorem ansOk_24 (d cond : Nat) (imm : Int) (l r pc : Nat) (x : Ch) (M : Nat → Nat) : RsOk x (ansP 24 d cond imm l r pc x M) := by
  rw [ansP_24]; exact rsOk _ _ _ _ _ _ (by decide) (by decide) rfl
theorem ansOk_25 (d cond : Nat) (imm : Int) (l r pc : Nat) (x : Ch) (M : Nat → Nat) : RsOk x (ansP 25 d cond imm l r pc x M) := by
  rw [ansP_25]; exact rsOk _ _ _ _ _ _ (by decide) (by decide) rfl
theorem ansOk_26 (d cond : Nat) (imm : Int) (l r pc : Nat) (x : Ch) (M : Nat → Nat) : RsOk x (ansP 26 d cond imm l r pc x M) := by
  rw [ansP_26]; exact rsOk _ _ _ _ _ _ (by decide) (by decide) rfl
theorem ansOk_27 (d cond : Nat) (imm : Int) (l r pc : Nat) (x : Ch) (M : Nat → Nat) : RsOk x (ansP 27 d cond imm l r pc x M) := by
  rw [ansP_27]; exact rsOk _ _ _ _ _ _ (by decide) (by decide) rfl
theorem ansOk_28 (d cond : Nat) (imm : Int) (l r pc : Nat) (x : Ch) (M : Nat → Nat) : RsOk x (ansP 28 d cond imm l r pc x M) := by
  rw [ansP_28]; exact rsOk _ _ _ _ _ _ (by decide) (by decide) rfl
theorem ansOk_29 (d cond : Nat) (imm : Int) (l r pc : Nat) (x : Ch) (M : Nat → Nat) : RsOk x (ansP 29 d cond imm l r pc x M) := by
  rw [ansP_29]; exact rsOk _ _ _ _ _ _ (by decide) (by decide) (need_cyc _ _)
theorem ansOk_30 (d cond : Nat) (imm : Int) (l r pc : Nat) (x : Ch) (M : Nat → Nat) : RsOk x (ansP 30 d cond imm l r pc x M) := by
  rw [ansP_30]; exact rsOk _ _ _ _ _ _ (by decide) (by decide) (need_cyc _ _)
theorem ansOk_31 (d cond : Nat) (imm : Int) (l r pc : Nat) (x : Ch) (M : Nat → Nat) : RsOk x (ansP 31 d cond imm l r pc x M) := by
  rw [ansP_31]; exact rsOk _ _ _ _ _ _ (by decide) (by decide) (need_cyc _ _)
theorem ansOk_32 (d cond : Nat) (imm : Int) (l r pc : Nat) (x : Ch) (M : Nat → Nat) : RsOk x (ansP 32 d cond imm l r pc x M) := by
  rw [ansP_32]; exact rsOk _ _ _ _ _ _ (by decide) (by decide) (need_cyc _ _)
theorem ansOk_33 (d cond : Nat) (imm : Int) (l r pc : Nat) (x : Ch) (M : Nat → Nat) : RsOk x (ansP 33 d cond imm l r pc x M) := by
  rw [ansP_33]; exact rsOk _ _ _ _ _ _ (by decide) (by decide) (need_cyc _ _)
theorem ansOk_34 (d cond : Nat) (imm : Int) (l r pc : Nat) (x : Ch) (M : Nat → Nat) : RsOk x (ansP 34 d cond imm l r pc x M) := by
  rw [ansP_34]; exact rsOk _ _ _ _ _ _ (by decide) (by decide) (need_cyc _ _)
theorem ansOk_35 (d cond : Nat) (imm : Int) (l r pc : Nat) (x : Ch) (M : Nat → Nat) : RsOk x (ansP 35 d cond imm l r pc x M) := by
  rw [ansP_35]; exact rsOk _ _ _ _ _ _ (by decide) (by decide) (need_cyc _ _)
theorem ansOk_36 (d cond : Nat) (imm : Int) (l r pc : Nat) (x : Ch) (M : Nat → Nat) : RsOk x (ansP 36 d cond imm l r pc x M) := by
  rw [ansP_36]; exact rsOk _ _ _ _ _ _ (by decide) (by decide) (need_cyc _ _)
theorem ansOk_37 (d cond : Nat) (imm : Int) (l r pc : Nat) (x : Ch) (M : Nat → Nat) : RsOk x (ansP 37 d cond imm l r pc x M) := by
  rw [ansP_37]; exact rsOk _ _ _ _ _ _ (by decide) (by decide) rfl
theorem ansOk_38 (d cond : Nat) (imm : Int) (l r pc : Nat) (x : Ch) (M : Nat → Nat) : RsOk x (ansP 38 d cond imm l r pc x M) := by
  rw [ansP_38]; exact rsOk _ _ _ _ _ _ (by decide) (by decide) rfl
theorem ansOk_39 (d cond : Nat) (imm : Int) (l r pc : Nat) (x : Ch) (M : Nat → Nat) : RsOk x (ansP 39 d cond imm l r pc x M) := by
  rw [ansP_39]; exact pushOk _ _ _
theorem ansOk_40 (d cond : Nat) (imm : Int) (l r pc : Nat) (x : Ch) (M : Nat → Nat) : RsOk x (ansP 40 d cond imm l r pc x M) := by
  rw [ansP_40]; exact popOk _ _ _
theorem ansOk_41 (d cond : Nat) (imm : Int) (l r pc : Nat) (x : Ch) (M : Nat → Nat) : RsOk x (ansP 41 d cond imm l r pc x M) := by
  rw [ansP_41]; cases holdsP x cond <;> exact rsOk _ _ _ _ _ _ (by decide) (by decide) rfl
theorem ansOk_42 (d cond : Nat) (imm : Int) (l r pc : Nat) (x : Ch) (M : Nat → Nat) : RsOk x (ansP 42 d cond imm l r pc x M) := by
  rw [ansP_42]; exact rsOk _ _ _ _ _ _ (by decide) (by decide) rfl
theorem ansOk_43 (d cond : Nat) (imm : Int) (l r pc : Nat) (x : Ch) (M : Nat → Nat) : RsOk x (ansP 43 d cond imm l r pc x M) := by
  rw [ansP_43]; exact rsOk _ _ _ _ _ _ (by decide) (by decide) rfl
theorem ansOk_44 (d cond : Nat) (imm : Int) (l r pc : Nat) (x : Ch) (M : Nat → Nat) : RsOk x (ansP 44 d cond imm l r pc x M) := by
  rw [ansP_44]; exact rsOk _ _ _ _ _ _ (by decide) (by decide) rfl
theorem ansOk_45 (d cond : Nat) (imm : Int) (l r pc : Nat) (x : Ch) (M : Nat → Nat) : RsOk x (ansP 45 d cond imm l r pc x M) := by
  rw [ansP_45]; exact rsOk _ _ _ _ _ _ (by decide) (by decide) rfl
theorem ansP_ok (op d cond : Nat) (h1 : 1 ≤ op) (h45 : op < 46) (imm : Int) (l r pc : Nat) (x : Ch) (M : Nat → Nat) : RsOk x (ansP op d cond imm l r pc x M) := by
  by_cases h1_45 : op ≤ 23
  · skip
    by_cases h1_23 : op ≤ 12
    · skip
      by_cases h1_12 : op ≤ 6
      · skip
        by_cases h1_6 : op ≤ 3
        · skip
          by_cases h1_3 : op ≤ 2
          · skip
            by_cases h1_2 : op ≤ 1
            · skip
              obtain rfl : op = 1 := by omega
              exact ansOk_1 _ _ _ _ _ _ _ _
            · skip
              obtain rfl : op = 2 := by omega
              exact ansOk_2 _ _ _ _ _ _ _ _
          · skip
            obtain rfl : op = 3 := by omega
            exact ansOk_3 _ _ _ _ _ _ _ _
        · skip
          by_cases h4_6 : op ≤ 5
          · skip
            by_cases h4_5 : op ≤ 4
            · skip
              obtain rfl : op = 4 := by omega
              exact ansOk_4 _ _ _ _ _ _ _ _
            · skip
              obtain rfl : op = 5 := by omega
              exact ansOk_5 _ _ _ _ _ _ _ _
          · skip
            obtain rfl : op = 6 := by omega
            exact ansOk_6 _ _ _ _ _ _ _ _
      · skip
        by_cases h7_12 : op ≤ 9
        · skip
          by_cases h7_9 : op ≤ 8
          · skip
            by_cases h7_8 : op ≤ 7
            · skip
              obtain rfl : op = 7 := by omega
              exact ansOk_7 _ _ _ _ _ _ _ _
            · skip
              obtain rfl : op = 8 := by omega
              exact ansOk_8 _ _ _ _ _ _ _ _
          · skip
            obtain rfl : op = 9 := by omega
            exact ansOk_9 _ _ _ _ _ _ _ _
        · skip
          by_cases h10_12 : op ≤ 11
          · skip
            by_cases h10_11 : op ≤ 10
            · skip
              obtain rfl : op = 10 := by omega
              exact ansOk_10 _ _ _ _ _ _ _ _
            · skip
              obtain rfl : op = 11 := by omega
              exact ansOk_11 _ _ _ _ _ _ _ _
          · skip
            obtain rfl : op = 12 := by omega
            exact ansOk_12 _ _ _ _ _ _ _ _
    · skip
      by_cases h13_23 : op ≤ 18
      · skip
        by_cases h13_18 : op ≤ 15
        · skip
          by_cases h13_15 : op ≤ 14
          · skip
            by_cases h13_14 : op ≤ 13
            · skip
              obtain rfl : op = 13 := by omega
              exact ansOk_13 _ _ _ _ _ _ _ _
            · skip
              obtain rfl : op = 14 := by omega
              exact ansOk_14 _ _ _ _ _ _ _ _
          · skip
            obtain rfl : op = 15 := by omega
            exact ansOk_15 _ _ _ _ _ _ _ _
        · skip
          by_cases h16_18 : op ≤ 17
          · skip
            by_cases h16_17 : op ≤ 16
            · skip
              obtain rfl : op = 16 := by omega
              exact ansOk_16 _ _ _ _ _ _ _ _
            · skip
              obtain rfl : op = 17 := by omega
              exact ansOk_17 _ _ _ _ _ _ _ _
          · skip
            obtain rfl : op = 18 := by omega
            exact ansOk_18 _ _ _ _ _ _ _ _
      · skip
        by_cases h19_23 : op ≤ 21
        · skip
          by_cases h19_21 : op ≤ 20
          · skip
            by_cases h19_20 : op ≤ 19
            · skip
              obtain rfl : op = 19 := by omega
              exact ansOk_19 _ _ _ _ _ _ _ _
            · skip
              obtain rfl : op = 20 := by omega
              exact ansOk_20 _ _ _ _ _ _ _ _
          · skip
            obtain rfl : op = 21 := by omega
            exact ansOk_21 _ _ _ _ _ _ _ _
        · skip
          by_cases h22_23 : op ≤ 22
          · skip
            obtain rfl : op = 22 := by omega
            exact ansOk_22 _ _ _ _ _ _ _ _
          · skip
            obtain rfl : op = 23 := by omega
            exact ansOk_23 _ _ _ _ _ _ _ _
  · skip
    by_cases h24_45 : op ≤ 34
    · skip
      by_cases h24_34 : op ≤ 29
      · skip
        by_cases h24_29 : op ≤ 26
        · skip
          by_cases h24_26 : op ≤ 25
          · skip
            by_cases h24_25 : op ≤ 24
            · skip
              obtain rfl : op = 24 := by omega
              exact ansOk_24 _ _ _ _ _ _ _ _
            · skip
              obtain rfl : op = 25 := by omega
              exact ansOk_25 _ _ _ _ _ _ _ _
          · skip
            obtain rfl : op = 26 := by omega
            exact ansOk_26 _ _ _ _ _ _ _ _
        · skip
          by_cases h27_29 : op ≤ 28
          · skip
            by_cases h27_28 : op ≤ 27
            · skip
              obtain rfl : op = 27 := by omega
              exact ansOk_27 _ _ _ _ _ _ _ _
            · skip
              obtain rfl : op = 28 := by omega
              exact ansOk_28 _ _ _ _ _ _ _ _
          · skip
            obtain rfl : op = 29 := by omega
            exact ansOk_29 _ _ _ _ _ _ _ _
      · skip
        by_cases h30_34 : op ≤ 32
        · skip
          by_cases h30_32 : op ≤ 31
          · skip
            by_cases h30_31 : op ≤ 30
            · skip
              obtain rfl : op = 30 := by omega
              exact ansOk_30 _ _ _ _ _ _ _ _
            · skip
              obtain rfl : op = 31 := by omega
              exact ansOk_31 _ _ _ _ _ _ _ _
          · skip
            obtain rfl : op = 32 := by omega
            exact ansOk_32 _ _ _ _ _ _ _ _
        · skip
          by_cases h33_34 : op ≤ 33
          · skip
            obtain rfl : op = 33 := by omega
            exact ansOk_33 _ _ _ _ _ _ _ _
          · skip
            obtain rfl : op = 34 := by omega
            exact ansOk_34 _ _ _ _ _ _ _ _
    · skip
      by_cases h35_45 : op ≤ 40
      · skip
        by_cases h35_40 : op ≤ 37
        · skip
          by_cases h35_37 : op ≤ 36
          · skip
            by_cases h35_36 : op ≤ 35
            · skip
              obtain rfl : op = 35 := by omega
              exact ansOk_35 _ _ _ _ _ _ _ _
            · skip
              obtain rfl : op = 36 := by omega
              exact ansOk_36 _ _ _ _ _ _ _ _
          · skip
            obtain rfl : op = 37 := by omega
            exact ansOk_37 _ _ _ _ _ _ _ _
        · skip
          by_cases h38_40 : op ≤ 39
          · skip
            by_cases h38_39 : op ≤ 38
            · skip
              obtain rfl : op = 38 := by omega
              exact ansOk_38 _ _ _ _ _ _ _ _
            · skip
              obtain rfl : op = 39 := by omega
              exact ansOk_39 _ _ _ _ _ _ _ _
          · skip
            obtain rfl : op = 40 := by omega
            exact ansOk_40 _ _ _ _ _ _ _ _
      · skip
        by_cases h41_45 : op ≤ 43
        · skip
          by_cases h41_43 : op ≤ 42
          · skip
            by_cases h41_42 : op ≤ 41
            · skip
              obtain rfl : op = 41 := by omega
              exact ansOk_41 _ _ _ _ _ _ _ _
            · skip
              obtain rfl : op = 42 := by omega
              exact ansOk_42 _ _ _ _ _ _ _ _
          · skip
            obtain rfl : op = 43 := by omega
            exact ansOk_43 _ _ _ _ _ _ _ _
        · skip
          by_cases h44_45 : op ≤ 44
          · skip
            obtain rfl : op = 44 := by omega
            exact ansOk_44 _ _ _ _ _ _ _ _
          · skip
            obtain rfl : op = 45 := by omega
            exact ansOk_45 _ _ _ _ _ _ _ _
theorem doP_c (op d n m cond : Nat) (h1 : 1 ≤ op) (h45 : op < 46) (imm : Int) (x : Ch) (M : Nat → Nat) : 0 ≤ (doP op d n m cond imm x M).c ∧ (doP op d n m cond imm x M).c ≤ 1000 ∧ (doP op d n m cond imm x M).x.cyc = x.cyc := by
  have h := ansP_ok op d cond h1 h45 imm (lefP (doX1 op x).R op d n m) (rigP (doX1 op x).R op m imm) ((x.R 15 + 4) % 4294967296) (doX1 op x) M
  refine ⟨h.1, h.2.1, ?_⟩
  have e : (doP op d n m cond imm x M).x.cyc = (doA op d n m cond imm x M).x.cyc := by
    show (stD op d _ (sgP op _ _)).cyc = _
    unfold stD sgP
    cases maskB 46157266430 op <;> cases maskB 268435454 op <;> rfl
  rw [e]
  exact h.2.2
section
variable {w w' : World} {cb bm g : Nat} {x : Ch} {M : Nat → Nat} {F : Nat → Prop}
def CG (cb g : Nat) (F : Nat → Prop) (k : Nat) : Prop := k = cb ∨ k = g ∨ F k
set_option maxRecDepth 20000 in
set_option maxHeartbeats 1000000 in
theorem cStepOff (h : Cp w cb x) (hst : x.st ≠ 0) (mv tv : Value) : Calls Try.prog 19 #[.pointer (some ⟨cb, 0, none⟩), mv, tv] w fun e w' => e = .returned (.int .i64 x.st) ∧ w = w' := by
  have c20 := h.c20
  have hb : (x.st != 0) = true := by simpa using hst
  clear h hst
  go_enter Try.func19, Try.ntmps19
  go_wp2_with fail
  go_ret
  exact ⟨rfl, rfl⟩
set_option maxRecDepth 20000 in
set_option maxHeartbeats 1000000 in
theorem cStepBad (h : Cp w cb x) (hm : Mm 72 w bm g M) (hst : x.st = 0) (hr : readB M (x.R 15) = false) (tv : Value) : Calls Try.prog 19 #[.pointer (some ⟨cb, 0, none⟩), .pointer (some ⟨bm, 0, none⟩), tv] w fun e w' => e = .returned (.int .i64 2) ∧ Cp w' cb { x with st := 2 } ∧ Upd (fun q => q = cb) w w' := by
  have c20 := h.c20
  have c15 := h.c15
  rw [hst] at c20
  have HR := Lib.hid (cRead hm (x.R 15) (h.ok 15))
  rw [hr] at HR
  have H0 := Lib.hid h
  clear h hm hst hr
  go_enter Try.func19, Try.ntmps19
  go_wp2_with fail
  refine HR.out.mono ?_
  rintro e w1 ⟨rfl, hu⟩
  have H1 := Lib.hid (H0.out.upd hu (fun h => h))
  have HU1 := Lib.hid hu
  clear hu HR c20 c15 H0
  have HA := Lib.hid (H1.out.upd (Upd.alloc (fun _ => False) w1 (.cells #[.int .i64 (readI M (x.R 15)).op, .int .i64 (readI M (x.R 15)).d, .int .i64 (readI M (x.R 15)).n, .int .i64 (readI M (x.R 15)).m, .int .i64 (readI M (x.R 15)).imm, .int .i64 (readI M (x.R 15)).cond] 36)) (fun h => h))
  have f20 := HA.out.fz 20
  have c20 := HA.out.c20
  have HE := Lib.hid (HA.out.set_st 2)
  go_wp2_with fail
  go_ret
  exact ⟨rfl, HE.out, ((HU1.out.trans (Upd.alloc (fun _ => False) _ _) (fun _ h _ => h)).mono (fun _ h _ => h.elim)).trans (Upd.setCell (S := fun q => q = cb) _ (.inl rfl) _) (fun _ h _ => h)⟩
end
end Go.Proofs.Ytibmgmgkaacibaa

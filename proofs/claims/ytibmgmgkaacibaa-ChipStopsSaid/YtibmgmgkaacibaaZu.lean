/- Decode is the reference's, and Encode's inverse, for all that is no Bl: plainly. No program is named here. -/
import Derived.Test.YtibmgmgkaacibaaZt
namespace Go.Proofs.Ytibmgmgkaacibaa
open Go.RowKit
set_option linter.unusedVariables false
set_option linter.unusedSimpArgs false

theorem mem_f {r : Rw} (hr : r ∈ rowL) : r.f ∈ rowF := by rw [← rowF_eq]; exact List.mem_map_of_mem hr
/-- the reference's halfword, or none -/
def refDec (x : Nat) : Option I6 := if refR (refI x) then some (refI x) else none

theorem putF_low (n lo w : Nat) (hw : w ≠ 100) : putF n lo w = n % 2 ^ w * 2 ^ lo := by
  unfold putF
  split
  · omega
  · show (n &&& (2 ^ w - 1)) <<< lo = _
    rw [Nat.and_two_pow_sub_one_eq_mod, Nat.shiftLeft_eq]
theorem putF_high (n : Nat) : putF n 0 100 = n % 8 + 128 * (n / 8 % 2) := by
  show (n &&& 7) + 128 * ((n >>> 3) &&& 1) = _
  rw [show (7 : Nat) = 2 ^ 3 - 1 from rfl, Nat.and_two_pow_sub_one_eq_mod, show (1 : Nat) = 2 ^ 1 - 1 from rfl, Nat.and_two_pow_sub_one_eq_mod, Nat.shiftRight_eq_div_pow]
theorem sp_put {l : List Nat} (hl : OkM l) (n : Int) (hn : 0 ≤ n) : sp n l = putF n.toNat (low l) (wid l) := by
  obtain ⟨k, rfl⟩ := Int.eq_ofNat_of_zero_le hn
  have := List.all_eq_true.1 run_masks l hl
  simp only [Bool.or_eq_true, decide_eq_true_eq] at this
  rcases this with rfl | ⟨h1, h2⟩
  · show sp (k : Int) [0, 1, 2, 7] = putF k 0 100
    rw [putF_high]
    simp only [sp]
    omega
  · rw [putF_low _ _ _ (by omega)]
    have := sp_run (wid l) (low l) (k : Int)
    rw [← h1] at this
    rw [this]
    congr 1
theorem sp_shift {l : List Nat} (hl : OkM l) (h100 : wid l ≠ 100) (n : Int) : sp n l = (n % 2 ^ wid l).toNat * 2 ^ low l := by
  have := List.all_eq_true.1 run_masks l hl
  simp only [Bool.or_eq_true, decide_eq_true_eq] at this
  rcases this with rfl | ⟨h1, h2⟩
  · exact absurd rfl h100
  · have := sp_run (wid l) (low l) n
    rw [← h1] at this
    exact this
theorem sp_lt16 : ∀ {l : List Nat}, OkL l → ∀ n, sp n l < 65536
  | [], _, n => by simp [sp]
  | p :: l, h, n => by
    have h1 : ∀ {l : List Nat} (n : Int), sp n l ≤ msk l := fun {l} => by
      induction l with
      | nil => intro n; simp [sp, msk]
      | cons p l ih =>
        intro n
        have h2 := ih (n / 2)
        have h3 : (n % 2).toNat ≤ 1 := by omega
        have h4 : (n % 2).toNat * 2 ^ p ≤ 1 * 2 ^ p := Nat.mul_le_mul_right _ h3
        simp only [sp, msk]
        omega
    exact Nat.lt_of_le_of_lt (h1 n) h.lt
theorem or_nat {x y : Nat} (hx : x < 65536) (hy : y < 65536) : bits .or .u16 (x : Int) (y : Int) = ((x ||| y : Nat) : Int) ∧ x ||| y < 65536 :=
  ⟨u16_or_nat x y hx hy, Nat.or_lt_two_pow (n := 16) hx hy⟩
theorem imm_wid : rowL.all (fun r => decide (wid r.imm ≠ 100)) = true := by decide +kernel
theorem lay_f {r : Rw} (hr : r ∈ rowL) (i : I6) (hop : r.first ≤ i.op) (hd : 0 ≤ i.d) (hn : 0 ≤ i.n) (hm : 0 ≤ i.m) (hc : 0 ≤ i.cond) : layP r i = (layF r.f i : Int) := by
  have ho := rows_ok hr
  have h1 : r.first = (r.first.toNat : Int) := of_decide_eq_true (List.all_eq_true.1 firsts r hr)
  have hi : wid r.imm ≠ 100 := of_decide_eq_true (List.all_eq_true.1 imm_wid r hr)
  unfold layP layF
  have e1 : sp (i.op - r.first) r.p = putF (Nat.sub i.op.toNat r.first.toNat) (low r.p) (wid r.p) := by
    rw [sp_put ho.p _ (by omega)]
    congr 1
    show (i.op - r.first).toNat = i.op.toNat - r.first.toNat
    omega
  have e2 := sp_put ho.d i.d hd
  have e3 := sp_put ho.n i.n hn
  have e4 := sp_put ho.m i.m hm
  have e5 : sp (i.imm / 2 ^ r.halved) r.imm = Nat.shiftLeft (Int.toNat (Int.emod (Int.ediv i.imm (Int.ofNat (Nat.pow 2 r.halved))) (Int.ofNat (Nat.pow 2 (wid r.imm))))) (low r.imm) := by
    rw [sp_shift ho.imm hi]
    show _ = Int.toNat ((i.imm / ((2 ^ r.halved : Nat) : Int)) % ((2 ^ wid r.imm : Nat) : Int)) <<< low r.imm
    rw [Nat.shiftLeft_eq, Int.natCast_pow, Int.natCast_pow]
    rfl
  have e6 := sp_put ho.cond i.cond hc
  obtain ⟨a1, b1⟩ := or_nat ho.fixed (sp_lt16 ho.p.okL (i.op - r.first))
  obtain ⟨a2, b2⟩ := or_nat b1 (sp_lt16 ho.d.okL i.d)
  obtain ⟨a3, b3⟩ := or_nat b2 (sp_lt16 ho.n.okL i.n)
  obtain ⟨a4, b4⟩ := or_nat b3 (sp_lt16 ho.m.okL i.m)
  obtain ⟨a5, b5⟩ := or_nat b4 (sp_lt16 ho.imm.okL (i.imm / 2 ^ r.halved))
  obtain ⟨a6, b6⟩ := or_nat b5 (sp_lt16 ho.cond.okL i.cond)
  rw [a1, a2, a3, a4, a5, a6, e1, e2, e3, e4, e5, e6]
  rfl

/-- a halfword that some row takes -/
theorem dec_some {h : Nat} (hh : h < 65536) (hf : h / 2048 ≠ 30) {i : I6} (hi : decP h = some i) :
    i = refI h ∧ rightP i = true ∧ i.op ≠ 43 ∧ refE i = h ∧ ∃ r, rowOfP i.op = some r ∧ layP r i = (h : Int) := by
  unfold decP at hi
  rw [Option.map_eq_some_iff] at hi
  obtain ⟨r, hr, rfl⟩ := hi
  have hm := List.mem_of_find?_eq_some hr
  have hq : hasP r h = true ∧ mayP r (takeP r h) = true := by
    have := List.find?_some (p := fun r : Rw => hasP r h && mayP r (takeP r h)) hr
    simpa using this
  have ho := rows_ok hm
  have hp := ga_lt h r.p
  have hrow : rowOfP (takeP r h).op = some r := rowOf_at hm hp
  have h1 := (halves_all hh hf).1 r.f (mem_f hm) (by rw [← has_f hm hh]; exact hq.1) (by rw [← may_f hm]; exact hq.2)
  rw [← take_f hm] at h1
  refine ⟨h1.1, by unfold rightP; rw [hrow]; exact hq.2, ?_, h1.2.2, r, hrow, ?_⟩
  · intro h43
    have h2 := List.all_eq_true.1 far_row r hm
    simp only [Bool.and_eq_true, decide_eq_true_eq] at h2
    have h3 : (takeP r h).op = r.first + (ga h r.p : Int) := rfl
    have h4 : (ga h r.p : Int) < 2 ^ r.p.length := by exact_mod_cast hp
    by_cases h5 : r.first ≤ 42
    · have := h2.2 h5; omega
    · have h6 : r.first = 43 := by omega
      obtain ⟨h7, h8⟩ := h2.1 h6
      have h9 := hq.1
      rw [has_f hm hh] at h9
      unfold hasF at h9
      rw [Nat.beq_eq] at h9
      have h10 : h &&& (65535 - totN r) = r.fixed := h9
      rw [h7, h8] at h10
      have e := nat_midmask 16 0 h (by decide)
      rw [show (2 : Nat) ^ 16 - 2 ^ 0 = 65535 from rfl] at e
      rw [show 65535 - 0 = 65535 from rfl, e] at h10
      omega
  · rw [lay_f hm _ (by show r.first ≤ r.first + _; omega) (by show (0 : Int) ≤ (ga h r.d : Int); omega) (by show (0 : Int) ≤ (ga h r.n : Int); omega) (by show (0 : Int) ≤ (ga h r.m : Int); omega) (by show (0 : Int) ≤ (ga h r.cond : Int); omega), h1.2.1]
theorem bad_right {i : I6} (h : badI i = true) : refR i = false := by
  obtain ⟨op, d, n, m, imm, cond⟩ := i
  unfold badI at h
  simp only [Bool.or_eq_true, Bool.and_eq_true] at h
  rcases h with (h | ⟨h1, h2⟩) | ⟨h1 | h1, h2⟩
  · have := ieq_eq h
    subst this
    rw [← right_eq]
    have hr : rowOfP 0 = none := by decide +kernel
    unfold rightP; simp only; rw [hr]
  · have := ieq_eq h1
    subst this
    unfold barP at h2
    simp at h2
    simp [refR, inP]
    omega
  · have := ieq_eq h1
    have h3 := ieq_eq h2
    subst this h3
    simp [refR, inP, formsP, useP]
  · have := ieq_eq h1
    have h3 := ieq_eq h2
    subst this h3
    simp [refR, inP, formsP, useP]
/-- what is decoded is what the reference tells -/
theorem dec_ref {h : Nat} (hh : h < 65536) (hf : h / 2048 ≠ 30) : decP h = refDec h := by
  cases hd : decP h with
  | some i =>
    obtain ⟨h1, h2, _⟩ := dec_some hh hf hd
    unfold refDec
    rw [← h1, ← right_eq, h2]
    rfl
  | none =>
    have hb := (halves_all hh hf).2 (fun q hq hc => by
      rw [← rowF_eq, List.mem_map] at hq
      obtain ⟨r, hr, rfl⟩ := hq
      rw [← has_f hr hh, ← may_f hr] at hc
      unfold decP at hd
      rw [Option.map_eq_none_iff, List.find?_eq_none] at hd
      have := hd r hr
      simp [hc.1, hc.2] at this)
    unfold refDec
    rw [bad_right hb]
    rfl
theorem has_of {r : Rw} (hr : r ∈ rowL) {h : Nat} (hh : h < 65536) (K : Nat) (hK : K ≤ 16) (ht : totN r = 2 ^ K - 1) (he : h / 2 ^ K * 2 ^ K = r.fixed) : hasP r h = true := by
  rw [has_f hr hh]
  unfold hasF
  rw [Nat.beq_eq]
  show h &&& (65535 - totN r) = r.fixed
  have e := nat_midmask 16 K h hK
  have h1 := Nat.two_pow_pos K
  have h2 : 2 ^ K ≤ 2 ^ 16 := Nat.pow_le_pow_right (by decide) hK
  rw [Nat.mod_eq_of_lt (by omega : h < 2 ^ 16)] at e
  rw [ht, show 65535 - (2 ^ K - 1) = 2 ^ 16 - 2 ^ K by omega, e, he]
set_option maxHeartbeats 4000000 in
theorem surj_row (i : I6) (r : Rw) (hrow : r ∈ rowL) (hp : fitP (i.op - r.first) r.p = true) (hm : mayP r i = true) (h43 : i.op ≠ 43) : ∃ h, h < 65536 ∧ h / 2048 ≠ 30 ∧ hasP r h = true ∧ takeP r h = i := by
  have hcase := hrow
  simp only [rowL, List.mem_cons, List.not_mem_nil, or_false] at hcase
  rcases hcase with rfl | rfl | rfl | rfl | rfl | rfl | rfl | rfl | rfl | rfl | rfl | rfl | rfl | rfl | rfl | rfl | rfl | rfl | rfl | rfl | rfl | rfl | rfl | rfl
  · simp only [mayP, Bool.and_eq_true, fit_iff, decide_eq_true_eq, beq_iff_eq, List.length_cons, List.length_nil] at hp hm
    simp at hp hm
    obtain ⟨p, hp1⟩ : ∃ p : Nat, i.op = 1 + (p : Int) := ⟨(i.op - 1).toNat, by omega⟩
    obtain ⟨d, hd1⟩ : ∃ d : Nat, i.d = (d : Int) := ⟨i.d.toNat, by omega⟩
    obtain ⟨n, hn1⟩ : ∃ n : Nat, i.n = (n : Int) := ⟨i.n.toNat, by omega⟩
    obtain ⟨m, hm1⟩ : ∃ m : Nat, i.m = (m : Int) := ⟨i.m.toNat, by omega⟩
    obtain ⟨c, hc1⟩ : ∃ c : Nat, i.cond = (c : Int) := ⟨i.cond.toNat, by omega⟩
    obtain ⟨q, hq1, hq2⟩ : ∃ q : Nat, q < 32 ∧ 0 + ((q : Int) * 1 - 0) % 32 = i.imm := ⟨(i.imm / 1 % 32).toNat, by omega, by omega⟩
    obtain ⟨H, hH⟩ : ∃ H : Nat, H = 0 + d * 1 + m * 8 + q * 64 := ⟨_, rfl⟩
    have hH1 : H < 65536 := by omega
    have hH2 : H / 2048 ≠ 30 := by omega
    have gp : ga H [] = 0 := rfl
    have gd : ga H [0, 1, 2] = d := by have := ga_run H 3 0; rw [show List.range' 0 3 = [0, 1, 2] from rfl] at this; rw [this]; omega
    have gn : ga H [] = 0 := rfl
    have gm : ga H [3, 4, 5] = m := by have := ga_run H 3 3; rw [show List.range' 3 3 = [3, 4, 5] from rfl] at this; rw [this]; omega
    have gq : ga H [6, 7, 8, 9, 10] = q := by have := ga_run H 5 6; rw [show List.range' 6 5 = [6, 7, 8, 9, 10] from rfl] at this; rw [this]; omega
    have gc : ga H [] = 0 := rfl
    refine ⟨H, hH1, hH2, has_of hrow hH1 11 (by decide) (by decide +kernel) (by show H / 2048 * 2048 = 0; omega), ?_⟩
    obtain ⟨io, id', in', im, ii, ic⟩ := i
    simp only at hp1 hd1 hn1 hm1 hc1 hq2 hp hm
    simp only [takeP, leastP, gp, gd, gn, gm, gq, gc, I6.mk.injEq, List.length_cons, List.length_nil]
    refine ⟨by omega, by omega, by omega, by omega, ?_, by omega⟩
    rw [← hq2]; simp
  · simp only [mayP, Bool.and_eq_true, fit_iff, decide_eq_true_eq, beq_iff_eq, List.length_cons, List.length_nil] at hp hm
    simp at hp hm
    obtain ⟨p, hp1⟩ : ∃ p : Nat, i.op = 2 + (p : Int) := ⟨(i.op - 2).toNat, by omega⟩
    obtain ⟨d, hd1⟩ : ∃ d : Nat, i.d = (d : Int) := ⟨i.d.toNat, by omega⟩
    obtain ⟨n, hn1⟩ : ∃ n : Nat, i.n = (n : Int) := ⟨i.n.toNat, by omega⟩
    obtain ⟨m, hm1⟩ : ∃ m : Nat, i.m = (m : Int) := ⟨i.m.toNat, by omega⟩
    obtain ⟨c, hc1⟩ : ∃ c : Nat, i.cond = (c : Int) := ⟨i.cond.toNat, by omega⟩
    obtain ⟨q, hq1, hq2⟩ : ∃ q : Nat, q < 32 ∧ 1 + ((q : Int) * 1 - 1) % 32 = i.imm := ⟨(i.imm / 1 % 32).toNat, by omega, by omega⟩
    obtain ⟨H, hH⟩ : ∃ H : Nat, H = 2048 + d * 1 + m * 8 + q * 64 := ⟨_, rfl⟩
    have hH1 : H < 65536 := by omega
    have hH2 : H / 2048 ≠ 30 := by omega
    have gp : ga H [] = 0 := rfl
    have gd : ga H [0, 1, 2] = d := by have := ga_run H 3 0; rw [show List.range' 0 3 = [0, 1, 2] from rfl] at this; rw [this]; omega
    have gn : ga H [] = 0 := rfl
    have gm : ga H [3, 4, 5] = m := by have := ga_run H 3 3; rw [show List.range' 3 3 = [3, 4, 5] from rfl] at this; rw [this]; omega
    have gq : ga H [6, 7, 8, 9, 10] = q := by have := ga_run H 5 6; rw [show List.range' 6 5 = [6, 7, 8, 9, 10] from rfl] at this; rw [this]; omega
    have gc : ga H [] = 0 := rfl
    refine ⟨H, hH1, hH2, has_of hrow hH1 11 (by decide) (by decide +kernel) (by show H / 2048 * 2048 = 2048; omega), ?_⟩
    obtain ⟨io, id', in', im, ii, ic⟩ := i
    simp only at hp1 hd1 hn1 hm1 hc1 hq2 hp hm
    simp only [takeP, leastP, gp, gd, gn, gm, gq, gc, I6.mk.injEq, List.length_cons, List.length_nil]
    refine ⟨by omega, by omega, by omega, by omega, ?_, by omega⟩
    rw [← hq2]; simp
  · simp only [mayP, Bool.and_eq_true, fit_iff, decide_eq_true_eq, beq_iff_eq, List.length_cons, List.length_nil] at hp hm
    simp at hp hm
    obtain ⟨p, hp1⟩ : ∃ p : Nat, i.op = 3 + (p : Int) := ⟨(i.op - 3).toNat, by omega⟩
    obtain ⟨d, hd1⟩ : ∃ d : Nat, i.d = (d : Int) := ⟨i.d.toNat, by omega⟩
    obtain ⟨n, hn1⟩ : ∃ n : Nat, i.n = (n : Int) := ⟨i.n.toNat, by omega⟩
    obtain ⟨m, hm1⟩ : ∃ m : Nat, i.m = (m : Int) := ⟨i.m.toNat, by omega⟩
    obtain ⟨c, hc1⟩ : ∃ c : Nat, i.cond = (c : Int) := ⟨i.cond.toNat, by omega⟩
    obtain ⟨q, hq1, hq2⟩ : ∃ q : Nat, q < 32 ∧ 1 + ((q : Int) * 1 - 1) % 32 = i.imm := ⟨(i.imm / 1 % 32).toNat, by omega, by omega⟩
    obtain ⟨H, hH⟩ : ∃ H : Nat, H = 4096 + d * 1 + m * 8 + q * 64 := ⟨_, rfl⟩
    have hH1 : H < 65536 := by omega
    have hH2 : H / 2048 ≠ 30 := by omega
    have gp : ga H [] = 0 := rfl
    have gd : ga H [0, 1, 2] = d := by have := ga_run H 3 0; rw [show List.range' 0 3 = [0, 1, 2] from rfl] at this; rw [this]; omega
    have gn : ga H [] = 0 := rfl
    have gm : ga H [3, 4, 5] = m := by have := ga_run H 3 3; rw [show List.range' 3 3 = [3, 4, 5] from rfl] at this; rw [this]; omega
    have gq : ga H [6, 7, 8, 9, 10] = q := by have := ga_run H 5 6; rw [show List.range' 6 5 = [6, 7, 8, 9, 10] from rfl] at this; rw [this]; omega
    have gc : ga H [] = 0 := rfl
    refine ⟨H, hH1, hH2, has_of hrow hH1 11 (by decide) (by decide +kernel) (by show H / 2048 * 2048 = 4096; omega), ?_⟩
    obtain ⟨io, id', in', im, ii, ic⟩ := i
    simp only at hp1 hd1 hn1 hm1 hc1 hq2 hp hm
    simp only [takeP, leastP, gp, gd, gn, gm, gq, gc, I6.mk.injEq, List.length_cons, List.length_nil]
    refine ⟨by omega, by omega, by omega, by omega, ?_, by omega⟩
    rw [← hq2]; simp
  · simp only [mayP, Bool.and_eq_true, fit_iff, decide_eq_true_eq, beq_iff_eq, List.length_cons, List.length_nil] at hp hm
    simp at hp hm
    obtain ⟨p, hp1⟩ : ∃ p : Nat, i.op = 4 + (p : Int) := ⟨(i.op - 4).toNat, by omega⟩
    obtain ⟨d, hd1⟩ : ∃ d : Nat, i.d = (d : Int) := ⟨i.d.toNat, by omega⟩
    obtain ⟨n, hn1⟩ : ∃ n : Nat, i.n = (n : Int) := ⟨i.n.toNat, by omega⟩
    obtain ⟨m, hm1⟩ : ∃ m : Nat, i.m = (m : Int) := ⟨i.m.toNat, by omega⟩
    obtain ⟨c, hc1⟩ : ∃ c : Nat, i.cond = (c : Int) := ⟨i.cond.toNat, by omega⟩
    obtain ⟨q, hq1, hq2⟩ : ∃ q : Nat, q < 1 ∧ 0 + ((q : Int) * 1 - 0) % 1 = i.imm := ⟨(i.imm / 1 % 1).toNat, by omega, by omega⟩
    obtain ⟨H, hH⟩ : ∃ H : Nat, H = 6144 + p * 512 + d * 1 + n * 8 + m * 64 := ⟨_, rfl⟩
    have hH1 : H < 65536 := by omega
    have hH2 : H / 2048 ≠ 30 := by omega
    have gp : ga H [9] = p := by have := ga_run H 1 9; rw [show List.range' 9 1 = [9] from rfl] at this; rw [this]; omega
    have gd : ga H [0, 1, 2] = d := by have := ga_run H 3 0; rw [show List.range' 0 3 = [0, 1, 2] from rfl] at this; rw [this]; omega
    have gn : ga H [3, 4, 5] = n := by have := ga_run H 3 3; rw [show List.range' 3 3 = [3, 4, 5] from rfl] at this; rw [this]; omega
    have gm : ga H [6, 7, 8] = m := by have := ga_run H 3 6; rw [show List.range' 6 3 = [6, 7, 8] from rfl] at this; rw [this]; omega
    have gq : ga H [] = 0 := rfl
    have gc : ga H [] = 0 := rfl
    refine ⟨H, hH1, hH2, has_of hrow hH1 10 (by decide) (by decide +kernel) (by show H / 1024 * 1024 = 6144; omega), ?_⟩
    obtain ⟨io, id', in', im, ii, ic⟩ := i
    simp only at hp1 hd1 hn1 hm1 hc1 hq2 hp hm
    simp only [takeP, leastP, gp, gd, gn, gm, gq, gc, I6.mk.injEq, List.length_cons, List.length_nil]
    refine ⟨by omega, by omega, by omega, by omega, ?_, by omega⟩
    rw [← hq2]; simp
  · simp only [mayP, Bool.and_eq_true, fit_iff, decide_eq_true_eq, beq_iff_eq, List.length_cons, List.length_nil] at hp hm
    simp at hp hm
    obtain ⟨p, hp1⟩ : ∃ p : Nat, i.op = 6 + (p : Int) := ⟨(i.op - 6).toNat, by omega⟩
    obtain ⟨d, hd1⟩ : ∃ d : Nat, i.d = (d : Int) := ⟨i.d.toNat, by omega⟩
    obtain ⟨n, hn1⟩ : ∃ n : Nat, i.n = (n : Int) := ⟨i.n.toNat, by omega⟩
    obtain ⟨m, hm1⟩ : ∃ m : Nat, i.m = (m : Int) := ⟨i.m.toNat, by omega⟩
    obtain ⟨c, hc1⟩ : ∃ c : Nat, i.cond = (c : Int) := ⟨i.cond.toNat, by omega⟩
    obtain ⟨q, hq1, hq2⟩ : ∃ q : Nat, q < 8 ∧ 0 + ((q : Int) * 1 - 0) % 8 = i.imm := ⟨(i.imm / 1 % 8).toNat, by omega, by omega⟩
    obtain ⟨H, hH⟩ : ∃ H : Nat, H = 7168 + p * 512 + d * 1 + n * 8 + q * 64 := ⟨_, rfl⟩
    have hH1 : H < 65536 := by omega
    have hH2 : H / 2048 ≠ 30 := by omega
    have gp : ga H [9] = p := by have := ga_run H 1 9; rw [show List.range' 9 1 = [9] from rfl] at this; rw [this]; omega
    have gd : ga H [0, 1, 2] = d := by have := ga_run H 3 0; rw [show List.range' 0 3 = [0, 1, 2] from rfl] at this; rw [this]; omega
    have gn : ga H [3, 4, 5] = n := by have := ga_run H 3 3; rw [show List.range' 3 3 = [3, 4, 5] from rfl] at this; rw [this]; omega
    have gm : ga H [] = 0 := rfl
    have gq : ga H [6, 7, 8] = q := by have := ga_run H 3 6; rw [show List.range' 6 3 = [6, 7, 8] from rfl] at this; rw [this]; omega
    have gc : ga H [] = 0 := rfl
    refine ⟨H, hH1, hH2, has_of hrow hH1 10 (by decide) (by decide +kernel) (by show H / 1024 * 1024 = 7168; omega), ?_⟩
    obtain ⟨io, id', in', im, ii, ic⟩ := i
    simp only at hp1 hd1 hn1 hm1 hc1 hq2 hp hm
    simp only [takeP, leastP, gp, gd, gn, gm, gq, gc, I6.mk.injEq, List.length_cons, List.length_nil]
    refine ⟨by omega, by omega, by omega, by omega, ?_, by omega⟩
    rw [← hq2]; simp
  · simp only [mayP, Bool.and_eq_true, fit_iff, decide_eq_true_eq, beq_iff_eq, List.length_cons, List.length_nil] at hp hm
    simp at hp hm
    obtain ⟨p, hp1⟩ : ∃ p : Nat, i.op = 8 + (p : Int) := ⟨(i.op - 8).toNat, by omega⟩
    obtain ⟨d, hd1⟩ : ∃ d : Nat, i.d = (d : Int) := ⟨i.d.toNat, by omega⟩
    obtain ⟨n, hn1⟩ : ∃ n : Nat, i.n = (n : Int) := ⟨i.n.toNat, by omega⟩
    obtain ⟨m, hm1⟩ : ∃ m : Nat, i.m = (m : Int) := ⟨i.m.toNat, by omega⟩
    obtain ⟨c, hc1⟩ : ∃ c : Nat, i.cond = (c : Int) := ⟨i.cond.toNat, by omega⟩
    obtain ⟨q, hq1, hq2⟩ : ∃ q : Nat, q < 256 ∧ 0 + ((q : Int) * 1 - 0) % 256 = i.imm := ⟨(i.imm / 1 % 256).toNat, by omega, by omega⟩
    obtain ⟨H, hH⟩ : ∃ H : Nat, H = 8192 + p * 2048 + d * 256 + q * 1 := ⟨_, rfl⟩
    have hH1 : H < 65536 := by omega
    have hH2 : H / 2048 ≠ 30 := by omega
    have gp : ga H [11, 12] = p := by have := ga_run H 2 11; rw [show List.range' 11 2 = [11, 12] from rfl] at this; rw [this]; omega
    have gd : ga H [8, 9, 10] = d := by have := ga_run H 3 8; rw [show List.range' 8 3 = [8, 9, 10] from rfl] at this; rw [this]; omega
    have gn : ga H [] = 0 := rfl
    have gm : ga H [] = 0 := rfl
    have gq : ga H [0, 1, 2, 3, 4, 5, 6, 7] = q := by have := ga_run H 8 0; rw [show List.range' 0 8 = [0, 1, 2, 3, 4, 5, 6, 7] from rfl] at this; rw [this]; omega
    have gc : ga H [] = 0 := rfl
    refine ⟨H, hH1, hH2, has_of hrow hH1 13 (by decide) (by decide +kernel) (by show H / 8192 * 8192 = 8192; omega), ?_⟩
    obtain ⟨io, id', in', im, ii, ic⟩ := i
    simp only at hp1 hd1 hn1 hm1 hc1 hq2 hp hm
    simp only [takeP, leastP, gp, gd, gn, gm, gq, gc, I6.mk.injEq, List.length_cons, List.length_nil]
    refine ⟨by omega, by omega, by omega, by omega, ?_, by omega⟩
    rw [← hq2]; simp
  · simp only [mayP, Bool.and_eq_true, fit_iff, decide_eq_true_eq, beq_iff_eq, List.length_cons, List.length_nil] at hp hm
    simp at hp hm
    obtain ⟨p, hp1⟩ : ∃ p : Nat, i.op = 12 + (p : Int) := ⟨(i.op - 12).toNat, by omega⟩
    obtain ⟨d, hd1⟩ : ∃ d : Nat, i.d = (d : Int) := ⟨i.d.toNat, by omega⟩
    obtain ⟨n, hn1⟩ : ∃ n : Nat, i.n = (n : Int) := ⟨i.n.toNat, by omega⟩
    obtain ⟨m, hm1⟩ : ∃ m : Nat, i.m = (m : Int) := ⟨i.m.toNat, by omega⟩
    obtain ⟨c, hc1⟩ : ∃ c : Nat, i.cond = (c : Int) := ⟨i.cond.toNat, by omega⟩
    obtain ⟨q, hq1, hq2⟩ : ∃ q : Nat, q < 1 ∧ 0 + ((q : Int) * 1 - 0) % 1 = i.imm := ⟨(i.imm / 1 % 1).toNat, by omega, by omega⟩
    obtain ⟨H, hH⟩ : ∃ H : Nat, H = 16384 + p * 64 + d * 1 + m * 8 := ⟨_, rfl⟩
    have hH1 : H < 65536 := by omega
    have hH2 : H / 2048 ≠ 30 := by omega
    have gp : ga H [6, 7, 8, 9] = p := by have := ga_run H 4 6; rw [show List.range' 6 4 = [6, 7, 8, 9] from rfl] at this; rw [this]; omega
    have gd : ga H [0, 1, 2] = d := by have := ga_run H 3 0; rw [show List.range' 0 3 = [0, 1, 2] from rfl] at this; rw [this]; omega
    have gn : ga H [] = 0 := rfl
    have gm : ga H [3, 4, 5] = m := by have := ga_run H 3 3; rw [show List.range' 3 3 = [3, 4, 5] from rfl] at this; rw [this]; omega
    have gq : ga H [] = 0 := rfl
    have gc : ga H [] = 0 := rfl
    refine ⟨H, hH1, hH2, has_of hrow hH1 10 (by decide) (by decide +kernel) (by show H / 1024 * 1024 = 16384; omega), ?_⟩
    obtain ⟨io, id', in', im, ii, ic⟩ := i
    simp only at hp1 hd1 hn1 hm1 hc1 hq2 hp hm
    simp only [takeP, leastP, gp, gd, gn, gm, gq, gc, I6.mk.injEq, List.length_cons, List.length_nil]
    refine ⟨by omega, by omega, by omega, by omega, ?_, by omega⟩
    rw [← hq2]; simp
  · simp only [mayP, Bool.and_eq_true, fit_iff, decide_eq_true_eq, beq_iff_eq, List.length_cons, List.length_nil] at hp hm
    simp at hp hm
    obtain ⟨p, hp1⟩ : ∃ p : Nat, i.op = 28 + (p : Int) := ⟨(i.op - 28).toNat, by omega⟩
    obtain ⟨d, hd1⟩ : ∃ d : Nat, i.d = (d : Int) := ⟨i.d.toNat, by omega⟩
    obtain ⟨n, hn1⟩ : ∃ n : Nat, i.n = (n : Int) := ⟨i.n.toNat, by omega⟩
    obtain ⟨m, hm1⟩ : ∃ m : Nat, i.m = (m : Int) := ⟨i.m.toNat, by omega⟩
    obtain ⟨c, hc1⟩ : ∃ c : Nat, i.cond = (c : Int) := ⟨i.cond.toNat, by omega⟩
    obtain ⟨q, hq1, hq2⟩ : ∃ q : Nat, q < 1 ∧ 0 + ((q : Int) * 1 - 0) % 1 = i.imm := ⟨(i.imm / 1 % 1).toNat, by omega, by omega⟩
    obtain ⟨H, hH⟩ : ∃ H : Nat, H = 17920 + d % 8 + d / 8 * 128 + m * 8 := ⟨_, rfl⟩
    have hH1 : H < 65536 := by omega
    have hH2 : H / 2048 ≠ 30 := by omega
    have gp : ga H [] = 0 := rfl
    have gd : ga H [0, 1, 2, 7] = d := by simp only [ga]; omega
    have gn : ga H [] = 0 := rfl
    have gm : ga H [3, 4, 5, 6] = m := by have := ga_run H 4 3; rw [show List.range' 3 4 = [3, 4, 5, 6] from rfl] at this; rw [this]; omega
    have gq : ga H [] = 0 := rfl
    have gc : ga H [] = 0 := rfl
    refine ⟨H, hH1, hH2, has_of hrow hH1 8 (by decide) (by decide +kernel) (by show H / 256 * 256 = 17920; omega), ?_⟩
    obtain ⟨io, id', in', im, ii, ic⟩ := i
    simp only at hp1 hd1 hn1 hm1 hc1 hq2 hp hm
    simp only [takeP, leastP, gp, gd, gn, gm, gq, gc, I6.mk.injEq, List.length_cons, List.length_nil]
    refine ⟨by omega, by omega, by omega, by omega, ?_, by omega⟩
    rw [← hq2]; simp
  · simp only [mayP, Bool.and_eq_true, fit_iff, decide_eq_true_eq, beq_iff_eq, List.length_cons, List.length_nil] at hp hm
    simp at hp hm
    obtain ⟨p, hp1⟩ : ∃ p : Nat, i.op = 30 + (p : Int) := ⟨(i.op - 30).toNat, by omega⟩
    obtain ⟨d, hd1⟩ : ∃ d : Nat, i.d = (d : Int) := ⟨i.d.toNat, by omega⟩
    obtain ⟨n, hn1⟩ : ∃ n : Nat, i.n = (n : Int) := ⟨i.n.toNat, by omega⟩
    obtain ⟨m, hm1⟩ : ∃ m : Nat, i.m = (m : Int) := ⟨i.m.toNat, by omega⟩
    obtain ⟨c, hc1⟩ : ∃ c : Nat, i.cond = (c : Int) := ⟨i.cond.toNat, by omega⟩
    obtain ⟨q, hq1, hq2⟩ : ∃ q : Nat, q < 1 ∧ 0 + ((q : Int) * 1 - 0) % 1 = i.imm := ⟨(i.imm / 1 % 1).toNat, by omega, by omega⟩
    obtain ⟨H, hH⟩ : ∃ H : Nat, H = 20480 + d * 1 + n * 8 + m * 64 := ⟨_, rfl⟩
    have hH1 : H < 65536 := by omega
    have hH2 : H / 2048 ≠ 30 := by omega
    have gp : ga H [] = 0 := rfl
    have gd : ga H [0, 1, 2] = d := by have := ga_run H 3 0; rw [show List.range' 0 3 = [0, 1, 2] from rfl] at this; rw [this]; omega
    have gn : ga H [3, 4, 5] = n := by have := ga_run H 3 3; rw [show List.range' 3 3 = [3, 4, 5] from rfl] at this; rw [this]; omega
    have gm : ga H [6, 7, 8] = m := by have := ga_run H 3 6; rw [show List.range' 6 3 = [6, 7, 8] from rfl] at this; rw [this]; omega
    have gq : ga H [] = 0 := rfl
    have gc : ga H [] = 0 := rfl
    refine ⟨H, hH1, hH2, has_of hrow hH1 9 (by decide) (by decide +kernel) (by show H / 512 * 512 = 20480; omega), ?_⟩
    obtain ⟨io, id', in', im, ii, ic⟩ := i
    simp only at hp1 hd1 hn1 hm1 hc1 hq2 hp hm
    simp only [takeP, leastP, gp, gd, gn, gm, gq, gc, I6.mk.injEq, List.length_cons, List.length_nil]
    refine ⟨by omega, by omega, by omega, by omega, ?_, by omega⟩
    rw [← hq2]; simp
  · simp only [mayP, Bool.and_eq_true, fit_iff, decide_eq_true_eq, beq_iff_eq, List.length_cons, List.length_nil] at hp hm
    simp at hp hm
    obtain ⟨p, hp1⟩ : ∃ p : Nat, i.op = 29 + (p : Int) := ⟨(i.op - 29).toNat, by omega⟩
    obtain ⟨d, hd1⟩ : ∃ d : Nat, i.d = (d : Int) := ⟨i.d.toNat, by omega⟩
    obtain ⟨n, hn1⟩ : ∃ n : Nat, i.n = (n : Int) := ⟨i.n.toNat, by omega⟩
    obtain ⟨m, hm1⟩ : ∃ m : Nat, i.m = (m : Int) := ⟨i.m.toNat, by omega⟩
    obtain ⟨c, hc1⟩ : ∃ c : Nat, i.cond = (c : Int) := ⟨i.cond.toNat, by omega⟩
    obtain ⟨q, hq1, hq2⟩ : ∃ q : Nat, q < 1 ∧ 0 + ((q : Int) * 1 - 0) % 1 = i.imm := ⟨(i.imm / 1 % 1).toNat, by omega, by omega⟩
    obtain ⟨H, hH⟩ : ∃ H : Nat, H = 22528 + d * 1 + n * 8 + m * 64 := ⟨_, rfl⟩
    have hH1 : H < 65536 := by omega
    have hH2 : H / 2048 ≠ 30 := by omega
    have gp : ga H [] = 0 := rfl
    have gd : ga H [0, 1, 2] = d := by have := ga_run H 3 0; rw [show List.range' 0 3 = [0, 1, 2] from rfl] at this; rw [this]; omega
    have gn : ga H [3, 4, 5] = n := by have := ga_run H 3 3; rw [show List.range' 3 3 = [3, 4, 5] from rfl] at this; rw [this]; omega
    have gm : ga H [6, 7, 8] = m := by have := ga_run H 3 6; rw [show List.range' 6 3 = [6, 7, 8] from rfl] at this; rw [this]; omega
    have gq : ga H [] = 0 := rfl
    have gc : ga H [] = 0 := rfl
    refine ⟨H, hH1, hH2, has_of hrow hH1 9 (by decide) (by decide +kernel) (by show H / 512 * 512 = 22528; omega), ?_⟩
    obtain ⟨io, id', in', im, ii, ic⟩ := i
    simp only at hp1 hd1 hn1 hm1 hc1 hq2 hp hm
    simp only [takeP, leastP, gp, gd, gn, gm, gq, gc, I6.mk.injEq, List.length_cons, List.length_nil]
    refine ⟨by omega, by omega, by omega, by omega, ?_, by omega⟩
    rw [← hq2]; simp
  · simp only [mayP, Bool.and_eq_true, fit_iff, decide_eq_true_eq, beq_iff_eq, List.length_cons, List.length_nil] at hp hm
    simp at hp hm
    obtain ⟨p, hp1⟩ : ∃ p : Nat, i.op = 32 + (p : Int) := ⟨(i.op - 32).toNat, by omega⟩
    obtain ⟨d, hd1⟩ : ∃ d : Nat, i.d = (d : Int) := ⟨i.d.toNat, by omega⟩
    obtain ⟨n, hn1⟩ : ∃ n : Nat, i.n = (n : Int) := ⟨i.n.toNat, by omega⟩
    obtain ⟨m, hm1⟩ : ∃ m : Nat, i.m = (m : Int) := ⟨i.m.toNat, by omega⟩
    obtain ⟨c, hc1⟩ : ∃ c : Nat, i.cond = (c : Int) := ⟨i.cond.toNat, by omega⟩
    obtain ⟨q, hq1, hq2⟩ : ∃ q : Nat, q < 32 ∧ 0 + ((q : Int) * 4 - 0) % 128 = i.imm := ⟨(i.imm / 4 % 32).toNat, by omega, by omega⟩
    obtain ⟨H, hH⟩ : ∃ H : Nat, H = 24576 + d * 1 + n * 8 + q * 64 := ⟨_, rfl⟩
    have hH1 : H < 65536 := by omega
    have hH2 : H / 2048 ≠ 30 := by omega
    have gp : ga H [] = 0 := rfl
    have gd : ga H [0, 1, 2] = d := by have := ga_run H 3 0; rw [show List.range' 0 3 = [0, 1, 2] from rfl] at this; rw [this]; omega
    have gn : ga H [3, 4, 5] = n := by have := ga_run H 3 3; rw [show List.range' 3 3 = [3, 4, 5] from rfl] at this; rw [this]; omega
    have gm : ga H [] = 0 := rfl
    have gq : ga H [6, 7, 8, 9, 10] = q := by have := ga_run H 5 6; rw [show List.range' 6 5 = [6, 7, 8, 9, 10] from rfl] at this; rw [this]; omega
    have gc : ga H [] = 0 := rfl
    refine ⟨H, hH1, hH2, has_of hrow hH1 11 (by decide) (by decide +kernel) (by show H / 2048 * 2048 = 24576; omega), ?_⟩
    obtain ⟨io, id', in', im, ii, ic⟩ := i
    simp only at hp1 hd1 hn1 hm1 hc1 hq2 hp hm
    simp only [takeP, leastP, gp, gd, gn, gm, gq, gc, I6.mk.injEq, List.length_cons, List.length_nil]
    refine ⟨by omega, by omega, by omega, by omega, ?_, by omega⟩
    rw [← hq2]; simp
  · simp only [mayP, Bool.and_eq_true, fit_iff, decide_eq_true_eq, beq_iff_eq, List.length_cons, List.length_nil] at hp hm
    simp at hp hm
    obtain ⟨p, hp1⟩ : ∃ p : Nat, i.op = 31 + (p : Int) := ⟨(i.op - 31).toNat, by omega⟩
    obtain ⟨d, hd1⟩ : ∃ d : Nat, i.d = (d : Int) := ⟨i.d.toNat, by omega⟩
    obtain ⟨n, hn1⟩ : ∃ n : Nat, i.n = (n : Int) := ⟨i.n.toNat, by omega⟩
    obtain ⟨m, hm1⟩ : ∃ m : Nat, i.m = (m : Int) := ⟨i.m.toNat, by omega⟩
    obtain ⟨c, hc1⟩ : ∃ c : Nat, i.cond = (c : Int) := ⟨i.cond.toNat, by omega⟩
    obtain ⟨q, hq1, hq2⟩ : ∃ q : Nat, q < 32 ∧ 0 + ((q : Int) * 4 - 0) % 128 = i.imm := ⟨(i.imm / 4 % 32).toNat, by omega, by omega⟩
    obtain ⟨H, hH⟩ : ∃ H : Nat, H = 26624 + d * 1 + n * 8 + q * 64 := ⟨_, rfl⟩
    have hH1 : H < 65536 := by omega
    have hH2 : H / 2048 ≠ 30 := by omega
    have gp : ga H [] = 0 := rfl
    have gd : ga H [0, 1, 2] = d := by have := ga_run H 3 0; rw [show List.range' 0 3 = [0, 1, 2] from rfl] at this; rw [this]; omega
    have gn : ga H [3, 4, 5] = n := by have := ga_run H 3 3; rw [show List.range' 3 3 = [3, 4, 5] from rfl] at this; rw [this]; omega
    have gm : ga H [] = 0 := rfl
    have gq : ga H [6, 7, 8, 9, 10] = q := by have := ga_run H 5 6; rw [show List.range' 6 5 = [6, 7, 8, 9, 10] from rfl] at this; rw [this]; omega
    have gc : ga H [] = 0 := rfl
    refine ⟨H, hH1, hH2, has_of hrow hH1 11 (by decide) (by decide +kernel) (by show H / 2048 * 2048 = 26624; omega), ?_⟩
    obtain ⟨io, id', in', im, ii, ic⟩ := i
    simp only at hp1 hd1 hn1 hm1 hc1 hq2 hp hm
    simp only [takeP, leastP, gp, gd, gn, gm, gq, gc, I6.mk.injEq, List.length_cons, List.length_nil]
    refine ⟨by omega, by omega, by omega, by omega, ?_, by omega⟩
    rw [← hq2]; simp
  · simp only [mayP, Bool.and_eq_true, fit_iff, decide_eq_true_eq, beq_iff_eq, List.length_cons, List.length_nil] at hp hm
    simp at hp hm
    obtain ⟨p, hp1⟩ : ∃ p : Nat, i.op = 34 + (p : Int) := ⟨(i.op - 34).toNat, by omega⟩
    obtain ⟨d, hd1⟩ : ∃ d : Nat, i.d = (d : Int) := ⟨i.d.toNat, by omega⟩
    obtain ⟨n, hn1⟩ : ∃ n : Nat, i.n = (n : Int) := ⟨i.n.toNat, by omega⟩
    obtain ⟨m, hm1⟩ : ∃ m : Nat, i.m = (m : Int) := ⟨i.m.toNat, by omega⟩
    obtain ⟨c, hc1⟩ : ∃ c : Nat, i.cond = (c : Int) := ⟨i.cond.toNat, by omega⟩
    obtain ⟨q, hq1, hq2⟩ : ∃ q : Nat, q < 32 ∧ 0 + ((q : Int) * 1 - 0) % 32 = i.imm := ⟨(i.imm / 1 % 32).toNat, by omega, by omega⟩
    obtain ⟨H, hH⟩ : ∃ H : Nat, H = 28672 + d * 1 + n * 8 + q * 64 := ⟨_, rfl⟩
    have hH1 : H < 65536 := by omega
    have hH2 : H / 2048 ≠ 30 := by omega
    have gp : ga H [] = 0 := rfl
    have gd : ga H [0, 1, 2] = d := by have := ga_run H 3 0; rw [show List.range' 0 3 = [0, 1, 2] from rfl] at this; rw [this]; omega
    have gn : ga H [3, 4, 5] = n := by have := ga_run H 3 3; rw [show List.range' 3 3 = [3, 4, 5] from rfl] at this; rw [this]; omega
    have gm : ga H [] = 0 := rfl
    have gq : ga H [6, 7, 8, 9, 10] = q := by have := ga_run H 5 6; rw [show List.range' 6 5 = [6, 7, 8, 9, 10] from rfl] at this; rw [this]; omega
    have gc : ga H [] = 0 := rfl
    refine ⟨H, hH1, hH2, has_of hrow hH1 11 (by decide) (by decide +kernel) (by show H / 2048 * 2048 = 28672; omega), ?_⟩
    obtain ⟨io, id', in', im, ii, ic⟩ := i
    simp only at hp1 hd1 hn1 hm1 hc1 hq2 hp hm
    simp only [takeP, leastP, gp, gd, gn, gm, gq, gc, I6.mk.injEq, List.length_cons, List.length_nil]
    refine ⟨by omega, by omega, by omega, by omega, ?_, by omega⟩
    rw [← hq2]; simp
  · simp only [mayP, Bool.and_eq_true, fit_iff, decide_eq_true_eq, beq_iff_eq, List.length_cons, List.length_nil] at hp hm
    simp at hp hm
    obtain ⟨p, hp1⟩ : ∃ p : Nat, i.op = 33 + (p : Int) := ⟨(i.op - 33).toNat, by omega⟩
    obtain ⟨d, hd1⟩ : ∃ d : Nat, i.d = (d : Int) := ⟨i.d.toNat, by omega⟩
    obtain ⟨n, hn1⟩ : ∃ n : Nat, i.n = (n : Int) := ⟨i.n.toNat, by omega⟩
    obtain ⟨m, hm1⟩ : ∃ m : Nat, i.m = (m : Int) := ⟨i.m.toNat, by omega⟩
    obtain ⟨c, hc1⟩ : ∃ c : Nat, i.cond = (c : Int) := ⟨i.cond.toNat, by omega⟩
    obtain ⟨q, hq1, hq2⟩ : ∃ q : Nat, q < 32 ∧ 0 + ((q : Int) * 1 - 0) % 32 = i.imm := ⟨(i.imm / 1 % 32).toNat, by omega, by omega⟩
    obtain ⟨H, hH⟩ : ∃ H : Nat, H = 30720 + d * 1 + n * 8 + q * 64 := ⟨_, rfl⟩
    have hH1 : H < 65536 := by omega
    have hH2 : H / 2048 ≠ 30 := by omega
    have gp : ga H [] = 0 := rfl
    have gd : ga H [0, 1, 2] = d := by have := ga_run H 3 0; rw [show List.range' 0 3 = [0, 1, 2] from rfl] at this; rw [this]; omega
    have gn : ga H [3, 4, 5] = n := by have := ga_run H 3 3; rw [show List.range' 3 3 = [3, 4, 5] from rfl] at this; rw [this]; omega
    have gm : ga H [] = 0 := rfl
    have gq : ga H [6, 7, 8, 9, 10] = q := by have := ga_run H 5 6; rw [show List.range' 6 5 = [6, 7, 8, 9, 10] from rfl] at this; rw [this]; omega
    have gc : ga H [] = 0 := rfl
    refine ⟨H, hH1, hH2, has_of hrow hH1 11 (by decide) (by decide +kernel) (by show H / 2048 * 2048 = 30720; omega), ?_⟩
    obtain ⟨io, id', in', im, ii, ic⟩ := i
    simp only at hp1 hd1 hn1 hm1 hc1 hq2 hp hm
    simp only [takeP, leastP, gp, gd, gn, gm, gq, gc, I6.mk.injEq, List.length_cons, List.length_nil]
    refine ⟨by omega, by omega, by omega, by omega, ?_, by omega⟩
    rw [← hq2]; simp
  · simp only [mayP, Bool.and_eq_true, fit_iff, decide_eq_true_eq, beq_iff_eq, List.length_cons, List.length_nil] at hp hm
    simp at hp hm
    obtain ⟨p, hp1⟩ : ∃ p : Nat, i.op = 36 + (p : Int) := ⟨(i.op - 36).toNat, by omega⟩
    obtain ⟨d, hd1⟩ : ∃ d : Nat, i.d = (d : Int) := ⟨i.d.toNat, by omega⟩
    obtain ⟨n, hn1⟩ : ∃ n : Nat, i.n = (n : Int) := ⟨i.n.toNat, by omega⟩
    obtain ⟨m, hm1⟩ : ∃ m : Nat, i.m = (m : Int) := ⟨i.m.toNat, by omega⟩
    obtain ⟨c, hc1⟩ : ∃ c : Nat, i.cond = (c : Int) := ⟨i.cond.toNat, by omega⟩
    obtain ⟨q, hq1, hq2⟩ : ∃ q : Nat, q < 256 ∧ 0 + ((q : Int) * 4 - 0) % 1024 = i.imm := ⟨(i.imm / 4 % 256).toNat, by omega, by omega⟩
    obtain ⟨H, hH⟩ : ∃ H : Nat, H = 36864 + d * 256 + q * 1 := ⟨_, rfl⟩
    have hH1 : H < 65536 := by omega
    have hH2 : H / 2048 ≠ 30 := by omega
    have gp : ga H [] = 0 := rfl
    have gd : ga H [8, 9, 10] = d := by have := ga_run H 3 8; rw [show List.range' 8 3 = [8, 9, 10] from rfl] at this; rw [this]; omega
    have gn : ga H [] = 0 := rfl
    have gm : ga H [] = 0 := rfl
    have gq : ga H [0, 1, 2, 3, 4, 5, 6, 7] = q := by have := ga_run H 8 0; rw [show List.range' 0 8 = [0, 1, 2, 3, 4, 5, 6, 7] from rfl] at this; rw [this]; omega
    have gc : ga H [] = 0 := rfl
    refine ⟨H, hH1, hH2, has_of hrow hH1 11 (by decide) (by decide +kernel) (by show H / 2048 * 2048 = 36864; omega), ?_⟩
    obtain ⟨io, id', in', im, ii, ic⟩ := i
    simp only at hp1 hd1 hn1 hm1 hc1 hq2 hp hm
    simp only [takeP, leastP, gp, gd, gn, gm, gq, gc, I6.mk.injEq, List.length_cons, List.length_nil]
    refine ⟨by omega, by omega, by omega, by omega, ?_, by omega⟩
    rw [← hq2]; simp
  · simp only [mayP, Bool.and_eq_true, fit_iff, decide_eq_true_eq, beq_iff_eq, List.length_cons, List.length_nil] at hp hm
    simp at hp hm
    obtain ⟨p, hp1⟩ : ∃ p : Nat, i.op = 35 + (p : Int) := ⟨(i.op - 35).toNat, by omega⟩
    obtain ⟨d, hd1⟩ : ∃ d : Nat, i.d = (d : Int) := ⟨i.d.toNat, by omega⟩
    obtain ⟨n, hn1⟩ : ∃ n : Nat, i.n = (n : Int) := ⟨i.n.toNat, by omega⟩
    obtain ⟨m, hm1⟩ : ∃ m : Nat, i.m = (m : Int) := ⟨i.m.toNat, by omega⟩
    obtain ⟨c, hc1⟩ : ∃ c : Nat, i.cond = (c : Int) := ⟨i.cond.toNat, by omega⟩
    obtain ⟨q, hq1, hq2⟩ : ∃ q : Nat, q < 256 ∧ 0 + ((q : Int) * 4 - 0) % 1024 = i.imm := ⟨(i.imm / 4 % 256).toNat, by omega, by omega⟩
    obtain ⟨H, hH⟩ : ∃ H : Nat, H = 38912 + d * 256 + q * 1 := ⟨_, rfl⟩
    have hH1 : H < 65536 := by omega
    have hH2 : H / 2048 ≠ 30 := by omega
    have gp : ga H [] = 0 := rfl
    have gd : ga H [8, 9, 10] = d := by have := ga_run H 3 8; rw [show List.range' 8 3 = [8, 9, 10] from rfl] at this; rw [this]; omega
    have gn : ga H [] = 0 := rfl
    have gm : ga H [] = 0 := rfl
    have gq : ga H [0, 1, 2, 3, 4, 5, 6, 7] = q := by have := ga_run H 8 0; rw [show List.range' 0 8 = [0, 1, 2, 3, 4, 5, 6, 7] from rfl] at this; rw [this]; omega
    have gc : ga H [] = 0 := rfl
    refine ⟨H, hH1, hH2, has_of hrow hH1 11 (by decide) (by decide +kernel) (by show H / 2048 * 2048 = 38912; omega), ?_⟩
    obtain ⟨io, id', in', im, ii, ic⟩ := i
    simp only at hp1 hd1 hn1 hm1 hc1 hq2 hp hm
    simp only [takeP, leastP, gp, gd, gn, gm, gq, gc, I6.mk.injEq, List.length_cons, List.length_nil]
    refine ⟨by omega, by omega, by omega, by omega, ?_, by omega⟩
    rw [← hq2]; simp
  · simp only [mayP, Bool.and_eq_true, fit_iff, decide_eq_true_eq, beq_iff_eq, List.length_cons, List.length_nil] at hp hm
    simp at hp hm
    obtain ⟨p, hp1⟩ : ∃ p : Nat, i.op = 37 + (p : Int) := ⟨(i.op - 37).toNat, by omega⟩
    obtain ⟨d, hd1⟩ : ∃ d : Nat, i.d = (d : Int) := ⟨i.d.toNat, by omega⟩
    obtain ⟨n, hn1⟩ : ∃ n : Nat, i.n = (n : Int) := ⟨i.n.toNat, by omega⟩
    obtain ⟨m, hm1⟩ : ∃ m : Nat, i.m = (m : Int) := ⟨i.m.toNat, by omega⟩
    obtain ⟨c, hc1⟩ : ∃ c : Nat, i.cond = (c : Int) := ⟨i.cond.toNat, by omega⟩
    obtain ⟨q, hq1, hq2⟩ : ∃ q : Nat, q < 128 ∧ 0 + ((q : Int) * 4 - 0) % 512 = i.imm := ⟨(i.imm / 4 % 128).toNat, by omega, by omega⟩
    obtain ⟨H, hH⟩ : ∃ H : Nat, H = 45056 + p * 128 + q * 1 := ⟨_, rfl⟩
    have hH1 : H < 65536 := by omega
    have hH2 : H / 2048 ≠ 30 := by omega
    have gp : ga H [7] = p := by have := ga_run H 1 7; rw [show List.range' 7 1 = [7] from rfl] at this; rw [this]; omega
    have gd : ga H [] = 0 := rfl
    have gn : ga H [] = 0 := rfl
    have gm : ga H [] = 0 := rfl
    have gq : ga H [0, 1, 2, 3, 4, 5, 6] = q := by have := ga_run H 7 0; rw [show List.range' 0 7 = [0, 1, 2, 3, 4, 5, 6] from rfl] at this; rw [this]; omega
    have gc : ga H [] = 0 := rfl
    refine ⟨H, hH1, hH2, has_of hrow hH1 8 (by decide) (by decide +kernel) (by show H / 256 * 256 = 45056; omega), ?_⟩
    obtain ⟨io, id', in', im, ii, ic⟩ := i
    simp only at hp1 hd1 hn1 hm1 hc1 hq2 hp hm
    simp only [takeP, leastP, gp, gd, gn, gm, gq, gc, I6.mk.injEq, List.length_cons, List.length_nil]
    refine ⟨by omega, by omega, by omega, by omega, ?_, by omega⟩
    rw [← hq2]; simp
  · simp only [mayP, Bool.and_eq_true, fit_iff, decide_eq_true_eq, beq_iff_eq, List.length_cons, List.length_nil] at hp hm
    simp at hp hm
    obtain ⟨p, hp1⟩ : ∃ p : Nat, i.op = 39 + (p : Int) := ⟨(i.op - 39).toNat, by omega⟩
    obtain ⟨d, hd1⟩ : ∃ d : Nat, i.d = (d : Int) := ⟨i.d.toNat, by omega⟩
    obtain ⟨n, hn1⟩ : ∃ n : Nat, i.n = (n : Int) := ⟨i.n.toNat, by omega⟩
    obtain ⟨m, hm1⟩ : ∃ m : Nat, i.m = (m : Int) := ⟨i.m.toNat, by omega⟩
    obtain ⟨c, hc1⟩ : ∃ c : Nat, i.cond = (c : Int) := ⟨i.cond.toNat, by omega⟩
    obtain ⟨q, hq1, hq2⟩ : ∃ q : Nat, q < 512 ∧ 1 + ((q : Int) * 1 - 1) % 512 = i.imm := ⟨(i.imm / 1 % 512).toNat, by omega, by omega⟩
    obtain ⟨H, hH⟩ : ∃ H : Nat, H = 46080 + q * 1 := ⟨_, rfl⟩
    have hH1 : H < 65536 := by omega
    have hH2 : H / 2048 ≠ 30 := by omega
    have gp : ga H [] = 0 := rfl
    have gd : ga H [] = 0 := rfl
    have gn : ga H [] = 0 := rfl
    have gm : ga H [] = 0 := rfl
    have gq : ga H [0, 1, 2, 3, 4, 5, 6, 7, 8] = q := by have := ga_run H 9 0; rw [show List.range' 0 9 = [0, 1, 2, 3, 4, 5, 6, 7, 8] from rfl] at this; rw [this]; omega
    have gc : ga H [] = 0 := rfl
    refine ⟨H, hH1, hH2, has_of hrow hH1 9 (by decide) (by decide +kernel) (by show H / 512 * 512 = 46080; omega), ?_⟩
    obtain ⟨io, id', in', im, ii, ic⟩ := i
    simp only at hp1 hd1 hn1 hm1 hc1 hq2 hp hm
    simp only [takeP, leastP, gp, gd, gn, gm, gq, gc, I6.mk.injEq, List.length_cons, List.length_nil]
    refine ⟨by omega, by omega, by omega, by omega, ?_, by omega⟩
    rw [← hq2]; simp
  · simp only [mayP, Bool.and_eq_true, fit_iff, decide_eq_true_eq, beq_iff_eq, List.length_cons, List.length_nil] at hp hm
    simp at hp hm
    obtain ⟨p, hp1⟩ : ∃ p : Nat, i.op = 40 + (p : Int) := ⟨(i.op - 40).toNat, by omega⟩
    obtain ⟨d, hd1⟩ : ∃ d : Nat, i.d = (d : Int) := ⟨i.d.toNat, by omega⟩
    obtain ⟨n, hn1⟩ : ∃ n : Nat, i.n = (n : Int) := ⟨i.n.toNat, by omega⟩
    obtain ⟨m, hm1⟩ : ∃ m : Nat, i.m = (m : Int) := ⟨i.m.toNat, by omega⟩
    obtain ⟨c, hc1⟩ : ∃ c : Nat, i.cond = (c : Int) := ⟨i.cond.toNat, by omega⟩
    obtain ⟨q, hq1, hq2⟩ : ∃ q : Nat, q < 512 ∧ 1 + ((q : Int) * 1 - 1) % 512 = i.imm := ⟨(i.imm / 1 % 512).toNat, by omega, by omega⟩
    obtain ⟨H, hH⟩ : ∃ H : Nat, H = 48128 + q * 1 := ⟨_, rfl⟩
    have hH1 : H < 65536 := by omega
    have hH2 : H / 2048 ≠ 30 := by omega
    have gp : ga H [] = 0 := rfl
    have gd : ga H [] = 0 := rfl
    have gn : ga H [] = 0 := rfl
    have gm : ga H [] = 0 := rfl
    have gq : ga H [0, 1, 2, 3, 4, 5, 6, 7, 8] = q := by have := ga_run H 9 0; rw [show List.range' 0 9 = [0, 1, 2, 3, 4, 5, 6, 7, 8] from rfl] at this; rw [this]; omega
    have gc : ga H [] = 0 := rfl
    refine ⟨H, hH1, hH2, has_of hrow hH1 9 (by decide) (by decide +kernel) (by show H / 512 * 512 = 48128; omega), ?_⟩
    obtain ⟨io, id', in', im, ii, ic⟩ := i
    simp only at hp1 hd1 hn1 hm1 hc1 hq2 hp hm
    simp only [takeP, leastP, gp, gd, gn, gm, gq, gc, I6.mk.injEq, List.length_cons, List.length_nil]
    refine ⟨by omega, by omega, by omega, by omega, ?_, by omega⟩
    rw [← hq2]; simp
  · simp only [mayP, Bool.and_eq_true, fit_iff, decide_eq_true_eq, beq_iff_eq, List.length_cons, List.length_nil] at hp hm
    simp at hp hm
    obtain ⟨p, hp1⟩ : ∃ p : Nat, i.op = 41 + (p : Int) := ⟨(i.op - 41).toNat, by omega⟩
    obtain ⟨d, hd1⟩ : ∃ d : Nat, i.d = (d : Int) := ⟨i.d.toNat, by omega⟩
    obtain ⟨n, hn1⟩ : ∃ n : Nat, i.n = (n : Int) := ⟨i.n.toNat, by omega⟩
    obtain ⟨m, hm1⟩ : ∃ m : Nat, i.m = (m : Int) := ⟨i.m.toNat, by omega⟩
    obtain ⟨c, hc1⟩ : ∃ c : Nat, i.cond = (c : Int) := ⟨i.cond.toNat, by omega⟩
    obtain ⟨q, hq1, hq2⟩ : ∃ q : Nat, q < 256 ∧ (-256) + ((q : Int) * 2 - (-256)) % 512 = i.imm := ⟨(i.imm / 2 % 256).toNat, by omega, by omega⟩
    obtain ⟨H, hH⟩ : ∃ H : Nat, H = 53248 + q * 1 + c * 256 := ⟨_, rfl⟩
    have hH1 : H < 65536 := by omega
    have hH2 : H / 2048 ≠ 30 := by omega
    have gp : ga H [] = 0 := rfl
    have gd : ga H [] = 0 := rfl
    have gn : ga H [] = 0 := rfl
    have gm : ga H [] = 0 := rfl
    have gq : ga H [0, 1, 2, 3, 4, 5, 6, 7] = q := by have := ga_run H 8 0; rw [show List.range' 0 8 = [0, 1, 2, 3, 4, 5, 6, 7] from rfl] at this; rw [this]; omega
    have gc : ga H [8, 9, 10, 11] = c := by have := ga_run H 4 8; rw [show List.range' 8 4 = [8, 9, 10, 11] from rfl] at this; rw [this]; omega
    refine ⟨H, hH1, hH2, has_of hrow hH1 12 (by decide) (by decide +kernel) (by show H / 4096 * 4096 = 53248; omega), ?_⟩
    obtain ⟨io, id', in', im, ii, ic⟩ := i
    simp only at hp1 hd1 hn1 hm1 hc1 hq2 hp hm
    simp only [takeP, leastP, gp, gd, gn, gm, gq, gc, I6.mk.injEq, List.length_cons, List.length_nil]
    refine ⟨by omega, by omega, by omega, by omega, ?_, by omega⟩
    rw [← hq2]; simp
  · simp only [mayP, Bool.and_eq_true, fit_iff, decide_eq_true_eq, beq_iff_eq, List.length_cons, List.length_nil] at hp hm
    simp at hp hm
    obtain ⟨p, hp1⟩ : ∃ p : Nat, i.op = 42 + (p : Int) := ⟨(i.op - 42).toNat, by omega⟩
    obtain ⟨d, hd1⟩ : ∃ d : Nat, i.d = (d : Int) := ⟨i.d.toNat, by omega⟩
    obtain ⟨n, hn1⟩ : ∃ n : Nat, i.n = (n : Int) := ⟨i.n.toNat, by omega⟩
    obtain ⟨m, hm1⟩ : ∃ m : Nat, i.m = (m : Int) := ⟨i.m.toNat, by omega⟩
    obtain ⟨c, hc1⟩ : ∃ c : Nat, i.cond = (c : Int) := ⟨i.cond.toNat, by omega⟩
    obtain ⟨q, hq1, hq2⟩ : ∃ q : Nat, q < 2048 ∧ (-2048) + ((q : Int) * 2 - (-2048)) % 4096 = i.imm := ⟨(i.imm / 2 % 2048).toNat, by omega, by omega⟩
    obtain ⟨H, hH⟩ : ∃ H : Nat, H = 57344 + q * 1 := ⟨_, rfl⟩
    have hH1 : H < 65536 := by omega
    have hH2 : H / 2048 ≠ 30 := by omega
    have gp : ga H [] = 0 := rfl
    have gd : ga H [] = 0 := rfl
    have gn : ga H [] = 0 := rfl
    have gm : ga H [] = 0 := rfl
    have gq : ga H [0, 1, 2, 3, 4, 5, 6, 7, 8, 9, 10] = q := by have := ga_run H 11 0; rw [show List.range' 0 11 = [0, 1, 2, 3, 4, 5, 6, 7, 8, 9, 10] from rfl] at this; rw [this]; omega
    have gc : ga H [] = 0 := rfl
    refine ⟨H, hH1, hH2, has_of hrow hH1 11 (by decide) (by decide +kernel) (by show H / 2048 * 2048 = 57344; omega), ?_⟩
    obtain ⟨io, id', in', im, ii, ic⟩ := i
    simp only at hp1 hd1 hn1 hm1 hc1 hq2 hp hm
    simp only [takeP, leastP, gp, gd, gn, gm, gq, gc, I6.mk.injEq, List.length_cons, List.length_nil]
    refine ⟨by omega, by omega, by omega, by omega, ?_, by omega⟩
    rw [← hq2]; simp
  · exact absurd (show i.op = 43 by simp only [fit_iff] at hp; simp at hp; omega) h43
  · simp only [mayP, Bool.and_eq_true, fit_iff, decide_eq_true_eq, beq_iff_eq, List.length_cons, List.length_nil] at hp hm
    simp at hp hm
    obtain ⟨p, hp1⟩ : ∃ p : Nat, i.op = 44 + (p : Int) := ⟨(i.op - 44).toNat, by omega⟩
    obtain ⟨d, hd1⟩ : ∃ d : Nat, i.d = (d : Int) := ⟨i.d.toNat, by omega⟩
    obtain ⟨n, hn1⟩ : ∃ n : Nat, i.n = (n : Int) := ⟨i.n.toNat, by omega⟩
    obtain ⟨m, hm1⟩ : ∃ m : Nat, i.m = (m : Int) := ⟨i.m.toNat, by omega⟩
    obtain ⟨c, hc1⟩ : ∃ c : Nat, i.cond = (c : Int) := ⟨i.cond.toNat, by omega⟩
    obtain ⟨q, hq1, hq2⟩ : ∃ q : Nat, q < 256 ∧ 0 + ((q : Int) * 1 - 0) % 256 = i.imm := ⟨(i.imm / 1 % 256).toNat, by omega, by omega⟩
    obtain ⟨H, hH⟩ : ∃ H : Nat, H = 57088 + q * 1 := ⟨_, rfl⟩
    have hH1 : H < 65536 := by omega
    have hH2 : H / 2048 ≠ 30 := by omega
    have gp : ga H [] = 0 := rfl
    have gd : ga H [] = 0 := rfl
    have gn : ga H [] = 0 := rfl
    have gm : ga H [] = 0 := rfl
    have gq : ga H [0, 1, 2, 3, 4, 5, 6, 7] = q := by have := ga_run H 8 0; rw [show List.range' 0 8 = [0, 1, 2, 3, 4, 5, 6, 7] from rfl] at this; rw [this]; omega
    have gc : ga H [] = 0 := rfl
    refine ⟨H, hH1, hH2, has_of hrow hH1 8 (by decide) (by decide +kernel) (by show H / 256 * 256 = 57088; omega), ?_⟩
    obtain ⟨io, id', in', im, ii, ic⟩ := i
    simp only at hp1 hd1 hn1 hm1 hc1 hq2 hp hm
    simp only [takeP, leastP, gp, gd, gn, gm, gq, gc, I6.mk.injEq, List.length_cons, List.length_nil]
    refine ⟨by omega, by omega, by omega, by omega, ?_, by omega⟩
    rw [← hq2]; simp
  · simp only [mayP, Bool.and_eq_true, fit_iff, decide_eq_true_eq, beq_iff_eq, List.length_cons, List.length_nil] at hp hm
    simp at hp hm
    obtain ⟨p, hp1⟩ : ∃ p : Nat, i.op = 45 + (p : Int) := ⟨(i.op - 45).toNat, by omega⟩
    obtain ⟨d, hd1⟩ : ∃ d : Nat, i.d = (d : Int) := ⟨i.d.toNat, by omega⟩
    obtain ⟨n, hn1⟩ : ∃ n : Nat, i.n = (n : Int) := ⟨i.n.toNat, by omega⟩
    obtain ⟨m, hm1⟩ : ∃ m : Nat, i.m = (m : Int) := ⟨i.m.toNat, by omega⟩
    obtain ⟨c, hc1⟩ : ∃ c : Nat, i.cond = (c : Int) := ⟨i.cond.toNat, by omega⟩
    obtain ⟨q, hq1, hq2⟩ : ∃ q : Nat, q < 1 ∧ 0 + ((q : Int) * 1 - 0) % 1 = i.imm := ⟨(i.imm / 1 % 1).toNat, by omega, by omega⟩
    obtain ⟨H, hH⟩ : ∃ H : Nat, H = 48896 := ⟨_, rfl⟩
    have hH1 : H < 65536 := by omega
    have hH2 : H / 2048 ≠ 30 := by omega
    have gp : ga H [] = 0 := rfl
    have gd : ga H [] = 0 := rfl
    have gn : ga H [] = 0 := rfl
    have gm : ga H [] = 0 := rfl
    have gq : ga H [] = 0 := rfl
    have gc : ga H [] = 0 := rfl
    refine ⟨H, hH1, hH2, has_of hrow hH1 0 (by decide) (by decide +kernel) (by show H / 1 * 1 = 48896; omega), ?_⟩
    obtain ⟨io, id', in', im, ii, ic⟩ := i
    simp only at hp1 hd1 hn1 hm1 hc1 hq2 hp hm
    simp only [takeP, leastP, gp, gd, gn, gm, gq, gc, I6.mk.injEq, List.length_cons, List.length_nil]
    refine ⟨by omega, by omega, by omega, by omega, ?_, by omega⟩
    rw [← hq2]; simp
set_option maxHeartbeats 4000000 in
/-- each right instruction that is no Bl is some halfword's -/
theorem surj {i : I6} (hr : rightP i = true) (h43 : i.op ≠ 43) : ∃ h, h < 65536 ∧ h / 2048 ≠ 30 ∧ decP h = some i := by
  cases hrow : rowOfP i.op with
  | none => unfold rightP at hr; rw [hrow] at hr; cases hr
  | some r =>
    have hm : mayP r i = true := by unfold rightP at hr; rw [hrow] at hr; exact hr
    obtain ⟨hmem, hp, _, _⟩ := rowOf_in hrow
    obtain ⟨h, hh, hf, hhas, htake⟩ := surj_row i r hmem hp hm h43
    refine ⟨h, hh, hf, ?_⟩
    cases hd : decP h with
    | some j =>
      have h1 := (dec_some hh hf hd).1
      have h2 := (halves_all hh hf).1 r.f (mem_f hmem) (by rw [← has_f hmem hh]; exact hhas) (by rw [← may_f hmem, htake]; exact hm)
      rw [← take_f hmem, htake] at h2
      rw [h1, h2.1]
    | none =>
      unfold decP at hd
      rw [Option.map_eq_none_iff, List.find?_eq_none] at hd
      have := hd r hmem
      simp [hhas, htake, hm] at this
end Go.Proofs.Ytibmgmgkaacibaa

/- What the table says, all told: Decode is the reference's, and Encode's inverse; Right is the reference's. No program is named here. -/
import Derived.Test.YtibmgmgkaacibaaZq
import Derived.Test.YtibmgmgkaacibaaZr
namespace Go.Proofs.Ytibmgmgkaacibaa
open Go.RowKit
set_option linter.unusedVariables false
set_option linter.unusedSimpArgs false

def low (l : List Nat) : Nat := if l = [0, 1, 2, 7] then 0 else l.headD 0
def wid (l : List Nat) : Nat := if l = [0, 1, 2, 7] then 100 else l.length
def totN (r : Rw) : Nat := Nat.lor (Nat.lor (Nat.lor (Nat.lor (Nat.lor (msk r.p) (msk r.d)) (msk r.n)) (msk r.m)) (msk r.imm)) (msk r.cond)
def Rw.f (r : Rw) : Rf := ⟨r.first.toNat, r.fixed, 65535 - totN r, low r.p, wid r.p, low r.d, wid r.d, low r.n, wid r.n, low r.m, wid r.m, low r.imm, wid r.imm, low r.cond, wid r.cond, r.least, r.most, r.halved⟩
theorem rowF_eq : rowL.map Rw.f = rowF := by decide +kernel
theorem fld_low (h lo w : Nat) (hw : w ≠ 100) : fld h lo w = h / 2 ^ lo % 2 ^ w := by
  unfold fld
  split
  · omega
  · show (h >>> lo) &&& (2 ^ w - 1) = _
    rw [Nat.and_two_pow_sub_one_eq_mod, Nat.shiftRight_eq_div_pow]
theorem fld_high (h : Nat) : fld h 0 100 = h % 8 + 8 * (h / 128 % 2) := by
  show (h &&& 7) + 8 * ((h >>> 7) &&& 1) = _
  rw [show (7 : Nat) = 2 ^ 3 - 1 from rfl, Nat.and_two_pow_sub_one_eq_mod, show (1 : Nat) = 2 ^ 1 - 1 from rfl, Nat.and_two_pow_sub_one_eq_mod, Nat.shiftRight_eq_div_pow]
theorem run_masks : maskL.all (fun l => decide (l = [0, 1, 2, 7]) || decide (l = List.range' (low l) (wid l) ∧ wid l < 12)) = true := by decide +kernel
theorem ga_fld {l : List Nat} (hl : OkM l) (h : Nat) : ga h l = fld h (low l) (wid l) := by
  have := List.all_eq_true.1 run_masks l hl
  simp only [Bool.or_eq_true, decide_eq_true_eq] at this
  rcases this with rfl | ⟨h1, h2⟩
  · show ga h [0, 1, 2, 7] = fld h 0 100
    rw [fld_high]
    simp only [ga]
    omega
  · rw [fld_low _ _ _ (by omega)]
    have := ga_run h (wid l) (low l)
    rw [← h1] at this
    exact this
theorem tots : rowL.all (fun r => decide (r.tot = (totN r : Int)) && decide (totN r < 65536)) = true := by decide +kernel
theorem has_f {r : Rw} (hr : r ∈ rowL) {h : Nat} (hh : h < 65536) : hasP r h = hasF r.f h := by
  have := List.all_eq_true.1 tots r hr
  simp only [Bool.and_eq_true, decide_eq_true_eq] at this
  unfold hasP hasF
  rw [this.1, u16_andNot_nat h (totN r) hh this.2]
  show (((h &&& (65535 - totN r) : Nat) : Int) == (r.fixed : Int)) = Nat.beq (h &&& (65535 - totN r)) r.fixed
  rw [Bool.eq_iff_iff]
  simp
  omega
theorem firsts : rowL.all (fun r => decide (r.first = (r.first.toNat : Int))) = true := by decide +kernel
theorem take_f {r : Rw} (hr : r ∈ rowL) (h : Nat) : takeP r h = takeF r.f h := by
  have ho := rows_ok hr
  have h1 : r.first = (r.first.toNat : Int) := of_decide_eq_true (List.all_eq_true.1 firsts r hr)
  have hw : wid r.imm ≠ 100 → (r.imm.length = wid r.imm) := fun h => by
    unfold wid at *
    split
    · rename_i e; rw [if_pos e] at h; exact absurd rfl h
    · rfl
  have hi : wid r.imm ≠ 100 := by
    have h3 : rowL.all (fun r => decide (wid r.imm ≠ 100)) = true := by decide +kernel
    exact of_decide_eq_true (List.all_eq_true.1 h3 r hr)
  unfold takeP takeF
  rw [ga_fld ho.p, ga_fld ho.d, ga_fld ho.n, ga_fld ho.m, ga_fld ho.imm, ga_fld ho.cond, hw hi]
  simp only [I6.mk.injEq]
  refine ⟨?_, rfl, rfl, rfl, ?_, rfl⟩
  · rw [h1]; rfl
  · unfold leastP immF
    show _ = r.least + ((((fld h (low r.imm) (wid r.imm)) * 2 ^ r.halved : Nat) : Int) - r.least) % ((2 ^ (wid r.imm + r.halved) : Nat) : Int)
    rw [Int.natCast_mul, Int.natCast_pow, Int.natCast_pow]
    rfl
theorem fit_iff (n : Int) (l : List Nat) : fitP n l = true ↔ 0 ≤ n ∧ n < 2 ^ l.length := by
  have h0 : (0 : Int) < 2 ^ l.length := Int.pow_pos (by decide)
  unfold fitP
  rw [beq_iff_eq]
  generalize (2 : Int) ^ l.length = P at *
  constructor
  · intro h
    have h3 := Int.emod_add_mul_ediv n P
    have h4 := Int.emod_nonneg n (by omega : P ≠ 0)
    have h5 := Int.emod_lt_of_pos n h0
    rw [h] at h3
    simp at h3
    omega
  · rintro ⟨h1, h2⟩
    exact Int.ediv_eq_zero_of_lt h1 h2
theorem ga_fit (h : Nat) (l : List Nat) : fitP (ga h l : Int) l = true := by
  rw [fit_iff]
  have := ga_lt h l
  constructor
  · omega
  · exact_mod_cast this
theorem least_rest : rowL.all (fun r => decide (r.least % 2 ^ r.halved = 0)) = true := by decide +kernel
theorem may_f {r : Rw} (hr : r ∈ rowL) (h : Nat) : mayP r (takeP r h) = mayF r.f (takeF r.f h) := by
  have h0 : (0 : Int) < 2 ^ (r.imm.length + r.halved) := Int.pow_pos (by decide)
  have hl : decide (r.least ≤ (takeP r h).imm) = true := by
    have h6 := Int.emod_nonneg ((ga h r.imm : Int) * 2 ^ r.halved - r.least) (by omega : (2 : Int) ^ (r.imm.length + r.halved) ≠ 0)
    rw [decide_eq_true_eq]
    show r.least ≤ r.least + _
    omega
  have hz : ((takeP r h).imm % 2 ^ r.halved == 0) = true := by
    have h1 : r.least % 2 ^ r.halved = 0 := of_decide_eq_true (List.all_eq_true.1 least_rest r hr)
    simp only [takeP, leastP, beq_iff_eq]
    have hd : ((2 : Int) ^ r.halved) ∣ 2 ^ (r.imm.length + r.halved) := by rw [Int.pow_add]; exact Int.dvd_mul_left _ _
    have hp : ((2 : Int) ^ r.halved) ∣ r.least := Int.dvd_of_emod_eq_zero h1
    have h3 : ((2 : Int) ^ r.halved) ∣ ((ga h r.imm : Int) * 2 ^ r.halved - r.least) := Int.dvd_sub (Int.dvd_mul_left _ _) hp
    have h4 : ((2 : Int) ^ r.halved) ∣ ((ga h r.imm : Int) * 2 ^ r.halved - r.least) % 2 ^ (r.imm.length + r.halved) := by
      rw [Int.emod_def]
      exact Int.dvd_sub h3 (Int.dvd_trans hd (Int.dvd_mul_right _ _))
    exact Int.emod_eq_zero_of_dvd (Int.dvd_add hp h4)
  rw [← take_f hr]
  unfold mayP mayF
  rw [show fitP (takeP r h).d r.d = true from ga_fit _ _, show fitP (takeP r h).n r.n = true from ga_fit _ _, show fitP (takeP r h).m r.m = true from ga_fit _ _, show fitP (takeP r h).cond r.cond = true from ga_fit _ _, hl, hz]
  simp
  rfl

/-- what the walk over all halfwords says -/
theorem allB_spec {f : Nat → Bool} : ∀ {n : Nat}, allB f n = true → ∀ k < n, f k = true
  | 0, _, k, hk => by omega
  | n + 1, h, k, hk => by
    unfold allB at h
    split at h
    · rename_i h1
      rcases Nat.lt_or_ge k n with h2 | h2
      · exact allB_spec h k h2
      · have : k = n := by omega
        subst this; exact h1
    · cases h
theorem forceL_eq : ∀ (l : List Rf) (k : List Rf → Bool), forceL l k = k l
  | [], k => rfl
  | r :: l, k => by unfold forceL; rw [forceL_eq l]
theorem okHi_all (hi : Nat) (h : hi < 256) : okHi hi = true := by
  have hk : hi / 16 < 16 := by omega
  have hr : hi % 16 < 16 := Nat.mod_lt _ (by decide)
  have e : Nat.add (hi % 16) (16 * (hi / 16)) = hi := by show hi % 16 + 16 * (hi / 16) = hi; omega
  generalize hi / 16 = k at *
  have : k = 0 ∨ k = 1 ∨ k = 2 ∨ k = 3 ∨ k = 4 ∨ k = 5 ∨ k = 6 ∨ k = 7 ∨ k = 8 ∨ k = 9 ∨ k = 10 ∨ k = 11 ∨ k = 12 ∨ k = 13 ∨ k = 14 ∨ k = 15 := by omega
  rw [← e]
  rcases this with rfl | rfl | rfl | rfl | rfl | rfl | rfl | rfl | rfl | rfl | rfl | rfl | rfl | rfl | rfl | rfl
  · exact allB_spec all_0 _ hr
  · exact allB_spec all_1 _ hr
  · exact allB_spec all_2 _ hr
  · exact allB_spec all_3 _ hr
  · exact allB_spec all_4 _ hr
  · exact allB_spec all_5 _ hr
  · exact allB_spec all_6 _ hr
  · exact allB_spec all_7 _ hr
  · exact allB_spec all_8 _ hr
  · exact allB_spec all_9 _ hr
  · exact allB_spec all_10 _ hr
  · exact allB_spec all_11 _ hr
  · exact allB_spec all_12 _ hr
  · exact allB_spec all_13 _ hr
  · exact allB_spec all_14 _ hr
  · exact allB_spec all_15 _ hr
theorem cand_mem {hi lo : Nat} (hhi : hi < 256) (hlo : lo < 256) : ∀ {l : List Rf} {r : Rf}, r ∈ l → hasF r (hi * 256 + lo) = true → r ∈ candF hi l
  | [], r, hr, _ => by cases hr
  | q :: l, r, hr, hh => by
    have key : r = q → Nat.beq (Nat.land (Nat.mul hi 256) q.nt) (Nat.land q.fixed 65280) = true := by
      rintro rfl
      unfold hasF at hh
      rw [Nat.beq_eq] at hh
      have hh2 : (hi * 256 + lo) &&& r.nt = r.fixed := hh
      rw [Nat.beq_eq]
      show (hi * 256) &&& r.nt = r.fixed &&& 65280
      have e := nat_midmask 16 8 (hi * 256 + lo) (by decide)
      rw [show (2 : Nat) ^ 16 - 2 ^ 8 = 65280 from rfl, show (hi * 256 + lo) % 2 ^ 16 / 2 ^ 8 * 2 ^ 8 = hi * 256 by omega] at e
      rw [← hh2, Nat.and_assoc, Nat.and_comm r.nt, ← Nat.and_assoc, e]
    unfold candF
    cases hr with
    | head =>
      rw [key rfl]
      exact List.mem_cons_self
    | tail _ hr =>
      have := cand_mem hhi hlo hr hh
      split
      · exact List.mem_cons_of_mem _ this
      · exact this
theorem ieq_eq {a b : Int} (h : ieq a b = true) : a = b := by
  unfold ieq at h
  split at h
  · rw [Nat.beq_eq] at h; rw [h]
  · rw [Nat.beq_eq] at h; rw [h]
  · cases h
theorem eqI_eq {a b : I6} (h : eqI a b = true) : a = b := by
  unfold eqI at h
  simp only [Bool.and_eq_true] at h
  obtain ⟨h1, h2, h3, h4, h5, h6⟩ := h
  cases a; cases b
  simp only [I6.mk.injEq]
  exact ⟨ieq_eq h1, ieq_eq h2, ieq_eq h3, ieq_eq h4, ieq_eq h5, ieq_eq h6⟩
theorem everyF_spec {h : Nat} : ∀ {l : List Rf}, everyF h l = true → ∀ r ∈ l, hasF r h = true → mayF r (takeF r h) = true → takeF r h = refI h ∧ layF r (takeF r h) = h ∧ refE (takeF r h) = h
  | [], _, r, hr, _, _ => by cases hr
  | q :: l, he, r, hr, h1, h2 => by
    unfold everyF at he
    cases hr with
    | head =>
      rw [h1, h2] at he
      simp only [Bool.and_eq_true, Nat.beq_eq] at he
      exact ⟨eqI_eq he.1, he.2.1, he.2.2.1⟩
    | tail _ hr =>
      refine everyF_spec ?_ r hr h1 h2
      split at he
      · split at he
        · simp only [Bool.and_eq_true] at he
          exact he.2.2.2
        · exact he
      · exact he
theorem someF_spec {h : Nat} : ∀ {l : List Rf}, someF h l = true → ∃ r ∈ l, hasF r h = true ∧ mayF r (takeF r h) = true
  | [], he => by cases he
  | q :: l, he => by
    unfold someF at he
    split at he
    · rename_i h1
      split at he
      · rename_i h2
        exact ⟨q, List.mem_cons_self, h1, h2⟩
      · obtain ⟨r, hr, h3⟩ := someF_spec he
        exact ⟨r, List.mem_cons_of_mem _ hr, h3⟩
    · obtain ⟨r, hr, h3⟩ := someF_spec he
      exact ⟨r, List.mem_cons_of_mem _ hr, h3⟩
theorem someF_no {h : Nat} : ∀ {l : List Rf}, someF h l = false → ∀ r ∈ l, ¬ (hasF r h = true ∧ mayF r (takeF r h) = true)
  | [], _, r, hr, _ => by cases hr
  | q :: l, he, r, hr, h12 => by
    unfold someF at he
    cases hr with
    | head => rw [h12.1, h12.2] at he; cases he
    | tail _ hr =>
      refine someF_no ?_ r hr h12
      split at he
      · split at he
        · cases he
        · exact he
      · exact he
/-- all halfwords that begin no Bl -/
theorem halves_all {h : Nat} (hh : h < 65536) (hf : h / 2048 ≠ 30) :
    (∀ r ∈ rowF, hasF r h = true → mayF r (takeF r h) = true → takeF r h = refI h ∧ layF r (takeF r h) = h ∧ refE (takeF r h) = h) ∧
    ((∀ r ∈ rowF, ¬ (hasF r h = true ∧ mayF r (takeF r h) = true)) → badI (refI h) = true) := by
  have hhi : h / 256 < 256 := by omega
  have hlo : h % 256 < 256 := Nat.mod_lt _ (by decide)
  have h1 := okHi_all (h / 256) hhi
  unfold okHi at h1
  rw [forceL_eq] at h1
  have h2 := allB_spec h1 (h % 256) hlo
  have e : Nat.add (Nat.mul (h / 256) 256) (h % 256) = h := by show h / 256 * 256 + h % 256 = h; omega
  rw [e] at h2
  have e2 : h / 256 * 256 + h % 256 = h := by omega
  have hc : ∀ r ∈ rowF, hasF r h = true → r ∈ candF (h / 256) rowF := fun r hr h3 => cand_mem hhi hlo hr (by rw [e2]; exact h3)
  have hn : farN' h = false := by
    unfold farN'
    cases hq : Nat.beq (Nat.div h 2048) 30
    · rfl
    · rw [Nat.beq_eq] at hq; exact absurd hq hf
  unfold okH at h2
  rw [hn] at h2
  simp only at h2
  cases h3 : everyF h (candF (h / 256) rowF)
  · rw [h3] at h2; cases h2
  · rw [h3] at h2
    simp only at h2
    refine ⟨fun r hr h4 h5 => everyF_spec h3 r (hc r hr h4) h4 h5, fun hno => ?_⟩
    cases h6 : someF h (candF (h / 256) rowF)
    · rw [h6] at h2
      exact h2
    · obtain ⟨r, hr, h7⟩ := someF_spec h6
      have hsub : ∀ {l : List Rf}, ∀ r ∈ candF (h / 256) l, r ∈ l := fun {l} => by
        induction l with
        | nil => intro r hr; cases hr
        | cons q l ih =>
          intro r hr
          unfold candF at hr
          split at hr
          · cases hr with
            | head => exact List.mem_cons_self
            | tail _ hr => exact List.mem_cons_of_mem _ (ih r hr)
          · exact List.mem_cons_of_mem _ (ih r hr)
      exact absurd h7 (hno r (hsub r hr))
end Go.Proofs.Ytibmgmgkaacibaa

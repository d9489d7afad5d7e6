/- Package chip: a step's small methods. -/
import Derived.Test.YtibmgmgkaacibaaEa
import Derived.Deep.RegionHeld3
namespace Go.Proofs.Ytibmgmgkaacibaa
open Go.RowKit Go.ChangeShapes Go.WideShapes Go.Deep Go.IntWalk
set_option linter.unusedVariables false
set_option linter.unusedSimpArgs false
def stP (ok : Bool) (s : Int) : Int := if ok then s else 2
abbrev Ch.need (x : Ch) (ok : Bool) : Ch := { x with st := stP ok x.st }
section
variable {w : World} {b : Nat} {x : Ch} {mp : Value} {i : I6} {t c : Int}
theorem sNeed (h : Sp w b mp i x t c) (ok : Bool) : Calls Try.prog 95 #[.pointer (some ⟨b, 0, none⟩), .bool ok] w fun e w' => e = .returned (.tuple #[]) ∧ Sp w' b mp i (x.need ok) t c ∧ Upd (fun q => q = b) w w' := by
  have f20 := h.fz 20
  have h20 := h.c20
  have H := Lib.hid h
  clear h
  cases ok
  · have HN := Lib.hid (H.out.set_st 2)
    go_enter Try.func95, Try.ntmps95
    go_wp2
    go_end0
    exact ⟨rfl, HN.out, Sp.setU _ _ _ _⟩
  · skip
    go_enter Try.func95, Try.ntmps95
    go_wp2
    go_end0
    exact ⟨rfl, H.out, Upd.refl _ _⟩
theorem sCarry (h : Sp w b mp i x t c) : Calls Try.prog 64 #[.pointer (some ⟨b, 0, none⟩)] w fun e w' => e = .returned (.int .u32 ((x.cf.toNat : Nat) : Int)) ∧ w = w' := by
  have h18 := h.c18
  clear h
  cases hc : x.cf
  all_goals
    rw [hc] at h18
    go_enter Try.func64, Try.ntmps64
    go_wp2
    go_ret
    exact ⟨rfl, rfl⟩
def maskB (mask o : Nat) : Bool := mask / 2 ^ o % 2 != 0
theorem and1_64 (m : Nat) (h : m < 18446744073709551616) : bits .and .u64 (m : Int) 1 = ((m % 2 : Nat) : Int) := by
  have := u64_and_nat m 1 h (by omega)
  rw [show ((1 : Nat) : Int) = 1 from rfl] at this
  rw [this, Nat.and_one_is_mod]
theorem and1_32 (m : Nat) (h : m < 4294967296) : bits .and .u32 (m : Int) 1 = ((m % 2 : Nat) : Int) := by
  have := u32_and_nat m 1 h (by omega)
  rw [show ((1 : Nat) : Int) = 1 from rfl] at this
  rw [this, Nat.and_one_is_mod]
theorem and255_32 (m : Nat) (h : m < 4294967296) : bits .and .u32 (m : Int) 255 = ((m % 256 : Nat) : Int) := by
  have := u32_and_nat m 255 h (by omega)
  rw [show ((255 : Nat) : Int) = 255 from rfl] at this
  rw [this, show (255 : Nat) = 2 ^ 8 - 1 from rfl, Nat.and_two_pow_sub_one_eq_mod]
theorem ne0 (m : Nat) : (((m : Nat) : Int) != 0) = (m != 0) := by
  cases m
  · rfl
  · simp; omega
theorem maskB_eq (mask o : Nat) (hm : mask < 18446744073709551616) : (bits .and .u64 ((mask : Int) / 2 ^ o) 1 != 0) = maskB mask o := by
  have h1 : ((mask : Int) / 2 ^ o) = ((mask / 2 ^ o : Nat) : Int) := by simp
  have h2 : mask / 2 ^ o ≤ mask := Nat.div_le_self _ _
  rw [h1, and1_64 _ (by omega), ne0]; rfl
theorem sIs (h : Sp w b mp i x t c) (mask o : Nat) (hm : mask < 18446744073709551616) (ho : o < 64) (hi : i.op = (o : Int)) : Calls Try.prog 52 #[.pointer (some ⟨b, 0, none⟩), .int .u64 (mask : Int)] w fun e w' => e = .returned (.bool (maskB mask o)) ∧ w = w' := by
  have h24 := h.c24
  rw [hi] at h24
  clear h hi
  go_enter Try.func52, Try.ntmps52
  go_wp2
  go_ret
  rw [maskB_eq mask o hm]
  exact ⟨rfl, rfl⟩
def sumN (l r k : Nat) : Nat := (l + r + k) % 4294967296
def sumC (l r k : Nat) : Bool := decide (4294967296 ≤ l + r + k)
def sumV (l r k : Nat) : Bool := wrap32 (l : Int) + wrap32 (r : Int) + (k : Int) != wrap32 ((sumN l r k : Nat) : Int)
theorem sumN_eq (l r k : Nat) : ((l : Int) + (r : Int) + (k : Int)) % 4294967296 = ((sumN l r k : Nat) : Int) := by unfold sumN; omega
theorem sumN_lt (l r k : Nat) : sumN l r k < 4294967296 := by unfold sumN; omega
theorem sumC_eq (l r k : Nat) : (((l : Int) + (r : Int) + (k : Int)) / 4294967296 != 0) = sumC l r k := by
  unfold sumC
  by_cases h : 4294967296 ≤ l + r + k
  · rw [decide_eq_true h]; simp; omega
  · rw [decide_eq_false h]; simp; omega
theorem w32r (n : Int) : -2147483648 ≤ wrap32 n ∧ wrap32 n ≤ 2147483647 := by unfold wrap32; omega
theorem w6432 (n : Int) : wrap64 (wrap32 n) = wrap32 n := wrap64_in _ (by have := w32r n; omega)
theorem sumV_eq (l r k : Nat) (hk : k < 4294967296) : (wrap64 (wrap64 (wrap64 (wrap32 (l : Int)) + wrap64 (wrap32 (r : Int))) + (k : Int)) != wrap64 (wrap32 (((sumN l r k : Nat) : Int)))) = sumV l r k := by
  rw [w6432, w6432, w6432]
  have h1 := w32r l
  have h2 := w32r r
  rw [wrap64_in (wrap32 _ + wrap32 _) (by omega), wrap64_in _ (by omega)]
  rfl
theorem sSum (h : Sp w b mp i x t c) (l r k : Nat) (hl : l < 4294967296) (hr : r < 4294967296) (hk : k < 2) : Calls Try.prog 63 #[.pointer (some ⟨b, 0, none⟩), .int .u32 (l : Int), .int .u32 (r : Int), .int .u32 (k : Int)] w fun e w' => e = .returned (.int .u32 (sumN l r k : Int)) ∧ Sp w' b mp i { x with cf := sumC l r k, vf := sumV l r k } t c ∧ Upd (fun q => q = b) w w' := by
  have f18 := h.fz 18
  have f19 := h.fz 19
  have h18 := h.c18
  have h19 := h.c19
  have HN := Lib.hid ((h.set_cf (sumC l r k)).set_vf (sumV l r k))
  clear h
  go_enter Try.func63, Try.ntmps63
  go_wp2
  go_ret
  rw [sumN_eq, sumC_eq, sumV_eq l r k (by omega)]
  exact ⟨rfl, HN.out, (Sp.setU _ _ _ _).putU _ _⟩
def outP (x : Ch) (n last : Nat) : Ch := if n % 256 = 0 then x else { x with cf := last % 2 != 0 }
theorem sWent (h : Sp w b mp i x t c) (n last : Nat) (hn : n < 4294967296) (hl : last < 4294967296) : Calls Try.prog 88 #[.pointer (some ⟨b, 0, none⟩), .int .u32 (n : Int), .int .u32 (last : Int)] w fun e w' => e = .returned (.tuple #[]) ∧ Sp w' b mp i (outP x n last) t c ∧ Upd (fun q => q = b) w w' := by
  have f18 := h.fz 18
  have h18 := h.c18
  have H := Lib.hid h
  have HN := Lib.hid (h.set_cf (last % 2 != 0))
  have hA := and255_32 n hn
  have hB := and1_32 last hl
  clear h hn hl
  by_cases h0 : n % 256 = 0
  · rw [show outP x n last = x by simp [outP, h0]]
    rw [h0] at hA
    clear h0
    go_enter Try.func88, Try.ntmps88
    go_wp2
    go_end0
    exact ⟨rfl, H.out, Upd.refl _ _⟩
  · rw [show outP x n last = { x with cf := last % 2 != 0 } by simp [outP, h0]]
    have hC : ((((n % 256 : Nat) : Int)) != 0) = true := by rw [ne0]; simpa using h0
    generalize n % 256 = m at *
    generalize hq : last % 2 = q at *
    clear hq h0
    go_enter Try.func88, Try.ntmps88
    go_wp2
    go_end0
    rw [ne0]
    exact ⟨rfl, HN.out, Sp.setU _ _ _ _⟩
def wl (l s : Nat) : Nat := l * 2 ^ min s 64 % 18446744073709551616
def wr (l s : Nat) : Nat := l * 2 / 2 ^ min s 64
def wa (l s : Nat) : Int := wrap32 (l : Int) * 2 / 2 ^ min s 64
def lslN (l s : Nat) : Nat := wl l s % 4294967296
def lslL (l s : Nat) : Nat := wl l s / 4294967296
def lsrN (l s : Nat) : Nat := wr l s / 2
def lsrL (l s : Nat) : Nat := wr l s % 4294967296
def asrN (l s : Nat) : Nat := (wa l s / 2 % 4294967296).toNat
def asrL (l s : Nat) : Nat := (wa l s % 4294967296).toNat
def rotT (s : Nat) : Nat := (32 - s % 32) % 32
def rorN (l s : Nat) : Nat := l * 2 ^ rotT s % 4294967296 + l / 2 ^ (32 - rotT s)
def rorL (l s : Nat) : Nat := rorN l s / 2147483648
theorem lsl1 (l s : Nat) : IntKind.u64.wrap ((l : Int) * 2 ^ min s 64) / 4294967296 % 4294967296 = ((lslL l s : Nat) : Int) := by
  have e : ((l : Int) * 2 ^ min s 64) = ((l * 2 ^ min s 64 : Nat) : Int) := by simp
  rw [e, IntKind.wrap_u64]; unfold lslL wl; generalize l * 2 ^ min s 64 = q; omega
theorem lsl2 (l s : Nat) : IntKind.u64.wrap ((l : Int) * 2 ^ min s 64) % 4294967296 = ((lslN l s : Nat) : Int) := by
  have e : ((l : Int) * 2 ^ min s 64) = ((l * 2 ^ min s 64 : Nat) : Int) := by simp
  rw [e, IntKind.wrap_u64]; unfold lslN wl; generalize l * 2 ^ min s 64 = q; omega
theorem lslL_lt (l s : Nat) : lslL l s < 4294967296 := by unfold lslL wl; omega
theorem lslN_lt (l s : Nat) : lslN l s < 4294967296 := by unfold lslN; omega
theorem wr_lt (l s : Nat) (hl : l < 4294967296) : wr l s < 8589934592 := by
  have : wr l s ≤ l * 2 := Nat.div_le_self _ _
  omega
theorem wr_int (l s : Nat) : (l : Int) * 2 / 2 ^ min s 64 = ((wr l s : Nat) : Int) := by unfold wr; simp
theorem lsr1 (l s : Nat) : (l : Int) * 2 / 2 ^ min s 64 % 4294967296 = ((lsrL l s : Nat) : Int) := by
  rw [wr_int]; unfold lsrL; omega
theorem lsr2 (l s : Nat) (hl : l < 4294967296) : (l : Int) * 2 / 2 ^ min s 64 / 2 % 4294967296 = ((lsrN l s : Nat) : Int) := by
  have := wr_lt l s hl
  rw [wr_int]; unfold lsrN; omega
theorem lsrL_lt (l s : Nat) : lsrL l s < 4294967296 := by unfold lsrL; omega
theorem lsrN_lt (l s : Nat) (hl : l < 4294967296) : lsrN l s < 4294967296 := by have := wr_lt l s hl; unfold lsrN; omega
theorem wa_eq (l s : Nat) : wrap64 (wrap64 (wrap32 (l : Int)) * 2) / 2 ^ min s 64 = wa l s := by
  have := w32r l
  rw [w6432, wrap64_in _ (by omega)]; rfl
theorem asr1 (l s : Nat) : wa l s % 4294967296 = ((asrL l s : Nat) : Int) := by unfold asrL; omega
theorem asr2 (l s : Nat) : wa l s / 2 % 4294967296 = ((asrN l s : Nat) : Int) := by unfold asrN; omega
theorem asrL_lt (l s : Nat) : asrL l s < 4294967296 := by unfold asrL; omega
theorem asrN_lt (l s : Nat) : asrN l s < 4294967296 := by unfold asrN; omega
theorem rot_or (l t : Nat) (ht : t < 32) (hl : l < 4294967296) : l * 2 ^ t % 4294967296 ||| l / 2 ^ (32 - t) = l * 2 ^ t % 4294967296 + l / 2 ^ (32 - t) := by
  have h1 : (4294967296 : Nat) = 2 ^ (32 - t) * 2 ^ t := by rw [← Nat.pow_add, show 32 - t + t = 32 by omega]
  have h2 : l / 2 ^ (32 - t) < 2 ^ t := by rw [Nat.div_lt_iff_lt_mul (Nat.two_pow_pos _), Nat.mul_comm, ← h1]; exact hl
  have h3 : l * 2 ^ t % 4294967296 = 2 ^ t * (l % 2 ^ (32 - t)) := by rw [h1, Nat.mul_mod_mul_right, Nat.mul_comm]
  rw [h3, Nat.two_pow_add_eq_or_of_lt h2]
theorem rorN_lt (l s : Nat) (hl : l < 4294967296) : rorN l s < 4294967296 := by
  have ht : rotT s < 32 := by unfold rotT; omega
  have h1 : (4294967296 : Nat) = 2 ^ (32 - rotT s) * 2 ^ rotT s := by rw [← Nat.pow_add, show 32 - rotT s + rotT s = 32 by omega]
  have h2 : l / 2 ^ (32 - rotT s) < 2 ^ rotT s := by rw [Nat.div_lt_iff_lt_mul (Nat.two_pow_pos _), Nat.mul_comm, ← h1]; exact hl
  unfold rorN
  rw [← rot_or l _ ht hl]
  exact Nat.or_lt_two_pow (n := 32) (Nat.mod_lt _ (by decide)) (Nat.lt_of_lt_of_le h2 (Nat.pow_le_pow_right (by decide) (by omega)))
theorem bRot (l s : Nat) (hl : l < 4294967296) (hs : s < 256) (w : World) : Calls Try.prog 89 #[.int .u32 (l : Int), .int .i64 (-(s : Int))] w fun e w' => e = .returned (.int .u32 (rorN l s : Int)) ∧ w = w' := by
  have hA : bits .and .u64 (IntKind.u64.wrap (-(s : Int))) 31 = ((rotT s : Nat) : Int) := by
    have e : IntKind.u64.wrap (-(s : Int)) = (((18446744073709551616 - s) % 18446744073709551616 : Nat) : Int) := by rw [IntKind.wrap_u64]; omega
    have := u64_and_nat ((18446744073709551616 - s) % 18446744073709551616) 31 (by omega) (by omega)
    rw [show ((31 : Nat) : Int) = 31 from rfl] at this
    rw [e, this, show (31 : Nat) = 2 ^ 5 - 1 from rfl, Nat.and_two_pow_sub_one_eq_mod]
    congr 1
    unfold rotT; omega
  obtain ⟨t, ht⟩ : ∃ t, t = rotT s := ⟨_, rfl⟩
  have ht1 : t < 32 := by rw [ht]; unfold rotT; omega
  have hw : IntKind.u64.wrap (32 - (t : Int)) = ((32 - t : Nat) : Int) := by rw [IntKind.wrap_u64]; omega
  have HR := Lib.hid (show rorN l s = l * 2 ^ t % 4294967296 + l / 2 ^ (32 - t) by rw [ht]; rfl)
  rw [← ht] at hA
  clear ht
  go_enter Try.func89, Try.ntmps89
  go_wp2_with fail
  go_ret
  have e2 : bits .or .u32 ((l : Int) * 2 ^ t % 4294967296) ((l : Int) / 2 ^ (32 - t)) = ((rorN l s : Nat) : Int) := by
    have h2 : l / 2 ^ (32 - t) ≤ l := Nat.div_le_self _ _
    have := u32_or_nat (l * 2 ^ t % 4294967296) (l / 2 ^ (32 - t)) (Nat.mod_lt _ (by decide)) (by omega)
    rw [rot_or l t ht1 hl] at this
    rw [HR.out, ← this]; simp
  rw [e2]
  exact ⟨rfl, rfl⟩
theorem sLsl (h : Sp w b mp i x t c) (l r : Nat) (hl : l < 4294967296) (hr : r < 4294967296) : Calls Try.prog 65 #[.pointer (some ⟨b, 0, none⟩), .int .u32 (l : Int), .int .u32 (r : Int)] w fun e w' => e = .returned (.int .u32 (lslN l (r % 256) : Int)) ∧ Sp w' b mp i (outP x r (lslL l (r % 256))) t c ∧ Upd (fun q => q = b) w w' := by
  have hA := and255_32 r hr
  obtain ⟨s, hs⟩ : ∃ s, s = r % 256 := ⟨_, rfl⟩
  have hs1 : s < 256 := by omega
  rw [← hs] at hA ⊢
  have HW := Lib.hid (sWent h r (lslL l s) hr (lslL_lt l s))
  clear h hs
  go_enter Try.func65, Try.ntmps65
  go_wp2_with fail
  rw [lsl1]
  refine HW.out.mono ?_
  rintro e w1 ⟨rfl, hp, hu⟩
  have HP := Lib.hid hp
  have HU := Lib.hid hu
  clear hp hu HW
  go_wp2
  go_ret
  rw [lsl2]
  exact ⟨rfl, HP.out, HU.out⟩
theorem sLsr (h : Sp w b mp i x t c) (l r : Nat) (hl : l < 4294967296) (hr : r < 4294967296) : Calls Try.prog 66 #[.pointer (some ⟨b, 0, none⟩), .int .u32 (l : Int), .int .u32 (r : Int)] w fun e w' => e = .returned (.int .u32 (lsrN l (r % 256) : Int)) ∧ Sp w' b mp i (outP x r (lsrL l (r % 256))) t c ∧ Upd (fun q => q = b) w w' := by
  have hA := and255_32 r hr
  obtain ⟨s, hs⟩ : ∃ s, s = r % 256 := ⟨_, rfl⟩
  have hs1 : s < 256 := by omega
  rw [← hs] at hA ⊢
  have HW := Lib.hid (sWent h r (lsrL l s) hr (lsrL_lt l s))
  clear h hs
  go_enter Try.func66, Try.ntmps66
  go_wp2_with fail
  rw [lsr1]
  refine HW.out.mono ?_
  rintro e w1 ⟨rfl, hp, hu⟩
  have HP := Lib.hid hp
  have HU := Lib.hid hu
  clear hp hu HW
  go_wp2
  go_ret
  rw [lsr2 l s hl]
  exact ⟨rfl, HP.out, HU.out⟩
theorem sAsr (h : Sp w b mp i x t c) (l r : Nat) (hl : l < 4294967296) (hr : r < 4294967296) : Calls Try.prog 67 #[.pointer (some ⟨b, 0, none⟩), .int .u32 (l : Int), .int .u32 (r : Int)] w fun e w' => e = .returned (.int .u32 (asrN l (r % 256) : Int)) ∧ Sp w' b mp i (outP x r (asrL l (r % 256))) t c ∧ Upd (fun q => q = b) w w' := by
  have hA := and255_32 r hr
  obtain ⟨s, hs⟩ : ∃ s, s = r % 256 := ⟨_, rfl⟩
  have hs1 : s < 256 := by omega
  rw [← hs] at hA ⊢
  have HW := Lib.hid (sWent h r (asrL l s) hr (asrL_lt l s))
  clear h hs
  go_enter Try.func67, Try.ntmps67
  go_wp2_with fail
  rw [wa_eq, asr1]
  refine HW.out.mono ?_
  rintro e w1 ⟨rfl, hp, hu⟩
  have HP := Lib.hid hp
  have HU := Lib.hid hu
  clear hp hu HW
  go_wp2
  go_ret
  rw [asr2]
  exact ⟨rfl, HP.out, HU.out⟩
theorem sRor (h : Sp w b mp i x t c) (l r : Nat) (hl : l < 4294967296) (hr : r < 4294967296) : Calls Try.prog 68 #[.pointer (some ⟨b, 0, none⟩), .int .u32 (l : Int), .int .u32 (r : Int)] w fun e w' => e = .returned (.int .u32 (rorN l (r % 256) : Int)) ∧ Sp w' b mp i (outP x r (rorL l (r % 256))) t c ∧ Upd (fun q => q = b) w w' := by
  have hA := and255_32 r hr
  obtain ⟨s, hs⟩ : ∃ s, s = r % 256 := ⟨_, rfl⟩
  have hs1 : s < 256 := by omega
  rw [← hs] at hA ⊢
  have HW := Lib.hid (sWent h r (rorL l s) hr (by have := rorN_lt l s hl; unfold rorL; omega))
  clear h hs
  go_enter Try.func68, Try.ntmps68
  go_wp2_with fail
  (refine (bRot l s hl hs1 _).mono ?_); rintro e _ ⟨rfl, rfl⟩; go_wp2_with fail
  refine HW.out.mono ?_
  rintro e w1 ⟨rfl, hp, hu⟩
  have HP := Lib.hid hp
  have HU := Lib.hid hu
  clear hp hu HW
  go_wp2
  go_ret
  skip
  exact ⟨rfl, HP.out, HU.out⟩
theorem sTouch (h : Sp w b mp i x t c) (a : Nat) (ha : a < 4294967296) (ok : Bool) : Calls Try.prog 90 #[.pointer (some ⟨b, 0, none⟩), .int .u32 (a : Int), .bool ok] w fun e w' => e = .returned (.tuple #[]) ∧ Sp w' b mp i (x.need ok) (a : Int) 2 ∧ Upd (fun q => q = b) w w' := by
  have f30 := h.fz 30
  have f31 := h.fz 31
  have h30 := h.c30
  have h31 := h.c31
  have HN := Lib.hid (sNeed ((h.set_t (a : Int)).set_c 2) ok)
  clear h
  go_enter Try.func90, Try.ntmps90
  go_wp2_with fail
  refine HN.out.mono ?_
  rintro e w1 ⟨rfl, hp, hu⟩
  have HP := Lib.hid hp
  have HU := Lib.hid (((Sp.setU w b 30 (.int .i64 (a : Int))).putU 31 (.int .i64 2)).trans hu (fun _ h _ => h))
  clear hp hu HN
  go_wp2
  go_end0
  exact ⟨rfl, HP.out, HU.out⟩
theorem sBranch (h : Sp w b mp i x t c) (a : Nat) (ha : a < 4294967296) (k : Int) : Calls Try.prog 76 #[.pointer (some ⟨b, 0, none⟩), .int .u32 (a : Int), .int .i64 k] w fun e w' => e = .returned (.tuple #[]) ∧ Sp w' b mp i (x.withR 15 a) t k ∧ Upd (fun q => q = b) w w' := by
  have f15 := h.fz 15
  have f31 := h.fz 31
  have h15 := h.c15
  have h31 := h.c31
  have HN := Lib.hid ((h.setR 15 (by decide) a ha).set_c k)
  clear h
  go_enter Try.func76, Try.ntmps76
  go_wp2
  go_end0
  exact ⟨rfl, HN.out, (Sp.setU _ _ _ _).putU _ _⟩
theorem sLink (h : Sp w b mp i x t c) (a : Nat) (ha : a < 4294967296) : Calls Try.prog 77 #[.pointer (some ⟨b, 0, none⟩), .int .u32 (a : Int)] w fun e w' => e = .returned (.tuple #[]) ∧ Sp w' b mp i ((x.withR 14 ((x.R 15 + 1) % 4294967296)).withR 15 a) t 4 ∧ Upd (fun q => q = b) w w' := by
  have f14 := h.fz 14
  have h15 := h.c15
  have h14 := h.c14
  have HN := Lib.hid (h.setR 14 (by decide) ((x.R 15 + 1) % 4294967296) (by omega))
  clear h
  go_enter Try.func77, Try.ntmps77
  go_wp2_with fail
  go_region_held3 (fun u => u.cell? ⟨b, 15, none⟩ = some (.int .u32 (x.R 15 : Int))) (simp [h15, World.cell?_setCell_other]) (fail)
  all_goals
    go_wp2_with fail
    rw [show ((x.R 15 : Nat) : Int) + 1 = ((x.R 15 + 1 : Nat) : Int) by omega, show ((x.R 15 + 1 : Nat) : Int) % 4294967296 = (((x.R 15 + 1) % 4294967296 : Nat) : Int) by omega]
    refine (sBranch (HN.out.upd (Upd.drew (fun _ => False) _) (fun h => h)) a ha 4).mono ?_
    rintro e w1 ⟨rfl, hp, hu⟩
    have HP := Lib.hid hp
    have HU := Lib.hid ((Sp.setU w b 14 (.int .u32 (((x.R 15 + 1) % 4294967296 : Nat) : Int))).trans ((Upd.drew (fun q => q = b) _).trans hu (fun _ h _ => h)) (fun _ h _ => h))
    clear hp hu HN
    go_wp2
    go_end0
    exact ⟨rfl, HP.out, HU.out⟩
end
end Go.Proofs.Ytibmgmgkaacibaa

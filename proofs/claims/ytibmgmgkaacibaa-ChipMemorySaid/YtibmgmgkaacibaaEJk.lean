/- Stage 16: ChipMemory. -/
import Derived.Test.YtibmgmgkaacibaaEIk
namespace Go.Proofs.Ytibmgmgkaacibaa
open Go.RowKit Go.ChangeShapes Go.WideShapes Go.Deep Go.IntWalk
set_option linter.unusedVariables false
set_option linter.unusedSimpArgs false
theorem withR_twice (y : Ch) (k v : Nat) : (y.withR k v).withR k v = y.withR k v := by
  have e : rSet (rSet y.R k v) k v = rSet y.R k v := by funext j; unfold rSet; split <;> rfl
  show { y with R := rSet (rSet y.R k v) k v } = { y with R := rSet y.R k v }
  rw [e]
theorem ixSt (h : Nat) (hh : h < 3) (w : World) : (Instr.index 67 (.agg #[.int .i64 32, .int .i64 2, .int .i64 1, .int .i64 0, .int .i64 8, .int .i64 0, .int .i64 30, .int .i64 2, .int .i64 1, .int .i64 3, .int .i64 0, .int .i64 0, .int .i64 36, .int .i64 2, .int .i64 0, .int .i64 0, .int .i64 40, .int .i64 0]) (.int .i64 (h : Int))).run Try.prog w = .ok (.agg #[.int .i64 (stI h).op, .int .i64 (stI h).d, .int .i64 (stI h).n, .int .i64 (stI h).m, .int .i64 (stI h).imm, .int .i64 (stI h).cond]) w := by
  rcases (by omega : h = 0 ∨ h = 1 ∨ h = 2) with rfl | rfl | rfl <;> kernel_rfl
theorem ixLd (k : Nat) (hk : k < 3) (w : World) : (Instr.index 67 (.agg #[.int .i64 31, .int .i64 4, .int .i64 1, .int .i64 0, .int .i64 8, .int .i64 0, .int .i64 29, .int .i64 4, .int .i64 1, .int .i64 3, .int .i64 0, .int .i64 0, .int .i64 35, .int .i64 4, .int .i64 0, .int .i64 0, .int .i64 40, .int .i64 0]) (.int .i64 (k : Int))).run Try.prog w = .ok (.agg #[.int .i64 (ldI k).op, .int .i64 (ldI k).d, .int .i64 (ldI k).n, .int .i64 (ldI k).m, .int .i64 (ldI k).imm, .int .i64 (ldI k).cond]) w := by
  rcases (by omega : k = 0 ∨ k = 1 ∨ k = 2) with rfl | rfl | rfl <;> kernel_rfl
set_option maxRecDepth 20000 in
set_option maxHeartbeats 2000000 in
theorem chipMemory_walk (w : World) (n : Nat) (hn : n < 4294967296) (how again at_ : Int) : Calls Try.prog 7 #[.int .u32 (n : Int), .int .i64 how, .int .i64 again, .int .i64 at_] w fun e w' => e = .returned (.bool true) ∧ Upd (fun _ => False) w w' := by
  obtain ⟨h, hh⟩ : ∃ h : Nat, how % 3 = (h : Int) := ⟨(how % 3).toNat, by omega⟩
  obtain ⟨k, hk⟩ : ∃ k : Nat, again % 3 = (k : Int) := ⟨(again % 3).toNat, by omega⟩
  obtain ⟨p, hp⟩ : ∃ p : Nat, at_ % 1000 = (p : Int) := ⟨(at_ % 1000).toNat, by omega⟩
  have hh3 : h < 3 := by omega
  have hk3 : k < 3 := by omega
  have hp3 : p < 1000 := by omega
  have HH := Lib.hid hh
  have HK := Lib.hid hk
  have HP := Lib.hid hp
  have HLD := Lib.hid (fun (w0 : World) => lLoad _ w0.heap.size 4 (meL h k) (isL_lit w0 (meL h k) 36 #[.int .i64 (stI h).op, .int .i64 (stI h).d, .int .i64 (stI h).n, .int .i64 (stI h).m, .int .i64 (stI h).imm, .int .i64 (stI h).cond, .int .i64 (ldI k).op, .int .i64 (ldI k).d, .int .i64 (ldI k).n, .int .i64 (ldI k).m, .int .i64 (ldI k).imm, .int .i64 (ldI k).cond, .int .i64 33, .int .i64 5, .int .i64 1, .int .i64 0, .int .i64 9, .int .i64 0, .int .i64 44, .int .i64 0, .int .i64 0, .int .i64 0, .int .i64 1, .int .i64 0] 4 rfl rfl (by omega)) (by simp) (meOk h k hh3 hk3) (show 4 ≤ 100 by decide) 0 rfl (by omega))
  clear hh hk hp
  go_enter Try.func7, Try.ntmps7
  go_wp2_with fail
  refine (hPick _ 3 w (by decide) (by decide)).mono ?_
  rintro e w' ⟨rfl, rfl⟩
  rw [HH.out]
  go_wp2_with fail
  rw [ixSt h hh3]
  go_wp2_with fail
  refine (hPick _ 3 _ (by decide) (by decide)).mono ?_
  rintro e w' ⟨rfl, rfl⟩
  rw [HK.out]
  go_wp2_with fail
  rw [ixLd k hk3]
  go_wp2_with fail
  have HA0 := Lib.hid ((Upd.alloc (fun _ => False) w (.cells #[.int .i64 (stI h).op, .int .i64 (stI h).d, .int .i64 (stI h).n, .int .i64 (stI h).m, .int .i64 (stI h).imm, .int .i64 (stI h).cond] 36)).trans (Upd.alloc (fun _ => False) _ (.cells #[.int .i64 (ldI k).op, .int .i64 (ldI k).d, .int .i64 (ldI k).n, .int .i64 (ldI k).m, .int .i64 (ldI k).imm, .int .i64 (ldI k).cond] 36)) (fun _ h _ => h))
  have HS : ((w.alloc (.cells #[.int .i64 (stI h).op, .int .i64 (stI h).d, .int .i64 (stI h).n, .int .i64 (stI h).m, .int .i64 (stI h).imm, .int .i64 (stI h).cond] 36)).alloc (.cells #[.int .i64 (ldI k).op, .int .i64 (ldI k).d, .int .i64 (ldI k).n, .int .i64 (ldI k).m, .int .i64 (ldI k).imm, .int .i64 (ldI k).cond] 36)).heap.size = w.heap.size + 1 + 1 := by simp
  rw [← HS]
  clear HS
  generalize ((w.alloc (.cells #[.int .i64 (stI h).op, .int .i64 (stI h).d, .int .i64 (stI h).n, .int .i64 (stI h).m, .int .i64 (stI h).imm, .int .i64 (stI h).cond] 36)).alloc (.cells #[.int .i64 (ldI k).op, .int .i64 (ldI k).d, .int .i64 (ldI k).n, .int .i64 (ldI k).m, .int .i64 (ldI k).imm, .int .i64 (ldI k).cond] 36)) = w0 at *
  have HAL := Lib.hid (HA0.out.trans (Upd.alloc (fun _ => False) w0 (.cells #[.int .i64 (stI h).op, .int .i64 (stI h).d, .int .i64 (stI h).n, .int .i64 (stI h).m, .int .i64 (stI h).imm, .int .i64 (stI h).cond, .int .i64 (ldI k).op, .int .i64 (ldI k).d, .int .i64 (ldI k).n, .int .i64 (ldI k).m, .int .i64 (ldI k).imm, .int .i64 (ldI k).cond, .int .i64 33, .int .i64 5, .int .i64 1, .int .i64 0, .int .i64 9, .int .i64 0, .int .i64 44, .int .i64 0, .int .i64 0, .int .i64 0, .int .i64 1, .int .i64 0] 36)) (fun _ h _ => h))
  have HG0 := Lib.hid (show w.heap.size ≤ (w0.alloc (.cells #[.int .i64 (stI h).op, .int .i64 (stI h).d, .int .i64 (stI h).n, .int .i64 (stI h).m, .int .i64 (stI h).imm, .int .i64 (stI h).cond, .int .i64 (ldI k).op, .int .i64 (ldI k).d, .int .i64 (ldI k).n, .int .i64 (ldI k).m, .int .i64 (ldI k).imm, .int .i64 (ldI k).cond, .int .i64 33, .int .i64 5, .int .i64 1, .int .i64 0, .int .i64 9, .int .i64 0, .int .i64 44, .int .i64 0, .int .i64 0, .int .i64 0, .int .i64 1, .int .i64 0] 36)).heap.size from HAL.out.size)
  refine (HLD.out w0).mono ?_
  rintro e w1 ⟨rfl, hm, hu⟩
  have HM1 := Lib.hid hm
  have HU1 := Lib.hid (HAL.out.trans hu (fun _ h _ => h))
  generalize (w0.alloc (.cells #[.int .i64 (stI h).op, .int .i64 (stI h).d, .int .i64 (stI h).n, .int .i64 (stI h).m, .int .i64 (stI h).imm, .int .i64 (stI h).cond, .int .i64 (ldI k).op, .int .i64 (ldI k).d, .int .i64 (ldI k).n, .int .i64 (ldI k).m, .int .i64 (ldI k).imm, .int .i64 (ldI k).cond, .int .i64 33, .int .i64 5, .int .i64 1, .int .i64 0, .int .i64 9, .int .i64 0, .int .i64 44, .int .i64 0, .int .i64 0, .int .i64 0, .int .i64 1, .int .i64 0] 36)).heap.size = g at *
  generalize g + 1 = bm at *
  clear hm hu HLD HAL HA0
  go_wp2_with fail
  refine (cNew _).mono ?_
  rintro e w2 ⟨rfl, hc, hu⟩
  have HM2 := Lib.hid (HM1.out.upd hu (fun h => h) (fun h => h))
  have HU2 := Lib.hid (HU1.out.trans hu (fun _ h _ => h))
  have HC2 := Lib.hid hc
  have HN1 := Lib.hid (show w1.heap.size ≠ bm by have := HM1.out.lt; omega)
  have HN2 := Lib.hid (show w1.heap.size ≠ g by have := HM1.out.lt; omega)
  have HCB := Lib.hid HU1.out.size
  generalize w1.heap.size = cb at *
  clear hc hu HM1 HU1
  go_wp2_with fail
  refine (tNew _).mono ?_
  rintro e w3 ⟨tb, rfl, ht, hu⟩
  have HU3 := Lib.hid (HU2.out.trans hu (fun _ h _ => h))
  have HM3 := Lib.hid (HM2.out.upd hu (fun h => h) (fun h => h))
  have HC3 := Lib.hid (HC2.out.upd hu (fun h => h))
  have HT3 := Lib.hid ht
  have HFR := Lib.hid (fun k (hk : ESince w2 w3 k) => (show k < w3.heap.size ∧ k ≠ cb ∧ k ≠ bm ∧ k ≠ g ∧ w.heap.size ≤ k from ⟨hk.2, by have := HC2.out.lt; have := HM2.out.lt; have := hk.1; have := HU2.out.size; omega⟩))
  obtain ⟨F, hF⟩ : ∃ F, F = ESince w2 w3 := ⟨_, rfl⟩
  rw [← hF] at HT3 HFR
  clear ht hu HM2 HU2 HC2 hF
  go_wp2_with fail
  refine (known16 _).mono ?_
  rintro e w4 ⟨rfl, hu⟩
  have HM4 := Lib.hid (HM3.out.upd hu (fun h => h) (fun h => h))
  have HU4 := Lib.hid (HU3.out.trans hu (fun _ h _ => h))
  have HC4 := Lib.hid (HC3.out.upd hu (fun h => h))
  have HT4 := Lib.hid (HT3.out.upd hu (fun _ _ h => h))
  have HSZ4 := Lib.hid hu.size
  clear hu HM3 HU3 HC3 HT3
  go_wp2_with fail
  refine (hPick _ 1000 _ (by decide) (by decide)).mono ?_
  rintro e w' ⟨rfl, rfl⟩
  rw [HP.out]
  have c1 := HC4.out.c1
  have c2 := HC4.out.c2
  have c3 := HC4.out.c3
  have c13 := HC4.out.c13
  have f1 := HC4.out.fz 1
  have f2 := HC4.out.fz 2
  have f3 := HC4.out.fz 3
  have f13 := HC4.out.fz 13
  obtain ⟨q, hq⟩ : ∃ q : Nat, 4 * (p : Int) = (q : Int) := ⟨4 * p, by omega⟩
  obtain ⟨b, hb⟩ : ∃ b : Nat, 131072 + (q : Int) = (b : Int) := ⟨131072 + q, by omega⟩
  obtain ⟨c, hc⟩ : ∃ c : Nat, (b : Int) - 32 = (c : Int) := ⟨b - 32, by omega⟩
  obtain ⟨d, hd⟩ : ∃ d : Nat, (b : Int) + 8 = (d : Int) := ⟨b + 8, by omega⟩
  have q1 : IntKind.i64.wrap (4 * (p : Int)) = (q : Int) := by rw [hq]; exact i64_in _ (by omega)
  have q2 : IntKind.i64.wrap (131072 + (q : Int)) = (b : Int) := by rw [hb]; exact i64_in _ (by omega)
  have q3 : (b : Int) % 4294967296 = (b : Int) := by omega
  have q4 : ((b : Int) - 32) % 4294967296 = (c : Int) := by omega
  have q5 : ((b : Int) + 8) % 4294967296 = (d : Int) := by omega
  have q6 : ((d : Int) - 40) % 4294967296 = (c : Int) := by omega
  have HB := Lib.hid (show 131072 ≤ b ∧ b + 12 ≤ 262144 ∧ b % 4 = 0 ∧ c = b - 32 ∧ d = b + 8 by omega)
  clear hq hb hc hd hp3
  have HC5 := Lib.hid ((((HC4.out.setR 1 (by decide) b (by have := HB.out; omega)).setR 2 (by decide) n hn).setR 3 (by decide) 8 (by decide)).setR 13 (by decide) c (by have := HB.out; omega))
  have HU5 := Lib.hid ((((Sp.setU w4 cb 1 (.int .u32 (b : Int))).putU 2 (.int .u32 (n : Int))).putU 3 (.int .u32 ((8 : Nat) : Int))).putU 13 (.int .u32 (c : Int)))
  go_upto_region 13 with fail
  have HM5 : Hid (Mm 72 ((((w4.setCell ⟨cb, 1, none⟩ (.int .u32 (b : Int))).setCell ⟨cb, 2, none⟩ (.int .u32 (n : Int))).setCell ⟨cb, 3, none⟩ (.int .u32 8)).setCell ⟨cb, 13, none⟩ (.int .u32 (c : Int))) bm g (meM h k)) := Lib.hid (HM4.out.upd HU5.out (fun e => HN1.out e.symm) (fun e => HN2.out e.symm))
  have HT5 : Hid (Trc F ((((w4.setCell ⟨cb, 1, none⟩ (.int .u32 (b : Int))).setCell ⟨cb, 2, none⟩ (.int .u32 (n : Int))).setCell ⟨cb, 3, none⟩ (.int .u32 8)).setCell ⟨cb, 13, none⟩ (.int .u32 (c : Int))) tb []) := Lib.hid (HT4.out.upd HU5.out (fun k hk e => (HFR.out k hk).2.1 e))
  have HU6 : Hid (Upd (fun _ => False) w ((((w4.setCell ⟨cb, 1, none⟩ (.int .u32 (b : Int))).setCell ⟨cb, 2, none⟩ (.int .u32 (n : Int))).setCell ⟨cb, 3, none⟩ (.int .u32 8)).setCell ⟨cb, 13, none⟩ (.int .u32 (c : Int)))) := Lib.hid (HU4.out.trans HU5.out (fun k hk hl => by have := HCB.out; omega))
  have HF5 : Hid (∀ k, F k → k < ((((w4.setCell ⟨cb, 1, none⟩ (.int .u32 (b : Int))).setCell ⟨cb, 2, none⟩ (.int .u32 (n : Int))).setCell ⟨cb, 3, none⟩ (.int .u32 8)).setCell ⟨cb, 13, none⟩ (.int .u32 (c : Int))).heap.size ∧ k ≠ cb ∧ k ≠ bm ∧ k ≠ g ∧ w.heap.size ≤ k) := Lib.hid (fun k hk => ⟨Nat.lt_of_lt_of_le (HFR.out k hk).1 (Nat.le_trans HSZ4.out HU5.out.size), (HFR.out k hk).2⟩)
  have HC6 : Hid (Cp ((((w4.setCell ⟨cb, 1, none⟩ (.int .u32 (b : Int))).setCell ⟨cb, 2, none⟩ (.int .u32 (n : Int))).setCell ⟨cb, 3, none⟩ (.int .u32 8)).setCell ⟨cb, 13, none⟩ (.int .u32 (c : Int))) cb (((((Ch.zero).withR 1 b).withR 2 n).withR 3 8).withR 13 c)) := Lib.hid HC5.out
  clear HC5 HU5 HM4 HU4 HC4 HT4 HFR HSZ4 c1 c2 c3 c13 f1 f2 f3 f13
  generalize ((((w4.setCell ⟨cb, 1, none⟩ (.int .u32 (b : Int))).setCell ⟨cb, 2, none⟩ (.int .u32 (n : Int))).setCell ⟨cb, 3, none⟩ (.int .u32 8)).setCell ⟨cb, 13, none⟩ (.int .u32 (c : Int))) = w5 at *
  obtain ⟨x5, hx5⟩ : ∃ x5, (((((Ch.zero).withR 1 b).withR 2 n).withR 3 8).withR 13 c) = x5 := ⟨_, rfl⟩
  have HX5 := Lib.hid hx5
  rw [hx5] at HC6
  clear hx5
  have c13 := HC6.out.c13
  have f13 := HC6.out.fz 13
  have HC7 := Lib.hid (HC6.out.setR 13 (by decide) c (by have := HB.out; omega))
  have HU7 := Lib.hid (Sp.setU w5 cb 13 (.int .u32 (c : Int)))
  have q7 : ((b : Int) + 8 - 40) % 4294967296 = (c : Int) := by have := HB.out; omega
  have HME : Hid (x5 = meX b n) := Lib.hid (by rw [← HX5.out, show c = b - 32 from HB.out.2.2.2.1]; rfl)
  have HME2 : Hid (x5.withR 13 c = meX b n) := Lib.hid (by
    have : x5.withR 13 c = x5 := by
      rw [← HX5.out]
      exact withR_twice _ 13 c
    rw [this]; exact HME.out)
  by_cases hlt : b < 131104
  · have hl2 : decide ((b : Int) < 131104) = true := by simp; omega
    clear hlt
    go_wp2_with fail
    have HW : Hid (Wd (w5.setCell ⟨cb, 13, none⟩ (.int .u32 (c : Int))) cb bm g (.pointer (some ⟨tb, 0, none⟩)) F (meS h k b n)) := Lib.hid ⟨by have := HC7.out; rw [HME2.out] at this; exact this, HM5.out.upd HU7.out (fun e => HN1.out e.symm) (fun e => HN2.out e.symm), ⟨tb, rfl, HT5.out.upd HU7.out (fun k hk e => (HF5.out k hk).2.1 e)⟩, fun k hk => ⟨Nat.lt_of_lt_of_le (HF5.out k hk).1 HU7.out.size, (HF5.out k hk).2.1, (HF5.out k hk).2.2.1, (HF5.out k hk).2.2.2.1⟩, HN1.out, HN2.out⟩
    have HUW : Hid (Upd (fun _ => False) w (w5.setCell ⟨cb, 13, none⟩ (.int .u32 (c : Int)))) := Lib.hid (HU6.out.trans HU7.out (fun k hk hl => by have := HCB.out; omega))
    have HFW : Hid (∀ k, F k → w.heap.size ≤ k) := Lib.hid (fun k hk => (HF5.out k hk).2.2.2.2)
    generalize (w5.setCell ⟨cb, 13, none⟩ (.int .u32 (c : Int))) = w5 at *
    clear HC6 HC7 HU7 HM5 HT5 HU6 HF5 c13 f13 hl2
    refine (cRun HW.out 9 (by decide) ⟨(by show (0 : Int) ≤ 0; decide), (by show (0 : Int) + 1000 * ((9 + 1 : Nat) : Int) ≤ 1099511627776; decide), fun l hl => by simp [meS] at hl; subst hl; simp⟩).mono ?_
    rintro e w6 ⟨rfl, F6, hF6, hd, hu⟩
    have HUV : Hid (Upd (fun _ => False) w w6) := Lib.hid (HUW.out.trans hu (fun k hk hl => by
      have := HCB.out
      have := HG0.out
      rcases hk with e | e | e
      · omega
      · omega
      · have := HFW.out k e; omega))
    obtain ⟨z, hz, z1, z2, z3, z4, ev, l, z5, z6, z7⟩ := me_run h k b n hh3 hk3 HB.out.1 HB.out.2.1 HB.out.2.2.1 hn
    rw [hz] at hd ⊢
    rw [z1]
    have HTR : Hid (Trc F6 w6 tb (ev :: l)) := Lib.hid (by
      have ht := hd.tr
      rw [z5] at ht
      obtain ⟨tb', e, ht⟩ := ht
      injection e with e; injection e with e; injection e with e
      subst e; exact ht)
    have HCP := Lib.hid hd.cp
    have HZ := Lib.hid (And.intro z2 (And.intro z3 z4))
    have HE := Lib.hid z7
    clear hz z1 z2 z3 z4 z5 z7 hd hu hF6 HW HUW HFW
    go_wp2_with fail
    refine (tAt HTR.out 0 (by simp) (by simp; omega)).mono ?_
    rintro e w7 ⟨rfl, hu⟩
    have HU8 := Lib.hid (HUV.out.trans hu (fun _ h _ => h))
    have hcp := HCP.out.upd hu (fun h => h)
    have c4 := hcp.c4
    have c5 := hcp.c5
    have c22 := hcp.c22
    rw [HZ.out.1] at c4
    rw [HZ.out.2.1] at c5
    rw [HZ.out.2.2] at c22
    have hcl : cb < w7.heap.size := hcp.lt
    clear hcp hu
    rw [show evV ((ev :: l).getD 0 default) = .agg #[.int .i64 4, .int .i64 0, .int .i64 (d : Int), .int .i64 2] by rw [show (ev :: l).getD 0 default = ev from rfl, HE.out, HB.out.2.2.2.2]; rfl]
    have q10 : bits .and .u32 ((n : Int) / 256) 255 = (n : Int) / 256 % 256 := by
      have e := and255_32 (n / 256) (by omega)
      rw [show ((n / 256 : Nat) : Int) = (n : Int) / 256 by omega] at e
      rw [e]; omega
    have q8 : IntKind.i64.wrap (b : Int) = (b : Int) := i64_in _ (by have := HB.out; omega)
    have q9 : IntKind.i64.wrap ((b : Int) + 8) = (d : Int) := by have := HB.out; rw [show (b : Int) + 8 = (d : Int) by omega]; exact i64_in _ (by omega)
    go_wp2_with fail
    go_ret
    exact ⟨rfl, HU8.out.trans (Upd.alloc _ _ _) (fun _ h _ => h)⟩
  · have hl2 : decide ((b : Int) < 131104) = false := by simp; omega
    clear hlt q5 q6 q7
    go_wp2_with fail
    have HW : Hid (Wd w5 cb bm g (.pointer (some ⟨tb, 0, none⟩)) F (meS h k b n)) := Lib.hid ⟨by have := HC6.out; rw [HME.out] at this; exact this, HM5.out, ⟨tb, rfl, HT5.out⟩, fun k hk => ⟨(HF5.out k hk).1, (HF5.out k hk).2.1, (HF5.out k hk).2.2.1, (HF5.out k hk).2.2.2.1⟩, HN1.out, HN2.out⟩
    have HUW : Hid (Upd (fun _ => False) w w5) := Lib.hid (HU6.out)
    have HFW : Hid (∀ k, F k → w.heap.size ≤ k) := Lib.hid (fun k hk => (HF5.out k hk).2.2.2.2)
    skip
    clear HC6 HC7 HU7 HM5 HT5 HU6 HF5 c13 f13 hl2
    refine (cRun HW.out 9 (by decide) ⟨(by show (0 : Int) ≤ 0; decide), (by show (0 : Int) + 1000 * ((9 + 1 : Nat) : Int) ≤ 1099511627776; decide), fun l hl => by simp [meS] at hl; subst hl; simp⟩).mono ?_
    rintro e w6 ⟨rfl, F6, hF6, hd, hu⟩
    have HUV : Hid (Upd (fun _ => False) w w6) := Lib.hid (HUW.out.trans hu (fun k hk hl => by
      have := HCB.out
      have := HG0.out
      rcases hk with e | e | e
      · omega
      · omega
      · have := HFW.out k e; omega))
    obtain ⟨z, hz, z1, z2, z3, z4, ev, l, z5, z6, z7⟩ := me_run h k b n hh3 hk3 HB.out.1 HB.out.2.1 HB.out.2.2.1 hn
    rw [hz] at hd ⊢
    rw [z1]
    have HTR : Hid (Trc F6 w6 tb (ev :: l)) := Lib.hid (by
      have ht := hd.tr
      rw [z5] at ht
      obtain ⟨tb', e, ht⟩ := ht
      injection e with e; injection e with e; injection e with e
      subst e; exact ht)
    have HCP := Lib.hid hd.cp
    have HZ := Lib.hid (And.intro z2 (And.intro z3 z4))
    have HE := Lib.hid z7
    clear hz z1 z2 z3 z4 z5 z7 hd hu hF6 HW HUW HFW
    go_wp2_with fail
    refine (tAt HTR.out 0 (by simp) (by simp; omega)).mono ?_
    rintro e w7 ⟨rfl, hu⟩
    have HU8 := Lib.hid (HUV.out.trans hu (fun _ h _ => h))
    have hcp := HCP.out.upd hu (fun h => h)
    have c4 := hcp.c4
    have c5 := hcp.c5
    have c22 := hcp.c22
    rw [HZ.out.1] at c4
    rw [HZ.out.2.1] at c5
    rw [HZ.out.2.2] at c22
    have hcl : cb < w7.heap.size := hcp.lt
    clear hcp hu
    rw [show evV ((ev :: l).getD 0 default) = .agg #[.int .i64 4, .int .i64 0, .int .i64 (d : Int), .int .i64 2] by rw [show (ev :: l).getD 0 default = ev from rfl, HE.out, HB.out.2.2.2.2]; rfl]
    have q10 : bits .and .u32 ((n : Int) / 256) 255 = (n : Int) / 256 % 256 := by
      have e := and255_32 (n / 256) (by omega)
      rw [show ((n / 256 : Nat) : Int) = (n : Int) / 256 by omega] at e
      rw [e]; omega
    have q8 : IntKind.i64.wrap (b : Int) = (b : Int) := i64_in _ (by have := HB.out; omega)
    have q9 : IntKind.i64.wrap ((b : Int) + 8) = (d : Int) := by have := HB.out; rw [show (b : Int) + 8 = (d : Int) by omega]; exact i64_in _ (by omega)
    go_wp2_with fail
    go_ret
    exact ⟨rfl, HU8.out.trans (Upd.alloc _ _ _) (fun _ h _ => h)⟩
theorem chipMemory_below (w : World) (n : Nat) (hn : n < 4294967296) (how again at_ : Int) : Calls Try.prog 7 #[.int .u32 (n : Int), .int .i64 how, .int .i64 again, .int .i64 at_] w fun e w' => e = .returned (.bool true) ∧ Below w.heap.size w w' := (chipMemory_walk w n hn how again at_).mono fun _ _ h => ⟨h.1, h.2.below (Nat.le_refl _) (fun _ h => h.elim)⟩
end Go.Proofs.Ytibmgmgkaacibaa

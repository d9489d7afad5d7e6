/- Stage 16: ChipConds. -/
import Derived.Test.YtibmgmgkaacibaaEGk
namespace Go.Proofs.Ytibmgmgkaacibaa
open Go.RowKit Go.ChangeShapes Go.WideShapes Go.Deep Go.IntWalk
set_option linter.unusedVariables false
set_option linter.unusedSimpArgs false
theorem coTab (a b c : Nat) (hc : c < 14) (h6 : c ≠ 6) (h7 : c ≠ 7) (A B D : Int) (h) : ([Value.bool ((a : Int) == (b : Int)), Value.bool ((a : Int) != (b : Int)), Value.bool (decide (b ≤ a)), Value.bool (decide (a < b)), Value.bool (decide (D < 0)), Value.bool (decide (0 ≤ D)), Value.bool false, Value.bool false, Value.bool (decide (b < a)), Value.bool (decide (a ≤ b)), Value.bool (decide (B ≤ A)), Value.bool (decide (A < B)), Value.bool (decide (B < A)), Value.bool (decide (A ≤ B))] : List Value)[c]'h = .bool (coW a b A B D c) := by
  have e0 : ((a : Int) == (b : Int)) = decide (a = b) := by rw [Bool.eq_iff_iff]; simp only [beq_iff_eq, decide_eq_true_eq]; omega
  have e1 : ((a : Int) != (b : Int)) = decide (a ≠ b) := by rw [Bool.eq_iff_iff]; simp only [bne_iff_ne, ne_eq, decide_eq_true_eq]; omega
  rcases (by omega : c = 0 ∨ c = 1 ∨ c = 2 ∨ c = 3 ∨ c = 4 ∨ c = 5 ∨ c = 8 ∨ c = 9 ∨ c = 10 ∨ c = 11 ∨ c = 12 ∨ c = 13) with rfl | rfl | rfl | rfl | rfl | rfl | rfl | rfl | rfl | rfl | rfl | rfl
  · exact congrArg Value.bool e0
  · exact congrArg Value.bool e1
  all_goals rfl
set_option maxRecDepth 20000 in
set_option maxHeartbeats 2000000 in
theorem chipConds_walk (w : World) (a b : Nat) (ha : a < 4294967296) (hb : b < 4294967296) (cond : Int) (sum : Bool) : Calls Try.prog 4 #[.int .u32 (a : Int), .int .u32 (b : Int), .int .i64 cond, .bool sum] w fun e w' => e = .returned (.bool true) ∧ Upd (fun _ => False) w w' := by
  obtain ⟨c, hcc⟩ : ∃ c : Nat, cond % 14 = (c : Int) := ⟨(cond % 14).toNat, by omega⟩
  have hc14 : c < 14 := by omega
  have HC := Lib.hid hcc
  clear hcc
  have QB : ∀ (w : World) (x y : Bool), (binOp .eql 4 (.bool x) (.bool y)).run Try.prog w = .ok (.bool (x == y)) w := fun _ _ _ => by kernel_rfl
  cases sum
  · skip
    have hL := isL_lit w (coL false c) 36 #[.int .i64 22, .int .i64 0, .int .i64 0, .int .i64 1, .int .i64 0, .int .i64 0, .int .i64 41, .int .i64 0, .int .i64 0, .int .i64 0, .int .i64 8, .int .i64 (c : Int)] 2 rfl rfl (by omega)
    have HLD := Lib.hid (lLoad _ w.heap.size 2 (coL false c) hL (by simp) (coOk false c hc14) (show 2 ≤ 100 by decide) 0 rfl (by omega))
    have HAL := Lib.hid (Upd.alloc (fun _ => False) w (.cells #[.int .i64 22, .int .i64 0, .int .i64 0, .int .i64 1, .int .i64 0, .int .i64 0, .int .i64 41, .int .i64 0, .int .i64 0, .int .i64 0, .int .i64 8, .int .i64 (c : Int)] 36))
    have HG0 := Lib.hid (show w.heap.size ≤ (w.alloc (.cells #[.int .i64 22, .int .i64 0, .int .i64 0, .int .i64 1, .int .i64 0, .int .i64 0, .int .i64 41, .int .i64 0, .int .i64 0, .int .i64 0, .int .i64 8, .int .i64 (c : Int)] 36)).heap.size by simp)
    clear hL
    go_enter Try.func4, Try.ntmps4
    go_wp2_with fail
    refine (hPick _ 14 w (by decide) (by decide)).mono ?_
    rintro e w' ⟨rfl, rfl⟩
    rw [HC.out]
    go_wp2_with fail
    refine HLD.out.mono ?_
    rintro e w1 ⟨rfl, hm, hu⟩
    have HM1 := Lib.hid hm
    have HU1 := Lib.hid (HAL.out.trans hu (fun _ h _ => h))
    generalize (w.alloc (.cells #[.int .i64 22, .int .i64 0, .int .i64 0, .int .i64 1, .int .i64 0, .int .i64 0, .int .i64 41, .int .i64 0, .int .i64 0, .int .i64 0, .int .i64 8, .int .i64 (c : Int)] 36)).heap.size = g at *
    generalize g + 1 = bm at *
    clear hm hu HLD HAL
    go_wp2_with fail
    refine (cNew _).mono ?_
    rintro e w2 ⟨rfl, hc, hu⟩
    have HM2 := Lib.hid (HM1.out.upd hu (fun h => h) (fun h => h))
    have HU2 := Lib.hid (HU1.out.trans hu (fun _ h _ => h))
    have HC2 := Lib.hid hc
    have HN1 := Lib.hid (show w1.heap.size ≠ bm by have := HM1.out.lt; omega)
    have HN2 := Lib.hid (show w1.heap.size ≠ g by have := HM1.out.lt; omega)
    have HCB := Lib.hid HU1.out.size
    generalize w1.heap.size = cb at *
    clear hc hu HM1 HU1
    go_wp2_with fail
    refine (tNew _).mono ?_
    rintro e w3 ⟨tb, rfl, ht, hu⟩
    have HU3 := Lib.hid (HU2.out.trans hu (fun _ h _ => h))
    have HM3 := Lib.hid (HM2.out.upd hu (fun h => h) (fun h => h))
    have HC3 := Lib.hid (HC2.out.upd hu (fun h => h))
    have HT3 := Lib.hid ht
    have HFR := Lib.hid (fun k (hk : ESince w2 w3 k) => (show k < w3.heap.size ∧ k ≠ cb ∧ k ≠ bm ∧ k ≠ g ∧ w.heap.size ≤ k from ⟨hk.2, by have := HC2.out.lt; have := HM2.out.lt; have := hk.1; have := HU2.out.size; omega⟩))
    obtain ⟨F, hF⟩ : ∃ F, F = ESince w2 w3 := ⟨_, rfl⟩
    rw [← hF] at HT3 HFR
    clear ht hu HM2 HU2 HC2 hF
    go_wp2_with fail
    refine (known16 _).mono ?_
    rintro e w4 ⟨rfl, hu⟩
    have HM4 := Lib.hid (HM3.out.upd hu (fun h => h) (fun h => h))
    have HU4 := Lib.hid (HU3.out.trans hu (fun _ h _ => h))
    have HC4 := Lib.hid (HC3.out.upd hu (fun h => h))
    have HT4 := Lib.hid (HT3.out.upd hu (fun _ _ h => h))
    have HSZ4 := Lib.hid hu.size
    clear hu HM3 HU3 HC3 HT3
    have c0 := HC4.out.c0
    have c1 := HC4.out.c1
    have f0 := HC4.out.fz 0
    have f1 := HC4.out.fz 1
    have HC5 := Lib.hid ((HC4.out.setR 0 (by decide) a ha).setR 1 (by decide) b hb)
    have HU5 := Lib.hid ((Sp.setU w4 cb 0 (.int .u32 (a : Int))).putU 1 (.int .u32 (b : Int)))
    go_wp2_with fail
    have HW5 : Hid (Wd ((w4.setCell ⟨cb, 0, none⟩ (.int .u32 (a : Int))).setCell ⟨cb, 1, none⟩ (.int .u32 (b : Int))) cb bm g (.pointer (some ⟨tb, 0, none⟩)) F (coS false c a b)) := Lib.hid ⟨HC5.out, HM4.out.upd HU5.out (fun e => HN1.out e.symm) (fun e => HN2.out e.symm), ⟨tb, rfl, HT4.out.upd HU5.out (fun k hk e => (HFR.out k hk).2.1 e)⟩, fun k hk => ⟨Nat.lt_of_lt_of_le (HFR.out k hk).1 (Nat.le_trans HSZ4.out HU5.out.size), (HFR.out k hk).2.1, (HFR.out k hk).2.2.1, (HFR.out k hk).2.2.2.1⟩, HN1.out, HN2.out⟩
    have HUW : Hid (Upd (fun _ => False) w ((w4.setCell ⟨cb, 0, none⟩ (.int .u32 (a : Int))).setCell ⟨cb, 1, none⟩ (.int .u32 (b : Int)))) := Lib.hid (HU4.out.trans HU5.out (fun k hk hl => by have := HCB.out; omega))
    generalize ((w4.setCell ⟨cb, 0, none⟩ (.int .u32 (a : Int))).setCell ⟨cb, 1, none⟩ (.int .u32 (b : Int))) = w5 at *
    have HFW : Hid (∀ k, F k → w.heap.size ≤ k) := Lib.hid (fun k hk => (HFR.out k hk).2.2.2.2)
    clear HC5 HU5 HM4 HU4 HC4 HT4 HFR c0 c1 f0 f1 HSZ4
    refine (cRun HW5.out 2 (by decide) ⟨(by show (0 : Int) ≤ 0; decide), (by show (0 : Int) + 1000 * ((2 + 1 : Nat) : Int) ≤ 1099511627776; decide), fun l hl => by simp [coS] at hl; subst hl; simp⟩).mono ?_
    rintro e w6 ⟨rfl, F6, hF6, hd, hu⟩
    have HU6 : Hid (Upd (fun _ => False) w w6) := Lib.hid (HUW.out.trans hu (fun k hk hl => by
      have := HCB.out
      have := HG0.out
      rcases hk with e | e | e
      · omega
      · omega
      · have := HFW.out k e; omega))
    obtain ⟨q, q1, q2, q3, q4, q5⟩ := co_run false c a b _ _ _ hc14 rfl rfl rfl
    have c15 := hd.cp.c15
    rw [q5] at c15
    simp only [cond_false] at q1 q2 q3 q4
    have HH : Hid (c ≠ 6 → c ≠ 7 → holdsP q c = coW a b (wrap32 (a : Int)) (wrap32 (b : Int)) (wrap32 (((a : Int) - b) % 4294967296)) c) := Lib.hid (fun h6 h7 => co_holds q a b c ha hb hc14 h6 h7 _ _ rfl rfl q1 q2 q3 q4)
    clear hd hu hF6 HUW HFW HW5 q1 q2 q3 q4 q5
    have HW := Lib.hid ((IntKind.wrap_u32 ((a : Int) - b)))
    have e11 : (0 : Int) ≤ (c : Int) := by omega
    cases hh : holdsP q c
    · rw [hh] at c15 HH
      simp only [cond_false] at c15
      clear hh
      have HK : Hid (c ≠ 6 → c ≠ 7 → ∀ h, ([Value.bool ((a : Int) == (b : Int)), Value.bool ((a : Int) != (b : Int)), Value.bool (decide (b ≤ a)), Value.bool (decide (a < b)), Value.bool (decide (wrap32 (((a : Int) - (b : Int)) % 4294967296) < 0)), Value.bool (decide (0 ≤ wrap32 (((a : Int) - (b : Int)) % 4294967296))), Value.bool false, Value.bool false, Value.bool (decide (b < a)), Value.bool (decide (a ≤ b)), Value.bool (decide (wrap32 (b : Int) ≤ wrap32 (a : Int))), Value.bool (decide (wrap32 (a : Int) < wrap32 (b : Int))), Value.bool (decide (wrap32 (b : Int) < wrap32 (a : Int))), Value.bool (decide (wrap32 (a : Int) ≤ wrap32 (b : Int)))] : List Value)[c]'h = .bool false) := Lib.hid (fun h6 h7 h => by
        have e := coTab a b c hc14 h6 h7 (wrap32 (a : Int)) (wrap32 (b : Int)) (wrap32 (((a : Int) - (b : Int)) % 4294967296)) h
        rw [← HH.out h6 h7] at e
        exact e)
      go_wp2_with fail
      · go_ret
        exact ⟨rfl, HU6.out.trans (Upd.alloc _ _ _) (fun _ h _ => h)⟩
      · go_ret
        exact ⟨rfl, HU6.out.trans (Upd.alloc _ _ _) (fun _ h _ => h)⟩
      · rename_i h6 h7 _
        rw [HK.out (by omega) (by omega), QB]
        go_wp2_with fail
        go_ret
        exact ⟨rfl, HU6.out.trans (Upd.alloc _ _ _) (fun _ h _ => h)⟩
    · rw [hh] at c15 HH
      simp only [cond_true] at c15
      clear hh
      have HK : Hid (c ≠ 6 → c ≠ 7 → ∀ h, ([Value.bool ((a : Int) == (b : Int)), Value.bool ((a : Int) != (b : Int)), Value.bool (decide (b ≤ a)), Value.bool (decide (a < b)), Value.bool (decide (wrap32 (((a : Int) - (b : Int)) % 4294967296) < 0)), Value.bool (decide (0 ≤ wrap32 (((a : Int) - (b : Int)) % 4294967296))), Value.bool false, Value.bool false, Value.bool (decide (b < a)), Value.bool (decide (a ≤ b)), Value.bool (decide (wrap32 (b : Int) ≤ wrap32 (a : Int))), Value.bool (decide (wrap32 (a : Int) < wrap32 (b : Int))), Value.bool (decide (wrap32 (b : Int) < wrap32 (a : Int))), Value.bool (decide (wrap32 (a : Int) ≤ wrap32 (b : Int)))] : List Value)[c]'h = .bool true) := Lib.hid (fun h6 h7 h => by
        have e := coTab a b c hc14 h6 h7 (wrap32 (a : Int)) (wrap32 (b : Int)) (wrap32 (((a : Int) - (b : Int)) % 4294967296)) h
        rw [← HH.out h6 h7] at e
        exact e)
      go_wp2_with fail
      · go_ret
        exact ⟨rfl, HU6.out.trans (Upd.alloc _ _ _) (fun _ h _ => h)⟩
      · go_ret
        exact ⟨rfl, HU6.out.trans (Upd.alloc _ _ _) (fun _ h _ => h)⟩
      · rename_i h6 h7 _
        rw [HK.out (by omega) (by omega), QB]
        go_wp2_with fail
        go_ret
        exact ⟨rfl, HU6.out.trans (Upd.alloc _ _ _) (fun _ h _ => h)⟩
  · skip
    have hL := isL_lit w (coL true c) 36 #[.int .i64 23, .int .i64 0, .int .i64 0, .int .i64 1, .int .i64 0, .int .i64 0, .int .i64 41, .int .i64 0, .int .i64 0, .int .i64 0, .int .i64 8, .int .i64 (c : Int)] 2 rfl rfl (by omega)
    have HLD := Lib.hid (lLoad _ w.heap.size 2 (coL true c) hL (by simp) (coOk true c hc14) (show 2 ≤ 100 by decide) 0 rfl (by omega))
    have HAL := Lib.hid (Upd.alloc (fun _ => False) w (.cells #[.int .i64 23, .int .i64 0, .int .i64 0, .int .i64 1, .int .i64 0, .int .i64 0, .int .i64 41, .int .i64 0, .int .i64 0, .int .i64 0, .int .i64 8, .int .i64 (c : Int)] 36))
    have HG0 := Lib.hid (show w.heap.size ≤ (w.alloc (.cells #[.int .i64 23, .int .i64 0, .int .i64 0, .int .i64 1, .int .i64 0, .int .i64 0, .int .i64 41, .int .i64 0, .int .i64 0, .int .i64 0, .int .i64 8, .int .i64 (c : Int)] 36)).heap.size by simp)
    clear hL
    go_enter Try.func4, Try.ntmps4
    go_wp2_with fail
    refine (hPick _ 14 w (by decide) (by decide)).mono ?_
    rintro e w' ⟨rfl, rfl⟩
    rw [HC.out]
    go_wp2_with fail
    refine HLD.out.mono ?_
    rintro e w1 ⟨rfl, hm, hu⟩
    have HM1 := Lib.hid hm
    have HU1 := Lib.hid (HAL.out.trans hu (fun _ h _ => h))
    generalize (w.alloc (.cells #[.int .i64 23, .int .i64 0, .int .i64 0, .int .i64 1, .int .i64 0, .int .i64 0, .int .i64 41, .int .i64 0, .int .i64 0, .int .i64 0, .int .i64 8, .int .i64 (c : Int)] 36)).heap.size = g at *
    generalize g + 1 = bm at *
    clear hm hu HLD HAL
    go_wp2_with fail
    refine (cNew _).mono ?_
    rintro e w2 ⟨rfl, hc, hu⟩
    have HM2 := Lib.hid (HM1.out.upd hu (fun h => h) (fun h => h))
    have HU2 := Lib.hid (HU1.out.trans hu (fun _ h _ => h))
    have HC2 := Lib.hid hc
    have HN1 := Lib.hid (show w1.heap.size ≠ bm by have := HM1.out.lt; omega)
    have HN2 := Lib.hid (show w1.heap.size ≠ g by have := HM1.out.lt; omega)
    have HCB := Lib.hid HU1.out.size
    generalize w1.heap.size = cb at *
    clear hc hu HM1 HU1
    go_wp2_with fail
    refine (tNew _).mono ?_
    rintro e w3 ⟨tb, rfl, ht, hu⟩
    have HU3 := Lib.hid (HU2.out.trans hu (fun _ h _ => h))
    have HM3 := Lib.hid (HM2.out.upd hu (fun h => h) (fun h => h))
    have HC3 := Lib.hid (HC2.out.upd hu (fun h => h))
    have HT3 := Lib.hid ht
    have HFR := Lib.hid (fun k (hk : ESince w2 w3 k) => (show k < w3.heap.size ∧ k ≠ cb ∧ k ≠ bm ∧ k ≠ g ∧ w.heap.size ≤ k from ⟨hk.2, by have := HC2.out.lt; have := HM2.out.lt; have := hk.1; have := HU2.out.size; omega⟩))
    obtain ⟨F, hF⟩ : ∃ F, F = ESince w2 w3 := ⟨_, rfl⟩
    rw [← hF] at HT3 HFR
    clear ht hu HM2 HU2 HC2 hF
    go_wp2_with fail
    refine (known16 _).mono ?_
    rintro e w4 ⟨rfl, hu⟩
    have HM4 := Lib.hid (HM3.out.upd hu (fun h => h) (fun h => h))
    have HU4 := Lib.hid (HU3.out.trans hu (fun _ h _ => h))
    have HC4 := Lib.hid (HC3.out.upd hu (fun h => h))
    have HT4 := Lib.hid (HT3.out.upd hu (fun _ _ h => h))
    have HSZ4 := Lib.hid hu.size
    clear hu HM3 HU3 HC3 HT3
    have c0 := HC4.out.c0
    have c1 := HC4.out.c1
    have f0 := HC4.out.fz 0
    have f1 := HC4.out.fz 1
    have HC5 := Lib.hid ((HC4.out.setR 0 (by decide) a ha).setR 1 (by decide) b hb)
    have HU5 := Lib.hid ((Sp.setU w4 cb 0 (.int .u32 (a : Int))).putU 1 (.int .u32 (b : Int)))
    go_wp2_with fail
    have HW5 : Hid (Wd ((w4.setCell ⟨cb, 0, none⟩ (.int .u32 (a : Int))).setCell ⟨cb, 1, none⟩ (.int .u32 (b : Int))) cb bm g (.pointer (some ⟨tb, 0, none⟩)) F (coS true c a b)) := Lib.hid ⟨HC5.out, HM4.out.upd HU5.out (fun e => HN1.out e.symm) (fun e => HN2.out e.symm), ⟨tb, rfl, HT4.out.upd HU5.out (fun k hk e => (HFR.out k hk).2.1 e)⟩, fun k hk => ⟨Nat.lt_of_lt_of_le (HFR.out k hk).1 (Nat.le_trans HSZ4.out HU5.out.size), (HFR.out k hk).2.1, (HFR.out k hk).2.2.1, (HFR.out k hk).2.2.2.1⟩, HN1.out, HN2.out⟩
    have HUW : Hid (Upd (fun _ => False) w ((w4.setCell ⟨cb, 0, none⟩ (.int .u32 (a : Int))).setCell ⟨cb, 1, none⟩ (.int .u32 (b : Int)))) := Lib.hid (HU4.out.trans HU5.out (fun k hk hl => by have := HCB.out; omega))
    generalize ((w4.setCell ⟨cb, 0, none⟩ (.int .u32 (a : Int))).setCell ⟨cb, 1, none⟩ (.int .u32 (b : Int))) = w5 at *
    have HFW : Hid (∀ k, F k → w.heap.size ≤ k) := Lib.hid (fun k hk => (HFR.out k hk).2.2.2.2)
    clear HC5 HU5 HM4 HU4 HC4 HT4 HFR c0 c1 f0 f1 HSZ4
    refine (cRun HW5.out 2 (by decide) ⟨(by show (0 : Int) ≤ 0; decide), (by show (0 : Int) + 1000 * ((2 + 1 : Nat) : Int) ≤ 1099511627776; decide), fun l hl => by simp [coS] at hl; subst hl; simp⟩).mono ?_
    rintro e w6 ⟨rfl, F6, hF6, hd, hu⟩
    have HU6 : Hid (Upd (fun _ => False) w w6) := Lib.hid (HUW.out.trans hu (fun k hk hl => by
      have := HCB.out
      have := HG0.out
      rcases hk with e | e | e
      · omega
      · omega
      · have := HFW.out k e; omega))
    obtain ⟨q, q1, q2, q3, q4, q5⟩ := co_run true c a b _ _ _ hc14 rfl rfl rfl
    have c15 := hd.cp.c15
    rw [q5] at c15
    simp only [cond_true] at q1 q2 q3 q4
    have HZ := Lib.hid q2
    clear hd hu hF6 HUW HFW HW5 q1 q2 q3 q4 q5
    have H14 : Hid (c = 0 ∨ c = 1 → holdsP q c = ((((a : Int) + b) % 4294967296 == 0) == ((c : Int) == 0))) := Lib.hid (fun hcc => by
      have hz := HZ.out
      have e0 : (sumN a b 0 == 0) = (((a : Int) + b) % 4294967296 == 0) := by
        unfold sumN
        rw [Bool.eq_iff_iff]
        simp only [beq_iff_eq]
        omega
      rw [e0] at hz
      rcases hcc with rfl | rfl
      · show (q.zf != false) = _
        rw [hz]
        generalize (((a : Int) + b) % 4294967296 == 0) = s
        cases s <;> rfl
      · show (q.zf != true) = _
        rw [hz]
        generalize (((a : Int) + b) % 4294967296 == 0) = s
        cases s <;> rfl)
    clear HZ
    cases hh : holdsP q c
    · rw [hh] at c15 H14
      simp only [cond_false] at c15
      clear hh
      go_wp2_with fail
      · rename_i h0
        have e := H14.out (.inl h0)
        rw [h0] at e
        go_ret
        generalize (((a : Int) + b) % 4294967296 == 0) = z at *
        cases z
        · first | exact ⟨rfl, HU6.out⟩ | exact absurd e (by decide)
        · first | exact ⟨rfl, HU6.out⟩ | exact absurd e (by decide)
      · rename_i h0 h1
        have h0' : ((c : Int) == 0) = false := by rw [beq_eq_false_iff_ne]; omega
        have hc1 : c = 1 := by
          rcases h1 with h1 | h1
          · rw [h0'] at h1; simp at h1
          · rw [beq_iff_eq] at h1; omega
        have e := H14.out (.inr hc1)
        rw [h0'] at e
        go_ret
        try rw [h0']
        generalize (((a : Int) + b) % 4294967296 == 0) = z at *
        cases z
        · first | exact ⟨rfl, HU6.out⟩ | exact absurd e (by decide)
        · first | exact ⟨rfl, HU6.out⟩ | exact absurd e (by decide)
      · go_ret
        exact ⟨rfl, HU6.out⟩
    · rw [hh] at c15 H14
      simp only [cond_true] at c15
      clear hh
      go_wp2_with fail
      · rename_i h0
        have e := H14.out (.inl h0)
        rw [h0] at e
        go_ret
        generalize (((a : Int) + b) % 4294967296 == 0) = z at *
        cases z
        · first | exact ⟨rfl, HU6.out⟩ | exact absurd e (by decide)
        · first | exact ⟨rfl, HU6.out⟩ | exact absurd e (by decide)
      · rename_i h0 h1
        have h0' : ((c : Int) == 0) = false := by rw [beq_eq_false_iff_ne]; omega
        have hc1 : c = 1 := by
          rcases h1 with h1 | h1
          · rw [h0'] at h1; simp at h1
          · rw [beq_iff_eq] at h1; omega
        have e := H14.out (.inr hc1)
        rw [h0'] at e
        go_ret
        try rw [h0']
        generalize (((a : Int) + b) % 4294967296 == 0) = z at *
        cases z
        · first | exact ⟨rfl, HU6.out⟩ | exact absurd e (by decide)
        · first | exact ⟨rfl, HU6.out⟩ | exact absurd e (by decide)
      · go_ret
        exact ⟨rfl, HU6.out⟩
theorem chipConds_below (w : World) (a b : Nat) (ha : a < 4294967296) (hb : b < 4294967296) (cond : Int) (sum : Bool) : Calls Try.prog 4 #[.int .u32 (a : Int), .int .u32 (b : Int), .int .i64 cond, .bool sum] w fun e w' => e = .returned (.bool true) ∧ Below w.heap.size w w' := (chipConds_walk w a b ha hb cond sum).mono fun _ _ h => ⟨h.1, h.2.below (Nat.le_refl _) (fun _ h => h.elim)⟩
end Go.Proofs.Ytibmgmgkaacibaa

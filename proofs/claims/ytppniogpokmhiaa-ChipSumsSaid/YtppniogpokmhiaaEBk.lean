/- Stage 16: sums of two words. -/
import Derived.Test.YtppniogpokmhiaaEAk
namespace Go.Proofs.Ytppniogpokmhiaa
open Go.RowKit Go.ChangeShapes Go.WideShapes Go.Deep Go.IntWalk
set_option linter.unusedVariables false
set_option linter.unusedSimpArgs false
theorem runW_go {s : Ws} (h : s.x.st = 0) (n : Nat) : runW (n + 1) s = runW n (stepW s) := by
  have hb : (s.x.st == 0) = true := by simpa using h
  show (bif s.x.st == 0 then runW n (stepW s) else s) = _
  rw [hb]; rfl
theorem runW_stop {s : Ws} (h : s.x.st ≠ 0) : ∀ n, runW n s = s
  | 0 => rfl
  | n + 1 => by
    have hb : (s.x.st == 0) = false := by simpa using h
    show (bif s.x.st == 0 then runW n (stepW s) else s) = _
    rw [hb]; rfl
/-- one step that is no Fault, by what is done -/
theorem step_go {s : Ws} (h : s.x.st = 0) {i : I6} (hi : readI s.M (s.x.R 15) = i) (hr : readB s.M (s.x.R 15) = true) (h2 : (doOf i s.x s.M).x.st ≠ 2) :
    (stepW s).x.st = (doOf i s.x s.M).x.st ∧ (stepW s).x.R = (doOf i s.x s.M).x.R ∧ (stepW s).x.cf = (doOf i s.x s.M).x.cf ∧ (stepW s).M = (doOf i s.x s.M).M ∧ (stepW s).x.nf = (doOf i s.x s.M).x.nf ∧ (stepW s).x.zf = (doOf i s.x s.M).x.zf ∧ (stepW s).x.vf = (doOf i s.x s.M).x.vf ∧ (stepW s).x.num = (doOf i s.x s.M).x.num ∧ (stepW s).x.cyc = s.x.cyc + (doOf i s.x s.M).c ∧ (stepW s).L = s.L.map (· ++ [evS (s.x.R 15) (doOf i s.x s.M).t (doOf i s.x s.M).c]) := by
  have e := stepW_run h hr (by rw [hi] : doOf (readI s.M (s.x.R 15)) s.x s.M = doOf i s.x s.M)
  rw [e, stepQ_go s _ h2]
  exact ⟨rfl, rfl, rfl, rfl, rfl, rfl, rfl, rfl, rfl, rfl⟩
def suL (sub : Bool) : List I6 := [⟨bif sub then 5 else 4, 4, 0, 2, 0, 0⟩, ⟨bif sub then 18 else 17, 1, 0, 3, 0, 0⟩, ⟨44, 0, 0, 0, 1, 0⟩]
def suM (sub : Bool) : Nat → Nat := loadM (fun _ => 0) 0 (encL (suL sub))
theorem suR (sub : Bool) : readI (suM sub) 0 = ⟨bif sub then 5 else 4, 4, 0, 2, 0, 0⟩ ∧ readB (suM sub) 0 = true ∧ readI (suM sub) 2 = ⟨bif sub then 18 else 17, 1, 0, 3, 0, 0⟩ ∧ readB (suM sub) 2 = true ∧ readI (suM sub) 4 = ⟨44, 0, 0, 0, 1, 0⟩ ∧ readB (suM sub) 4 = true := by
  cases sub <;> decide +kernel
theorem su_first (sub : Bool) (x : Ch) (M : Nat → Nat) : (doOf ⟨bif sub then 5 else 4, 4, 0, 2, 0, 0⟩ x M).x.st = x.st ∧ (doOf ⟨bif sub then 5 else 4, 4, 0, 2, 0, 0⟩ x M).x.R 15 = (x.R 15 + 2) % 4294967296 ∧ (doOf ⟨bif sub then 5 else 4, 4, 0, 2, 0, 0⟩ x M).x.R 4 = (bif sub then sumN (x.R 0) (4294967295 - x.R 2) 1 else sumN (x.R 0) (x.R 2) 0) ∧ (doOf ⟨bif sub then 5 else 4, 4, 0, 2, 0, 0⟩ x M).x.R 1 = x.R 1 ∧ (doOf ⟨bif sub then 5 else 4, 4, 0, 2, 0, 0⟩ x M).x.R 3 = x.R 3 ∧ (doOf ⟨bif sub then 5 else 4, 4, 0, 2, 0, 0⟩ x M).x.cf = (bif sub then sumC (x.R 0) (4294967295 - x.R 2) 1 else sumC (x.R 0) (x.R 2) 0) ∧ (doOf ⟨bif sub then 5 else 4, 4, 0, 2, 0, 0⟩ x M).M = M := by
  cases sub <;> exact ⟨rfl, rfl, rfl, rfl, rfl, rfl, rfl⟩
theorem su_second (sub : Bool) (x : Ch) (M : Nat → Nat) : (doOf ⟨bif sub then 18 else 17, 1, 0, 3, 0, 0⟩ x M).x.st = x.st ∧ (doOf ⟨bif sub then 18 else 17, 1, 0, 3, 0, 0⟩ x M).x.R 15 = (x.R 15 + 2) % 4294967296 ∧ (doOf ⟨bif sub then 18 else 17, 1, 0, 3, 0, 0⟩ x M).x.R 4 = x.R 4 ∧ (doOf ⟨bif sub then 18 else 17, 1, 0, 3, 0, 0⟩ x M).x.R 1 = (bif sub then sumN (x.R 1) (4294967295 - x.R 3) x.cf.toNat else sumN (x.R 1) (x.R 3) x.cf.toNat) ∧ (doOf ⟨bif sub then 18 else 17, 1, 0, 3, 0, 0⟩ x M).M = M := by
  cases sub <;> exact ⟨rfl, rfl, rfl, rfl, rfl⟩
theorem su_svc (n : Int) (x : Ch) (M : Nat → Nat) : (doOf ⟨44, 0, 0, 0, n, 0⟩ x M).x.st = 1 ∧ (doOf ⟨44, 0, 0, 0, n, 0⟩ x M).x.R 4 = x.R 4 ∧ (doOf ⟨44, 0, 0, 0, n, 0⟩ x M).x.R 1 = x.R 1 := ⟨by kernel_rfl, by kernel_rfl, by kernel_rfl⟩
def suX (a0 a1 b0 b1 : Nat) : Ch := (((Ch.zero.withR 0 a0).withR 1 a1).withR 2 b0).withR 3 b1
def suS (sub : Bool) (a0 a1 b0 b1 : Nat) : Ws := ⟨suX a0 a1 b0 b1, suM sub, none⟩
theorem su_run (sub : Bool) (a0 a1 b0 b1 : Nat) : (runW 9 (suS sub a0 a1 b0 b1)).x.st = 1 ∧ (runW 9 (suS sub a0 a1 b0 b1)).x.R 4 = (bif sub then sumN a0 (4294967295 - b0) 1 else sumN a0 b0 0) ∧ (runW 9 (suS sub a0 a1 b0 b1)).x.R 1 = (bif sub then sumN a1 (4294967295 - b1) (sumC a0 (4294967295 - b0) 1).toNat else sumN a1 b1 (sumC a0 b0 0).toNat) := by
  obtain ⟨r1, r2, r3, r4, r5, r6⟩ := suR sub
  obtain ⟨s0, hs0⟩ : ∃ s0, suS sub a0 a1 b0 b1 = s0 := ⟨_, rfl⟩
  have x0 : s0.x.st = 0 ∧ s0.x.R 15 = 0 ∧ s0.x.R 0 = a0 ∧ s0.x.R 1 = a1 ∧ s0.x.R 2 = b0 ∧ s0.x.R 3 = b1 ∧ s0.M = suM sub := by rw [← hs0]; exact ⟨rfl, rfl, rfl, rfl, rfl, rfl, rfl⟩
  rw [hs0]
  obtain ⟨p1, p2, p3, p4, p5, p6, p7⟩ := x0
  obtain ⟨f1, f2, f3, f4, f5, f6, f7⟩ := su_first sub s0.x s0.M
  obtain ⟨g1, g2, g3, g4, -⟩ := step_go (i := ⟨bif sub then 5 else 4, 4, 0, 2, 0, 0⟩) p1 (by rw [p7, p2]; exact r1) (by rw [p7, p2]; exact r2) (by rw [f1, p1]; decide)
  rw [runW_go p1]
  generalize stepW s0 = s1 at *
  rw [f1, p1] at g1
  rw [f7, p7] at g4
  have q15 : s1.x.R 15 = 2 := by rw [g2, f2, p2]
  obtain ⟨k1, k2, k3, k4, k5⟩ := su_second sub s1.x s1.M
  obtain ⟨l1, l2, l3, l4, -⟩ := step_go (i := ⟨bif sub then 18 else 17, 1, 0, 3, 0, 0⟩) g1 (by rw [g4, q15]; exact r3) (by rw [g4, q15]; exact r4) (by rw [k1, g1]; decide)
  rw [runW_go g1]
  generalize stepW s1 = s2 at *
  rw [k1, g1] at l1
  rw [k5, g4] at l4
  have u15 : s2.x.R 15 = 4 := by rw [l2, k2, q15]
  obtain ⟨m1, m2, m3⟩ := su_svc 1 s2.x s2.M
  obtain ⟨n1, n2, -⟩ := step_go (i := ⟨44, 0, 0, 0, 1, 0⟩) l1 (by rw [l4, u15]; exact r5) (by rw [l4, u15]; exact r6) (by rw [m1]; decide)
  rw [runW_go l1]
  generalize stepW s2 = s3 at *
  rw [m1] at n1
  rw [runW_stop (by rw [n1]; decide)]
  refine ⟨n1, ?_, ?_⟩
  · rw [n2, m2, l2, k3, g2, f3, p3, p5]
  · rw [n2, m3, l2, k4, g2, f4, f5, g3, f6, p3, p5, p4, p6]; cases sub <;> rfl
theorem su_eq (sub : Bool) (a b : Nat) (ha : a < 18446744073709551616) (hb : b < 18446744073709551616) :
    ((bif sub then sumN (a % 4294967296) (4294967295 - b % 4294967296) 1 else sumN (a % 4294967296) (b % 4294967296) 0) + 4294967296 * (bif sub then sumN (a / 4294967296) (4294967295 - b / 4294967296) (sumC (a % 4294967296) (4294967295 - b % 4294967296) 1).toNat else sumN (a / 4294967296) (b / 4294967296) (sumC (a % 4294967296) (b % 4294967296) 0).toNat)) = (bif sub then (a + (18446744073709551616 - b)) % 18446744073709551616 else (a + b) % 18446744073709551616) := by
  cases sub
  · simp only [cond_false]
    by_cases h : 4294967296 ≤ a % 4294967296 + b % 4294967296 + 0
    · rw [show sumC (a % 4294967296) (b % 4294967296) 0 = true by unfold sumC; exact decide_eq_true h]
      unfold sumN; simp only [Bool.toNat_true]; omega
    · rw [show sumC (a % 4294967296) (b % 4294967296) 0 = false by unfold sumC; exact decide_eq_false h]
      unfold sumN; simp only [Bool.toNat_false]; omega
  · simp only [cond_true]
    by_cases h : 4294967296 ≤ a % 4294967296 + (4294967295 - b % 4294967296) + 1
    · rw [show sumC (a % 4294967296) (4294967295 - b % 4294967296) 1 = true by unfold sumC; exact decide_eq_true h]
      unfold sumN; simp only [Bool.toNat_true]; omega
    · rw [show sumC (a % 4294967296) (4294967295 - b % 4294967296) 1 = false by unfold sumC; exact decide_eq_false h]
      unfold sumN; simp only [Bool.toNat_false]; omega
theorem suOk (sub : Bool) : (∀ i ∈ suL sub, rightP i = true) := by cases sub <;> decide +kernel
set_option maxRecDepth 20000 in
set_option maxHeartbeats 2000000 in
theorem chipSums_walk (w : World) (a b : Nat) (ha : a < 18446744073709551616) (hb : b < 18446744073709551616) (sub : Bool) : Calls Try.prog 7 #[.int .u64 (a : Int), .int .u64 (b : Int), .bool sub] w fun e w' => e = .returned (.bool true) ∧ Upd (fun _ => False) w w' := by
  cases sub
  · have hL := isL_lit w (suL false) 25 #[.int .i64 4, .int .i64 4, .int .i64 0, .int .i64 2, .int .i64 0, .int .i64 0, .int .i64 17, .int .i64 1, .int .i64 0, .int .i64 3, .int .i64 0, .int .i64 0, .int .i64 44, .int .i64 0, .int .i64 0, .int .i64 0, .int .i64 1, .int .i64 0] 3 rfl rfl (by omega)
    have HLD := Lib.hid (lLoad _ w.heap.size 3 (suL false) hL (by simp) (suOk false) (by decide) 0 rfl (by omega))
    have HAL := Lib.hid (Upd.alloc (fun _ => False) w (.cells #[.int .i64 4, .int .i64 4, .int .i64 0, .int .i64 2, .int .i64 0, .int .i64 0, .int .i64 17, .int .i64 1, .int .i64 0, .int .i64 3, .int .i64 0, .int .i64 0, .int .i64 44, .int .i64 0, .int .i64 0, .int .i64 0, .int .i64 1, .int .i64 0] 25))
    have HG0 := Lib.hid (show w.heap.size ≤ (w.alloc (.cells #[.int .i64 4, .int .i64 4, .int .i64 0, .int .i64 2, .int .i64 0, .int .i64 0, .int .i64 17, .int .i64 1, .int .i64 0, .int .i64 3, .int .i64 0, .int .i64 0, .int .i64 44, .int .i64 0, .int .i64 0, .int .i64 0, .int .i64 1, .int .i64 0] 25)).heap.size by simp)
    have HEQ := Lib.hid (su_eq false a b ha hb)
    obtain ⟨a0, ha0⟩ : ∃ a0, a % 4294967296 = a0 := ⟨_, rfl⟩
    obtain ⟨a1, ha1⟩ : ∃ a1, a / 4294967296 = a1 := ⟨_, rfl⟩
    obtain ⟨b0, hb0⟩ : ∃ b0, b % 4294967296 = b0 := ⟨_, rfl⟩
    obtain ⟨b1, hb1⟩ : ∃ b1, b / 4294967296 = b1 := ⟨_, rfl⟩
    rw [ha0, ha1, hb0, hb1] at HEQ
    have HA0 := Lib.hid (show (a : Int) % 4294967296 = (a0 : Int) by omega)
    have HA1 := Lib.hid (show (a : Int) / 4294967296 = (a1 : Int) by omega)
    have HB0 := Lib.hid (show (b : Int) % 4294967296 = (b0 : Int) by omega)
    have HB1 := Lib.hid (show (b : Int) / 4294967296 = (b1 : Int) by omega)
    have l0 : a0 < 4294967296 := by omega
    have l1 : a1 < 4294967296 := by omega
    have l2 : b0 < 4294967296 := by omega
    have l3 : b1 < 4294967296 := by omega
    have HAB := Lib.hid (And.intro ha hb)
    clear hL ha0 ha1 hb0 hb1
    go_enter Try.func7, Try.ntmps7
    go_wp2_with fail
    refine HLD.out.mono ?_
    rintro e w1 ⟨rfl, hm, hu⟩
    have HM1 := Lib.hid hm
    have HU1 := Lib.hid (HAL.out.trans hu (fun _ h _ => h))
    generalize (w.alloc (.cells #[.int .i64 4, .int .i64 4, .int .i64 0, .int .i64 2, .int .i64 0, .int .i64 0, .int .i64 17, .int .i64 1, .int .i64 0, .int .i64 3, .int .i64 0, .int .i64 0, .int .i64 44, .int .i64 0, .int .i64 0, .int .i64 0, .int .i64 1, .int .i64 0] 25)).heap.size = g at *
    generalize g + 1 = bm at *
    clear hm hu HLD HAL
    go_wp2_with fail
    refine (cNew _).mono ?_
    rintro e w2 ⟨rfl, hc, hu⟩
    have HM2 := Lib.hid (HM1.out.upd hu (fun h => h) (fun h => h))
    have HU2 := Lib.hid (HU1.out.trans hu (fun _ h _ => h))
    have HC2 := Lib.hid hc
    have HN1 := Lib.hid (show w1.heap.size ≠ bm by have := HM1.out.lt; omega)
    have HN2 := Lib.hid (show w1.heap.size ≠ g by have := HM1.out.lt; omega)
    have HCB := Lib.hid HU1.out.size
    generalize w1.heap.size = cb at *
    clear hc hu HM1 HU1
    go_wp2_with fail
    refine (known16 _).mono ?_
    rintro e w3 ⟨rfl, hu⟩
    have HM3 := Lib.hid (HM2.out.upd hu (fun h => h) (fun h => h))
    have HU3 := Lib.hid (HU2.out.trans hu (fun _ h _ => h))
    have HC3 := Lib.hid (HC2.out.upd hu (fun h => h))
    clear hu HM2 HU2 HC2
    have c0 := HC3.out.c0
    have c1 := HC3.out.c1
    have c2 := HC3.out.c2
    have c3 := HC3.out.c3
    have f0 := HC3.out.fz 0
    have f1 := HC3.out.fz 1
    have f2 := HC3.out.fz 2
    have f3 := HC3.out.fz 3
    have HC4 := Lib.hid ((((HC3.out.setR 0 (by decide) a0 l0).setR 1 (by decide) a1 l1).setR 2 (by decide) b0 l2).setR 3 (by decide) b1 l3)
    go_wp2_with fail
    rw [HA0.out, HA1.out, HB0.out, HB1.out]
    have hup := (((Sp.setU w3 cb 0 (.int .u32 (a0 : Int))).putU 1 (.int .u32 (a1 : Int))).putU 2 (.int .u32 (b0 : Int))).putU 3 (.int .u32 (b1 : Int))
    have HW4 : Hid (Wd ((((w3.setCell ⟨cb, 0, none⟩ (.int .u32 (a0 : Int))).setCell ⟨cb, 1, none⟩ (.int .u32 (a1 : Int))).setCell ⟨cb, 2, none⟩ (.int .u32 (b0 : Int))).setCell ⟨cb, 3, none⟩ (.int .u32 (b1 : Int))) cb bm g (.pointer none) (fun _ => False) (suS false a0 a1 b0 b1)) := Lib.hid ⟨HC4.out, HM3.out.upd hup (fun e => HN1.out e.symm) (fun e => HN2.out e.symm), rfl, fun k hk => hk.elim, HN1.out, HN2.out⟩
    have HU4 : Hid (Upd (fun _ => False) w ((((w3.setCell ⟨cb, 0, none⟩ (.int .u32 (a0 : Int))).setCell ⟨cb, 1, none⟩ (.int .u32 (a1 : Int))).setCell ⟨cb, 2, none⟩ (.int .u32 (b0 : Int))).setCell ⟨cb, 3, none⟩ (.int .u32 (b1 : Int)))) := Lib.hid (HU3.out.trans hup (fun k hk hl => by have := HCB.out; omega))
    generalize ((((w3.setCell ⟨cb, 0, none⟩ (.int .u32 (a0 : Int))).setCell ⟨cb, 1, none⟩ (.int .u32 (a1 : Int))).setCell ⟨cb, 2, none⟩ (.int .u32 (b0 : Int))).setCell ⟨cb, 3, none⟩ (.int .u32 (b1 : Int))) = w4 at *
    clear hup c0 c1 c2 c3 f0 f1 f2 f3 HC4
    refine (cRun HW4.out 9 (by decide) ⟨(by show (0 : Int) ≤ 0; decide), (by show (0 : Int) + 1000 * ((9 + 1 : Nat) : Int) ≤ 1099511627776; decide), fun l hl => by simp [suS] at hl⟩).mono ?_
    rintro e w5 ⟨rfl, F5, hF5, hd, hu⟩
    have HU5 : Hid (Upd (fun _ => False) w w5) := Lib.hid (HU4.out.trans hu (fun k hk hl => by
      have := HCB.out
      have := HG0.out
      rcases hk with e | e | e
      · omega
      · omega
      · exact e.elim))
    obtain ⟨k1, k2, k3⟩ := su_run false a0 a1 b0 b1
    have c4 := hd.cp.c4
    have c1 := hd.cp.c1
    rw [k2] at c4
    rw [k3] at c1
    rw [k1]
    have hq4 := hd.cp.ok 4
    have hq1 := hd.cp.ok 1
    rw [k2] at hq4
    rw [k3] at hq1
    simp only [cond_false] at c4 c1 hq4 hq1
    have HEQ2 := HEQ
    simp only [cond_false] at HEQ2
    generalize sumN a0 b0 0 = r4 at *
    generalize sumN a1 b1 (sumC a0 b0 0).toNat = r1 at *
    have HEQ3 := Lib.hid HEQ2.out
    clear k1 k2 k3 hd hu hF5 HEQ HEQ2 HW4
    go_wp2_with fail
    go_quiet (fail)
    go_wp2_with fail
    go_ret
    have e1 : ((r4 : Int) + (r1 : Int) * 4294967296 == IntKind.u64.wrap ((a : Int) + (b : Int))) = true := by
      rw [IntKind.wrap_u64, beq_iff_eq]
      have := HEQ3.out
      omega
    rw [e1]
    exact ⟨rfl, HU5.out.trans (drewN_upd _ _) (fun _ h _ => h)⟩
  · have hL := isL_lit w (suL true) 25 #[.int .i64 5, .int .i64 4, .int .i64 0, .int .i64 2, .int .i64 0, .int .i64 0, .int .i64 18, .int .i64 1, .int .i64 0, .int .i64 3, .int .i64 0, .int .i64 0, .int .i64 44, .int .i64 0, .int .i64 0, .int .i64 0, .int .i64 1, .int .i64 0] 3 rfl rfl (by omega)
    have HLD := Lib.hid (lLoad _ w.heap.size 3 (suL true) hL (by simp) (suOk true) (by decide) 0 rfl (by omega))
    have HAL := Lib.hid (Upd.alloc (fun _ => False) w (.cells #[.int .i64 5, .int .i64 4, .int .i64 0, .int .i64 2, .int .i64 0, .int .i64 0, .int .i64 18, .int .i64 1, .int .i64 0, .int .i64 3, .int .i64 0, .int .i64 0, .int .i64 44, .int .i64 0, .int .i64 0, .int .i64 0, .int .i64 1, .int .i64 0] 25))
    have HG0 := Lib.hid (show w.heap.size ≤ (w.alloc (.cells #[.int .i64 5, .int .i64 4, .int .i64 0, .int .i64 2, .int .i64 0, .int .i64 0, .int .i64 18, .int .i64 1, .int .i64 0, .int .i64 3, .int .i64 0, .int .i64 0, .int .i64 44, .int .i64 0, .int .i64 0, .int .i64 0, .int .i64 1, .int .i64 0] 25)).heap.size by simp)
    have HEQ := Lib.hid (su_eq true a b ha hb)
    obtain ⟨a0, ha0⟩ : ∃ a0, a % 4294967296 = a0 := ⟨_, rfl⟩
    obtain ⟨a1, ha1⟩ : ∃ a1, a / 4294967296 = a1 := ⟨_, rfl⟩
    obtain ⟨b0, hb0⟩ : ∃ b0, b % 4294967296 = b0 := ⟨_, rfl⟩
    obtain ⟨b1, hb1⟩ : ∃ b1, b / 4294967296 = b1 := ⟨_, rfl⟩
    rw [ha0, ha1, hb0, hb1] at HEQ
    have HA0 := Lib.hid (show (a : Int) % 4294967296 = (a0 : Int) by omega)
    have HA1 := Lib.hid (show (a : Int) / 4294967296 = (a1 : Int) by omega)
    have HB0 := Lib.hid (show (b : Int) % 4294967296 = (b0 : Int) by omega)
    have HB1 := Lib.hid (show (b : Int) / 4294967296 = (b1 : Int) by omega)
    have l0 : a0 < 4294967296 := by omega
    have l1 : a1 < 4294967296 := by omega
    have l2 : b0 < 4294967296 := by omega
    have l3 : b1 < 4294967296 := by omega
    have HAB := Lib.hid (And.intro ha hb)
    clear hL ha0 ha1 hb0 hb1
    go_enter Try.func7, Try.ntmps7
    go_wp2_with fail
    refine HLD.out.mono ?_
    rintro e w1 ⟨rfl, hm, hu⟩
    have HM1 := Lib.hid hm
    have HU1 := Lib.hid (HAL.out.trans hu (fun _ h _ => h))
    generalize (w.alloc (.cells #[.int .i64 5, .int .i64 4, .int .i64 0, .int .i64 2, .int .i64 0, .int .i64 0, .int .i64 18, .int .i64 1, .int .i64 0, .int .i64 3, .int .i64 0, .int .i64 0, .int .i64 44, .int .i64 0, .int .i64 0, .int .i64 0, .int .i64 1, .int .i64 0] 25)).heap.size = g at *
    generalize g + 1 = bm at *
    clear hm hu HLD HAL
    go_wp2_with fail
    refine (cNew _).mono ?_
    rintro e w2 ⟨rfl, hc, hu⟩
    have HM2 := Lib.hid (HM1.out.upd hu (fun h => h) (fun h => h))
    have HU2 := Lib.hid (HU1.out.trans hu (fun _ h _ => h))
    have HC2 := Lib.hid hc
    have HN1 := Lib.hid (show w1.heap.size ≠ bm by have := HM1.out.lt; omega)
    have HN2 := Lib.hid (show w1.heap.size ≠ g by have := HM1.out.lt; omega)
    have HCB := Lib.hid HU1.out.size
    generalize w1.heap.size = cb at *
    clear hc hu HM1 HU1
    go_wp2_with fail
    refine (known16 _).mono ?_
    rintro e w3 ⟨rfl, hu⟩
    have HM3 := Lib.hid (HM2.out.upd hu (fun h => h) (fun h => h))
    have HU3 := Lib.hid (HU2.out.trans hu (fun _ h _ => h))
    have HC3 := Lib.hid (HC2.out.upd hu (fun h => h))
    clear hu HM2 HU2 HC2
    have c0 := HC3.out.c0
    have c1 := HC3.out.c1
    have c2 := HC3.out.c2
    have c3 := HC3.out.c3
    have f0 := HC3.out.fz 0
    have f1 := HC3.out.fz 1
    have f2 := HC3.out.fz 2
    have f3 := HC3.out.fz 3
    have HC4 := Lib.hid ((((HC3.out.setR 0 (by decide) a0 l0).setR 1 (by decide) a1 l1).setR 2 (by decide) b0 l2).setR 3 (by decide) b1 l3)
    go_wp2_with fail
    rw [HA0.out, HA1.out, HB0.out, HB1.out]
    have hup := (((Sp.setU w3 cb 0 (.int .u32 (a0 : Int))).putU 1 (.int .u32 (a1 : Int))).putU 2 (.int .u32 (b0 : Int))).putU 3 (.int .u32 (b1 : Int))
    have HW4 : Hid (Wd ((((w3.setCell ⟨cb, 0, none⟩ (.int .u32 (a0 : Int))).setCell ⟨cb, 1, none⟩ (.int .u32 (a1 : Int))).setCell ⟨cb, 2, none⟩ (.int .u32 (b0 : Int))).setCell ⟨cb, 3, none⟩ (.int .u32 (b1 : Int))) cb bm g (.pointer none) (fun _ => False) (suS true a0 a1 b0 b1)) := Lib.hid ⟨HC4.out, HM3.out.upd hup (fun e => HN1.out e.symm) (fun e => HN2.out e.symm), rfl, fun k hk => hk.elim, HN1.out, HN2.out⟩
    have HU4 : Hid (Upd (fun _ => False) w ((((w3.setCell ⟨cb, 0, none⟩ (.int .u32 (a0 : Int))).setCell ⟨cb, 1, none⟩ (.int .u32 (a1 : Int))).setCell ⟨cb, 2, none⟩ (.int .u32 (b0 : Int))).setCell ⟨cb, 3, none⟩ (.int .u32 (b1 : Int)))) := Lib.hid (HU3.out.trans hup (fun k hk hl => by have := HCB.out; omega))
    generalize ((((w3.setCell ⟨cb, 0, none⟩ (.int .u32 (a0 : Int))).setCell ⟨cb, 1, none⟩ (.int .u32 (a1 : Int))).setCell ⟨cb, 2, none⟩ (.int .u32 (b0 : Int))).setCell ⟨cb, 3, none⟩ (.int .u32 (b1 : Int))) = w4 at *
    clear hup c0 c1 c2 c3 f0 f1 f2 f3 HC4
    refine (cRun HW4.out 9 (by decide) ⟨(by show (0 : Int) ≤ 0; decide), (by show (0 : Int) + 1000 * ((9 + 1 : Nat) : Int) ≤ 1099511627776; decide), fun l hl => by simp [suS] at hl⟩).mono ?_
    rintro e w5 ⟨rfl, F5, hF5, hd, hu⟩
    have HU5 : Hid (Upd (fun _ => False) w w5) := Lib.hid (HU4.out.trans hu (fun k hk hl => by
      have := HCB.out
      have := HG0.out
      rcases hk with e | e | e
      · omega
      · omega
      · exact e.elim))
    obtain ⟨k1, k2, k3⟩ := su_run true a0 a1 b0 b1
    have c4 := hd.cp.c4
    have c1 := hd.cp.c1
    rw [k2] at c4
    rw [k3] at c1
    rw [k1]
    have hq4 := hd.cp.ok 4
    have hq1 := hd.cp.ok 1
    rw [k2] at hq4
    rw [k3] at hq1
    simp only [cond_true] at c4 c1 hq4 hq1
    have HEQ2 := HEQ
    simp only [cond_true] at HEQ2
    generalize sumN a0 (4294967295 - b0) 1 = r4 at *
    generalize sumN a1 (4294967295 - b1) (sumC a0 (4294967295 - b0) 1).toNat = r1 at *
    have HEQ3 := Lib.hid HEQ2.out
    clear k1 k2 k3 hd hu hF5 HEQ HEQ2 HW4
    go_wp2_with fail
    go_quiet (fail)
    go_wp2_with fail
    go_ret
    have e1 : ((r4 : Int) + (r1 : Int) * 4294967296 == IntKind.u64.wrap ((a : Int) - (b : Int))) = true := by
      rw [IntKind.wrap_u64, beq_iff_eq]
      have := HEQ3.out
      omega
    rw [e1]
    exact ⟨rfl, HU5.out.trans (drewN_upd _ _) (fun _ h _ => h)⟩
theorem chipSums_below (w : World) (a b : Nat) (ha : a < 18446744073709551616) (hb : b < 18446744073709551616) (sub : Bool) : Calls Try.prog 7 #[.int .u64 (a : Int), .int .u64 (b : Int), .bool sub] w fun e w' => e = .returned (.bool true) ∧ Below w.heap.size w w' := (chipSums_walk w a b ha hb sub).mono fun _ _ h => ⟨h.1, h.2.below (Nat.le_refl _) (fun _ h => h.elim)⟩
end Go.Proofs.Ytppniogpokmhiaa

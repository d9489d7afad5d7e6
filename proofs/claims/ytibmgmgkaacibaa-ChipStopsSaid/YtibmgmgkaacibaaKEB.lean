/- Several texts in one. -/
import Derived.Test.YtibmgmgkaacibaaEAk
/- Stage 16: sums of two words. -/
namespace Go.Proofs.Ytibmgmgkaacibaa
open Go.RowKit Go.ChangeShapes Go.WideShapes Go.Deep Go.IntWalk
set_option linter.unusedVariables false
set_option linter.unusedSimpArgs false
theorem runW_go {s : Ws} (h : s.x.st = 0) (n : Nat) : runW (n + 1) s = runW n (stepW s) := by
  have hb : (s.x.st == 0) = true := by simpa using h
  show (bif s.x.st == 0 then runW n (stepW s) else s) = _
  rw [hb]; rfl
theorem runW_stop {s : Ws} (h : s.x.st ≠ 0) : ∀ n, runW n s = s
  | 0 => rfl
  | n + 1 => by
    have hb : (s.x.st == 0) = false := by simpa using h
    show (bif s.x.st == 0 then runW n (stepW s) else s) = _
    rw [hb]; rfl
/-- one step that is no Fault, by what is done -/
theorem step_go {s : Ws} (h : s.x.st = 0) {i : I6} (hi : readI s.M (s.x.R 15) = i) (hr : readB s.M (s.x.R 15) = true) (h2 : (doOf i s.x s.M).x.st ≠ 2) :
    (stepW s).x.st = (doOf i s.x s.M).x.st ∧ (stepW s).x.R = (doOf i s.x s.M).x.R ∧ (stepW s).x.cf = (doOf i s.x s.M).x.cf ∧ (stepW s).M = (doOf i s.x s.M).M ∧ (stepW s).x.nf = (doOf i s.x s.M).x.nf ∧ (stepW s).x.zf = (doOf i s.x s.M).x.zf ∧ (stepW s).x.vf = (doOf i s.x s.M).x.vf ∧ (stepW s).x.num = (doOf i s.x s.M).x.num ∧ (stepW s).x.cyc = s.x.cyc + (doOf i s.x s.M).c ∧ (stepW s).L = s.L.map (· ++ [evS (s.x.R 15) (doOf i s.x s.M).t (doOf i s.x s.M).c]) := by
  have e := stepW_run h hr (by rw [hi] : doOf (readI s.M (s.x.R 15)) s.x s.M = doOf i s.x s.M)
  rw [e, stepQ_go s _ h2]
  exact ⟨rfl, rfl, rfl, rfl, rfl, rfl, rfl, rfl, rfl, rfl⟩
def suL (sub : Bool) : List I6 := [⟨bif sub then 5 else 4, 4, 0, 2, 0, 0⟩, ⟨bif sub then 18 else 17, 1, 0, 3, 0, 0⟩, ⟨44, 0, 0, 0, 1, 0⟩]
def suM (sub : Bool) : Nat → Nat := loadM (fun _ => 0) 0 (encL (suL sub))
theorem suR (sub : Bool) : readI (suM sub) 0 = ⟨bif sub then 5 else 4, 4, 0, 2, 0, 0⟩ ∧ readB (suM sub) 0 = true ∧ readI (suM sub) 2 = ⟨bif sub then 18 else 17, 1, 0, 3, 0, 0⟩ ∧ readB (suM sub) 2 = true ∧ readI (suM sub) 4 = ⟨44, 0, 0, 0, 1, 0⟩ ∧ readB (suM sub) 4 = true := by
  cases sub <;> decide +kernel
theorem su_first (sub : Bool) (x : Ch) (M : Nat → Nat) : (doOf ⟨bif sub then 5 else 4, 4, 0, 2, 0, 0⟩ x M).x.st = x.st ∧ (doOf ⟨bif sub then 5 else 4, 4, 0, 2, 0, 0⟩ x M).x.R 15 = (x.R 15 + 2) % 4294967296 ∧ (doOf ⟨bif sub then 5 else 4, 4, 0, 2, 0, 0⟩ x M).x.R 4 = (bif sub then sumN (x.R 0) (4294967295 - x.R 2) 1 else sumN (x.R 0) (x.R 2) 0) ∧ (doOf ⟨bif sub then 5 else 4, 4, 0, 2, 0, 0⟩ x M).x.R 1 = x.R 1 ∧ (doOf ⟨bif sub then 5 else 4, 4, 0, 2, 0, 0⟩ x M).x.R 3 = x.R 3 ∧ (doOf ⟨bif sub then 5 else 4, 4, 0, 2, 0, 0⟩ x M).x.cf = (bif sub then sumC (x.R 0) (4294967295 - x.R 2) 1 else sumC (x.R 0) (x.R 2) 0) ∧ (doOf ⟨bif sub then 5 else 4, 4, 0, 2, 0, 0⟩ x M).M = M := by
  cases sub <;> exact ⟨rfl, rfl, rfl, rfl, rfl, rfl, rfl⟩
theorem su_second (sub : Bool) (x : Ch) (M : Nat → Nat) : (doOf ⟨bif sub then 18 else 17, 1, 0, 3, 0, 0⟩ x M).x.st = x.st ∧ (doOf ⟨bif sub then 18 else 17, 1, 0, 3, 0, 0⟩ x M).x.R 15 = (x.R 15 + 2) % 4294967296 ∧ (doOf ⟨bif sub then 18 else 17, 1, 0, 3, 0, 0⟩ x M).x.R 4 = x.R 4 ∧ (doOf ⟨bif sub then 18 else 17, 1, 0, 3, 0, 0⟩ x M).x.R 1 = (bif sub then sumN (x.R 1) (4294967295 - x.R 3) x.cf.toNat else sumN (x.R 1) (x.R 3) x.cf.toNat) ∧ (doOf ⟨bif sub then 18 else 17, 1, 0, 3, 0, 0⟩ x M).M = M := by
  cases sub <;> exact ⟨rfl, rfl, rfl, rfl, rfl⟩
theorem su_svc (n : Int) (x : Ch) (M : Nat → Nat) : (doOf ⟨44, 0, 0, 0, n, 0⟩ x M).x.st = 1 ∧ (doOf ⟨44, 0, 0, 0, n, 0⟩ x M).x.R 4 = x.R 4 ∧ (doOf ⟨44, 0, 0, 0, n, 0⟩ x M).x.R 1 = x.R 1 := ⟨by kernel_rfl, by kernel_rfl, by kernel_rfl⟩
def suX (a0 a1 b0 b1 : Nat) : Ch := (((Ch.zero.withR 0 a0).withR 1 a1).withR 2 b0).withR 3 b1
def suS (sub : Bool) (a0 a1 b0 b1 : Nat) : Ws := ⟨suX a0 a1 b0 b1, suM sub, none⟩
theorem su_run (sub : Bool) (a0 a1 b0 b1 : Nat) : (runW 9 (suS sub a0 a1 b0 b1)).x.st = 1 ∧ (runW 9 (suS sub a0 a1 b0 b1)).x.R 4 = (bif sub then sumN a0 (4294967295 - b0) 1 else sumN a0 b0 0) ∧ (runW 9 (suS sub a0 a1 b0 b1)).x.R 1 = (bif sub then sumN a1 (4294967295 - b1) (sumC a0 (4294967295 - b0) 1).toNat else sumN a1 b1 (sumC a0 b0 0).toNat) := by
  obtain ⟨r1, r2, r3, r4, r5, r6⟩ := suR sub
  obtain ⟨s0, hs0⟩ : ∃ s0, suS sub a0 a1 b0 b1 = s0 := ⟨_, rfl⟩
  have x0 : s0.x.st = 0 ∧ s0.x.R 15 = 0 ∧ s0.x.R 0 = a0 ∧ s0.x.R 1 = a1 ∧ s0.x.R 2 = b0 ∧ s0.x.R 3 = b1 ∧ s0.M = suM sub := by rw [← hs0]; exact ⟨rfl, rfl, rfl, rfl, rfl, rfl, rfl⟩
  rw [hs0]
  obtain ⟨p1, p2, p3, p4, p5, p6, p7⟩ := x0
  obtain ⟨f1, f2, f3, f4, f5, f6, f7⟩ := su_first sub s0.x s0.M
  obtain ⟨g1, g2, g3, g4, -⟩ := step_go (i := ⟨bif sub then 5 else 4, 4, 0, 2, 0, 0⟩) p1 (by rw [p7, p2]; exact r1) (by rw [p7, p2]; exact r2) (by rw [f1, p1]; decide)
  rw [runW_go p1]
  generalize stepW s0 = s1 at *
  rw [f1, p1] at g1
  rw [f7, p7] at g4
  have q15 : s1.x.R 15 = 2 := by rw [g2, f2, p2]
  obtain ⟨k1, k2, k3, k4, k5⟩ := su_second sub s1.x s1.M
  obtain ⟨l1, l2, l3, l4, -⟩ := step_go (i := ⟨bif sub then 18 else 17, 1, 0, 3, 0, 0⟩) g1 (by rw [g4, q15]; exact r3) (by rw [g4, q15]; exact r4) (by rw [k1, g1]; decide)
  rw [runW_go g1]
  generalize stepW s1 = s2 at *
  rw [k1, g1] at l1
  rw [k5, g4] at l4
  have u15 : s2.x.R 15 = 4 := by rw [l2, k2, q15]
  obtain ⟨m1, m2, m3⟩ := su_svc 1 s2.x s2.M
  obtain ⟨n1, n2, -⟩ := step_go (i := ⟨44, 0, 0, 0, 1, 0⟩) l1 (by rw [l4, u15]; exact r5) (by rw [l4, u15]; exact r6) (by rw [m1]; decide)
  rw [runW_go l1]
  generalize stepW s2 = s3 at *
  rw [m1] at n1
  rw [runW_stop (by rw [n1]; decide)]
  refine ⟨n1, ?_, ?_⟩
  · rw [n2, m2, l2, k3, g2, f3, p3, p5]
  · rw [n2, m3, l2, k4, g2, f4, f5, g3, f6, p3, p5, p4, p6]; cases sub <;> rfl
theorem su_eq (sub : Bool) (a b : Nat) (ha : a < 18446744073709551616) (hb : b < 18446744073709551616) :
    ((bif sub then sumN (a % 4294967296) (4294967295 - b % 4294967296) 1 else sumN (a % 4294967296) (b % 4294967296) 0) + 4294967296 * (bif sub then sumN (a / 4294967296) (4294967295 - b / 4294967296) (sumC (a % 4294967296) (4294967295 - b % 4294967296) 1).toNat else sumN (a / 4294967296) (b / 4294967296) (sumC (a % 4294967296) (b % 4294967296) 0).toNat)) = (bif sub then (a + (18446744073709551616 - b)) % 18446744073709551616 else (a + b) % 18446744073709551616) := by
  cases sub
  · simp only [cond_false]
    by_cases h : 4294967296 ≤ a % 4294967296 + b % 4294967296 + 0
    · rw [show sumC (a % 4294967296) (b % 4294967296) 0 = true by unfold sumC; exact decide_eq_true h]
      unfold sumN; simp only [Bool.toNat_true]; omega
    · rw [show sumC (a % 4294967296) (b % 4294967296) 0 = false by unfold sumC; exact decide_eq_false h]
      unfold sumN; simp only [Bool.toNat_false]; omega
  · simp only [cond_true]
    by_cases h : 4294967296 ≤ a % 4294967296 + (4294967295 - b % 4294967296) + 1
    · rw [show sumC (a % 4294967296) (4294967295 - b % 4294967296) 1 = true by unfold sumC; exact decide_eq_true h]
      unfold sumN; simp only [Bool.toNat_true]; omega
    · rw [show sumC (a % 4294967296) (4294967295 - b % 4294967296) 1 = false by unfold sumC; exact decide_eq_false h]
      unfold sumN; simp only [Bool.toNat_false]; omega
theorem suOk (sub : Bool) : (∀ i ∈ suL sub, rightP i = true) := by cases sub <;> decide +kernel
end Go.Proofs.Ytibmgmgkaacibaa
/- Stage 16: an instruction's effect by its parts; what stands at each address of a program; comparisons. -/
namespace Go.Proofs.Ytibmgmgkaacibaa
open Go.RowKit Go.ChangeShapes Go.WideShapes Go.Deep Go.IntWalk
set_option linter.unusedVariables false
set_option linter.unusedSimpArgs false
theorem doOf_eq (op d n m c : Nat) (imm : Int) (x : Ch) (M : Nat → Nat) (X : Ch) (hX : doX1 op x = X) (l r pc : Nat) (hl : lefP X.R op d n m = l) (hr : rigP X.R op m imm = r) (hpc : (x.R 15 + 4) % 4294967296 = pc) (a : Rs) (ha : ansP op d c imm l r pc X M = a) :
    doOf ⟨(op : Int), (d : Int), (n : Int), (m : Int), imm, (c : Int)⟩ x M = ⟨stD op d a.out (sgP op a.out a.x), a.t, a.c, a.M, a.out⟩ := by
  subst hX; subst hl; subst hr; subst hpc; subst ha; rfl
theorem stD_no {op : Nat} (h : maskB 46157266430 op = false) (d out : Nat) (x : Ch) : stD op d out x = x := by unfold stD; rw [h]; rfl
theorem stD_yes {op : Nat} (h : maskB 46157266430 op = true) (d out : Nat) (x : Ch) : stD op d out x = x.withR d out := by unfold stD; rw [h]; rfl
theorem sgP_no {op : Nat} (h : maskB 268435454 op = false) (out : Nat) (x : Ch) : sgP op out x = x := by unfold sgP; rw [h]; rfl
theorem sgP_yes {op : Nat} (h : maskB 268435454 op = true) (out : Nat) (x : Ch) : sgP op out x = { x with nf := out / 2147483648 != 0, zf := out == 0 } := by unfold sgP; rw [h]; rfl
theorem doX1_fields (op : Nat) (x : Ch) : (doX1 op x).nf = x.nf ∧ (doX1 op x).zf = x.zf ∧ (doX1 op x).cf = x.cf ∧ (doX1 op x).vf = x.vf ∧ (doX1 op x).st = x.st ∧ (doX1 op x).num = x.num ∧ (doX1 op x).cyc = x.cyc ∧ (doX1 op x).R 15 = (x.R 15 + szP op) % 4294967296 ∧ ∀ k, k ≠ 15 → (doX1 op x).R k = x.R k :=
  ⟨rfl, rfl, rfl, rfl, rfl, rfl, rfl, rfl, fun k hk => by show rSet x.R 15 _ k = _; unfold rSet; rw [if_neg hk]⟩
theorem rSet_same (R : Nat → Nat) (k v : Nat) : rSet R k v k = v := by unfold rSet; rw [if_pos rfl]
theorem rSet_other (R : Nat → Nat) {j k : Nat} (h : j ≠ k) (v : Nat) : rSet R k v j = R j := by unfold rSet; rw [if_neg h]
/-- no instruction of two halfwords -/
theorem encL_len1 : ∀ (L : List I6), (∀ i ∈ L, rightP i = true) → (∀ i ∈ L, i.op ≠ 43) → (encL L).length = L.length
  | [], _, _ => rfl
  | i :: L, hr, h43 => by
    have e := (enc_dec (hr i (by simp)) []).2.1
    rw [if_neg (h43 i (by simp))] at e
    have ih := encL_len1 L (fun j hj => hr j (by simp [hj])) (fun j hj => h43 j (by simp [hj]))
    have : encL (i :: L) = encP i ++ encL L := by simp [encL]
    rw [this, List.length_append, e, ih, List.length_cons]; omega
theorem split_at : ∀ {L : List I6} {k : Nat} {i : I6}, L[k]? = some i → ∃ A B, L = A ++ i :: B ∧ A.length = k
  | [], k, i, h => by simp at h
  | j :: L, 0, i, h => by simp at h; subst h; exact ⟨[], L, rfl, rfl⟩
  | j :: L, k + 1, i, h => by
    obtain ⟨A, B, e, hk⟩ := split_at (L := L) (k := k) (i := i) (by simpa using h)
    exact ⟨j :: A, B, by rw [e]; rfl, by simp [hk]⟩
theorem read_k {M : Nat → Nat} {a : Nat} {L : List I6} (hc : Code M (loadM (fun _ => 0) a (encL L))) (hr : ∀ i ∈ L, rightP i = true) (h43 : ∀ i ∈ L, i.op ≠ 43) (ha : a % 2 = 0) (hend : a + 2 * L.length ≤ 131072) (k : Nat) (i : I6) (hk : L[k]? = some i) :
    readI M (a + 2 * k) = i ∧ readB M (a + 2 * k) = true := by
  obtain ⟨A, B, e, hA⟩ := split_at hk
  have hl := encL_len1 L hr h43
  have hlA := encL_len1 A (fun j hj => hr j (by rw [e]; simp [hj])) (fun j hj => h43 j (by rw [e]; simp [hj]))
  exact read_at hc hr ha (by rw [hl]; exact hend) A B i e _ (by rw [hlA, hA])
theorem Code.setW {M N : Nat → Nat} (h : Code M N) (k n : Nat) (hk : 131072 ≤ k) : Code (setWM M k n) N := by
  intro j hj
  unfold setWM setM
  rw [if_neg (by omega), if_neg (by omega), if_neg (by omega), if_neg (by omega)]
  exact h j hj
theorem Code.set1 {M N : Nat → Nat} (h : Code M N) (k n : Nat) (hk : 131072 ≤ k) : Code (setM M k n) N := by
  intro j hj
  unfold setM
  rw [if_neg (by omega)]
  exact h j hj
theorem Code.sw {M N : Nat → Nat} (h : Code M N) (k : Int) (n : Nat) : Code (swM M k n) N := by
  unfold swM; split
  · rename_i hk
    have := of_decide_eq_true (by unfold okSw at hk; exact hk)
    exact h.setW _ _ (by omega)
  · exact h
theorem Code.sb {M N : Nat → Nat} (h : Code M N) (k : Int) (n : Nat) : Code (sbM M k n) N := by
  unfold sbM; split
  · rename_i hk
    have := of_decide_eq_true (by unfold okSb at hk; exact hk)
    exact h.set1 _ _ (by omega)
  · exact h
theorem word_set (M : Nat → Nat) (k n : Nat) (hn : n < 4294967296) : wordM (setWM M k n) k = n := by
  unfold wordM setWM setM
  simp only [show ¬ (k = k + 3) by omega, show ¬ (k = k + 2) by omega, show ¬ (k = k + 1) by omega, show ¬ (k + 1 = k + 3) by omega, show ¬ (k + 1 = k + 2) by omega, show ¬ (k + 2 = k + 3) by omega, if_true, if_false]
  omega
theorem byte_set (M : Nat → Nat) (k n : Nat) : setWM M k n (k + 1) = n / 256 % 256 := by
  unfold setWM setM
  rw [if_neg (by omega), if_neg (by omega), if_pos rfl]
-- comparisons
theorem cmp_n (a b : Nat) (ha : a < 4294967296) (hb : b < 4294967296) : (sumN a (4294967295 - b) 1 / 2147483648 != 0) = decide (wrap32 (((a : Int) - b) % 4294967296) < 0) := by
  unfold sumN wrap32
  rw [Bool.eq_iff_iff]
  simp only [bne_iff_ne, ne_eq, decide_eq_true_eq]
  omega
theorem cmp_z (a b : Nat) (ha : a < 4294967296) (hb : b < 4294967296) : (sumN a (4294967295 - b) 1 == 0) = decide (a = b) := by
  unfold sumN
  rw [Bool.eq_iff_iff]
  simp only [beq_iff_eq, decide_eq_true_eq]
  omega
theorem cmp_c (a b : Nat) (ha : a < 4294967296) (hb : b < 4294967296) : sumC a (4294967295 - b) 1 = decide (b ≤ a) := by
  unfold sumC
  rw [Bool.eq_iff_iff]
  simp only [decide_eq_true_eq]
  omega
theorem cmp_lt (a b : Nat) (ha : a < 4294967296) (hb : b < 4294967296) : ((sumN a (4294967295 - b) 1 / 2147483648 != 0) == sumV a (4294967295 - b) 1) = decide (wrap32 (b : Int) ≤ wrap32 (a : Int)) := by
  unfold sumV sumN wrap32
  rw [Bool.eq_iff_iff]
  rw [beq_iff_eq, Bool.eq_iff_iff]
  simp only [bne_iff_ne, ne_eq, decide_eq_true_eq]
  by_cases h1 : a < 2147483648 <;> by_cases h2 : b < 2147483648 <;> by_cases h3 : a < b <;> by_cases h4 : a < b + 2147483648 <;> by_cases h5 : b < a + 2147483648 <;> omega
/-- what the law says of a condition behind a comparison -/
def coW (a b : Nat) (A B D : Int) (c : Nat) : Bool := match c with
  | 0 => decide (a = b)
  | 1 => decide (a ≠ b)
  | 2 => decide (b ≤ a)
  | 3 => decide (a < b)
  | 4 => decide (D < 0)
  | 5 => decide (0 ≤ D)
  | 8 => decide (b < a)
  | 9 => decide (a ≤ b)
  | 10 => decide (B ≤ A)
  | 11 => decide (A < B)
  | 12 => decide (B < A)
  | _ => decide (A ≤ B)
theorem wrap32_inj (a b : Nat) (ha : a < 4294967296) (hb : b < 4294967296) : wrap32 (a : Int) = wrap32 (b : Int) ↔ a = b := by unfold wrap32; omega
theorem dec_not (p : Prop) [Decidable p] : decide (¬ p) = !decide p := by by_cases h : p <;> simp [h]
theorem co_hold0 (q : Ch) (a b c : Nat) (A B D : Int) (hc : c < 14) (h6 : c ≠ 6) (h7 : c ≠ 7) (e1 : (q.nf == q.vf) = decide (B ≤ A)) (e2 : q.nf = decide (D < 0)) (e3 : q.zf = decide (a = b)) (e4 : q.cf = decide (b ≤ a)) (e5 : A = B ↔ a = b) : holdsP q c = coW a b A B D c := by
  rcases (by omega : c = 0 ∨ c = 1 ∨ c = 2 ∨ c = 3 ∨ c = 4 ∨ c = 5 ∨ c = 8 ∨ c = 9 ∨ c = 10 ∨ c = 11 ∨ c = 12 ∨ c = 13) with rfl | rfl | rfl | rfl | rfl | rfl | rfl | rfl | rfl | rfl | rfl | rfl
  · show (q.zf != false) = decide (a = b); rw [e3]; cases decide (a = b) <;> rfl
  · show (q.zf != true) = decide (¬ a = b); rw [e3, dec_not]; cases decide (a = b) <;> rfl
  · show (q.cf != false) = decide (b ≤ a); rw [e4]; cases decide (b ≤ a) <;> rfl
  · show (q.cf != true) = decide (a < b); rw [e4, show decide (a < b) = !decide (b ≤ a) by rw [← dec_not]; congr 1; exact propext (by omega)]; cases decide (b ≤ a) <;> rfl
  · show (q.nf != false) = decide (D < 0); rw [e2]; cases decide (D < 0) <;> rfl
  · show (q.nf != true) = decide (0 ≤ D); rw [e2, show decide (0 ≤ D) = !decide (D < 0) by rw [← dec_not]; congr 1; exact propext (by omega)]; cases decide (D < 0) <;> rfl
  · show ((q.cf && !q.zf) != false) = decide (b < a)
    rw [e4, e3, ← dec_not, ← Bool.decide_and, show decide (b < a) = decide (b ≤ a ∧ ¬ a = b) by congr 1; exact propext (by omega)]
    cases decide (b ≤ a ∧ ¬ a = b) <;> rfl
  · show ((q.cf && !q.zf) != true) = decide (a ≤ b)
    rw [e4, e3, ← dec_not, ← Bool.decide_and, show decide (a ≤ b) = !decide (b ≤ a ∧ ¬ a = b) by rw [← dec_not]; congr 1; exact propext (by omega)]
    cases decide (b ≤ a ∧ ¬ a = b) <;> rfl
  · show ((q.nf == q.vf) != false) = decide (B ≤ A); rw [e1]; cases decide (B ≤ A) <;> rfl
  · show ((q.nf == q.vf) != true) = decide (A < B); rw [e1, show decide (A < B) = !decide (B ≤ A) by rw [← dec_not]; congr 1; exact propext (by omega)]; cases decide (B ≤ A) <;> rfl
  · show ((!q.zf && (q.nf == q.vf)) != false) = decide (B < A)
    rw [e1, e3, ← dec_not, ← Bool.decide_and, show decide (B < A) = decide (¬ a = b ∧ B ≤ A) by congr 1; exact propext (by omega)]
    cases decide (¬ a = b ∧ B ≤ A) <;> rfl
  · show ((!q.zf && (q.nf == q.vf)) != true) = decide (A ≤ B)
    rw [e1, e3, ← dec_not, ← Bool.decide_and, show decide (A ≤ B) = !decide (¬ a = b ∧ B ≤ A) by rw [← dec_not]; congr 1; exact propext (by omega)]
    cases decide (¬ a = b ∧ B ≤ A) <;> rfl
theorem co_holds (q : Ch) (a b c : Nat) (ha : a < 4294967296) (hb : b < 4294967296) (hc : c < 14) (h6 : c ≠ 6) (h7 : c ≠ 7) (s : Nat) (v : Bool) (hs : sumN a (4294967295 - b) 1 = s) (hvv : sumV a (4294967295 - b) 1 = v) (hn : q.nf = (s / 2147483648 != 0)) (hz : q.zf = (s == 0)) (hcf : q.cf = sumC a (4294967295 - b) 1) (hv : q.vf = v) : holdsP q c = coW a b (wrap32 (a : Int)) (wrap32 (b : Int)) (wrap32 (((a : Int) - b) % 4294967296)) c := by
  have e1 := cmp_lt a b ha hb
  have e2 := cmp_n a b ha hb
  have e3 := cmp_z a b ha hb
  rw [hs] at e1 e2 e3
  rw [hvv] at e1
  exact co_hold0 q a b c _ _ _ hc h6 h7 (by rw [hn, hv]; exact e1) (by rw [hn]; exact e2) (by rw [hz]; exact e3) (by rw [hcf]; exact cmp_c a b ha hb) (wrap32_inj a b ha hb)
end Go.Proofs.Ytibmgmgkaacibaa

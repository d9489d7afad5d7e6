/- Stage 16: ChipMemory, plainly. -/
import Derived.Test.YtibmgmgkaacibaaKEB
namespace Go.Proofs.Ytibmgmgkaacibaa
open Go.RowKit Go.ChangeShapes Go.WideShapes Go.Deep Go.IntWalk
set_option linter.unusedVariables false
set_option linter.unusedSimpArgs false
def stI : Nat → I6
  | 0 => ⟨32, 2, 1, 0, 8, 0⟩
  | 1 => ⟨30, 2, 1, 3, 0, 0⟩
  | _ => ⟨36, 2, 0, 0, 40, 0⟩
def ldI : Nat → I6
  | 0 => ⟨31, 4, 1, 0, 8, 0⟩
  | 1 => ⟨29, 4, 1, 3, 0, 0⟩
  | _ => ⟨35, 4, 0, 0, 40, 0⟩
def meL (h k : Nat) : List I6 := [stI h, ldI k, ⟨33, 5, 1, 0, 9, 0⟩, ⟨44, 0, 0, 0, 1, 0⟩]
def meM (h k : Nat) : Nat → Nat := loadM (fun _ => 0) 0 (encL (meL h k))
theorem meOk (h k : Nat) (hh : h < 3) (hk : k < 3) : ∀ i ∈ meL h k, rightP i = true := by
  rcases (by omega : h = 0 ∨ h = 1 ∨ h = 2) with rfl | rfl | rfl <;> rcases (by omega : k = 0 ∨ k = 1 ∨ k = 2) with rfl | rfl | rfl <;> decide +kernel
theorem me43 (h k : Nat) (hh : h < 3) (hk : k < 3) : ∀ i ∈ meL h k, i.op ≠ 43 := by
  rcases (by omega : h = 0 ∨ h = 1 ∨ h = 2) with rfl | rfl | rfl <;> rcases (by omega : k = 0 ∨ k = 1 ∨ k = 2) with rfl | rfl | rfl <;> decide +kernel
theorem need_yes (X : Ch) : X.need true = X := rfl
theorem okSw_t (p : Nat) (h1 : 131072 ≤ p) (h2 : p < 262144) (h3 : p % 4 = 0) : okSw (p : Int) = true := by unfold okSw; exact decide_eq_true ⟨by omega, by omega, by omega⟩
theorem okWd_t (p : Nat) (h2 : p < 262144) (h3 : p % 4 = 0) : okWd (p : Int) = true := by unfold okWd; exact decide_eq_true ⟨by omega, by omega, by omega⟩
theorem okBy_t (p : Nat) (h2 : p < 262144) : okBy (p : Int) = true := by unfold okBy; exact decide_eq_true ⟨by omega, by omega⟩
theorem swM_t (M : Nat → Nat) (p v : Nat) (h : okSw (p : Int) = true) : swM M (p : Int) v = setWM M p v := by unfold swM; rw [if_pos h]; rfl
theorem wdP_t (M : Nat → Nat) (p : Nat) (h : okWd (p : Int) = true) : (wdP M (p : Int)).toNat = wordM M p := by unfold wdP; rw [if_pos h]; rfl
theorem byP_t (M : Nat → Nat) (p : Nat) (h : okBy (p : Int) = true) : (byP M (p : Int)).toNat = M p := by unfold byP; rw [if_pos h]; rfl
structure MeX (x : Ch) (b n : Nat) : Prop where
  r1 : x.R 1 = b
  r2 : x.R 2 = n
  r3 : x.R 3 = 8
  r13 : x.R 13 = b - 32
theorem MeX.next {x : Ch} {b n : Nat} (h : MeX x b n) (op : Nat) : MeX (doX1 op x) b n := by
  have e := (doX1_fields op x).2.2.2.2.2.2.2.2
  exact ⟨by rw [e 1 (by decide)]; exact h.r1, by rw [e 2 (by decide)]; exact h.r2, by rw [e 3 (by decide)]; exact h.r3, by rw [e 13 (by decide)]; exact h.r13⟩
theorem MeX.congr {x y : Ch} {b n : Nat} (h : MeX x b n) (e : y.R = x.R) : MeX y b n := ⟨by rw [e]; exact h.r1, by rw [e]; exact h.r2, by rw [e]; exact h.r3, by rw [e]; exact h.r13⟩
theorem st_ans (op : Nat) (hop : op = 30 ∨ op = 32 ∨ op = 36) (d : Nat) (imm : Int) (l r pc : Nat) (X : Ch) (M : Nat → Nat) (p n : Nat) (hp : (l + r) % 4294967296 = p) (hok : okSw (p : Int) = true) (hn : X.R d = n) : ansP op d 0 imm l r pc X M = ⟨X, (p : Int), 2, setWM M p n, 0⟩ := by
  rcases hop with rfl | rfl | rfl
  · rw [ansP_30, hp, hok, need_yes, swM_t M p _ hok, hn]
  · rw [ansP_32, hp, hok, need_yes, swM_t M p _ hok, hn]
  · rw [ansP_36, hp, hok, need_yes, swM_t M p _ hok, hn]
theorem ld_ans (op : Nat) (hop : op = 29 ∨ op = 31 ∨ op = 35) (d : Nat) (imm : Int) (l r pc : Nat) (X : Ch) (M : Nat → Nat) (p : Nat) (hp : (l + r) % 4294967296 = p) (hok : okWd (p : Int) = true) : ansP op d 0 imm l r pc X M = ⟨X, (p : Int), 2, M, wordM M p⟩ := by
  rcases hop with rfl | rfl | rfl
  · rw [ansP_29, hp, hok, need_yes, wdP_t M p hok]
  · rw [ansP_31, hp, hok, need_yes, wdP_t M p hok]
  · rw [ansP_35, hp, hok, need_yes, wdP_t M p hok]
theorem st_eq (h : Nat) (hh : h < 3) (x : Ch) (M : Nat → Nat) (b n : Nat) (hx : MeX x b n) (h1 : 131072 ≤ b) (h2 : b + 12 ≤ 262144) (h3 : b % 4 = 0) : (doOf (stI h) x M) = ⟨doX1 2 x, ((b + 8 : Nat) : Int), 2, setWM M (b + 8) n, 0⟩ := by
  have hok := okSw_t (b + 8) (by omega) (by omega) (by omega)
  obtain ⟨X, hX⟩ : ∃ X, doX1 2 x = X := ⟨_, rfl⟩
  have hm : MeX X b n := by rw [← hX]; exact hx.next 2
  rw [hX]
  rcases (by omega : h = 0 ∨ h = 1 ∨ h = 2) with rfl | rfl | rfl
  · have e : doOf ⟨32, 2, 1, 0, 8, 0⟩ x M = _ := doOf_eq 32 2 1 0 0 8 x M X hX b 8 _ hm.r1 rfl rfl _ (st_ans 32 (by omega) 2 8 b 8 _ X M (b + 8) n (by omega) hok hm.r2)
    exact e.trans (by rw [stD_no rfl, sgP_no rfl])
  · have e : doOf ⟨30, 2, 1, 3, 0, 0⟩ x M = _ := doOf_eq 30 2 1 3 0 0 x M X hX b 8 _ hm.r1 hm.r3 rfl _ (st_ans 30 (by omega) 2 0 b 8 _ X M (b + 8) n (by omega) hok hm.r2)
    exact e.trans (by rw [stD_no rfl, sgP_no rfl])
  · have e : doOf ⟨36, 2, 0, 0, 40, 0⟩ x M = _ := doOf_eq 36 2 0 0 0 40 x M X hX (b - 32) 40 _ hm.r13 rfl rfl _ (st_ans 36 (by omega) 2 40 (b - 32) 40 _ X M (b + 8) n (by omega) hok hm.r2)
    exact e.trans (by rw [stD_no rfl, sgP_no rfl])
theorem ld_eq (k : Nat) (hk : k < 3) (x : Ch) (M : Nat → Nat) (b n : Nat) (hx : MeX x b n) (h1 : 131072 ≤ b) (h2 : b + 12 ≤ 262144) (h3 : b % 4 = 0) : (doOf (ldI k) x M) = ⟨(doX1 2 x).withR 4 (wordM M (b + 8)), ((b + 8 : Nat) : Int), 2, M, wordM M (b + 8)⟩ := by
  have hok := okWd_t (b + 8) (by omega) (by omega)
  obtain ⟨X, hX⟩ : ∃ X, doX1 2 x = X := ⟨_, rfl⟩
  have hm : MeX X b n := by rw [← hX]; exact hx.next 2
  rw [hX]
  rcases (by omega : k = 0 ∨ k = 1 ∨ k = 2) with rfl | rfl | rfl
  · have e : doOf ⟨31, 4, 1, 0, 8, 0⟩ x M = _ := doOf_eq 31 4 1 0 0 8 x M X hX b 8 _ hm.r1 rfl rfl _ (ld_ans 31 (by omega) 4 8 b 8 _ X M (b + 8) (by omega) hok)
    exact e.trans (by rw [stD_yes rfl, sgP_no rfl])
  · have e : doOf ⟨29, 4, 1, 3, 0, 0⟩ x M = _ := doOf_eq 29 4 1 3 0 0 x M X hX b 8 _ hm.r1 hm.r3 rfl _ (ld_ans 29 (by omega) 4 0 b 8 _ X M (b + 8) (by omega) hok)
    exact e.trans (by rw [stD_yes rfl, sgP_no rfl])
  · have e : doOf ⟨35, 4, 0, 0, 40, 0⟩ x M = _ := doOf_eq 35 4 0 0 0 40 x M X hX (b - 32) 40 _ hm.r13 rfl rfl _ (ld_ans 35 (by omega) 4 40 (b - 32) 40 _ X M (b + 8) (by omega) hok)
    exact e.trans (by rw [stD_yes rfl, sgP_no rfl])
theorem lb_eq (x : Ch) (M : Nat → Nat) (b n : Nat) (hx : MeX x b n) (h2 : b + 12 ≤ 262144) : (doOf ⟨33, 5, 1, 0, 9, 0⟩ x M) = ⟨(doX1 2 x).withR 5 (M (b + 9)), ((b + 9 : Nat) : Int), 2, M, M (b + 9)⟩ := by
  have hok := okBy_t (b + 9) (by omega)
  obtain ⟨X, hX⟩ : ∃ X, doX1 2 x = X := ⟨_, rfl⟩
  have hm : MeX X b n := by rw [← hX]; exact hx.next 2
  rw [hX]
  have ha : ansP 33 5 0 9 b 9 ((x.R 15 + 4) % 4294967296) X M = ⟨X, ((b + 9 : Nat) : Int), 2, M, M (b + 9)⟩ := by rw [ansP_33, show (b + 9) % 4294967296 = b + 9 by omega, hok, need_yes, byP_t M (b + 9) hok]
  have e : doOf ⟨33, 5, 1, 0, 9, 0⟩ x M = _ := doOf_eq 33 5 1 0 0 9 x M X hX b 9 _ hm.r1 rfl rfl _ ha
  exact e.trans (by rw [stD_yes rfl, sgP_no rfl])
theorem sv_eq (x : Ch) (M : Nat → Nat) (imm : Int) : (doOf ⟨44, 0, 0, 0, imm, 0⟩ x M) = ⟨{ doX1 2 x with st := 1, num := imm }, -1, 1, M, 0⟩ := by
  obtain ⟨X, hX⟩ : ∃ X, doX1 2 x = X := ⟨_, rfl⟩
  rw [hX]
  have ha : ansP 44 0 0 imm (X.R 0) (imm % 4294967296).toNat ((x.R 15 + 4) % 4294967296) X M = ⟨{ X with st := 1, num := imm }, -1, 1, M, 0⟩ := by rw [ansP_44]
  have e : doOf ⟨44, 0, 0, 0, imm, 0⟩ x M = _ := doOf_eq 44 0 0 0 0 imm x M X hX (X.R 0) (imm % 4294967296).toNat _ rfl rfl rfl _ ha
  exact e.trans (by rw [stD_no rfl, sgP_no rfl])
def meX (b n : Nat) : Ch := (((Ch.zero.withR 1 b).withR 2 n).withR 3 8).withR 13 (b - 32)
def meS (h k b n : Nat) : Ws := ⟨meX b n, meM h k, some []⟩
theorem step2 (x : Ch) : (doX1 2 x).R 15 = (x.R 15 + 2) % 4294967296 := (doX1_fields 2 x).2.2.2.2.2.2.2.1
theorem withR_o (x : Ch) {j k : Nat} (h : j ≠ k) (v : Nat) : (x.withR k v).R j = x.R j := rSet_other x.R h v
theorem me_run (h k b n : Nat) (hh : h < 3) (hk : k < 3) (h1 : 131072 ≤ b) (h2 : b + 12 ≤ 262144) (h3 : b % 4 = 0) (hn : n < 4294967296) : ∃ z, runW 9 (meS h k b n) = z ∧ z.x.st = 1 ∧ z.x.R 4 = n ∧ z.x.R 5 = n / 256 % 256 ∧ z.x.cyc = 7 ∧ ∃ e l, z.L = some (e :: l) ∧ l.length = 3 ∧ e = ⟨4, 0, ((b + 8 : Nat) : Int), 2⟩ := by
  have hr := meOk h k hh hk
  have h43 := me43 h k hh hk
  have i0 : (meL h k)[0]? = some (stI h) := rfl
  have i1 : (meL h k)[1]? = some (ldI k) := rfl
  have i2 : (meL h k)[2]? = some ⟨33, 5, 1, 0, 9, 0⟩ := rfl
  have i3 : (meL h k)[3]? = some ⟨44, 0, 0, 0, 1, 0⟩ := rfl
  have hl : (meL h k).length = 4 := rfl
  obtain ⟨s0, hs0⟩ : ∃ s0, meS h k b n = s0 := ⟨_, rfl⟩
  have x0 : s0.x.st = 0 ∧ s0.x.R 15 = 0 ∧ MeX s0.x b n ∧ s0.x.cyc = 0 ∧ s0.L = some [] ∧ s0.M = loadM (fun _ => 0) 0 (encL (meL h k)) := by rw [← hs0]; exact ⟨rfl, rfl, ⟨rfl, rfl, rfl, rfl⟩, rfl, rfl, rfl⟩
  rw [hs0]
  clear hs0
  generalize meL h k = P at *
  obtain ⟨p1, p2, p3, p4, p5, p6⟩ := x0
  have c0 : Code s0.M (loadM (fun _ => 0) 0 (encL P)) := by rw [p6]; exact fun _ _ => rfl
  clear p6
  obtain ⟨a1, a2⟩ := read_k c0 hr h43 rfl (by omega) 0 _ i0
  have e1 := st_eq h hh s0.x s0.M b n p3 h1 h2 h3
  obtain ⟨g1, g2, -, g4, -, -, -, -, g9, g10⟩ := step_go (i := stI h) p1 (by rw [p2]; exact a1) (by rw [p2]; exact a2) (by rw [e1]; show s0.x.st ≠ 2; rw [p1]; decide)
  rw [runW_go p1]
  generalize stepW s0 = s1 at *
  rw [e1] at g1 g2 g4 g9 g10
  simp only at g1 g2 g4 g9 g10
  have q1 : s1.x.st = 0 := by rw [g1]; exact p1
  have q2 : s1.x.R 15 = 2 := by rw [g2, step2, p2]
  have q3 : MeX s1.x b n := (p3.next 2).congr g2
  have c1 : Code s1.M (loadM (fun _ => 0) 0 (encL P)) := by rw [g4]; exact c0.setW _ _ (by omega)
  rw [p4] at g9
  rw [p5, p2] at g10
  clear e1 g1 g2 a1 a2 p1 p2 p3 p4 p5 c0
  obtain ⟨a1, a2⟩ := read_k c1 hr h43 rfl (by omega) 1 _ i1
  have e1 := ld_eq k hk s1.x s1.M b n q3 h1 h2 h3
  obtain ⟨k1, k2, -, k4, -, -, -, -, k9, k10⟩ := step_go (i := ldI k) q1 (by rw [q2]; exact a1) (by rw [q2]; exact a2) (by rw [e1]; show s1.x.st ≠ 2; rw [q1]; decide)
  rw [runW_go q1]
  generalize stepW s1 = s2 at *
  rw [e1] at k1 k2 k4 k9 k10
  simp only at k1 k2 k4 k9 k10
  have v1 : s2.x.st = 0 := by rw [k1]; exact q1
  have v2 : s2.x.R 15 = 4 := by rw [k2]; show rSet (doX1 2 s1.x).R 4 _ 15 = 4; rw [rSet_other _ (by decide), step2, q2]
  have v4 : s2.x.R 4 = n := by rw [k2]; show rSet (doX1 2 s1.x).R 4 _ 4 = n; rw [rSet_same, g4]; exact word_set _ _ _ hn
  have v3 : MeX s2.x b n := by
    have hm := q3.next 2
    refine MeX.congr (x := (doX1 2 s1.x).withR 4 (wordM s1.M (b + 8))) ⟨?_, ?_, ?_, ?_⟩ k2
    · exact (withR_o _ (by decide) _).trans hm.r1
    · exact (withR_o _ (by decide) _).trans hm.r2
    · exact (withR_o _ (by decide) _).trans hm.r3
    · exact (withR_o _ (by decide) _).trans hm.r13
  rw [g9] at k9
  rw [g10] at k10
  have c2 : Code s2.M (loadM (fun _ => 0) 0 (encL P)) := by rw [k4]; exact c1
  have m2 : s2.M (b + 9) = n / 256 % 256 := by rw [k4, g4]; exact byte_set _ (b + 8) n
  clear e1 k1 k2 a1 a2 q1 q2 q3 c1 g4 g9 g10 k4
  obtain ⟨a1, a2⟩ := read_k c2 hr h43 rfl (by omega) 2 _ i2
  have e1 := lb_eq s2.x s2.M b n v3 h2
  obtain ⟨l1, l2, -, l4, -, -, -, -, l9, l10⟩ := step_go (i := ⟨33, 5, 1, 0, 9, 0⟩) v1 (by rw [v2]; exact a1) (by rw [v2]; exact a2) (by rw [e1]; show s2.x.st ≠ 2; rw [v1]; decide)
  rw [runW_go v1]
  generalize stepW s2 = s3 at *
  rw [e1] at l1 l2 l4 l9 l10
  simp only at l1 l2 l4 l9 l10
  have u1 : s3.x.st = 0 := by rw [l1]; exact v1
  have u2 : s3.x.R 15 = 6 := by rw [l2]; show rSet (doX1 2 s2.x).R 5 _ 15 = 6; rw [rSet_other _ (by decide), step2, v2]
  have u4 : s3.x.R 4 = n := by rw [l2]; show rSet (doX1 2 s2.x).R 5 _ 4 = n; rw [rSet_other _ (by decide), (doX1_fields 2 s2.x).2.2.2.2.2.2.2.2 4 (by decide)]; exact v4
  have u5 : s3.x.R 5 = n / 256 % 256 := by rw [l2]; show rSet (doX1 2 s2.x).R 5 _ 5 = _; rw [rSet_same, m2]
  rw [k9] at l9
  rw [k10] at l10
  have c3 : Code s3.M (loadM (fun _ => 0) 0 (encL P)) := by rw [l4]; exact c2
  clear e1 l1 l2 a1 a2 v1 v2 v3 v4 c2 k9 k10 l4 m2
  obtain ⟨a1, a2⟩ := read_k c3 hr h43 rfl (by omega) 3 _ i3
  have e1 := sv_eq s3.x s3.M 1
  obtain ⟨n1, n2, -, n4, -, -, -, -, n9, n10⟩ := step_go (i := ⟨44, 0, 0, 0, 1, 0⟩) u1 (by rw [u2]; exact a1) (by rw [u2]; exact a2) (by rw [e1]; show (1 : Int) ≠ 2; decide)
  rw [runW_go u1]
  generalize stepW s3 = s4 at *
  rw [e1] at n1 n2 n9 n10
  simp only at n1 n2 n9 n10
  rw [runW_stop (by rw [n1]; decide)]
  refine ⟨s4, rfl, n1, ?_, ?_, ?_, ?_⟩
  · rw [n2, (doX1_fields 2 s3.x).2.2.2.2.2.2.2.2 4 (by decide)]; exact u4
  · rw [n2, (doX1_fields 2 s3.x).2.2.2.2.2.2.2.2 5 (by decide)]; exact u5
  · rw [n9, l9]; rfl
  · rw [n10, l10]
    exact ⟨_, _, rfl, rfl, rfl⟩
end Go.Proofs.Ytibmgmgkaacibaa

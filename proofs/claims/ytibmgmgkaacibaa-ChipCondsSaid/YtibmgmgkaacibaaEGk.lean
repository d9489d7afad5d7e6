/- Stage 16: ChipConds, plainly. -/
import Derived.Test.YtibmgmgkaacibaaKEB
namespace Go.Proofs.Ytibmgmgkaacibaa
open Go.RowKit Go.ChangeShapes Go.WideShapes Go.Deep Go.IntWalk
set_option linter.unusedVariables false
set_option linter.unusedSimpArgs false
def coL (sum : Bool) (c : Nat) : List I6 := [⟨bif sum then 23 else 22, 0, 0, 1, 0, 0⟩, ⟨41, 0, 0, 0, 8, (c : Int)⟩]
def coM (sum : Bool) (c : Nat) : Nat → Nat := loadM (fun _ => 0) 0 (encL (coL sum c))
theorem coOk (sum : Bool) (c : Nat) (hc : c < 14) : ∀ i ∈ coL sum c, rightP i = true := by
  rcases (by omega : c = 0 ∨ c = 1 ∨ c = 2 ∨ c = 3 ∨ c = 4 ∨ c = 5 ∨ c = 6 ∨ c = 7 ∨ c = 8 ∨ c = 9 ∨ c = 10 ∨ c = 11 ∨ c = 12 ∨ c = 13) with rfl | rfl | rfl | rfl | rfl | rfl | rfl | rfl | rfl | rfl | rfl | rfl | rfl | rfl <;> cases sum <;> decide +kernel
theorem co43 (sum : Bool) (c : Nat) : ∀ i ∈ coL sum c, i.op ≠ 43 := by
  intro i hi
  simp only [coL, List.mem_cons, List.mem_nil_iff, or_false] at hi
  rcases hi with rfl | rfl
  · cases sum <;> decide
  · show (41 : Int) ≠ 43; decide
theorem coR (sum : Bool) (c : Nat) (hc : c < 14) : readI (coM sum c) 0 = ⟨bif sum then 23 else 22, 0, 0, 1, 0, 0⟩ ∧ readB (coM sum c) 0 = true ∧ readI (coM sum c) 2 = ⟨41, 0, 0, 0, 8, (c : Int)⟩ ∧ readB (coM sum c) 2 = true := by
  have hr := coOk sum c hc
  have h43 := co43 sum c
  have hcd : Code (coM sum c) (loadM (fun _ => 0) 0 (encL (coL sum c))) := by unfold coM; exact fun _ _ => rfl
  have h0 : (coL sum c)[0]? = some ⟨bif sum then 23 else 22, 0, 0, 1, 0, 0⟩ := rfl
  have h1 : (coL sum c)[1]? = some ⟨41, 0, 0, 0, 8, (c : Int)⟩ := rfl
  have hl : (coL sum c).length = 2 := rfl
  generalize coM sum c = N at *
  generalize coL sum c = L at *
  obtain ⟨a1, a2⟩ := read_k hcd hr h43 rfl (by omega) 0 _ h0
  obtain ⟨b1, b2⟩ := read_k hcd hr h43 rfl (by omega) 1 _ h1
  exact ⟨a1, a2, b1, b2⟩
def coFx (q x : Ch) (l r k s : Nat) : Prop := q.st = x.st ∧ q.R 15 = (x.R 15 + 2) % 4294967296 ∧ q.nf = (s / 2147483648 != 0) ∧ q.zf = (s == 0) ∧ q.cf = sumC l r k ∧ q.vf = sumV l r k
theorem co_fx (op : Nat) (hop : (op == 43) = false) (h1 : maskB 46157266430 op = false) (h2 : maskB 268435454 op = true) (x : Ch) (l r k s : Nat) : coFx (stD op 0 s (sgP op s (sumX (doX1 op x) l r k))) x l r k s := by
  rw [stD_no h1, sgP_yes h2]
  refine ⟨rfl, ?_, rfl, rfl, rfl, rfl⟩
  show (x.withR 15 ((x.R 15 + szP op) % 4294967296)).R 15 = _
  unfold szP; rw [hop]
  exact rSet_same x.R 15 ((x.R 15 + 2) % 4294967296)
theorem co_first (sum : Bool) (x : Ch) (M : Nat → Nat) (l r r' k s : Nat) (hl : x.R 0 = l) (hr : x.R 1 = r) (hr' : (bif sum then r else 4294967295 - r) = r') (hk : (bif sum then 0 else 1) = k) (hs : sumN l r' k = s) : (doOf ⟨bif sum then 23 else 22, 0, 0, 1, 0, 0⟩ x M).M = M ∧ coFx (doOf ⟨bif sum then 23 else 22, 0, 0, 1, 0, 0⟩ x M).x x l r' k s := by
  cases sum
  · simp only [cond_false] at hr' hk ⊢
    obtain ⟨X, hX⟩ : ∃ X, doX1 22 x = X := ⟨_, rfl⟩
    have hX0 : X.R 0 = l := by rw [← hX, ← hl]; rfl
    have hX1 : X.R 1 = r := by rw [← hX, ← hr]; rfl
    have ha : ansP 22 0 0 0 l r ((x.R 15 + 4) % 4294967296) X M = ⟨sumX X l r' k, -1, 1, M, s⟩ := by rw [ansP_22, hr', hk, hs]
    have e : doOf ⟨22, 0, 0, 1, 0, 0⟩ x M = ⟨stD 22 0 s (sgP 22 s (sumX X l r' k)), -1, 1, M, s⟩ := doOf_eq 22 0 0 1 0 0 x M X hX l r _ hX0 hX1 rfl _ ha
    rw [e, ← hX]
    exact ⟨rfl, co_fx 22 rfl rfl rfl x l r' k s⟩
  · simp only [cond_true] at hr' hk ⊢
    obtain ⟨X, hX⟩ : ∃ X, doX1 23 x = X := ⟨_, rfl⟩
    have hX0 : X.R 0 = l := by rw [← hX, ← hl]; rfl
    have hX1 : X.R 1 = r := by rw [← hX, ← hr]; rfl
    have ha : ansP 23 0 0 0 l r ((x.R 15 + 4) % 4294967296) X M = ⟨sumX X l r' k, -1, 1, M, s⟩ := by subst hr'; subst hk; rw [ansP_23, hs]
    have e : doOf ⟨23, 0, 0, 1, 0, 0⟩ x M = ⟨stD 23 0 s (sgP 23 s (sumX X l r' k)), -1, 1, M, s⟩ := doOf_eq 23 0 0 1 0 0 x M X hX l r _ hX0 hX1 rfl _ ha
    rw [e, ← hX]
    exact ⟨rfl, co_fx 23 rfl rfl rfl x l r' k s⟩
theorem holdsP_flags {x y : Ch} (h1 : x.nf = y.nf) (h2 : x.zf = y.zf) (h3 : x.cf = y.cf) (h4 : x.vf = y.vf) (c : Nat) : holdsP x c = holdsP y c := by
  have e : ∀ n, evenP x n = evenP y n := fun n => by unfold evenP; rw [h1, h2, h3, h4]
  unfold holdsP; rw [e]
theorem co_second (c : Nat) (x : Ch) (M : Nat → Nat) (h15 : x.R 15 = 2) : (doOf ⟨41, 0, 0, 0, 8, (c : Int)⟩ x M).x.st = x.st ∧ (doOf ⟨41, 0, 0, 0, 8, (c : Int)⟩ x M).x.R 15 = (bif holdsP x c then 14 else 4) := by
  obtain ⟨X, hX⟩ : ∃ X, doX1 41 x = X := ⟨_, rfl⟩
  have hh : holdsP X c = holdsP x c := by rw [← hX]; exact holdsP_flags rfl rfl rfl rfl c
  have hst : X.st = x.st := by rw [← hX]; rfl
  have hX15 : X.R 15 = 4 := by rw [← hX, (doX1_fields 41 x).2.2.2.2.2.2.2.1, h15]; rfl
  have ha : ansP 41 0 c 8 (X.R 0) 8 6 X M = bif holdsP x c then ⟨X.withR 15 14, -1, 3, M, 0⟩ else ⟨X, -1, 1, M, 0⟩ := by rw [ansP_41, hh]
  have e : doOf ⟨41, 0, 0, 0, 8, (c : Int)⟩ x M = ⟨stD 41 0 _ (sgP 41 _ _), _, _, _, _⟩ := doOf_eq 41 0 0 0 c 8 x M X hX (X.R 0) 8 6 rfl rfl (by rw [h15]) _ ha
  rw [e, stD_no rfl, sgP_no rfl]
  cases holdsP x c
  · exact ⟨hst, hX15⟩
  · exact ⟨hst, rSet_same X.R 15 14⟩
def coS (sum : Bool) (c a b : Nat) : Ws := ⟨(Ch.zero.withR 0 a).withR 1 b, coM sum c, some []⟩
theorem co_run (sum : Bool) (c a b r k s : Nat) (hc : c < 14) (hr' : (bif sum then b else 4294967295 - b) = r) (hk : (bif sum then 0 else 1) = k) (hs : sumN a r k = s) : ∃ q : Ch, q.nf = (s / 2147483648 != 0) ∧ q.zf = (s == 0) ∧ q.cf = sumC a r k ∧ q.vf = sumV a r k ∧ (runW 2 (coS sum c a b)).x.R 15 = bif holdsP q c then 14 else 4 := by
  obtain ⟨r1, r2, r3, r4⟩ := coR sum c hc
  obtain ⟨s0, hs0⟩ : ∃ s0, coS sum c a b = s0 := ⟨_, rfl⟩
  have x0 : s0.x.st = 0 ∧ s0.x.R 15 = 0 ∧ s0.x.R 0 = a ∧ s0.x.R 1 = b ∧ s0.M = coM sum c := by rw [← hs0]; exact ⟨rfl, rfl, rfl, rfl, rfl⟩
  rw [hs0]
  obtain ⟨p1, p2, p3, p4, p7⟩ := x0
  obtain ⟨f1, f2, f3, f4, f5, f6, f7⟩ := co_first sum s0.x s0.M a b r k s p3 p4 hr' hk hs
  generalize coM sum c = N at *
  obtain ⟨g1, g2, g3, g4, g5, g6, g7, -⟩ := step_go (i := ⟨bif sum then 23 else 22, 0, 0, 1, 0, 0⟩) p1 (by rw [p7, p2]; exact r1) (by rw [p7, p2]; exact r2) (by rw [f2, p1]; decide)
  rw [runW_go p1]
  generalize stepW s0 = s1 at *
  rw [f2, p1] at g1
  rw [f1, p7] at g4
  have q15 : s1.x.R 15 = 2 := by rw [g2, f3, p2]
  obtain ⟨k1, k2⟩ := co_second c s1.x s1.M q15
  obtain ⟨l1, l2, -⟩ := step_go (i := ⟨41, 0, 0, 0, 8, (c : Int)⟩) g1 (by rw [g4, q15]; exact r3) (by rw [g4, q15]; exact r4) (by rw [k1, g1]; decide)
  rw [runW_go g1]
  generalize stepW s1 = s2 at *
  refine ⟨s1.x, by rw [g5, f4], by rw [g6, f5], by rw [g3, f6], by rw [g7, f7], ?_⟩
  show s2.x.R 15 = _
  rw [l2, k2]
end Go.Proofs.Ytibmgmgkaacibaa

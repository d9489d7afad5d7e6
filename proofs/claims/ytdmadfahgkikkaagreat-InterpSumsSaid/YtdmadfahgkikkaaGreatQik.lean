/- Package room: a new array; how many args; args as numbers; a division. -/
import Derived.Test.YtdmadfahgkikkaaGreatQek
import Derived.Deep.QuietTactic
namespace Go.Proofs.YtdmadfahgkikkaaGreat
open Go.RowKit Go.Lib Go.ChangeShapes Go.WideShapes Go.Deep
set_option linter.unusedVariables false
set_option linter.unusedSimpArgs false

def newS (M : RmM) (a b n : Int) : Int := if n < 0 ∨ 64 < n then 28425 else if fitsB M.hp a (b % 4) n = true then 36864 else 28421
def newN (M : RmM) (a b n : Int) : Int := if newS M a b n = 36864 then (M.hp.arrs.length : Int) + 1 else 0
def newM (M : RmM) (ap a b n : Int) : RmM := if newS M a b n = 36864 then M.withHp (M.hp.add (newA ap a (b % 4) (decide (4 ≤ b)) n)) else M
theorem and3 {b : Int} (h : 0 ≤ b ∧ b ≤ 7) : bits .and .i64 b 3 = b % 4 := by
  rcases (by omega : b = 0 ∨ b = 1 ∨ b = 2 ∨ b = 3 ∨ b = 4 ∨ b = 5 ∨ b = 6 ∨ b = 7) with rfl | rfl | rfl | rfl | rfl | rfl | rfl | rfl <;> decide +kernel
section
variable {c : Nat → Nat} {w : World} {rb : Nat} {M : RmM}
set_option maxRecDepth 100000 in
set_option maxHeartbeats 1000000 in
theorem rAlloc (h : Rm c w rb M) (ap a b n : Int) (hb0 : 0 ≤ b ∧ b ≤ 7) :
    Calls Tryz.prog 78 #[.pointer (some ⟨rb, 0, none⟩), .int .i64 ap, .int .i64 a, .int .i64 b, .int .i64 n] w fun e w' => e = .returned (.tuple #[.int .i32 (newN M a b n), .int .i64 (newS M a b n)]) ∧ ∃ c', Ext T1 c w c' w' ∧ Rm c' w' rb (newM M ap a b n) := by
  obtain ⟨hb, iv, fv, pv, sv, ivs, fvs, h⟩ := h
  have hfew := h.ok.few
  have HH := Lib.hid h
  have HAND := Lib.hid (and3 hb0)
  have b2 := h.bx.2.2.1
  have HS := Lib.hid (show newS M a b n = if n < 0 ∨ 64 < n then 28425 else if fitsB M.hp a (b % 4) n = true then 36864 else 28421 from rfl)
  have HN := Lib.hid (show newN M a b n = if newS M a b n = 36864 then (M.hp.arrs.length : Int) + 1 else 0 from rfl)
  have HM := Lib.hid (show newM M ap a b n = if newS M a b n = 36864 then M.withHp (M.hp.add (newA ap a (b % 4) (decide (4 ≤ b)) n)) else M from rfl)
  clear h
  generalize newN M a b n = N at *
  generalize newM M ap a b n = g at *
  generalize newS M a b n = S0 at *
  by_cases h1 : n < 0 ∨ 64 < n
  · have e1 : S0 = 28425 := by rw [HS.out, if_pos h1]
    subst e1
    have e2 : N = 0 := by rw [HN.out, if_neg (by decide)]
    subst e2
    have e3 : g = M := by rw [HM.out, if_neg (by decide)]
    subst e3
    clear HS HN HM HAND b2
    rcases (by omega : n < 0 ∨ (0 ≤ n ∧ 64 < n)) with h2 | ⟨h2, h3⟩
    · have t1 : decide (n < 0) = true := by simpa using h2
      clear h1 h2
      go_enter Tryz.func78, Tryz.ntmps78
      go_wp2_with fail
      refine bodyPost_ret (v := .tuple #[.int .i32 0, .int .i64 28425]) (by simp only [results, Tryz.f78]; simp [go_sem]) rfl ?_
      exact ⟨rfl, c, Ext.refl _ _ _, _, _, _, _, _, _, _, HH.out⟩
    · have t1 : decide (n < 0) = false := by simp; omega
      have t2 : decide (64 < n) = true := by simpa using h3
      clear h1 h2 h3
      go_enter Tryz.func78, Tryz.ntmps78
      go_wp2_with fail
      refine bodyPost_ret (v := .tuple #[.int .i32 0, .int .i64 28425]) (by simp only [results, Tryz.f78]; simp [go_sem]) rfl ?_
      exact ⟨rfl, c, Ext.refl _ _ _, _, _, _, _, _, _, _, HH.out⟩
  · have t1 : decide (n < 0) = false := by simp; omega
    have t2 : decide (64 < n) = false := by simp; omega
    have hz : 0 ≤ M.hp.size ∧ M.hp.size ≤ 4096 := by have := HH.out.ok; exact ⟨by have := this.1; omega, this.2.1⟩
    rw [if_neg h1] at HS
    clear h1
    cases hf : fitsB M.hp a (b % 4) n with
    | true =>
      have e1 : S0 = 36864 := by rw [HS.out, if_pos hf]
      subst e1
      have e2 : N = (M.hp.arrs.length : Int) + 1 := by rw [HN.out, if_pos rfl]
      subst e2
      have e3 : g = M.withHp (M.hp.add (newA ap a (b % 4) (decide (4 ≤ b)) n)) := by rw [HM.out, if_pos rfl]
      have HGG := Lib.hid e3
      have HA := Lib.hid (pAlloc HH.out.hp (by omega) hz ap a (b % 4) n (decide (4 ≤ b)) hf)
      have HOK := Lib.hid (HpOk.add HH.out.ok (own := ap) (sh := decide (4 ≤ b)) hf)
      clear HS HN HM e3 hf
      have hw1 : IntKind.i32.wrap ((M.hp.arrs.length + 1 : Nat) : Int) = (M.hp.arrs.length : Int) + 1 := by rw [IntKind.wrap_i32]; omega
      have hw2 : IntKind.i32.wrap ((M.hp.arrs.length : Int) + 1) = (M.hp.arrs.length : Int) + 1 := by rw [IntKind.wrap_i32]; omega
      go_enter Tryz.func78, Tryz.ntmps78
      go_wp2_with fail
      rw [HAND.out]
      refine HA.out.mono ?_
      rintro e w1 ⟨rfl, hh, hu⟩
      have HR := Lib.hid (HH.out.heapM hh hu HOK.out)
      clear hh hu HA HAND
      go_wp2_with fail
      refine bodyPost_ret (v := .tuple #[.int .i32 ((M.hp.arrs.length : Int) + 1), .int .i64 36864]) (by simp only [results, Tryz.f78]; simp [go_sem]) rfl ?_
      rw [HGG.out]
      exact ⟨rfl, _, HR.out.1, _, _, _, _, _, _, _, HR.out.2⟩
    | false =>
      have e1 : S0 = 28421 := by rw [HS.out, if_neg (by rw [hf]; simp)]
      subst e1
      have e2 : N = 0 := by rw [HN.out, if_neg (by decide)]
      subst e2
      have e3 : g = M := by rw [HM.out, if_neg (by decide)]
      subst e3
      have HA := Lib.hid (pAlloc_no HH.out.hp (by omega) hz ap a (b % 4) n (decide (4 ≤ b)) hf)
      clear HS HN HM hf
      go_enter Tryz.func78, Tryz.ntmps78
      go_wp2_with fail
      rw [HAND.out]
      refine HA.out.mono ?_
      rintro e w1 ⟨rfl, hu⟩
      have HR := Lib.hid hu
      clear hu HA HAND
      go_wp2_with fail
      refine bodyPost_ret (v := .tuple #[.int .i32 0, .int .i64 28421]) (by simp only [results, Tryz.f78]; simp [go_sem]) rfl ?_
      exact ⟨rfl, c, Ext.quietT _ c HR.out, _, _, _, _, _, _, _, HH.out.quiet HR.out⟩
end
def servesP (op : Int) : Int := if op = 27 ∨ op = 28 then 1 else if op = 17 ∨ op = 18 ∨ op = 29 then 2 else if op = 30 ∨ op = 36 then 3 else if op = 31 ∨ op = 32 then 5 else -1
theorem rServes (op : Int) (w : World) : Calls Tryz.prog 59 #[.int .i64 op] w fun e w' => e = .returned (.int .i64 (servesP op)) ∧ w = w' := by
  have HP := Lib.hid (show servesP op = if op = 27 ∨ op = 28 then 1 else if op = 17 ∨ op = 18 ∨ op = 29 then 2 else if op = 30 ∨ op = 36 then 3 else if op = 31 ∨ op = 32 then 5 else -1 from rfl)
  generalize servesP op = r at *
  go_enter Tryz.func59, Tryz.ntmps59
  go_wp2_with fail
  all_goals go_ret
  all_goals
    refine ⟨ret_i64 ?_, rfl⟩
    rw [HP.out]
    simp_all
theorem rDivided_no (n : Int) (w : World) : Calls Tryz.prog 74 #[.int .i32 n, .bool false] w fun e w' => e = .returned (.tuple #[.int .i32 0, .int .i64 28419]) ∧ w = w' := by
  go_enter Tryz.func74, Tryz.ntmps74
  go_wp2_with fail
  refine bodyPost_ret (v := .tuple #[.int .i32 0, .int .i64 28419]) (by simp only [results, Tryz.f74]; simp [go_sem]) rfl ?_
  exact ⟨rfl, rfl⟩
theorem rDivided (n : Int) (w : World) : Calls Tryz.prog 74 #[.int .i32 n, .bool true] w fun e w' => e = .returned (.tuple #[.int .i32 n, .int .i64 36864]) ∧ w = w' := by
  go_enter Tryz.func74, Tryz.ntmps74
  go_wp2_with fail
  refine bodyPost_ret (v := .tuple #[.int .i32 n, .int .i64 36864]) (by simp only [results, Tryz.f74]; simp [go_sem]) rfl ?_
  exact ⟨rfl, rfl⟩
/-- numbers of 32 bits in a slice -/
def I32 (w : World) (v : Value) (xs : List Int) : Prop := (∀ x ∈ xs, -2147483648 ≤ x ∧ x ≤ 2147483647) ∧ ∃ a c, v = .slice a xs.length c ∧ xs.length ≤ c ∧ c ≤ maxLen ∧ (xs = [] ∨ ∃ g off, a = some ⟨g, off, none⟩ ∧ ∀ j, j < xs.length → w.cell? ⟨g, off + j, none⟩ = some (.int .i32 (xs.getD j 0)))
theorem I32.upd {w w' : World} {v : Value} {xs : List Int} {S : Nat → Prop} (h : I32 w v xs) (hu : Upd S w w') (hS : ∀ k, v.ownBlock = some k → ¬ S k) : I32 w' v xs := by
  obtain ⟨h1, a, c, rfl, h2, h3, h4⟩ := h
  refine ⟨h1, a, c, rfl, h2, h3, ?_⟩
  rcases h4 with h4 | ⟨g, off, rfl, h4⟩
  · exact .inl h4
  · refine .inr ⟨g, off, rfl, fun j hj => ?_⟩
    have hc := h4 j hj
    exact (hu.cell (p := ⟨g, off + j, none⟩) (World.block_lt_of_cell? w _ hc) (hS g rfl)).trans hc
theorem I32.at {w : World} {a : Option Addr} {n c k : Nat} {xs : List Int} (h : I32 w (.slice a n c) xs) (hk : k < xs.length) : ∃ g off, a = some ⟨g, off, none⟩ ∧ n = xs.length ∧ w.cell? ⟨g, off + k, none⟩ = some (.int .i32 (xs.getD k 0)) := by
  obtain ⟨h1, a', c', he, h2, h3, h4⟩ := h
  simp at he
  obtain ⟨rfl, rfl, rfl⟩ := he
  rcases h4 with h4 | ⟨g, off, rfl, h4⟩
  · subst h4; simp at hk
  · exact ⟨g, off, rfl, rfl, h4 k hk⟩
end Go.Proofs.YtdmadfahgkikkaaGreat

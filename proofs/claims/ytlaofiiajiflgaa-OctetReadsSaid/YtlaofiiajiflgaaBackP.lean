/- What OctetBack lays, and takes again: plain lists. -/
import Derived.Test.YtlaofiiajiflgaaSteps
namespace Go.Proofs.Ytlaofiiajiflgaa
open Go.RowKit
set_option linter.unusedVariables false

def layB (s : StepR) : List Int :=
  if s.what % 4 = 0 then [s.n % 256 % 256]
  else if s.what % 4 = 1 then [s.n % 65536 / 256 % 256, s.n % 65536 % 256]
  else if s.what % 4 = 2 then [wrap32 s.n / 16777216 % 256, wrap32 s.n / 65536 % 256, wrap32 s.n / 256 % 256, wrap32 s.n % 256]
  else ((s.bs.take 255).length : Int) :: s.bs.take 255
def layAll (L : List StepR) : List Int := L.flatMap layB
theorem layB_len (s : StepR) : (layB s).length ≤ 256 := by
  unfold layB
  split
  · simp
  · split
    · simp
    · split
      · simp
      · simp; omega
theorem layAll_len (L : List StepR) : (layAll L).length ≤ 256 * L.length := by
  induction L with
  | nil => simp [layAll]
  | cons s L ih =>
    have := layB_len s
    simp only [layAll, List.flatMap_cons, List.length_append, List.length_cons] at ih ⊢
    omega
theorem layAll_take (L : List StepR) (k : Nat) (hk : k < L.length) : layAll (L.take (k + 1)) = layAll (L.take k) ++ layB (L.getD k default) := by
  have e : L.take (k + 1) = L.take k ++ [L.getD k default] := by
    rw [List.take_succ_eq_append_getElem hk]
    simp [List.getD, hk]
  rw [e]
  simp only [layAll, List.flatMap_append, List.flatMap_cons, List.flatMap_nil, List.append_nil]

/-- the world since W: nothing of W has turned, and the Writer at wb, of the call's own, has xs -/
def Mine (t : TypeId) (W : World) (wb : Nat) (xs : List Int) (wr : World) : Prop :=
  ∃ v, Wr t wr wb v xs ∧ Upd (fun _ => False) W wr ∧ ∀ k, fp wb v k → W.heap.size ≤ k
theorem Mine.step {t : TypeId} {W wr w2 : World} {wb : Nat} {xs zs : List Int} (h : Mine t W wb xs wr) (k : ∀ v, Wr t wr wb v xs → (∀ k, fp wb v k → W.heap.size ≤ k) → Laid t wr wb v zs w2) : Mine t W wb zs w2 := by
  obtain ⟨v, h1, h2, h3⟩ := h
  obtain ⟨v', k1, k2, k3⟩ := k v h1 h3
  refine ⟨v', k1, h2.trans k2 (fun i hi hlt => by have := h3 i hi; omega), fun i hi => ?_⟩
  rcases hi with rfl | hi
  · exact h3 i (.inl rfl)
  · rcases k3 i hi with h | h
    · exact h3 i (.inr h)
    · exact Nat.le_trans h2.size h
theorem Mine.upd {t : TypeId} {W wr w2 : World} {wb : Nat} {xs : List Int} (h : Mine t W wb xs wr) (hu : Upd (fun _ => False) wr w2) : Mine t W wb xs w2 := by
  obtain ⟨v, h1, h2, h3⟩ := h
  exact ⟨v, h1.upd hu (fun _ _ h => h), h2.trans hu (fun _ h _ => h), h3⟩
theorem Mine.below {t : TypeId} {W wr : World} {wb : Nat} {xs : List Int} (h : Mine t W wb xs wr) : Below W.heap.size W wr := by
  obtain ⟨v, h1, h2, h3⟩ := h
  exact h2.below (Nat.le_refl _) (fun _ h => h.elim)
theorem mine_step {t : TypeId} {W wr w2 : World} {wb : Nat} {v : Value} {zs : List Int} (h2 : Upd (fun _ => False) W wr) (h3 : ∀ k, fp wb v k → W.heap.size ≤ k) (k : Laid t wr wb v zs w2) : Mine t W wb zs w2 := by
  obtain ⟨v', k1, k2, k3⟩ := k
  refine ⟨v', k1, h2.trans k2 (fun i hi hlt => by have := h3 i hi; omega), fun i hi => ?_⟩
  rcases hi with rfl | hi
  · exact h3 i (.inl rfl)
  · rcases k3 i hi with h | h
    · exact h3 i (.inr h)
    · exact Nat.le_trans h2.size h
/-- what is new is not the Writer's -/
theorem new_apart {t : TypeId} {w w1 : World} {wb : Nat} {v x : Value} {xs ys : List Int} (h : Wr t w wb v xs) (hN : New w x ys w1) : ∀ k, x.ownBlock = some k → ¬ fp wb v k := by
  intro k hk hf
  have h1 := hN.2.2 k hk
  rcases hf with rfl | hf
  · have := h.lt; omega
  · have := (h.own.lt k hf).2; omega

theorem takeP_app (ts rest : List Int) (lk : Bool) (n : Int) (hn : n = ts.length) : takeP n lk (ts ++ rest) = (ts, lk, rest) := by
  subst hn
  unfold takeP
  rw [if_neg (by simp; omega)]
  simp
theorem w64_32 (n : Int) : wrap64 (wrap32 n) = wrap32 n := by unfold wrap64 wrap32; omega
theorem back0 {s : StepR} (h : s.what % 4 = 0) (rest : List Int) : takeP 1 false (layB s ++ rest) = ([s.n % 256 % 256], false, rest) ∧ beN [s.n % 256 % 256] = s.n % 256 := by
  unfold layB
  rw [if_pos h]
  exact ⟨takeP_app _ _ _ _ rfl, by simp [beN]⟩
theorem back1 {s : StepR} (h : s.what % 4 = 1) (rest : List Int) : takeP 2 false (layB s ++ rest) = ([s.n % 65536 / 256 % 256, s.n % 65536 % 256], false, rest) ∧ beN [s.n % 65536 / 256 % 256, s.n % 65536 % 256] = s.n % 65536 := by
  unfold layB
  rw [if_neg (by omega), if_pos h]
  exact ⟨takeP_app _ _ _ _ rfl, by simp only [beN, List.foldl]; omega⟩
theorem back2 {s : StepR} (h : s.what % 4 = 2) (rest : List Int) : takeP 4 false (layB s ++ rest) = ([wrap32 s.n / 16777216 % 256, wrap32 s.n / 65536 % 256, wrap32 s.n / 256 % 256, wrap32 s.n % 256], false, rest) ∧
    sgn (beN [wrap32 s.n / 16777216 % 256, wrap32 s.n / 65536 % 256, wrap32 s.n / 256 % 256, wrap32 s.n % 256]) = wrap32 s.n := by
  unfold layB
  rw [if_neg (by omega), if_neg (by omega), if_pos h]
  refine ⟨takeP_app _ _ _ _ rfl, ?_⟩
  have h1 : -2147483648 ≤ wrap32 s.n ∧ wrap32 s.n ≤ 2147483647 := by unfold wrap32; omega
  generalize wrap32 s.n = m at *
  have e : beN [m / 16777216 % 256, m / 65536 % 256, m / 256 % 256, m % 256] = m % 4294967296 := by simp only [beN, List.foldl]; omega
  rw [e]
  unfold sgn
  by_cases hc : m % 4294967296 < 2147483648
  · rw [if_pos hc]; omega
  · rw [if_neg hc]; omega
theorem back3 {s : StepR} (h0 : ¬ s.what % 4 = 0) (h1 : ¬ s.what % 4 = 1) (h2 : ¬ s.what % 4 = 2) (rest : List Int) : shortP false (layB s ++ rest) = (s.bs.take 255, false, rest) := by
  unfold layB
  rw [if_neg h0, if_neg h1, if_neg h2]
  unfold shortP
  rw [show ((((s.bs.take 255).length : Int) :: s.bs.take 255) ++ rest) = [((s.bs.take 255).length : Int)] ++ (s.bs.take 255 ++ rest) from rfl, takeP_app _ _ _ 1 rfl]
  have e : beN ([((s.bs.take 255).length : Int)], false, s.bs.take 255 ++ rest).1 = ((s.bs.take 255).length : Int) := by simp [beN]
  rw [e]
  exact takeP_app _ _ _ _ rfl
theorem layAll_drop (M : List StepR) (k : Nat) (hk : k < M.length) : layAll (M.drop k) = layB (M.getD k default) ++ layAll (M.drop (k + 1)) := by
  have e : M.drop k = M.getD k default :: M.drop (k + 1) := by
    rw [List.drop_eq_getElem_cons hk]
    simp [List.getD, hk]
  rw [e]
  rfl

/-- the world since W: nothing of W has turned, and the Reader at b, of the call's own, has ys -/
def RMine (W : World) (b : Nat) (lk : Bool) (ys : List Int) (wr : World) : Prop :=
  ∃ v, Rd 50 wr b v lk ys ∧ Upd (fun _ => False) W wr ∧ W.heap.size ≤ b
theorem RMine.below {W wr : World} {b : Nat} {lk : Bool} {ys : List Int} (h : RMine W b lk ys wr) : Below W.heap.size W wr := by
  obtain ⟨v, h1, h2, h3⟩ := h
  exact h2.below (Nat.le_refl _) (fun _ h => h.elim)
theorem rmine_step {W wr w2 : World} {b : Nat} {v' : Value} {lk : Bool} {ys : List Int} (h2 : Upd (fun _ => False) W wr) (h3 : W.heap.size ≤ b) (h : Rd 50 w2 b v' lk ys) (hu : Upd (fun k => k = b) wr w2) : RMine W b lk ys w2 :=
  ⟨v', h, h2.trans hu (fun i hi hlt => by omega), h3⟩
theorem layAll_drop40 (L : List StepR) (k : Nat) (hk : k < L.length) (h40 : k < 40) : layAll ((L.take 40).drop k) = layB (L.getD k default) ++ layAll ((L.take 40).drop (k + 1)) := by
  rw [layAll_drop _ k (by simp; omega)]
  congr 2
  simp [List.getD, hk, h40]
theorem layAll_end40 (L : List StepR) (k : Nat) (h : L.length ≤ k ∨ 40 ≤ k) : layAll ((L.take 40).drop k) = [] := by
  rw [List.drop_of_length_le (by simp; omega)]
  rfl
theorem steps_at {W wr : World} {a : Option Addr} {c k : Nat} {L : List StepR} (h : StepsAt W (.slice a L.length c) L) (hb : Below W.heap.size W wr) (hk : k < L.length) :
    ∃ g off vb, a = some ⟨g, off, none⟩ ∧ L.length ≤ c ∧ c ≤ maxLen ∧ g < W.heap.size ∧ wr.cell? ⟨g, off + k * 3, none⟩ = some (.int .i64 (L.getD k default).what) ∧ wr.cell? ⟨g, off + k * 3 + 1, none⟩ = some (.int .i64 (L.getD k default).n) ∧
      wr.cell? ⟨g, off + k * 3 + 2, none⟩ = some vb ∧ Vw W vb (L.getD k default).bs ∧ (Lit.int .i64 (L.getD k default).what).wf = true ∧ (Lit.int .i64 (L.getD k default).n).wf = true := by
  rcases h with ⟨_, hn⟩ | ⟨g, off, c', he, hl, hm, hs⟩
  · subst hn; simp at hk
  · simp at he
    obtain ⟨rfl, rfl⟩ := he
    obtain ⟨vb, h1, h2, h3, h4, h5, h6⟩ := hs k hk
    have hg := World.block_lt_of_cell? W _ h1
    exact ⟨g, off, vb, rfl, hl, hm, hg, by rw [hb.cell (p := ⟨g, off + k * 3, none⟩) hg]; exact h1, by rw [hb.cell (p := ⟨g, off + k * 3 + 1, none⟩) hg]; exact h2, by rw [hb.cell (p := ⟨g, off + k * 3 + 2, none⟩) hg]; exact h3, h4, h5, h6⟩
theorem cell_keep {w w' : World} {b g o : Nat} {y : Value} (hu : Upd (fun i => i = b) w w') (h : w.cell? ⟨g, o, none⟩ = some y) (hg : g ≠ b) : w'.cell? ⟨g, o, none⟩ = some y := by
  rw [hu.cell (p := ⟨g, o, none⟩) (World.block_lt_of_cell? _ _ h) hg]; exact h
theorem cell_new {w w' : World} {g o : Nat} {y : Value} (hu : Upd (fun _ => False) w w') (h : w.cell? ⟨g, o, none⟩ = some y) : w'.cell? ⟨g, o, none⟩ = some y := by
  rw [hu.cell (p := ⟨g, o, none⟩) (World.block_lt_of_cell? _ _ h) (fun h => h)]; exact h
theorem RMine.upd {W wr w2 : World} {b : Nat} {lk : Bool} {ys : List Int} (h : RMine W b lk ys wr) (hu : Upd (fun _ => False) wr w2) : RMine W b lk ys w2 := by
  obtain ⟨v, h1, h2, h3⟩ := h
  exact ⟨v, h1.upd hu (fun _ _ h => h), h2.trans hu (fun _ h _ => h), h3⟩
theorem str_of {w : World} {v : Value} {ys : List Int} (h : Vw w v ys) : (convert 24 9 v).run Try.prog w = .ok (.string (strOfNums ys)) w :=
  run_str Try.underlying24 Try.underlying5 Try.underlying9 h
theorem k64_32 (n : Int) : IntKind.i64.wrap (IntKind.i32.wrap n) = wrap32 n := by rw [IntKind.wrap_i64, IntKind.wrap_i32]; unfold wrap32; omega
end Go.Proofs.Ytlaofiiajiflgaa

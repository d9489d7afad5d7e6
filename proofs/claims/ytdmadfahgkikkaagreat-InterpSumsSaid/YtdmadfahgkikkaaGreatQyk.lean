/- Package room: an image's clone reads as the same image. -/
import Derived.Test.YtdmadfahgkikkaaGreatQx
import Derived.Test.YtdmadfahgkikkaaGreatKHa
import Derived.Deep.RegionLaw
import Derived.Deep.RegionHeld3
namespace Go.Proofs.YtdmadfahgkikkaaGreat
open Go.RowKit Go.Lib Go.ChangeShapes Go.WideShapes Go.Deep
set_option linter.unusedVariables false
set_option linter.unusedSimpArgs false

theorem Sl.updQ {w w' : World} {v : Value} {sz n : Nat} {f : Nat → Nat → Value} {S : Nat → Prop} (h : Sl w v sz n f) (hu : Upd S w w') (hS : n = 0 ∨ ∀ b, v.ownBlock = some b → ¬ S b) : Sl w' v sz n f := by
  obtain ⟨a, c, rfl, h1, h2, h3⟩ := h
  refine ⟨a, c, rfl, h1, h2, ?_⟩
  rcases hS with h0 | hS
  · exact .inl h0
  rcases h3 with h3 | ⟨g, off, rfl, h4⟩
  · exact .inl h3
  · refine .inr ⟨g, off, rfl, fun i hi j hj => ?_⟩
    have hc := h4 i hi j hj
    exact (hu.cell (p := ⟨g, off + i * sz + j, none⟩) (World.block_lt_of_cell? w _ hc) (hS g rfl)).trans hc
/-- numbers that do not lie in block g -/
def IntsO (g : Nat) (w : World) (v : Value) (L : List Int) : Prop := Ints w v L ∧ (L.length = 0 ∨ ∀ b, v.ownBlock = some b → b ≠ g)
def InssO (g : Nat) (w : World) (v : Value) (L : List InsM) : Prop := Inss w v L ∧ (L.length = 0 ∨ ∀ b, v.ownBlock = some b → b ≠ g)
theorem IntsO.upd {g : Nat} {w w' : World} {v : Value} {L : List Int} (h : IntsO g w v L) (hu : Upd (fun b => b = g) w w') : IntsO g w' v L := by
  refine ⟨⟨h.1.1.updQ hu ?_, h.1.2⟩, h.2⟩
  rcases h.2 with h | h
  · exact .inl h
  · exact .inr (fun b hb => h b hb)
theorem InssO.upd {g : Nat} {w w' : World} {v : Value} {L : List InsM} (h : InssO g w v L) (hu : Upd (fun b => b = g) w w') : InssO g w' v L := by
  refine ⟨⟨h.1.1.updQ hu ?_, h.1.2⟩, h.2⟩
  rcases h.2 with h | h
  · exact .inl h
  · exact .inr (fun b hb => h b hb)
theorem IntsO.quiet {g : Nat} {w w' : World} {v : Value} {L : List Int} (h : IntsO g w v L) (hu : Upd (fun _ => False) w w') : IntsO g w' v L := h.upd (hu.mono (fun _ h _ => h.elim))
theorem InssO.quiet {g : Nat} {w w' : World} {v : Value} {L : List InsM} (h : InssO g w v L) (hu : Upd (fun _ => False) w w') : InssO g w' v L := h.upd (hu.mono (fun _ h _ => h.elim))
theorem Sl.ltQ {w : World} {v : Value} {sz n : Nat} {f : Nat → Nat → Value} (h : Sl w v sz n f) (hsz : 0 < sz) : n = 0 ∨ ∀ b, v.ownBlock = some b → b < w.heap.size := by
  obtain ⟨a, c, rfl, _, _, h3⟩ := h
  rcases h3 with h3 | ⟨g, off, rfl, h4⟩
  · exact .inl h3
  · rcases Nat.eq_zero_or_pos n with h0 | h0
    · exact .inl h0
    · refine .inr (fun b hb => ?_)
      simp [Value.ownBlock] at hb
      subst hb
      exact World.block_lt_of_cell? w _ (h4 0 h0 0 hsz)
theorem Ints.off {g : Nat} {w : World} {v : Value} {L : List Int} (h : Ints w v L) (hg : w.heap.size ≤ g) : IntsO g w v L := by
  refine ⟨h, ?_⟩
  rcases h.1.ltQ (by omega) with h | h
  · exact .inl h
  · exact .inr (fun b hb e => by have := h b hb; omega)
theorem Inss.off {g : Nat} {w : World} {v : Value} {L : List InsM} (h : Inss w v L) (hg : w.heap.size ≤ g) : InssO g w v L := by
  refine ⟨h, ?_⟩
  rcases h.1.ltQ (by omega) with h | h
  · exact .inl h
  · exact .inr (fun b hb e => by have := h b hb; omega)
theorem Sl.cloQ {e : TypeId} {sz n : Nat} {w w' : World} {v : Value} {f : Nat → Nat → Value} (h : Clo e sz w v n (cellsQ sz n f) w') : Sl w' v sz n f := by
  refine (Sl.own h.1).congr (fun i hi j hj => ?_)
  rw [List.getD, cellsQ_at hi hj]
  rfl
def intF (L : List Int) (i j : Nat) : Value := .int .i64 (L.getD i 0)
theorem Ints.clo {g : Nat} {w w' : World} {v : Value} {L : List Int} (hw : ∀ n ∈ L, wi64 n) (h : Clo 3 1 w v L.length (cellsQ 1 L.length (intF L)) w') (hg : g < w.heap.size) : IntsO g w' v L :=
  ⟨⟨Sl.cloQ h, hw⟩, .inr (fun b hb e => by have := h.2.2 b hb; omega)⟩
theorem Inss.clo {g : Nat} {w w' : World} {v : Value} {L : List InsM} (hw : ∀ x ∈ L, wi64 x.op ∧ wi64 x.a ∧ wi64 x.b) (h : Clo 30 3 w v L.length (cellsQ 3 L.length (insF L)) w') (hg : g < w.heap.size) : InssO g w' v L :=
  ⟨⟨Sl.cloQ h, hw⟩, .inr (fun b hb e => by have := h.2.2 b hb; omega)⟩
theorem cellsQ_set {sz n k j : Nat} {f : Nat → Nat → Value} (hk : k < n) (hj : j < sz) (u : Value) : (cellsQ sz n f).set (k * sz + j) u = cellsQ sz n (fun i l => if i = k ∧ l = j then u else f i l) := by
  apply List.ext_getElem?
  intro t
  rw [List.getElem?_set]
  have h : k * sz + j < n * sz := by
    have : (k + 1) * sz ≤ n * sz := Nat.mul_le_mul_right _ hk
    rw [Nat.add_mul] at this
    omega
  by_cases ht : t < n * sz
  · rw [cellsQ_get ht]
    have hsz : 0 < sz := by omega
    by_cases e : k * sz + j = t
    · subst e
      rw [if_pos rfl, if_pos (by rw [cellsQ_len]; exact h), cellsQ_at hk hj, if_pos ⟨rfl, rfl⟩]
    · rw [if_neg e, cellsQ_get ht, if_neg]
      rintro ⟨h1, h2⟩
      apply e
      rw [← h1, ← h2, Nat.div_add_mod']
  · rw [if_neg (by omega), List.getElem?_eq_none (by rw [cellsQ_len]; omega), List.getElem?_eq_none (by rw [cellsQ_len]; omega)]
theorem rowAt {w : World} {e : TypeId} {sz n k j : Nat} {v : Value} {f : Nat → Nat → Value} (h : w.ownsRow 0 e sz v n (cellsQ sz n f)) (hk : k < n) (hj : j < sz) : ∃ g c, v = .slice (some ⟨g, 0, none⟩) n c ∧ w.cell? ⟨g, k * sz + j, none⟩ = some (f k j) ∧ w.frozen? ⟨g, k * sz + j, none⟩ = false := by
  rcases h.2 with ⟨_, h0⟩ | ⟨g, cap, cur, rfl, _⟩
  · omega
  · have := h.cells (g := g) rfl (k * sz + j) (f k j) (cellsQ_at hk hj)
    rw [addr_add, Nat.zero_add] at this
    exact ⟨g, cap, rfl, this, hpFrozen h _⟩
theorem cellsQ_congr {sz n : Nat} {f f' : Nat → Nat → Value} (h : ∀ i, i < n → ∀ j, j < sz → f i j = f' i j) : cellsQ sz n f = cellsQ sz n f' := by
  apply List.ext_getElem?
  intro t
  by_cases ht : t < n * sz
  · rw [cellsQ_get ht, cellsQ_get ht]
    have hsz : 0 < sz := by
      rcases Nat.eq_zero_or_pos sz with h0 | h0
      · subst h0; simp at ht
      · exact h0
    rw [h _ (Nat.div_lt_of_lt_mul (by rw [Nat.mul_comm]; exact ht)) _ (Nat.mod_lt _ hsz)]
  · rw [List.getElem?_eq_none (by rw [cellsQ_len]; omega), List.getElem?_eq_none (by rw [cellsQ_len]; omega)]
/-- one import has a new list of params -/
theorem imp_turn {w : World} {g c n : Nat} {L : List ImpM} {p : Nat → Value} (h : w.ownsRow 0 96 4 (.slice (some ⟨g, 0, none⟩) n c) n (cellsQ 4 n (impF L p))) {k : Nat} (hk : k < n) (q : Value) :
    (w.setCell ⟨g, k * 4 + 2, none⟩ q).ownsRow 0 96 4 (.slice (some ⟨g, 0, none⟩) n c) n (cellsQ 4 n (impF L (fun i => if i = k then q else p i))) := by
  have h1 := hpSet h (k * 4 + 2) q
  rw [cellsQ_set hk (by omega)] at h1
  rw [cellsQ_congr (f' := fun i l => if i = k ∧ l = 2 then q else impF L p i l)]
  · exact h1
  · intro i hi j hj
    by_cases e : i = k
    · subst e
      rcases (by omega : j = 0 ∨ j = 1 ∨ j = 2 ∨ j = 3) with rfl | rfl | rfl | rfl <;> simp [impF]
    · simp [impF, e]
theorem impF_one (L : List ImpM) (p : Nat → Value) (hp : ∀ i, i < L.length → (p i).oneCell' = true) : ∀ i, i < L.length → ∀ j, j < 4 → (impF L p i j).oneCell' = true := by
  intro i hi j hj
  rcases (by omega : j = 0 ∨ j = 1 ∨ j = 2 ∨ j = 3) with rfl | rfl | rfl | rfl
  · rfl
  · rfl
  · exact hp i hi
  · rfl
theorem metF_one (L : List MetM) (p q r : Nat → Value) (hp : ∀ i, i < L.length → (p i).oneCell' = true ∧ (q i).oneCell' = true ∧ (r i).oneCell' = true) : ∀ i, i < L.length → ∀ j, j < 4 → (metF L p q r i j).oneCell' = true := by
  intro i hi j hj
  rcases (by omega : j = 0 ∨ j = 1 ∨ j = 2 ∨ j = 3) with rfl | rfl | rfl | rfl
  · exact (hp i hi).1
  · rfl
  · exact (hp i hi).2.1
  · exact (hp i hi).2.2
theorem Ints.oneQ {w : World} {v : Value} {L : List Int} (h : Ints w v L) : v.oneCell' = true := by
  obtain ⟨a, c, rfl, -, -⟩ := h.slice
  rfl
theorem Inss.oneQ {w : World} {v : Value} {L : List InsM} (h : Inss w v L) : v.oneCell' = true := by
  obtain ⟨a, c, rfl, -, -⟩ := h.slice
  rfl
end Go.Proofs.YtdmadfahgkikkaaGreat

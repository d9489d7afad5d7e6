/- How an argument of type []Step reads: the cells of each step. -/
import Derived.Test.YtlaofiiajiflgaaRd
import Derived.ProofKit
import Derived.Deep.Slices
import Derived.Deep.Fields
import Derived.ChangeSame
import Derived.Carry
namespace Go.Proofs.Ytlaofiiajiflgaa
open Go.RowKit Go.ChangeShapes Go.WideShapes Go.Deep
set_option linter.unusedVariables false

structure StepR where
  what : Int
  n : Int
  bs : List Int
instance : Inhabited StepR := ⟨⟨0, 0, []⟩⟩

def StepAt (w : World) (g off : Nat) (s : StepR) : Prop :=
  ∃ vb, w.cell? ⟨g, off, none⟩ = some (.int .i64 s.what) ∧ w.cell? ⟨g, off + 1, none⟩ = some (.int .i64 s.n) ∧ w.cell? ⟨g, off + 2, none⟩ = some vb ∧ Vw w vb s.bs ∧ (Lit.int .i64 s.what).wf = true ∧ (Lit.int .i64 s.n).wf = true
def StepsAt (w : World) (v : Value) (L : List StepR) : Prop :=
  ((∃ a c, v = .slice a 0 c) ∧ L = []) ∨ ∃ g off c, v = .slice (some ⟨g, off, none⟩) L.length c ∧ L.length ≤ c ∧ c ≤ maxLen ∧ ∀ i, i < L.length → StepAt w g (off + i * 3) (L.getD i default)

theorem Vw.below {W w : World} {v : Value} {ys : List Int} (h : Vw W v ys) (hb : Below W.heap.size W w) : Vw w v ys := by
  refine ⟨h.1, ?_⟩
  rcases h.2 with h | ⟨g, off, c, rfl, h1, h2, h3⟩
  · exact .inl h
  · refine .inr ⟨g, off, c, rfl, h1, h2, fun j hj => ?_⟩
    have hc := h3 j hj
    rw [hb.cell (p := ⟨g, off + j, none⟩) (World.block_lt_of_cell? W _ hc)]
    exact hc
theorem StepAt.below {W w : World} {g off : Nat} {s : StepR} (h : StepAt W g off s) (hb : Below W.heap.size W w) : StepAt w g off s := by
  obtain ⟨vb, h1, h2, h3, h4, h5⟩ := h
  have hg : g < W.heap.size := World.block_lt_of_cell? W _ h1
  exact ⟨vb, by rw [hb.cell (p := ⟨g, off, none⟩) hg]; exact h1, by rw [hb.cell (p := ⟨g, off + 1, none⟩) hg]; exact h2, by rw [hb.cell (p := ⟨g, off + 2, none⟩) hg]; exact h3, h4.below hb, h5⟩
theorem StepsAt.below {W w : World} {v : Value} {L : List StepR} (h : StepsAt W v L) (hb : Below W.heap.size W w) : StepsAt w v L := by
  rcases h with h | ⟨g, off, c, h1, h2, h3, h4⟩
  · exact .inl h
  · exact .inr ⟨g, off, c, h1, h2, h3, fun i hi => (h4 i hi).below hb⟩

section
variable {H : Type} {enc : TypeId × Value → H}
/-- bytes as an argument -/
theorem open_bytes {W : World} {n : Nat} {v : Value} {x : DataW H × List MemPlace} (h : DataW.trod enc Try.prog W 0 (fun _ => true) true n 24 [v] = some x) :
    ∃ ys, Vw W v ys ∧ ((v = .slice none 0 0 ∧ x.1 = .nil) ∨ ∃ (zs : List Int), ys.length ≤ zs.length ∧ x.1 = .slice (lits .u8 ys) (lits .u8 (zs.drop ys.length)) ∧ ys = zs.take ys.length) := by
  rcases open_ints Try.underlying24 Try.underlying5 (by kernel_rfl) h with ⟨hcs, hx⟩ | ⟨a, len, cap, zs, hcs, _, hl, hm, hz, hx, hcell, hwz⟩
  · simp at hcs
    subst hcs
    exact ⟨[], Vw.nil _, .inl ⟨rfl, by rw [hx]⟩⟩
  · simp at hcs
    subst hcs
    simp at hz
    refine ⟨zs.take len, ⟨fun y hy => by have := bounds_u8 (hwz y (List.mem_of_mem_take hy)); omega, ?_⟩, .inr ⟨zs, by simp; omega, ?_, ?_⟩⟩
    · have hlen : (zs.take len).length = len := by simp; omega
      obtain ⟨b, off, spot⟩ := a
      by_cases h0 : spot = none
      · subst h0
        refine .inr ⟨b, off, cap, by rw [hlen], by omega, hm, fun j hj => ?_⟩
        rw [hlen] at hj
        have := hcell j (by omega)
        rw [addr_add] at this
        rw [this]
        simp [List.getD, hj]
      · have hc0 : cap = 0 := by
          rcases Nat.eq_zero_or_pos cap with h | h
          · exact h
          · have := hcell 0 (by omega)
            have := World.cell?_spot this
            simp [Addr.add] at this
            exact absurd this h0
        obtain rfl : len = 0 := by omega
        exact .inl ⟨⟨_, by rw [hc0]⟩, by simp⟩
    · have hlen : (zs.take len).length = len := by simp; omega
      rw [hx, hlen]
    · have hlen : (zs.take len).length = len := by simp; omega
      rw [hlen]
end

theorem cells_int : Try.prog.cellsOf 3 = 1 := by kernel_rfl
theorem cells_bytes : Try.prog.cellsOf 24 = 1 := by kernel_rfl
theorem cells_step : Try.prog.cellsOf 36 = 3 := by kernel_rfl
/-- one step: its three cells, each read by itself -/
theorem open_step {H : Type} {enc : TypeId × Value → H} {W : World} {n : Nat} {cs : List Value} {x : DataW H × List MemPlace} (h : DataW.trod enc Try.prog W 0 (fun _ => true) true n 36 cs = some x) :
    ∃ c0 c1 c2 y0 y1 y2 m, cs = [c0, c1, c2] ∧ x.1 = .agg [y0.1, y1.1, y2.1] ∧ DataW.trod enc Try.prog W 0 (fun _ => true) true m 3 [c0] = some y0 ∧ DataW.trod enc Try.prog W 0 (fun _ => true) true m 3 [c1] = some y1 ∧
      DataW.trod enc Try.prog W 0 (fun _ => true) true m 24 [c2] = some y2 := by
  obtain ⟨ys, m, _, rfl, hl, hlen, hg⟩ := DataW.trod_struct Try.underlying36 h
  rw [cells_step] at hl
  match cs, hl, ys, hlen with
  | [c0, c1, c2], _, [y0, y1, y2], _ =>
    have g0 : DataW.trod enc Try.prog W 0 (fun _ => true) true m 3 (([c0, c1, c2].drop 0).take (Try.prog.cellsOf 3)) = some y0 := hg 0 _ rfl
    have g1 : DataW.trod enc Try.prog W 0 (fun _ => true) true m 3 (([c0, c1, c2].drop 1).take (Try.prog.cellsOf 3)) = some y1 := hg 1 _ rfl
    have g2 : DataW.trod enc Try.prog W 0 (fun _ => true) true m 24 (([c0, c1, c2].drop 2).take (Try.prog.cellsOf 24)) = some y2 := hg 2 _ rfl
    rw [cells_int] at g0 g1
    rw [cells_bytes] at g2
    exact ⟨c0, c1, c2, y0, y1, y2, m, rfl, rfl, by simpa using g0, by simpa using g1, by simpa using g2⟩

theorem bulk_lits {H : Type} (k : IntKind) (ys : List Int) : Rows.uptoBulkAll (lits (H := H) k ys) = ys.length := by
  induction ys with
  | nil => simp [lits, Rows.uptoBulkAll]
  | cons y ys ih =>
    simp only [lits, List.map_cons, Rows.uptoBulkAll, Rows.uptoBulk, List.length_cons] at ih ⊢
    omega
theorem bulk_mem {H : Type} {d : DataW H} {l : List (DataW H)} (h : d ∈ l) : Rows.uptoBulk d ≤ Rows.uptoBulkAll l := by
  induction l with
  | nil => cases h
  | cons x r ih =>
    simp only [Rows.uptoBulkAll]
    cases List.mem_cons.1 h with
    | inl e => subst e; omega
    | inr e => have := ih e; omega
theorem bulk_sum {H : Type} (L : List StepR) (D : Nat → DataW H) (h : ∀ i, i < L.length → (L.getD i default).bs.length ≤ Rows.uptoBulk (D i)) : (L.map (·.bs.length)).sum ≤ Rows.uptoBulkAll ((List.range L.length).map D) := by
  induction L generalizing D with
  | nil => simp
  | cons x L ih =>
    have h0 := h 0 (by simp)
    have h1 := ih (fun i => D (i + 1)) (fun i hi => by have := h (i + 1) (by simp; omega); simpa using this)
    rw [List.length_cons, List.range_succ_eq_map]
    simp only [List.map_cons, List.map_map, List.sum_cons, Rows.uptoBulkAll]
    have e : (D ∘ Nat.succ) = fun i => D (i + 1) := rfl
    rw [e]
    simp at h0
    omega

theorem open_steps {H : Type} {enc : TypeId × Value → H} {W : World} {n : Nat} {v : Value} {x : DataW H × List MemPlace} (h : DataW.trod enc Try.prog W 0 (fun _ => true) true n 31 [v] = some x) :
    ∃ L, StepsAt W v L ∧ (L.map (·.bs.length)).sum ≤ Rows.uptoBulk x.1 := by
  rcases open_slice Try.underlying31 h with ⟨hcs, hx⟩ | ⟨a, len, cap, m, n1, D, Pl, hcs, _, hl, hm, hmm, hx, hf⟩
  · simp at hcs
    subst hcs
    exact ⟨[], .inl ⟨⟨_, _, rfl⟩, rfl⟩, by simp⟩
  · simp at hcs
    subst hcs
    simp at hmm
    subst hmm
    have each : ∀ i, i < m → ∃ s : StepR, (∃ vb, W.cell? (a.add (i * 3)) = some (.int .i64 s.what) ∧ W.cell? (a.add (i * 3 + 1)) = some (.int .i64 s.n) ∧ W.cell? (a.add (i * 3 + 2)) = some vb ∧ Vw W vb s.bs ∧ (Lit.int .i64 s.what).wf = true ∧ (Lit.int .i64 s.n).wf = true) ∧ s.bs.length ≤ Rows.uptoBulk (D i) := by
      intro i hi
      obtain ⟨cs', hc, ht⟩ := hf i hi
      obtain ⟨c0, c1, c2, y0, y1, y2, m1, rfl, hD, t0, t1, t2⟩ := open_step ht
      obtain ⟨_, _, hat⟩ := World.cells?_some hc
      rw [cells_step] at hat
      have a0 := hat 0 (by omega)
      have a1 := hat 1 (by omega)
      have a2 := hat 2 (by omega)
      rw [Go.Deep.add_add] at a0 a1 a2
      obtain ⟨n0, e0, rfl, w0⟩ := DataW.trod_int Try.underlying3 t0
      obtain ⟨n2, e1, rfl, w1⟩ := DataW.trod_int Try.underlying3 t1
      simp at e0 e1
      subst e0 e1
      obtain ⟨zs, hv, hb⟩ := open_bytes t2
      refine ⟨⟨n0, n2, zs⟩, ⟨c2, by simpa using a0, by simpa using a1, by simpa using a2, hv, w0, w1⟩, ?_⟩
      simp only at hD
      rw [hD]
      simp only [Rows.uptoBulk, Rows.uptoBulkAll]
      rcases hb with ⟨rfl, hb⟩ | ⟨z, _, hb, _⟩
      · have := vw_none hv
        simp [this.2.2]
      · rw [hb]
        simp only [Rows.uptoBulk, bulk_lits]
        omega
    by_cases hlen0 : len = 0
    · subst hlen0
      exact ⟨[], .inl ⟨⟨_, _, rfl⟩, rfl⟩, by simp⟩
    · have hspot : a.spot = none := by
        obtain ⟨s, ⟨vb, hc, _⟩, _⟩ := each 0 (by omega)
        have := World.cell?_spot hc
        simpa [Addr.add] using this
      obtain ⟨g, off, spot⟩ := a
      simp at hspot
      subst hspot
      let f : Nat → StepR := fun i => if hi : i < m then Classical.choose (each i hi) else default
      have hf2 : ∀ i (hi : i < m), f i = Classical.choose (each i hi) := fun i hi => by simp only [f, dif_pos hi]
      have hget : ∀ i, i < len → ((List.range len).map f).getD i default = f i := fun i hi => by simp [List.getD, hi]
      refine ⟨(List.range len).map f, .inr ⟨g, off, m, by simp, by simp; omega, hm, fun i hi => ?_⟩, ?_⟩
      · simp only [List.length_map, List.length_range] at hi
        have hc := Classical.choose_spec (each i (by omega))
        rw [← hf2 i (by omega)] at hc
        rw [hget i hi]
        obtain ⟨⟨vb, h1, h2, h3, h4⟩, _⟩ := hc
        rw [addr_add] at h1 h2 h3
        rw [← Nat.add_assoc] at h2 h3
        exact ⟨vb, h1, h2, h3, h4⟩
      · rw [hx]
        have := bulk_sum ((List.range len).map f) D (fun i hi => by
          simp only [List.length_map, List.length_range] at hi
          rw [hget i hi, hf2 i (by omega)]
          exact (Classical.choose_spec (each i (by omega))).2)
        simp only [List.length_map, List.length_range] at this
        simp only [Rows.uptoBulk]
        omega

/-- a step's cells, as the walk reads them -/
theorem StepsAt.slice {w : World} {v : Value} {L : List StepR} (h : StepsAt w v L) : ∃ a c, v = .slice a L.length c := by
  rcases h with ⟨⟨a, c, rfl⟩, rfl⟩ | ⟨g, off, c, rfl, _⟩
  · exact ⟨_, _, rfl⟩
  · exact ⟨_, _, rfl⟩
end Go.Proofs.Ytlaofiiajiflgaa

/- How an argument of type []Step reads: the cells of each step. -/
import Derived.Test.YtlaofiiajiflgaaRd
import Derived.ProofKit
import Derived.Deep.Slices
import Derived.Deep.Fields
import Derived.ChangeSame
import Derived.Carry
namespace Go.Proofs.Ytlaofiiajiflgaa
open Go.RowKit Go.ChangeShapes Go.WideShapes Go.Deep
set_option linter.unusedVariables false

structure StepR where
  what : Int
  n : Int
  bs : List Int
instance : Inhabited StepR := ⟨⟨0, 0, []⟩⟩

def StepAt (w : World) (g off : Nat) (s : StepR) : Prop :=
  ∃ vb, w.cell? ⟨g, off, none⟩ = some (.int .i64 s.what) ∧ w.cell? ⟨g, off + 1, none⟩ = some (.int .i64 s.n) ∧ w.cell? ⟨g, off + 2, none⟩ = some vb ∧ Vw w vb s.bs ∧ (Lit.int .i64 s.what).wf = true ∧ (Lit.int .i64 s.n).wf = true
def StepsAt (w : World) (v : Value) (L : List StepR) : Prop :=
  ((∃ a c, v = .slice a 0 c) ∧ L = []) ∨ ∃ g off c, v = .slice (some ⟨g, off, none⟩) L.length c ∧ L.length ≤ c ∧ c ≤ maxLen ∧ ∀ i, i < L.length → StepAt w g (off + i * 3) (L.getD i default)

theorem Vw.below {W w : World} {v : Value} {ys : List Int} (h : Vw W v ys) (hb : Below W.heap.size W w) : Vw w v ys := by
  refine ⟨h.1, ?_⟩
  rcases h.2 with h | ⟨g, off, c, rfl, h1, h2, h3⟩
  · exact .inl h
  · refine .inr ⟨g, off, c, rfl, h1, h2, fun j hj => ?_⟩
    have hc := h3 j hj
    rw [hb.cell (p := ⟨g, off + j, none⟩) (World.block_lt_of_cell? W _ hc)]
    exact hc
theorem StepAt.below {W w : World} {g off : Nat} {s : StepR} (h : StepAt W g off s) (hb : Below W.heap.size W w) : StepAt w g off s := by
  obtain ⟨vb, h1, h2, h3, h4, h5⟩ := h
  have hg : g < W.heap.size := World.block_lt_of_cell? W _ h1
  exact ⟨vb, by rw [hb.cell (p := ⟨g, off, none⟩) hg]; exact h1, by rw [hb.cell (p := ⟨g, off + 1, none⟩) hg]; exact h2, by rw [hb.cell (p := ⟨g, off + 2, none⟩) hg]; exact h3, h4.below hb, h5⟩
theorem StepsAt.below {W w : World} {v : Value} {L : List StepR} (h : StepsAt W v L) (hb : Below W.heap.size W w) : StepsAt w v L := by
  rcases h with h | ⟨g, off, c, h1, h2, h3, h4⟩
  · exact .inl h
  · exact .inr ⟨g, off, c, h1, h2, h3, fun i hi => (h4 i hi).below hb⟩

section
variable {H : Type} {enc : TypeId × Value → H}
/-- bytes as an argument -/
theorem open_bytes {W : World} {n : Nat} {v : Value} {x : DataW H × List MemPlace} (h : DataW.trod enc Try.prog W 0 (fun _ => true) true n 24 [v] = some x) :
    ∃ ys, Vw W v ys ∧ ((v = .slice none 0 0 ∧ x.1 = .nil) ∨ ∃ (zs : List Int), ys.length ≤ zs.length ∧ x.1 = .slice (lits .u8 ys) (lits .u8 (zs.drop ys.length)) ∧ ys = zs.take ys.length) := by
  rcases open_ints Try.underlying24 Try.underlying5 (by kernel_rfl) h with ⟨hcs, hx⟩ | ⟨a, len, cap, zs, hcs, _, hl, hm, hz, hx, hcell, hwz⟩
  · simp at hcs
    subst hcs
    exact ⟨[], Vw.nil _, .inl ⟨rfl, by rw [hx]⟩⟩
  · simp at hcs
    subst hcs
    simp at hz
    refine ⟨zs.take len, ⟨fun y hy => by have := bounds_u8 (hwz y (List.mem_of_mem_take hy)); omega, ?_⟩, .inr ⟨zs, by simp; omega, ?_, ?_⟩⟩
    · have hlen : (zs.take len).length = len := by simp; omega
      obtain ⟨b, off, spot⟩ := a
      by_cases h0 : spot = none
      · subst h0
        refine .inr ⟨b, off, cap, by rw [hlen], by omega, hm, fun j hj => ?_⟩
        rw [hlen] at hj
        have := hcell j (by omega)
        rw [addr_add] at this
        rw [this]
        simp [List.getD, hj]
      · have hc0 : cap = 0 := by
          rcases Nat.eq_zero_or_pos cap with h | h
          · exact h
          · have := hcell 0 (by omega)
            have := World.cell?_spot this
            simp [Addr.add] at this
            exact absurd this h0
        obtain rfl : len = 0 := by omega
        exact .inl ⟨⟨_, by rw [hc0]⟩, by simp⟩
    · have hlen : (zs.take len).length = len := by simp; omega
      rw [hx, hlen]
    · have hlen : (zs.take len).length = len := by simp; omega
      rw [hlen]
end
section
variable {H : Type} {enc : TypeId × Value → H} {P : Program} {w : World} {base : Nat} {spare : Nat → Bool} {held : Bool}
theorem open_slice_fields {t e : TypeId} {fs : Array Field} {fuel : Nat} {cs : List Value} {x : DataW H × List MemPlace} (ht : P.underlying t = some (.slice e)) (he : P.underlying e = some (.struct fs))
    (hone : oneCellFields P fs = true) (hC : P.cellsOf e = fs.size) (h : DataW.trod enc P w base spare held fuel t cs = some x) :
    (cs = [.slice none 0 0] ∧ x = (.nil, [])) ∨
    ∃ (a : Addr) (len cap m : Nat) (D : Nat → DataW H) (Pl : Nat → List MemPlace), cs = [.slice (some a) len cap] ∧ base ≤ a.block ∧ len ≤ cap ∧ cap ≤ maxLen ∧ m = (if spare a.block then cap else len) ∧
      x = (.slice ((List.range len).map D) ((List.range (m - len)).map fun j => D (len + j)), MemPlace.row a (m * fs.size) ++ (List.range m).flatMap Pl) ∧
      ∀ i, i < m → ∃ (ys : List (DataW H × List MemPlace)) (n : Nat), D i = .agg (ys.map (·.1)) ∧ Pl i = ys.flatMap (·.2) ∧ ys.length = fs.size ∧
        ∀ (j : Nat) (f : Field), fs[j]? = some f → ∃ (v : Value) (y : DataW H × List MemPlace), w.cell? (a.add (i * fs.size + j)) = some v ∧ ys[j]? = some y ∧ DataW.trod enc P w base spare held n f.type [v] = some y := by
  rcases open_slice ht h with h0 | ⟨a, len, cap, m, n, D, Pl, hcs, hb, hl, hm, hmm, hx, hi⟩
  · exact .inl h0
  · refine .inr ⟨a, len, cap, m, D, Pl, hcs, hb, hl, hm, hmm, by rw [hC] at hx; exact hx, fun i him => ?_⟩
    obtain ⟨cs', hc, ht'⟩ := hi i him
    rw [hC] at hc
    obtain ⟨ys, n', hn', hy, hlen, hyl, hf⟩ := DataW.trod_struct he ht'
    obtain ⟨_, hcl, hat⟩ := World.cells?_some hc
    simp only [Prod.mk.injEq] at hy
    refine ⟨ys, n', hy.1, hy.2, hyl, fun j f hj => ?_⟩
    obtain ⟨ho, hk⟩ := hone_of hone j f hj
    have hjl : j < fs.size := (Array.getElem?_eq_some_iff.1 hj).1
    have hcell := hat j hjl
    have hv : cs'[j]? = some (cs'[j]'(by omega)) := List.getElem?_eq_getElem (by omega)
    have h1 := hf j f hj
    rw [ho, hk] at h1
    have hone' : (cs'.drop j).take 1 = [cs'[j]'(by omega)] := by
      rw [List.drop_eq_getElem_cons (by omega)]
      rfl
    rw [hone'] at h1
    have hys : ys[j]? = some (ys[j]'(by omega)) := List.getElem?_eq_getElem (by omega)
    refine ⟨_, _, ?_, hys, h1.trans hys⟩
    rw [← Go.Deep.add_add, hcell, hv]
end

theorem bulk_lits {H : Type} (k : IntKind) (ys : List Int) : Rows.uptoBulkAll (lits (H := H) k ys) = ys.length := by
  induction ys with
  | nil => simp [lits, Rows.uptoBulkAll]
  | cons y ys ih =>
    simp only [lits, List.map_cons, Rows.uptoBulkAll, Rows.uptoBulk, List.length_cons] at ih ⊢
    omega
theorem bulk_mem {H : Type} {d : DataW H} {l : List (DataW H)} (h : d ∈ l) : Rows.uptoBulk d ≤ Rows.uptoBulkAll l := by
  induction l with
  | nil => cases h
  | cons x r ih =>
    simp only [Rows.uptoBulkAll]
    cases List.mem_cons.1 h with
    | inl e => subst e; omega
    | inr e => have := ih e; omega
theorem bulk_sum {H : Type} (L : List StepR) (D : Nat → DataW H) (h : ∀ i, i < L.length → (L.getD i default).bs.length ≤ Rows.uptoBulk (D i)) : (L.map (·.bs.length)).sum ≤ Rows.uptoBulkAll ((List.range L.length).map D) := by
  induction L generalizing D with
  | nil => simp
  | cons x L ih =>
    have h0 := h 0 (by simp)
    have h1 := ih (fun i => D (i + 1)) (fun i hi => by have := h (i + 1) (by simp; omega); simpa using this)
    rw [List.length_cons, List.range_succ_eq_map]
    simp only [List.map_cons, List.map_map, List.sum_cons, Rows.uptoBulkAll]
    have e : (D ∘ Nat.succ) = fun i => D (i + 1) := rfl
    rw [e]
    simp at h0
    omega

theorem open_steps {H : Type} {enc : TypeId × Value → H} {W : World} {n : Nat} {v : Value} {x : DataW H × List MemPlace} (h : DataW.trod enc Try.prog W 0 (fun _ => true) true n 31 [v] = some x) :
    ∃ L, StepsAt W v L ∧ (L.map (·.bs.length)).sum ≤ Rows.uptoBulk x.1 := by
  rcases open_slice_fields Try.underlying31 Try.underlying36 (by kernel_rfl) (by kernel_rfl) h with ⟨hcs, hx⟩ | ⟨a, len, cap, m, D, Pl, hcs, _, hl, hm, hmm, hx, hf⟩
  · simp at hcs
    subst hcs
    exact ⟨[], .inl ⟨⟨_, _, rfl⟩, rfl⟩, by simp⟩
  · simp at hcs
    subst hcs
    simp at hmm
    subst hmm
    have each : ∀ i, i < m → ∃ s : StepR, (∃ vb, W.cell? (a.add (i * 3)) = some (.int .i64 s.what) ∧ W.cell? (a.add (i * 3 + 1)) = some (.int .i64 s.n) ∧ W.cell? (a.add (i * 3 + 2)) = some vb ∧ Vw W vb s.bs ∧ (Lit.int .i64 s.what).wf = true ∧ (Lit.int .i64 s.n).wf = true) ∧ s.bs.length ≤ Rows.uptoBulk (D i) := by
      intro i hi
      obtain ⟨ys, n', hD, hP, hlen, hg⟩ := hf i hi
      obtain ⟨v0, y0, hc0, hy0, ht0⟩ := hg 0 _ rfl
      obtain ⟨v1, y1, hc1, hy1, ht1⟩ := hg 1 _ rfl
      obtain ⟨v2, y2, hc2, hy2, ht2⟩ := hg 2 _ rfl
      obtain ⟨n0, e0, rfl, w0⟩ := DataW.trod_int Try.underlying3 ht0
      obtain ⟨n1, e1, rfl, w1⟩ := DataW.trod_int Try.underlying3 ht1
      simp at e0 e1
      subst e0 e1
      obtain ⟨zs, hv, hb⟩ := open_bytes ht2
      refine ⟨⟨n0, n1, zs⟩, ⟨v2, by simpa using hc0, by simpa using hc1, by simpa using hc2, hv, w0, w1⟩, ?_⟩
      rw [hD]
      simp only [Rows.uptoBulk]
      have hm2 : y2.1 ∈ ys.map (·.1) := List.mem_map.2 ⟨y2, List.mem_of_getElem? hy2, rfl⟩
      have := bulk_mem hm2
      rcases hb with ⟨rfl, hb⟩ | ⟨z, _, hb, _⟩
      · have := vw_none hv
        simp [this.2.2]
      · rw [hb] at this
        simp only [Rows.uptoBulk, bulk_lits] at this
        show zs.length ≤ _
        omega
    by_cases hlen0 : len = 0
    · subst hlen0
      exact ⟨[], .inl ⟨⟨_, _, rfl⟩, rfl⟩, by simp⟩
    · have hspot : a.spot = none := by
        obtain ⟨s, ⟨vb, hc, _⟩, _⟩ := each 0 (by omega)
        have := World.cell?_spot hc
        simpa [Addr.add] using this
      obtain ⟨g, off, spot⟩ := a
      simp at hspot
      subst hspot
      let f : Nat → StepR := fun i => if hi : i < m then Classical.choose (each i hi) else default
      have hf2 : ∀ i (hi : i < m), f i = Classical.choose (each i hi) := fun i hi => by simp only [f, dif_pos hi]
      have hget : ∀ i, i < len → ((List.range len).map f).getD i default = f i := fun i hi => by simp [List.getD, hi]
      refine ⟨(List.range len).map f, .inr ⟨g, off, m, by simp, by simp; omega, hm, fun i hi => ?_⟩, ?_⟩
      · simp only [List.length_map, List.length_range] at hi
        have hc := Classical.choose_spec (each i (by omega))
        rw [← hf2 i (by omega)] at hc
        rw [hget i hi]
        obtain ⟨⟨vb, h1, h2, h3, h4⟩, _⟩ := hc
        rw [addr_add] at h1 h2 h3
        rw [← Nat.add_assoc] at h2 h3
        exact ⟨vb, h1, h2, h3, h4⟩
      · rw [hx]
        have := bulk_sum ((List.range len).map f) D (fun i hi => by
          simp only [List.length_map, List.length_range] at hi
          rw [hget i hi, hf2 i (by omega)]
          exact (Classical.choose_spec (each i (by omega))).2)
        simp only [List.length_map, List.length_range] at this
        simp only [Rows.uptoBulk]
        omega

/-- a step's cells, as the walk reads them -/
theorem StepsAt.slice {w : World} {v : Value} {L : List StepR} (h : StepsAt w v L) : ∃ a c, v = .slice a L.length c := by
  rcases h with ⟨⟨a, c, rfl⟩, rfl⟩ | ⟨g, off, c, rfl, _⟩
  · exact ⟨_, _, rfl⟩
  · exact ⟨_, _, rfl⟩
end Go.Proofs.Ytlaofiiajiflgaa

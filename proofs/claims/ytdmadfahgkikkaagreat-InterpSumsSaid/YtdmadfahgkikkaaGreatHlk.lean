/- How an argument of type []Step (stage 8) reads; a law's own list of rows of bytes. -/
import Derived.Test.YtdmadfahgkikkaaGreatKHf
import Derived.ProofKit
import Derived.Deep.Slices
import Derived.Deep.Fields
import Derived.ChangeSame
import Derived.Carry
namespace Go.Proofs.YtdmadfahgkikkaaGreat
open Go.RowKit Go.ChangeShapes Go.WideShapes Go.Deep
set_option linter.unusedVariables false
set_option linter.unusedSimpArgs false

structure St8 where
  what : Int
  a : Int
  b : Int
  c : Int
  n : Int
  sh : Bool
  bs : List Int
instance : Inhabited St8 := ⟨⟨0, 0, 0, 0, 0, false, []⟩⟩
def wf5 (s : St8) : Prop := (Lit.int .i64 s.what).wf = true ∧ (Lit.int .i64 s.a).wf = true ∧ (Lit.int .i64 s.b).wf = true ∧ (Lit.int .i64 s.c).wf = true ∧ (Lit.int .i64 s.n).wf = true
def StAt (w : World) (g off : Nat) (s : St8) : Prop :=
  ∃ vb, w.cell? ⟨g, off, none⟩ = some (.int .i64 s.what) ∧ w.cell? ⟨g, off + 1, none⟩ = some (.int .i64 s.a) ∧ w.cell? ⟨g, off + 2, none⟩ = some (.int .i64 s.b) ∧ w.cell? ⟨g, off + 3, none⟩ = some (.int .i64 s.c) ∧ w.cell? ⟨g, off + 4, none⟩ = some (.int .i64 s.n) ∧
    w.cell? ⟨g, off + 5, none⟩ = some (.bool s.sh) ∧ w.cell? ⟨g, off + 6, none⟩ = some vb ∧ Vw w vb s.bs ∧ wf5 s
def StsAt (w : World) (v : Value) (L : List St8) : Prop :=
  ((∃ a c, v = .slice a 0 c) ∧ L = []) ∨ ∃ g off c, v = .slice (some ⟨g, off, none⟩) L.length c ∧ L.length ≤ c ∧ c ≤ maxLen ∧ ∀ i, i < L.length → StAt w g (off + i * 7) (L.getD i default)
theorem StAt.below {W w : World} {g off : Nat} {s : St8} (h : StAt W g off s) (hb : Below W.heap.size W w) : StAt w g off s := by
  obtain ⟨vb, h0, h1, h2, h3, h4, h5, h6, h7, h8⟩ := h
  have hg : g < W.heap.size := World.block_lt_of_cell? W _ h0
  have k := fun q => hb.cell (p := ⟨g, q, none⟩) hg
  exact ⟨vb, (k _).trans h0, (k _).trans h1, (k _).trans h2, (k _).trans h3, (k _).trans h4, (k _).trans h5, (k _).trans h6, h7.below hb, h8⟩
theorem StsAt.below {W w : World} {v : Value} {L : List St8} (h : StsAt W v L) (hb : Below W.heap.size W w) : StsAt w v L := by
  rcases h with h | ⟨g, off, c, h1, h2, h3, h4⟩
  · exact .inl h
  · exact .inr ⟨g, off, c, h1, h2, h3, fun i hi => (h4 i hi).below hb⟩
theorem StsAt.slice {w : World} {v : Value} {L : List St8} (h : StsAt w v L) : ∃ a c, v = .slice a L.length c := by
  rcases h with ⟨⟨a, c, rfl⟩, rfl⟩ | ⟨g, off, c, rfl, _⟩
  · exact ⟨_, _, rfl⟩
  · exact ⟨_, _, rfl⟩
theorem StsAt.at {w : World} {a : Option Addr} {n c k : Nat} {L : List St8} (h : StsAt w (.slice a n c) L) (hk : k < L.length) : ∃ g off, a = some ⟨g, off, none⟩ ∧ n = L.length ∧ g < w.heap.size ∧ StAt w g (off + k * 7) (L.getD k default) := by
  rcases h with ⟨⟨a, c, he⟩, rfl⟩ | ⟨g, off, c, he, _, _, h4⟩
  · simp at hk
  · simp at he
    obtain ⟨vb, h0, _⟩ := h4 k hk
    exact ⟨g, off, he.1, he.2.1, World.block_lt_of_cell? w _ h0, h4 k hk⟩
theorem cells_bool : Tryz.prog.cellsOf 4 = 1 := by kernel_rfl
/-- a list of rows of bytes, all in K -/
structure Had (K : Nat → Prop) (w : World) (hv : Value) (D : List (List Int × Value)) : Prop where
  row : w.ownsRow 0 81 1 hv D.length (D.map Prod.snd)
  dat : ∀ p ∈ D, w.ownsRow 0 5 1 p.2 p.1.length (bv p.1) ∧ (∀ y ∈ p.1, 0 ≤ y ∧ y ≤ 255) ∧ ∀ k, p.2.ownBlock = some k → K k
  ap : D.Pairwise (fun p q => ∀ k, p.2.ownBlock = some k → ¬ q.2.ownBlock = some k)
  fr : ∀ k, hv.ownBlock = some k → K k
section
variable {K G : Nat → Prop} {w w' : World} {hv : Value} {D : List (List Int × Value)}
theorem Had.upd {S : Nat → Prop} (h : Had K w hv D) (hu : Upd S w w') (hS : ∀ k, K k → ¬ S k) : Had K w' hv D :=
  ⟨ownsRow_upd h.row hu (fun k hk => hS k (h.fr k hk)), fun p hp => ⟨ownsRow_upd (h.dat p hp).1 hu (fun k hk => hS k ((h.dat p hp).2.2 k hk)), (h.dat p hp).2.1, (h.dat p hp).2.2⟩, h.ap, h.fr⟩
theorem Had.wide (h : Had K w hv D) (hK : ∀ k, K k → G k) : Had G w hv D :=
  ⟨h.row, fun p hp => ⟨(h.dat p hp).1, (h.dat p hp).2.1, fun k hk => hK k ((h.dat p hp).2.2 k hk)⟩, h.ap, fun k hk => hK k (h.fr k hk)⟩
theorem Had.nil (K : Nat → Prop) (w : World) : Had K w (.slice none 0 0) [] := ⟨World.ownsRow_nil _ _ _ _, by simp, List.Pairwise.nil, by simp [Value.ownBlock]⟩
theorem Had.len (h : Had K w hv D) : ∃ a c, hv = .slice a D.length c := ownsRow_slice h.row
/-- row i's cell -/
theorem Had.at (h : Had K w hv D) {i : Nat} (hi : i < D.length) : ∃ g c da dc, hv = .slice (some ⟨g, 0, none⟩) D.length c ∧ D[i].2 = .slice da D[i].1.length dc ∧ w.cell? ⟨g, i, none⟩ = some D[i].2 ∧ g < w.heap.size := by
  have hrow := h.row
  obtain ⟨da, dc, hd⟩ := ownsRow_slice (h.dat _ (List.getElem_mem hi)).1
  rcases h.row.2 with ⟨_, h0⟩ | ⟨g, cap, cur, rfl, hb, hg, hc, hm, hcs, ht⟩
  · omega
  · have hc := hrow.cells (g := g) rfl i D[i].2 (by simp [hi])
    rw [addr_add, Nat.zero_add] at hc
    exact ⟨g, cap, da, dc, rfl, hd, hc, (Array.getElem?_eq_some_iff.1 hg).1⟩
/-- row i's byte j -/
theorem Had.byte (h : Had K w hv D) {i : Nat} (hi : i < D.length) {j : Nat} (hj : j < D[i].1.length) : ∃ g c, D[i].2 = .slice (some ⟨g, 0, none⟩) D[i].1.length c ∧ w.cell? ⟨g, j, none⟩ = some (.int .u8 (D[i].1.getD j 0)) ∧ w.frozen? ⟨g, j, none⟩ = false ∧ g < w.heap.size := by
  have hrow := (h.dat _ (List.getElem_mem hi)).1
  rcases hrow.2 with ⟨_, h0⟩ | ⟨g, cap, cur, hd, hb, hg, hc, hmx, hcs, ht⟩
  · omega
  · rw [hd] at hrow
    have hc := hrow.cells (g := g) rfl j (.int .u8 (D[i].1.getD j 0)) (by simp [bv, List.getElem?_eq_getElem hj, List.getD])
    rw [addr_add, Nat.zero_add] at hc
    exact ⟨g, cap, hd, hc, hpFrozen hrow j, (Array.getElem?_eq_some_iff.1 hg).1⟩
theorem Had.vw (h : Had K w hv D) {i : Nat} (hi : i < D.length) : Vw w D[i].2 D[i].1 := vw_of_row (h.dat _ (List.getElem_mem hi)).1 (h.dat _ (List.getElem_mem hi)).2.1
theorem snd_set2 (D : List (List Int × Value)) (i : Nat) (hi : i < D.length) (a : List Int) (k : Nat) (hk : k < D.length) : ((D.set i (a, D[i].2))[k]'(by rw [List.length_set]; exact hk)).2 = D[k].2 := by
  rw [List.getElem_set]
  split
  · rename_i he
    subst he
    rfl
  · rfl
/-- row i's byte j is turned -/
theorem Had.poke (h : Had K w hv D) {i : Nat} (hi : i < D.length) {g c : Nat} (hd : D[i].2 = .slice (some ⟨g, 0, none⟩) D[i].1.length c) (j : Nat) (hj : j < D[i].1.length) (y : Int) (hy : 0 ≤ y ∧ y ≤ 255) :
    Had K (w.setCell ⟨g, j, none⟩ (.int .u8 y)) hv (D.set i (D[i].1.set j y, D[i].2)) := by
  have hm := h.dat _ (List.getElem_mem hi)
  have hu : Upd (fun k => k = g) w (w.setCell ⟨g, j, none⟩ (.int .u8 y)) := Upd.setCell (S := fun k => k = g) w (.inl rfl) _
  have hown : D[i].2.ownBlock = some g := by rw [hd]; rfl
  refine ⟨?_, fun p hp => ?_, ?_, h.fr⟩
  · rw [List.length_set, List.map_set, setSame _ _ _ (by simp [hi])]
    exact ownsRow_upd h.row hu (fun k hk hkg => hpRowNe h.row hm.1 (by decide) k hk (by rw [hkg]; exact hown))
  · obtain ⟨k, hk, rfl⟩ := List.mem_iff_getElem.1 hp
    rw [List.length_set] at hk
    rw [List.getElem_set]
    split
    · refine ⟨?_, fun z hz => ?_, hm.2.2⟩
      · have h1 := hm.1
        simp only [hd] at h1 ⊢
        have h2 := hpSet h1 j (.int .u8 y)
        simpa [bv, List.map_set] using h2
      · rcases List.mem_or_eq_of_mem_set hz with hz | rfl
        · exact hm.2.1 z hz
        · exact hy
    · rename_i he
      have hk' := h.dat _ (List.getElem_mem hk)
      refine ⟨ownsRow_upd hk'.1 hu (fun q hq hqg => ?_), hk'.2⟩
      subst hqg
      have hp2 := List.pairwise_iff_getElem.1 h.ap
      rcases Nat.lt_or_ge k i with h1 | h1
      · exact hp2 k i hk hi h1 _ hq hown
      · exact hp2 i k hi hk (by omega) _ hown hq
  · rw [List.pairwise_iff_getElem]
    intro k l hk hl hkl q hq hq'
    rw [List.length_set] at hk hl
    rw [snd_set2 D i hi _ k hk] at hq
    rw [snd_set2 D i hi _ l hl] at hq'
    exact List.pairwise_iff_getElem.1 h.ap k l hk hl hkl q hq hq'
/-- one row more -/
theorem Had.push {aa va : Option Addr} {ac vc m' : Nat} {a : List Int} {d : Value} {w8 : World} (h : Had K w (.slice aa D.length ac) D) (hu : Upd (fun k => (Value.slice aa D.length ac).ownBlock = some k) w w')
    (hrow : w'.ownsRow 0 81 1 (.slice va m' vc) (D.length + 1) (D.map Prod.snd ++ [d])) (hf : Fresh w8 (.slice aa D.length ac) (.slice va m' vc)) (h8 : w.heap.size ≤ w8.heap.size)
    (hd : w.ownsRow 0 5 1 d a.length (bv a)) (hy : ∀ y ∈ a, 0 ≤ y ∧ y ≤ 255) (hn : ∀ k, d.ownBlock = some k → G k ∧ ∀ q ∈ D, ¬ q.2.ownBlock = some k)
    (hG : ∀ k, K k → G k) (hG2 : ∀ k, w.heap.size ≤ k → k < w'.heap.size → G k) : Had G w' (.slice va m' vc) (D ++ [(a, d)]) := by
  refine ⟨?_, fun p hp => ?_, ?_, fun k hk => ?_⟩
  · rw [List.length_append, List.map_append]
    exact hrow
  · rcases List.mem_append.1 hp with hp | hp
    · have := h.dat p hp
      exact ⟨ownsRow_upd this.1 hu (fun k hk hk' => hpRowNe this.1 h.row (by decide) k hk hk'), this.2.1, fun k hk => hG k (this.2.2 k hk)⟩
    · simp at hp
      subst hp
      exact ⟨ownsRow_upd hd hu (fun k hk hk' => hpRowNe hd h.row (by decide) k hk hk'), hy, fun k hk => (hn k hk).1⟩
  · rw [List.pairwise_append]
    refine ⟨h.ap, by simp, fun q hq r hr k hk hk' => ?_⟩
    simp at hr
    subst hr
    exact (hn k hk').2 q hq hk
  · rcases hf k hk with h1 | h1
    · exact hG k (h.fr k h1)
    · exact hG2 k (by omega) (hpRowLt hrow k hk)
end
end Go.Proofs.YtdmadfahgkikkaaGreat

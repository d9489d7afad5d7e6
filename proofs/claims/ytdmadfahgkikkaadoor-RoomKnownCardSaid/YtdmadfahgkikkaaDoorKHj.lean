/- Several texts in one. -/
import Derived.Test.YtdmadfahgkikkaaDoorKHe
import Derived.Below
import Derived.ProofKit
import Derived.Deep.Slices
import Derived.Deep.Fields
import Derived.ChangeSame
import Derived.Carry
import Derived.Deep.QuietTactic
import Derived.Deep.RegionHeld3
/- Package heap: a heap of the law's own; the law's known; HeapKnown. -/
namespace Go.Proofs.YtdmadfahgkikkaaDoor
open Go.RowKit Go.ChangeShapes Go.WideShapes Go.Deep
set_option linter.unusedVariables false
set_option linter.unusedSimpArgs false

theorem Hep.wide {t : TypeId} {F G : Nat → Prop} {w : World} {b : Nat} {m : HpM} (h : Hep t F w b m) (hF : ∀ k, F k → G k) (hG : ∀ k, G k → k < w.heap.size) : Hep t G w b m := by
  obtain ⟨av, R, h, hR⟩ := h
  exact ⟨av, R, h.wide hF hG, hR⟩
/-- what may be turned of a heap that was made since w0, where K is kept -/
def Ours (K : Nat → Prop) (w0 w : World) (k : Nat) : Prop := Since w0 w k ∧ ¬ K k
/-- a heap that was made since w0, beside what is kept; nothing of w0 is turned -/
structure Own (K : Nat → Prop) (w0 w : World) (b : Nat) (m : HpM) : Prop where
  hp : Hep HT (Ours K w0 w) w b m
  up : Upd (fun _ => False) w0 w
  kl : ∀ k, K k → k < w.heap.size
/-- the same heap later, turned or not; what is kept is as it was -/
structure OwnTo (K : Nat → Prop) (w0 w w' : World) (b : Nat) (m : HpM) : Prop where
  own : Own K w0 w' b m
  step : Upd (Ours K w0 w) w w'
section
variable {K K' : Nat → Prop} {w0 w w' : World} {b : Nat} {m m' : HpM}
theorem Own.more (h : Own K w0 w b m) (h1 : Hep HT (More (Ours K w0 w) w w') w' b m') (h2 : Upd (Ours K w0 w) w w') : OwnTo K w0 w w' b m' := by
  have s1 := h.up.size
  have s2 := h2.size
  refine ⟨⟨h1.wide (fun k hk => ?_) (fun k hk => hk.1.2), h.up.trans h2 (fun k hk hl => by have := hk.1.1; omega), fun k hk => Nat.lt_of_lt_of_le (h.kl k hk) s2⟩, h2⟩
  rcases hk with hk | hk
  · exact ⟨⟨hk.1.1, by have := hk.1.2; omega⟩, hk.2⟩
  · exact ⟨⟨by omega, hk.2⟩, fun hK => by have := h.kl k hK; omega⟩
theorem Own.same (h : Own K w0 w b m) (h1 : Hep HT (Ours K w0 w) w' b m') (h2 : Upd (Ours K w0 w) w w') : OwnTo K w0 w w' b m' := by
  have s1 := h.up.size
  have s2 := h2.size
  exact ⟨⟨h1.wide (fun k hk => ⟨⟨hk.1.1, by have := hk.1.2; omega⟩, hk.2⟩) (fun k hk => hk.1.2), h.up.trans h2 (fun k hk hl => by have := hk.1.1; omega), fun k hk => Nat.lt_of_lt_of_le (h.kl k hk) s2⟩, h2⟩
theorem Own.quiet (h : Own K w0 w b m) (h2 : Upd (fun _ => False) w w') : OwnTo K w0 w w' b m :=
  h.same (h.hp.upd h2 (fun _ _ h => h)) (h2.mono (fun _ h _ => h.elim))
/-- what the law turned of its own, which is kept from the heap -/
theorem Own.aside (h : Own K w0 w b m) (h2 : Upd K w w') (hK : ∀ k, K k → w0.heap.size ≤ k) : Own K w0 w' b m := by
  have s1 := h.up.size
  have s2 := h2.size
  exact ⟨(h.hp.upd h2 (fun k hk hk' => hk.2 hk')).wide (fun k hk => ⟨⟨hk.1.1, by have := hk.1.2; omega⟩, hk.2⟩) (fun k hk => hk.1.2), h.up.trans h2 (fun k hk hl => by have := hK k hk; omega), fun k hk => Nat.lt_of_lt_of_le (h.kl k hk) s2⟩
/-- something that was made since w is kept, too -/
theorem Own.keep (h : Own K w0 w b m) (h2 : Upd (fun _ => False) w w') (hK : ∀ k, K' k → K k ∨ (w.heap.size ≤ k ∧ k < w'.heap.size)) : Own K' w0 w' b m := by
  have s1 := h.up.size
  have s2 := h2.size
  refine ⟨(h.hp.upd h2 (fun _ _ h => h)).wide (fun k hk => ⟨⟨hk.1.1, by have := hk.1.2; omega⟩, fun hk' => ?_⟩) (fun k hk => hk.1.2), h.up.trans h2 (fun _ h _ => h), fun k hk => ?_⟩
  · rcases hK k hk' with h | h
    · exact hk.2 h
    · have := hk.1.2; omega
  · rcases hK k hk with h3 | h3
    · have := h.kl k h3; omega
    · exact h3.2
theorem oNew (hu : Upd (fun _ => False) w0 w) (hK : ∀ k, K k → k < w.heap.size) (s : Int) (h1 : 64 ≤ s) (h2 : s ≤ 4096) : Calls Tryd.prog 31 #[.int .i64 s] w fun e w' => ∃ b, e = .returned (.tuple #[.pointer (some ⟨b, 0, none⟩), .int .i64 0]) ∧ Own K w0 w' b (two s) ∧ Upd (fun _ => False) w w' := by
  refine (pNew s h1 h2).mono ?_
  rintro e w' ⟨b, rfl, k1, k2⟩
  have := hu.size
  have := k2.size
  exact ⟨b, rfl, ⟨k1.wide (fun k hk => ⟨⟨by have := hk.1; omega, hk.2⟩, fun h => by have := hK k h; have := hk.1; omega⟩) (fun k hk => hk.1.2), hu.trans k2 (fun _ h _ => h), fun k hk => by have := hK k hk; omega⟩, k2⟩
theorem oAlloc (h : Own K w0 w b m) (hl : m.arrs.length ≤ 1000) (hs : 0 ≤ m.size ∧ m.size ≤ 4096) (own lab life n : Int) (sh : Bool) (hf : fitsB m lab life n = true) :
    Calls Tryd.prog 76 #[.pointer (some ⟨b, 0, none⟩), .int .i64 own, .int .i64 lab, .int .i64 life, .bool sh, .int .i64 n] w fun e w' => e = .returned (.tuple #[.int .i64 ((m.arrs.length + 1 : Nat) : Int), .bool true]) ∧ OwnTo K w0 w w' b (m.add (newA own lab life sh n)) :=
  (pAlloc h.hp hl hs own lab life n sh hf).mono fun e w' ⟨h1, h2, h3⟩ => ⟨h1, h.more h2 h3⟩
theorem oAlloc_no (h : Own K w0 w b m) (hl : m.arrs.length ≤ 1000) (hs : 0 ≤ m.size ∧ m.size ≤ 4096) (own lab life n : Int) (sh : Bool) (hf : fitsB m lab life n = false) :
    Calls Tryd.prog 76 #[.pointer (some ⟨b, 0, none⟩), .int .i64 own, .int .i64 lab, .int .i64 life, .bool sh, .int .i64 n] w fun e w' => e = .returned (.tuple #[.int .i64 0, .bool false]) ∧ OwnTo K w0 w w' b m :=
  (pAlloc_no h.hp hl hs own lab life n sh hf).mono fun e w' ⟨h1, h2⟩ => ⟨h1, h.quiet h2⟩
theorem oPut (h : Own K w0 w b m) {i : Nat} (hi : i < m.arrs.length) (hl : m.arrs.length ≤ 1000) {j : Nat} (hj : j < (m.arrs.getD i default).data.length) (y : Int) (hy : 0 ≤ y ∧ y ≤ 255) : Calls Tryd.prog 80 #[.pointer (some ⟨b, 0, none⟩), .int .i64 ((i : Int) + 1), .int .i64 j, .int .u8 y] w fun e w' => e = .returned (.bool true) ∧ OwnTo K w0 w w' b (m.put i j y) :=
  (pPut h.hp hi hl hj y hy).mono fun e w' ⟨h1, h2, h3⟩ => ⟨h1, h.same h2 h3⟩
theorem oUsed (h : Own K w0 w b m) (hl : m.arrs.length ≤ 1000) : Calls Tryd.prog 92 #[.pointer (some ⟨b, 0, none⟩)] w fun e w' => e = .returned (.int .i64 (usedP m.arrs : Int)) ∧ OwnTo K w0 w w' b m :=
  (pUsed h.hp hl).mono fun e w' ⟨h1, h2⟩ => ⟨h1, h.quiet h2⟩
theorem oArray (h : Own K w0 w b m) {i : Nat} (hi : i < m.arrs.length) (hl : m.arrs.length ≤ 1000) : Calls Tryd.prog 17 #[.pointer (some ⟨b, 0, none⟩), .int .i64 ((i : Int) + 1)] w fun e w' => ∃ d, e = .returned (.tuple #[aval (m.arrs.getD i default) d, .bool true]) ∧ New w d (m.arrs.getD i default).data w' ∧ OwnTo K w0 w w' b m :=
  (pArray h.hp hi hl).mono fun e w' ⟨d, h1, h2⟩ => ⟨d, h1, h2, h.quiet h2.2.1⟩
theorem oSet (h : Own K w0 w b m) {i : Nat} (hi : i < m.arrs.length) (hi2 : i < 2) (v : Value) (ys : List Int) (hv : Vw w v ys) (hl : ys.length ≤ 64) :
    Calls Tryd.prog 36 #[.pointer (some ⟨b, 0, none⟩), .int .i64 ((i : Int) + 1), v] w fun e w' => e = .returned (.bool true) ∧ OwnTo K w0 w w' b (m.lay i ys) :=
  (pSet h.hp hi hi2 v ys hv hl).mono fun e w' ⟨h1, h2, h3⟩ => ⟨h1, h.more h2 h3⟩
end
/-- nothing is kept -/
def Free (_ : Nat) : Prop := False
def k1M : HpM := (two 64).add (newA 0 3 0 false 56)
end Go.Proofs.YtdmadfahgkikkaaDoor
/- How an argument of type []Step (stage 8) reads; a law's own list of rows of bytes. -/
namespace Go.Proofs.YtdmadfahgkikkaaDoor
open Go.RowKit Go.ChangeShapes Go.WideShapes Go.Deep
set_option linter.unusedVariables false
set_option linter.unusedSimpArgs false

structure St8 where
  what : Int
  a : Int
  b : Int
  c : Int
  n : Int
  sh : Bool
  bs : List Int
instance : Inhabited St8 := ⟨⟨0, 0, 0, 0, 0, false, []⟩⟩
def wf5 (s : St8) : Prop := (Lit.int .i64 s.what).wf = true ∧ (Lit.int .i64 s.a).wf = true ∧ (Lit.int .i64 s.b).wf = true ∧ (Lit.int .i64 s.c).wf = true ∧ (Lit.int .i64 s.n).wf = true
def StAt (w : World) (g off : Nat) (s : St8) : Prop :=
  ∃ vb, w.cell? ⟨g, off, none⟩ = some (.int .i64 s.what) ∧ w.cell? ⟨g, off + 1, none⟩ = some (.int .i64 s.a) ∧ w.cell? ⟨g, off + 2, none⟩ = some (.int .i64 s.b) ∧ w.cell? ⟨g, off + 3, none⟩ = some (.int .i64 s.c) ∧ w.cell? ⟨g, off + 4, none⟩ = some (.int .i64 s.n) ∧
    w.cell? ⟨g, off + 5, none⟩ = some (.bool s.sh) ∧ w.cell? ⟨g, off + 6, none⟩ = some vb ∧ Vw w vb s.bs ∧ wf5 s
def StsAt (w : World) (v : Value) (L : List St8) : Prop :=
  ((∃ a c, v = .slice a 0 c) ∧ L = []) ∨ ∃ g off c, v = .slice (some ⟨g, off, none⟩) L.length c ∧ L.length ≤ c ∧ c ≤ maxLen ∧ ∀ i, i < L.length → StAt w g (off + i * 7) (L.getD i default)
theorem StAt.below {W w : World} {g off : Nat} {s : St8} (h : StAt W g off s) (hb : Below W.heap.size W w) : StAt w g off s := by
  obtain ⟨vb, h0, h1, h2, h3, h4, h5, h6, h7, h8⟩ := h
  have hg : g < W.heap.size := World.block_lt_of_cell? W _ h0
  have k := fun q => hb.cell (p := ⟨g, q, none⟩) hg
  exact ⟨vb, (k _).trans h0, (k _).trans h1, (k _).trans h2, (k _).trans h3, (k _).trans h4, (k _).trans h5, (k _).trans h6, h7.below hb, h8⟩
theorem StsAt.below {W w : World} {v : Value} {L : List St8} (h : StsAt W v L) (hb : Below W.heap.size W w) : StsAt w v L := by
  rcases h with h | ⟨g, off, c, h1, h2, h3, h4⟩
  · exact .inl h
  · exact .inr ⟨g, off, c, h1, h2, h3, fun i hi => (h4 i hi).below hb⟩
theorem StsAt.slice {w : World} {v : Value} {L : List St8} (h : StsAt w v L) : ∃ a c, v = .slice a L.length c := by
  rcases h with ⟨⟨a, c, rfl⟩, rfl⟩ | ⟨g, off, c, rfl, _⟩
  · exact ⟨_, _, rfl⟩
  · exact ⟨_, _, rfl⟩
theorem StsAt.at {w : World} {a : Option Addr} {n c k : Nat} {L : List St8} (h : StsAt w (.slice a n c) L) (hk : k < L.length) : ∃ g off, a = some ⟨g, off, none⟩ ∧ n = L.length ∧ g < w.heap.size ∧ StAt w g (off + k * 7) (L.getD k default) := by
  rcases h with ⟨⟨a, c, he⟩, rfl⟩ | ⟨g, off, c, he, _, _, h4⟩
  · simp at hk
  · simp at he
    obtain ⟨vb, h0, _⟩ := h4 k hk
    exact ⟨g, off, he.1, he.2.1, World.block_lt_of_cell? w _ h0, h4 k hk⟩
theorem cells_bool : Tryd.prog.cellsOf 4 = 1 := by kernel_rfl
/-- a list of rows of bytes, all in K -/
structure Had (K : Nat → Prop) (w : World) (hv : Value) (D : List (List Int × Value)) : Prop where
  row : w.ownsRow 0 41 1 hv D.length (D.map Prod.snd)
  dat : ∀ p ∈ D, w.ownsRow 0 5 1 p.2 p.1.length (bv p.1) ∧ (∀ y ∈ p.1, 0 ≤ y ∧ y ≤ 255) ∧ ∀ k, p.2.ownBlock = some k → K k
  ap : D.Pairwise (fun p q => ∀ k, p.2.ownBlock = some k → ¬ q.2.ownBlock = some k)
  fr : ∀ k, hv.ownBlock = some k → K k
section
variable {K G : Nat → Prop} {w w' : World} {hv : Value} {D : List (List Int × Value)}
theorem Had.upd {S : Nat → Prop} (h : Had K w hv D) (hu : Upd S w w') (hS : ∀ k, K k → ¬ S k) : Had K w' hv D :=
  ⟨ownsRow_upd h.row hu (fun k hk => hS k (h.fr k hk)), fun p hp => ⟨ownsRow_upd (h.dat p hp).1 hu (fun k hk => hS k ((h.dat p hp).2.2 k hk)), (h.dat p hp).2.1, (h.dat p hp).2.2⟩, h.ap, h.fr⟩
theorem Had.wide (h : Had K w hv D) (hK : ∀ k, K k → G k) : Had G w hv D :=
  ⟨h.row, fun p hp => ⟨(h.dat p hp).1, (h.dat p hp).2.1, fun k hk => hK k ((h.dat p hp).2.2 k hk)⟩, h.ap, fun k hk => hK k (h.fr k hk)⟩
theorem Had.nil (K : Nat → Prop) (w : World) : Had K w (.slice none 0 0) [] := ⟨World.ownsRow_nil _ _ _ _, by simp, List.Pairwise.nil, by simp [Value.ownBlock]⟩
theorem Had.len (h : Had K w hv D) : ∃ a c, hv = .slice a D.length c := ownsRow_slice h.row
/-- row i's cell -/
theorem Had.at (h : Had K w hv D) {i : Nat} (hi : i < D.length) : ∃ g c da dc, hv = .slice (some ⟨g, 0, none⟩) D.length c ∧ D[i].2 = .slice da D[i].1.length dc ∧ w.cell? ⟨g, i, none⟩ = some D[i].2 ∧ g < w.heap.size := by
  have hrow := h.row
  obtain ⟨da, dc, hd⟩ := ownsRow_slice (h.dat _ (List.getElem_mem hi)).1
  rcases h.row.2 with ⟨_, h0⟩ | ⟨g, cap, cur, rfl, hb, hg, hc, hm, hcs, ht⟩
  · omega
  · have hc := hrow.cells (g := g) rfl i D[i].2 (by simp [hi])
    rw [addr_add, Nat.zero_add] at hc
    exact ⟨g, cap, da, dc, rfl, hd, hc, (Array.getElem?_eq_some_iff.1 hg).1⟩
/-- row i's byte j -/
theorem Had.byte (h : Had K w hv D) {i : Nat} (hi : i < D.length) {j : Nat} (hj : j < D[i].1.length) : ∃ g c, D[i].2 = .slice (some ⟨g, 0, none⟩) D[i].1.length c ∧ w.cell? ⟨g, j, none⟩ = some (.int .u8 (D[i].1.getD j 0)) ∧ w.frozen? ⟨g, j, none⟩ = false ∧ g < w.heap.size := by
  have hrow := (h.dat _ (List.getElem_mem hi)).1
  rcases hrow.2 with ⟨_, h0⟩ | ⟨g, cap, cur, hd, hb, hg, hc, hmx, hcs, ht⟩
  · omega
  · rw [hd] at hrow
    have hc := hrow.cells (g := g) rfl j (.int .u8 (D[i].1.getD j 0)) (by simp [bv, List.getElem?_eq_getElem hj, List.getD])
    rw [addr_add, Nat.zero_add] at hc
    exact ⟨g, cap, hd, hc, hpFrozen hrow j, (Array.getElem?_eq_some_iff.1 hg).1⟩
theorem Had.vw (h : Had K w hv D) {i : Nat} (hi : i < D.length) : Vw w D[i].2 D[i].1 := vw_of_row (h.dat _ (List.getElem_mem hi)).1 (h.dat _ (List.getElem_mem hi)).2.1
theorem snd_set2 (D : List (List Int × Value)) (i : Nat) (hi : i < D.length) (a : List Int) (k : Nat) (hk : k < D.length) : ((D.set i (a, D[i].2))[k]'(by rw [List.length_set]; exact hk)).2 = D[k].2 := by
  rw [List.getElem_set]
  split
  · rename_i he
    subst he
    rfl
  · rfl
/-- row i's byte j is turned -/
theorem Had.poke (h : Had K w hv D) {i : Nat} (hi : i < D.length) {g c : Nat} (hd : D[i].2 = .slice (some ⟨g, 0, none⟩) D[i].1.length c) (j : Nat) (hj : j < D[i].1.length) (y : Int) (hy : 0 ≤ y ∧ y ≤ 255) :
    Had K (w.setCell ⟨g, j, none⟩ (.int .u8 y)) hv (D.set i (D[i].1.set j y, D[i].2)) := by
  have hm := h.dat _ (List.getElem_mem hi)
  have hu : Upd (fun k => k = g) w (w.setCell ⟨g, j, none⟩ (.int .u8 y)) := Upd.setCell (S := fun k => k = g) w (.inl rfl) _
  have hown : D[i].2.ownBlock = some g := by rw [hd]; rfl
  refine ⟨?_, fun p hp => ?_, ?_, h.fr⟩
  · rw [List.length_set, List.map_set, setSame _ _ _ (by simp [hi])]
    exact ownsRow_upd h.row hu (fun k hk hkg => hpRowNe h.row hm.1 (by decide) k hk (by rw [hkg]; exact hown))
  · obtain ⟨k, hk, rfl⟩ := List.mem_iff_getElem.1 hp
    rw [List.length_set] at hk
    rw [List.getElem_set]
    split
    · refine ⟨?_, fun z hz => ?_, hm.2.2⟩
      · have h1 := hm.1
        simp only [hd] at h1 ⊢
        have h2 := hpSet h1 j (.int .u8 y)
        simpa [bv, List.map_set] using h2
      · rcases List.mem_or_eq_of_mem_set hz with hz | rfl
        · exact hm.2.1 z hz
        · exact hy
    · rename_i he
      have hk' := h.dat _ (List.getElem_mem hk)
      refine ⟨ownsRow_upd hk'.1 hu (fun q hq hqg => ?_), hk'.2⟩
      subst hqg
      have hp2 := List.pairwise_iff_getElem.1 h.ap
      rcases Nat.lt_or_ge k i with h1 | h1
      · exact hp2 k i hk hi h1 _ hq hown
      · exact hp2 i k hi hk (by omega) _ hown hq
  · rw [List.pairwise_iff_getElem]
    intro k l hk hl hkl q hq hq'
    rw [List.length_set] at hk hl
    rw [snd_set2 D i hi _ k hk] at hq
    rw [snd_set2 D i hi _ l hl] at hq'
    exact List.pairwise_iff_getElem.1 h.ap k l hk hl hkl q hq hq'
/-- one row more -/
theorem Had.push {aa va : Option Addr} {ac vc m' : Nat} {a : List Int} {d : Value} {w8 : World} (h : Had K w (.slice aa D.length ac) D) (hu : Upd (fun k => (Value.slice aa D.length ac).ownBlock = some k) w w')
    (hrow : w'.ownsRow 0 41 1 (.slice va m' vc) (D.length + 1) (D.map Prod.snd ++ [d])) (hf : Fresh w8 (.slice aa D.length ac) (.slice va m' vc)) (h8 : w.heap.size ≤ w8.heap.size)
    (hd : w.ownsRow 0 5 1 d a.length (bv a)) (hy : ∀ y ∈ a, 0 ≤ y ∧ y ≤ 255) (hn : ∀ k, d.ownBlock = some k → G k ∧ ∀ q ∈ D, ¬ q.2.ownBlock = some k)
    (hG : ∀ k, K k → G k) (hG2 : ∀ k, w.heap.size ≤ k → k < w'.heap.size → G k) : Had G w' (.slice va m' vc) (D ++ [(a, d)]) := by
  refine ⟨?_, fun p hp => ?_, ?_, fun k hk => ?_⟩
  · rw [List.length_append, List.map_append]
    exact hrow
  · rcases List.mem_append.1 hp with hp | hp
    · have := h.dat p hp
      exact ⟨ownsRow_upd this.1 hu (fun k hk hk' => hpRowNe this.1 h.row (by decide) k hk hk'), this.2.1, fun k hk => hG k (this.2.2 k hk)⟩
    · simp at hp
      subst hp
      exact ⟨ownsRow_upd hd hu (fun k hk hk' => hpRowNe hd h.row (by decide) k hk hk'), hy, fun k hk => (hn k hk).1⟩
  · rw [List.pairwise_append]
    refine ⟨h.ap, by simp, fun q hq r hr k hk hk' => ?_⟩
    simp at hr
    subst hr
    exact (hn k hk').2 q hq hk
  · rcases hf k hk with h1 | h1
    · exact hG k (h.fr k h1)
    · exact hG2 k (by omega) (hpRowLt hrow k hk)
end
end Go.Proofs.YtdmadfahgkikkaaDoor
/- The reference's heap: what is used, a new one, an array, whether two are the same. -/
namespace Go.Proofs.YtdmadfahgkikkaaDoor
open Go.RowKit Go.Lib Go.ChangeShapes Go.WideShapes Go.Deep
set_option linter.unusedVariables false
set_option linter.unusedSimpArgs false

abbrev RT : TypeId := 133
section
variable {F : Nat → Prop} {w : World} {b : Nat} {sz : Int} {av : Value} {R : List (ArrM × Value)}
theorem rUsed (h : Hp RT F w b sz av R) (hl : R.length ≤ 1000) : Calls Tryd.prog 84 #[.pointer (some ⟨b, 0, none⟩)] w fun e w' => e = .returned (.int .i64 (usedP (R.map Prod.fst) : Int)) ∧ w = w' := by
  obtain ⟨h0, h1, h2⟩ := h.bx
  have H := Lib.hid h
  obtain ⟨a, c, rfl⟩ := h.len
  have HLE := Lib.hid (used_le (L := R.map Prod.fst) (fun x hx => by obtain ⟨p, hp, rfl⟩ := List.mem_map.1 hx; exact (h.dat p hp).len))
  have HE0 : Hid (usedP ((R.map Prod.fst).take 2) = 0) := Lib.hid (by
    have : ((R.map Prod.fst).take 2).drop 2 = [] := by rw [List.drop_eq_nil_iff]; simp; omega
    simp [usedP, this, usedL])
  have hmx := h.maxl
  clear h
  go_enter Tryd.func84, Tryd.ntmps84
  go_wp2_with fail
  go_loop [4, 3] (fun i u => ∃ k n : Nat, 2 ≤ k ∧ k ≤ 1000 ∧ i = .int .i64 k ∧ u = .int .i64 n ∧ n ≤ 72 * k ∧ (k ≤ R.length ∨ k = 2) ∧ Hid (usedP ((R.map Prod.fst).take k) = n)) (fun i _ => R.length - (intOf i).toNat)
  case atStart => exact ⟨2, 0, by omega, by omega, rfl, rfl, by omega, .inr rfl, HE0⟩
  case round =>
    obtain ⟨k, n, hk2, hk, rfl, rfl, hn, hkl, HN⟩ := hrel
    by_cases hlt : k < R.length
    · obtain ⟨g, c', hv, k0, k1, k2, k3, k4, k5⟩ := H.out.at hlt
      simp at hv
      obtain ⟨rfl, rfl⟩ := hv
      obtain ⟨da, dc, hd, -, -⟩ := H.out.dslice hlt
      have hdl := (H.out.dat _ (List.getElem_mem hlt)).len
      rw [hd] at k4
      have HS := Lib.hid (used_take (L := R.map Prod.fst) (k := k) (by simpa using hlt))
      simp only [List.getElem_map] at HS
      rw [HN.out, if_neg (by omega)] at HS
      clear hd k0 k1 k2 k3 k5
      generalize R[k].1.data.length = dn at *
      have hki : (0 : Int) ≤ (k : Int) := Int.natCast_nonneg _
      go_wp2_with fail
      go_round
      case rel => exact ⟨k + 1, n + 8 + dn, by omega, by omega, by go_num, by go_num, by omega, .inl (by omega), Lib.hid (by rw [HS.out]; omega)⟩
      case measure => simp [intOf]; omega
    · have HN2 : Hid (usedP (R.map Prod.fst) = n) := Lib.hid (by rw [← HN.out, List.take_of_length_le (by simp; omega)])
      go_wp2_with fail
      go_ret
      exact ⟨by rw [HN2.out]; rfl, rfl⟩
theorem rNew (s : Int) : Calls Tryd.prog 54 #[.int .i64 s] w fun e w' => ∃ b, e = .returned (.pointer (some ⟨b, 0, none⟩)) ∧ Hep RT (Since w w') w' b (two s) ∧ Upd (fun _ => False) w w' := by
  go_enter Tryd.func54, Tryd.ntmps54
  go_wp2_with fail
  go_ret
  refine ⟨_, rfl, ?_, ?_⟩
  · exact two_hp RT (by decide) w w (Upd.refl _ _) s _ 2 rfl rfl _ _ rfl rfl
  · exact (Upd.alloc _ _ _).trans (Upd.alloc _ _ _) (fun _ h _ => h)
theorem rAt_no (h : Hp RT F w b sz av R) (hl : R.length ≤ 1000) (ref : Int) (hr : hasB R.length ref = false) : Calls Tryd.prog 61 #[.pointer (some ⟨b, 0, none⟩), .int .i64 ref] w fun e w' => e = .returned (.tuple #[zarr, .bool false]) ∧ Upd (fun _ => False) w w' := by
  have hr2 : ref < 1 ∨ (1 ≤ ref ∧ (R.length : Int) < ref) := by simp [hasB] at hr; omega
  have hu := Upd.alloc (fun _ => False) w (.cells #[.int .i64 0, .int .i64 0, .int .i64 0, .bool false, .slice none 0 0] 50)
  obtain ⟨w1, hw1⟩ : ∃ w1, w1 = w.alloc (.cells #[.int .i64 0, .int .i64 0, .int .i64 0, .bool false, .slice none 0 0] 50) := ⟨_, rfl⟩
  have hx : w1.heap[w.heap.size]? = some (.cells #[.int .i64 0, .int .i64 0, .int .i64 0, .bool false, .slice none 0 0] 50 (0, 0)) := by
    rw [hw1]; exact hpTop _ _ _ rfl
  rw [← hw1] at hu
  have H1 := h.upd hu (fun _ _ h => h)
  obtain ⟨h0, h1, h2⟩ := H1.bx
  obtain ⟨a, c, rfl⟩ := h.len
  obtain ⟨c0, c1, c2, c3, c4, cf⟩ := five hx
  have f0 := cf 0; have f1 := cf 1; have f2 := cf 2; have f3 := cf 3; have f4 := cf 4
  have HU := Lib.hid hu
  clear cf hx hr h H1 hu h0 h2
  subst hw1
  rcases hr2 with hr2 | ⟨hr2, hr3⟩
  all_goals
    go_enter Tryd.func61, Tryd.ntmps61
    go_wp2_with fail
    refine bodyPost_ret (v := .tuple #[zarr, .bool false]) (by simp only [results, Tryd.f61]; simp [go_sem, zarr, c0, c1, c2, c3, c4, f0, f1, f2, f3, f4]) rfl ?_
    clear c0 c1 c2 c3 c4 f0 f1 f2 f3 f4
    exact ⟨rfl, Upd.alloc _ _ _⟩
theorem rAt (h : Hp RT F w b sz av R) (hl : R.length ≤ 1000) {i : Nat} (hi : i < R.length) : Calls Tryd.prog 61 #[.pointer (some ⟨b, 0, none⟩), .int .i64 ((i : Int) + 1)] w fun e w' => ∃ a c, R[i].2 = .slice a R[i].1.data.length c ∧ e = .returned (.tuple #[aval R[i].1 (.slice a R[i].1.data.length c), .bool true]) ∧ Upd (fun _ => False) w w' := by
  obtain ⟨w1, hw1⟩ : ∃ w1, w1 = w.alloc (.cells #[.int .i64 0, .int .i64 0, .int .i64 0, .bool false, .slice none 0 0] 50) := ⟨_, rfl⟩
  have hu : Upd (fun _ => False) w w1 := by rw [hw1]; exact Upd.alloc _ _ _
  have hx : w1.heap[w.heap.size]? = some (.cells #[.int .i64 0, .int .i64 0, .int .i64 0, .bool false, .slice none 0 0] 50 (0, 0)) := by
    rw [hw1]; exact hpTop _ _ _ rfl
  have H1 := h.upd hu (fun _ _ h => h)
  obtain ⟨h0, h1, h2⟩ := H1.bx
  obtain ⟨g, c', hv, k0, k1, k2, k3, k4, k5⟩ := H1.at hi
  obtain ⟨da, dc, hd, -, -⟩ := H1.dslice hi
  obtain ⟨a, c, rfl⟩ := h.len
  simp at hv
  obtain ⟨rfl, rfl⟩ := hv
  rw [hd] at k4
  have HD := Lib.hid hd
  obtain ⟨c0, c1, c2, c3, c4, cf⟩ := five hx
  have f0 := cf 0; have f1 := cf 1; have f2 := cf 2; have f3 := cf 3; have f4 := cf 4
  have HW := Lib.hid hw1
  clear cf hx hd H1 hu h0 h2 h hw1 k5
  obtain ⟨p, hp⟩ : ∃ p, p = R[i] := ⟨_, rfl⟩
  rw [← hp] at k0 k1 k2 k3 k4 HD ⊢
  obtain ⟨⟨own1, lab1, life1, sh1, ys⟩, pd⟩ := p
  simp only [aval] at k0 k1 k2 k3 k4 HD ⊢
  clear hp
  have hw2 : IntKind.i64.wrap (i : Int) = (i : Int) := IntWalk.i64_in _ (by omega)
  have hi3 : (0 : Int) ≤ (i : Int) := Int.natCast_nonneg _
  have hi4 : (i : Int) < (R.length : Int) := by omega
  have hx2 := HW.out
  subst hx2
  go_enter Tryd.func61, Tryd.ntmps61
  go_wp2_with fail
  refine bodyPost_ret (v := .tuple #[.agg #[.int .i64 own1, .int .i64 lab1, .int .i64 life1, .bool sh1, .slice da ys.length dc], .bool true]) (by simp only [results, Tryd.f61]; simp [go_sem, c0, c1, c2, c3, c4, f0, f1, f2, f3, f4]) rfl ?_
  clear c0 c1 c2 c3 c4 f0 f1 f2 f3 f4 k0 k1 k2 k3 k4
  exact ⟨da, dc, HD.out, rfl, Upd.alloc _ _ _⟩
end
theorem rSame (own lab life : Int) (sh : Bool) (d1 d2 : Value) (ys : List Int) (w : World) (h1 : Vw w d1 ys) (h2 : Vw w d2 ys) : Calls Tryd.prog 65 #[.agg #[.int .i64 own, .int .i64 lab, .int .i64 life, .bool sh, d1], .agg #[.int .i64 own, .int .i64 lab, .int .i64 life, .bool sh, d2]] w fun e w' => e = .returned (.bool true) ∧ Upd (fun _ => False) w w' := by
  obtain ⟨a1, c1, rfl, -, -⟩ := h1.slice
  obtain ⟨a2, c2, rfl, -, -⟩ := h2.slice
  obtain ⟨w1, hw1⟩ : ∃ w1, w1 = (w.alloc (.cells #[.int .i64 own, .int .i64 lab, .int .i64 life, .bool sh, .slice a1 ys.length c1] 50)).alloc (.cells #[.int .i64 own, .int .i64 lab, .int .i64 life, .bool sh, .slice a2 ys.length c2] 50) := ⟨_, rfl⟩
  have hu : Upd (fun _ => False) w w1 := by rw [hw1]; exact (Upd.alloc _ _ _).trans (Upd.alloc _ _ _) (fun _ h _ => h)
  have e1 := run_str (P := Tryd.prog) Tryd.underlying41 Tryd.underlying5 Tryd.underlying9 (h1.upd hu (fun _ _ h => h))
  have e2 := run_str (P := Tryd.prog) Tryd.underlying41 Tryd.underlying5 Tryd.underlying9 (h2.upd hu (fun _ _ h => h))
  have hbq : ((strOfNums ys).toList == (strOfNums ys).toList) = true := by simp
  have HU := Lib.hid hu
  clear h1 h2 hu
  generalize strOfNums ys = st at *
  generalize ys.length = n at *
  subst hw1
  go_enter Tryd.func65, Tryd.ntmps65
  go_wp2_with fail
  go_ret
  exact ⟨rfl, HU.out⟩

theorem setFrom_snoc {α : Type} : ∀ (vs xs : List α) (o : Nat) (v : α), setFrom xs o (vs ++ [v]) = (setFrom xs o vs).set (o + vs.length) v
  | [], xs, o, v => rfl
  | u :: r, xs, o, v => by
    show setFrom (xs.set o u) (o + 1) (r ++ [v]) = _
    rw [setFrom_snoc r (xs.set o u) (o + 1) v]
    show _ = (setFrom (xs.set o u) (o + 1) r).set (o + (r.length + 1)) v
    rw [show o + 1 + r.length = o + (r.length + 1) by omega]
theorem setFrom_byte : ∀ (vs xs : List Int) (o : Nat), (∀ y ∈ xs, 0 ≤ y ∧ y ≤ 255) → (∀ y ∈ vs, 0 ≤ y ∧ y ≤ 255) → ∀ y ∈ setFrom xs o vs, 0 ≤ y ∧ y ≤ 255
  | [], xs, o, hx, hv => hx
  | v :: r, xs, o, hx, hv => setFrom_byte r (xs.set o v) (o + 1) (fun y hy => by
      rcases List.mem_or_eq_of_mem_set hy with h | rfl
      · exact hx y h
      · exact hv y (by simp)) (fun y hy => hv y (by simp [hy]))
theorem hpSrcRow {w : World} {base : Nat} {e : TypeId} {size : Nat} {v : Value} {n : Nat} {xs : List Value} (h : w.ownsRow base e size v n xs) (h1 : ∀ u ∈ xs, u.oneCell' = true) : Src w size v n xs := by
  rcases h.2 with ⟨rfl, rfl⟩ | ⟨g, cap, cur, rfl, _⟩
  · exact .inl ⟨rfl, rfl, List.eq_nil_of_length_eq_zero (by simpa using h.1)⟩
  · exact .inr ⟨⟨g, 0, none⟩, cap, rfl, h.1, h.cells (g := g) rfl, h1⟩
theorem freshRow {w w3 : World} {o : Obj} {v3 : Value} (hg : (w.alloc o).grownBy w3 (Value.slice (some ⟨w.heap.size, 0, none⟩) 0 0).ownBlock) (hf : Fresh (w.alloc o) (.slice (some ⟨w.heap.size, 0, none⟩) 0 0) v3) :
    Upd (fun _ => False) w w3 ∧ ∀ k, v3.ownBlock = some k → w.heap.size ≤ k := by
  refine ⟨?_, fun k hk => ?_⟩
  · exact (Upd.alloc _ w _).trans (T := fun k => k = w.heap.size) (Upd.grown hg (fun k hk => .inl (by simpa [Value.ownBlock] using hk.symm))) (fun i hi hlt => by omega)
  · rcases hf k hk with h | h
    · simp [Value.ownBlock] at h
      omega
    · simp at h
      omega
theorem rowHead {w : World} {base : Nat} {e : TypeId} {size n : Nat} {v : Value} {xs : List Value} (h : w.ownsRow base e size v n xs) (h0 : 0 < n) : ∃ g c, v = .slice (some ⟨g, 0, none⟩) n c ∧ g < w.heap.size := by
  rcases h.2 with ⟨_, h1⟩ | ⟨g, cap, cur, rfl, _, hg, _⟩
  · omega
  · exact ⟨g, cap, rfl, (Array.getElem?_eq_some_iff.1 hg).1⟩
theorem rowCell {w : World} {base : Nat} {e : TypeId} {size n g c : Nat} {xs : List Value} (h : w.ownsRow base e size (.slice (some ⟨g, 0, none⟩) n c) n xs) {j : Nat} {u : Value} (hu : xs[j]? = some u) : w.cell? ⟨g, j, none⟩ = some u := by
  have := h.cells (g := g) rfl j u hu
  rw [addr_add, Nat.zero_add] at this
  exact this
section
variable {F : Nat → Prop} {w : World} {b : Nat} {sz : Int} {av : Value} {R : List (ArrM × Value)}
theorem Hp.one (h : Hp RT F w b sz av R) : ∀ u ∈ R.flatMap acl, u.oneCell' = true :=
  acl_one R (fun p hp => by
    obtain ⟨a, c, he⟩ := ownsRow_slice (h.dat p hp).row
    rw [he]; rfl)
/-- the reference's way: a new list, in which one array has new bytes -/
theorem rSwap (h : Hp RT F w b sz av R) {i : Nat} (hi : i < R.length) {w4 : World} {v3 d : Value} {ys : List Int} (hu : Upd (fun k => w.heap.size ≤ k) w w4)
    (hrow : w4.ownsRow 0 50 5 v3 R.length ((R.flatMap acl).set (i * 5 + 4) d)) (hd : w4.ownsRow 0 5 1 d ys.length (bv ys)) (hy : ∀ y ∈ ys, 0 ≤ y ∧ y ≤ 255) (hl : ys.length ≤ 64)
    (hnd : ∀ k, d.ownBlock = some k → w.heap.size ≤ k) (hn3 : ∀ k, v3.ownBlock = some k → w.heap.size ≤ k) :
    Hp RT (More F w (w4.setCell ⟨b, 1, none⟩ v3)) (w4.setCell ⟨b, 1, none⟩ v3) b sz v3 (R.set i (R[i].1.put ys, d)) ∧ Upd F w (w4.setCell ⟨b, 1, none⟩ v3) := by
  have hsz : (w4.setCell ⟨b, 1, none⟩ v3).heap.size = w4.heap.size := by simp [World.setCell]
  have hs := hu.size
  have hbl := (Array.getElem?_eq_some_iff.1 h.box).1
  refine ⟨?_, ?_⟩
  · refine Hp.turn (hpBlk hu h.box (by omega)) (.inl h.fb) (fun k hk => ?_) (by decide) (by decide) _ _ ?_ (fun p hp => ?_) ?_ (fun k hk => .inr ⟨hn3 k hk, by rw [hsz]; exact hpRowLt hrow k hk⟩)
    · rcases hk with hk | hk
      · exact Nat.lt_of_lt_of_le (h.lt k hk) hs
      · rw [hsz] at hk; exact hk.2
    · rw [List.length_set, acl_set R i hi]
      exact hrow
    · obtain ⟨k, hk, rfl⟩ := List.mem_iff_getElem.1 hp
      rw [List.length_set] at hk
      rw [List.getElem_set]
      split
      · exact ⟨hd, hy, fun q hq => .inr ⟨hnd q hq, by rw [hsz]; exact hpRowLt hd q hq⟩, hl⟩
      · have hm := h.dat _ (List.getElem_mem hk)
        exact (hm.upd hu (fun q hq hq' => by have := h.lt q (hm.inn q hq); omega)).wide (fun q hq => .inl hq)
    · rw [List.pairwise_iff_getElem]
      intro k l hk hl' hkl q hq hq'
      rw [List.length_set] at hk hl'
      rw [List.getElem_set] at hq hq'
      split at hq <;> split at hq'
      · omega
      · have h1 := hnd q hq
        have h2 := h.lt q ((h.dat _ (List.getElem_mem hl')).inn q hq')
        omega
      · have h1 := hnd q hq'
        have h2 := h.lt q ((h.dat _ (List.getElem_mem hk)).inn q hq)
        omega
      · exact List.pairwise_iff_getElem.1 h.ap k l hk hl' hkl q hq hq'
  · refine hpS ?_ h.fb
    exact ⟨hu.os, hu.tape, hu.output, hu.size, fun k hk hF => hu.block k hk (by omega)⟩
set_option maxRecDepth 100000 in
set_option maxHeartbeats 1000000 in
theorem rSet (h : Hp RT F w b sz av R) (hl : R.length ≤ 1000) {i : Nat} (hi : i < R.length) (hi2 : i < 2) (v : Value) (ys : List Int) (hv : Vw w v ys) (hl64 : ys.length ≤ 64) :
    Calls Tryd.prog 55 #[.pointer (some ⟨b, 0, none⟩), .int .i64 ((i : Int) + 1), v] w fun e w' => e = .returned (.bool true) ∧ (∃ av' d, Hp RT (More F w w') w' b sz av' (R.set i (R[i].1.put ys, d))) ∧ Upd F w w' := by
  obtain ⟨va, vc, rfl, -, -⟩ := hv.slice
  obtain ⟨i0, hi0, hz0, hz1, hz2⟩ := info_parts b8Info
  obtain ⟨j0, hj, hy0, hy1, hy2⟩ := info_parts arrInfo
  have H := Lib.hid h
  have HV := Lib.hid hv
  obtain ⟨h0, h1, h2⟩ := h.bx
  obtain ⟨aa, ac, rfl⟩ := h.len
  have hbl : b < w.heap.size := (Array.getElem?_eq_some_iff.1 h.box).1
  have HRW := Lib.hid (World.ownsRow_lit (base := 0) (e := 50) (size := 5) w #[] 0 (Nat.zero_le _) (by unfold maxLen; omega) rfl)
  have HSR := Lib.hid ((hpSrcRow h.row h.one).upd (Upd.alloc (fun _ => False) w (.cells #[] 50)) (fun _ _ h => h))
  have hi3 : (0 : Int) ≤ (i : Int) := Int.natCast_nonneg _
  have hi4 : (i : Int) < (R.length : Int) := by omega
  clear h hv h0 h2
  generalize hn : ys.length = n at *
  have HN := Lib.hid hn
  clear hn
  go_enter Tryd.func55, Tryd.ntmps55
  go_wp2_with (at_builtin; go_loud (refine wpList_append_mine _ rfl _ _ 120 rfl 0 50 j0 zarr 5 56 Tryd.underlying120 hj hy0 hy1 hy2 rfl (by decide) (.slice (some ⟨w.heap.size, 0, none⟩) 0 0) 0 [] rfl HRW.out R.length (R.flatMap acl) HSR.out (by unfold maxLen; omega) (by omega) (Nat.zero_le _) ?_))
  intro v3 w3 ho hg hf
  obtain ⟨hu3, hn3⟩ := freshRow hg hf
  obtain ⟨g3, c3, rfl, hgl3⟩ := rowHead ho (by omega)
  have H3 := H.out.upd hu3 (fun _ _ h => h)
  have HO3 := Lib.hid ho
  have hg3 := hn3 g3 rfl
  have HV3 := Lib.hid (HV.out.upd hu3 (fun _ _ h => h))
  have HBR := Lib.hid (World.ownsRow_lit (base := 0) (e := 5) (size := 1) w3 #[] 0 (Nat.zero_le _) (by unfold maxLen; omega) rfl)
  have HBS := Lib.hid (HV3.out.src.upd (Upd.alloc (fun _ => False) w3 (.cells #[] 5)) (fun _ _ h => h))
  rw [HN.out] at HBS
  have HU3 := Lib.hid hu3
  have hw1 : IntKind.i64.wrap (i : Int) = (i : Int) := IntWalk.i64_in _ (by omega)
  clear ho hg hf hu3 hn3 H3
  go_wp2_with (at_builtin; go_loud (refine wpList_append_mine _ rfl _ _ 41 rfl 0 5 i0 (.int .u8 0) 1 1 Tryd.underlying41 hi0 hz0 hz1 hz2 rfl (by decide) (.slice (some ⟨w3.heap.size, 0, none⟩) 0 0) 0 [] rfl HBR.out n (bv ys) HBS.out (by unfold maxLen; omega) (by omega) (Nat.zero_le _) ?_))
  intro d w5 ho hg hf
  obtain ⟨hu5, hn5⟩ := freshRow hg hf
  obtain ⟨da, dc, rfl⟩ := ownsRow_slice ho
  have hb5 := hpBlk (HU3.out.trans hu5 (fun _ h _ => h)) H.out.box (fun h => h)
  have c1 : w5.cell? ⟨b, 1, none⟩ = some (.slice aa R.length ac) := by simp [World.cell?, hb5]
  have f1 : w5.frozen? ⟨b, 1, none⟩ = false := by simp [World.frozen?, hb5]
  have hr5 := ownsRow_upd HO3.out hu5 (fun _ _ h => h)
  have c4 : w5.cell? ⟨g3, i * 5 + 4, none⟩ = some R[i].2 := rowCell hr5 (by rw [acl_at R i 4 hi (by omega)]; rfl)
  have f4 : w5.frozen? ⟨g3, i * 5 + 4, none⟩ = false := hpFrozen hr5 _
  obtain ⟨oa, oc, hod, -, -⟩ := H.out.dslice hi
  rw [hod] at c4
  have hbg : ¬ b = g3 := by omega
  have hgb : ¬ g3 = b := by omega
  have HO5 := Lib.hid ho
  have HR5 := Lib.hid (hpSet hr5 (i * 5 + 4) (.slice da n dc))
  have HU5 := Lib.hid (HU3.out.trans hu5 (fun _ h _ => h))
  have HN5 := Lib.hid hn5
  have s3 := HU3.out.size
  have HS3 := Lib.hid s3
  clear ho hg hf hu5 hn5 hr5 hb5 hod s3
  go_wp2_with fail
  go_ret
  clear c1 c4 f1 f4 h1
  have hsw := rSwap H.out hi (w4 := w5.setCell ⟨g3, i * 5 + 4, none⟩ (.slice da n dc)) (v3 := .slice (some ⟨g3, 0, none⟩) R.length c3) (d := .slice da n dc) (ys := ys) (hpS (HU5.out.mono (fun _ h _ => h.elim)) hg3) HR5.out
    (by rw [HN.out]; exact ownsRow_upd HO5.out (Upd.setCell (S := fun k => k = g3) w5 (.inl rfl) _) (fun k hk hk' => by have := HN5.out k hk; omega)) HV.out.1 (by rw [HN.out]; exact hl64) (fun k hk => by have := HN5.out k hk; have := HS3.out; omega) (fun k hk => by simp [Value.ownBlock] at hk; omega)
  exact ⟨rfl, ⟨_, _, hsw.1⟩, hsw.2⟩
end
end Go.Proofs.YtdmadfahgkikkaaDoor
/- HeapPlays: both heaps are alike. -/
namespace Go.Proofs.YtdmadfahgkikkaaDoor
open Go.RowKit Go.Lib Go.ChangeShapes Go.WideShapes Go.Deep
set_option linter.unusedVariables false
set_option linter.unusedSimpArgs false

section
variable {F G : Nat → Prop} {w : World} {b c : Nat} {m : HpM}
theorem qUsed (h : Hep RT F w b m) (hl : m.arrs.length ≤ 1000) : Calls Tryd.prog 84 #[.pointer (some ⟨b, 0, none⟩)] w fun e w' => e = .returned (.int .i64 (usedP m.arrs : Int)) ∧ w = w' := by
  obtain ⟨av, R, h, hR⟩ := h
  have := rUsed h (by rw [fst_len hR]; exact hl)
  rw [hR] at this
  exact this
theorem qAt_no (h : Hep RT F w b m) (hl : m.arrs.length ≤ 1000) (ref : Int) (hr : hasB m.arrs.length ref = false) : Calls Tryd.prog 61 #[.pointer (some ⟨b, 0, none⟩), .int .i64 ref] w fun e w' => e = .returned (.tuple #[zarr, .bool false]) ∧ Upd (fun _ => False) w w' := by
  obtain ⟨av, R, h, hR⟩ := h
  exact rAt_no h (by rw [fst_len hR]; exact hl) ref (by rw [fst_len hR]; exact hr)
theorem qAt (h : Hep RT F w b m) (hl : m.arrs.length ≤ 1000) {i : Nat} (hi : i < m.arrs.length) : Calls Tryd.prog 61 #[.pointer (some ⟨b, 0, none⟩), .int .i64 ((i : Int) + 1)] w fun e w' => ∃ a c, e = .returned (.tuple #[aval (m.arrs.getD i default) (.slice a (m.arrs.getD i default).data.length c), .bool true]) ∧ Vw w' (.slice a (m.arrs.getD i default).data.length c) (m.arrs.getD i default).data ∧ Upd (fun _ => False) w w' := by
  obtain ⟨av, R, h, hR⟩ := h
  obtain ⟨hr, e⟩ := fst_at hR hi
  refine (rAt h (by rw [fst_len hR]; exact hl) hr).mono ?_
  rintro x w' ⟨a, c, hd, rfl, hu⟩
  rw [e] at hd ⊢
  have hv := (h.dat _ (List.getElem_mem hr)).vw
  rw [e, hd] at hv
  exact ⟨a, c, rfl, hv.upd hu (fun _ _ h => h), hu⟩
theorem Hep.bxs (h : Hep RT F w b m) : ∃ a c, w.cell? ⟨b, 1, none⟩ = some (.slice a m.arrs.length c) := by
  obtain ⟨av, R, h, hR⟩ := h
  obtain ⟨a, c, rfl⟩ := h.len
  exact ⟨a, c, by rw [h.bx.2.1, fst_len hR]⟩
end
end Go.Proofs.YtdmadfahgkikkaaDoor

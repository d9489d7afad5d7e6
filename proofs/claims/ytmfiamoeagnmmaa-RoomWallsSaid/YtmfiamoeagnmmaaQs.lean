/- How an argument of type []Step (stage 12) reads. -/
import Derived.Test.YtmfiamoeagnmmaaQi
import Derived.ProofKit
import Derived.Deep.Slices
import Derived.Deep.Fields
import Derived.ChangeSame
import Derived.Carry
namespace Go.Proofs.Ytmfiamoeagnmmaa
open Go.RowKit Go.ChangeShapes Go.WideShapes Go.Deep
set_option linter.unusedVariables false
set_option linter.unusedSimpArgs false

structure St12 where
  what : Int
  app : Int
  a : Int
  b : Int
  args : List Int
  p : List Int
  q : List Int
instance : Inhabited St12 := ⟨⟨0, 0, 0, 0, [], [], []⟩⟩
def wf4q (s : St12) : Prop := (Lit.int .i64 s.what).wf = true ∧ (Lit.int .i64 s.app).wf = true ∧ (Lit.int .i64 s.a).wf = true ∧ (Lit.int .i64 s.b).wf = true
def Q12At (w : World) (g off : Nat) (s : St12) : Prop :=
  ∃ va vp vq, w.cell? ⟨g, off, none⟩ = some (.int .i64 s.what) ∧ w.cell? ⟨g, off + 1, none⟩ = some (.int .i64 s.app) ∧ w.cell? ⟨g, off + 2, none⟩ = some (.int .i64 s.a) ∧ w.cell? ⟨g, off + 3, none⟩ = some (.int .i64 s.b) ∧ w.cell? ⟨g, off + 4, none⟩ = some va ∧
    w.cell? ⟨g, off + 5, none⟩ = some vp ∧ w.cell? ⟨g, off + 6, none⟩ = some vq ∧ I32 w va s.args ∧ Vw w vp s.p ∧ Vw w vq s.q ∧ wf4q s
def Qs12At (w : World) (v : Value) (L : List St12) : Prop :=
  ((∃ a c, v = .slice a 0 c) ∧ L = []) ∨ ∃ g off c, v = .slice (some ⟨g, off, none⟩) L.length c ∧ L.length ≤ c ∧ c ≤ maxLen ∧ ∀ i, i < L.length → Q12At w g (off + i * 7) (L.getD i default)
theorem I32.below {W w : World} {v : Value} {xs : List Int} (h : I32 W v xs) (hb : Below W.heap.size W w) : I32 w v xs := by
  obtain ⟨h1, a, c, rfl, h2, h3, h4⟩ := h
  refine ⟨h1, a, c, rfl, h2, h3, ?_⟩
  rcases h4 with h4 | ⟨g, off, rfl, h4⟩
  · exact .inl h4
  · exact .inr ⟨g, off, rfl, fun j hj => (hb.cell (p := ⟨g, off + j, none⟩) (World.block_lt_of_cell? W _ (h4 j hj))).trans (h4 j hj)⟩
theorem Q12At.below {W w : World} {g off : Nat} {s : St12} (h : Q12At W g off s) (hb : Below W.heap.size W w) : Q12At w g off s := by
  obtain ⟨va, vp, vq, h0, h1, h2, h3, h4, h5, h6, h7, h8, h9, h10⟩ := h
  have hg : g < W.heap.size := World.block_lt_of_cell? W _ h0
  have k := fun q => hb.cell (p := ⟨g, q, none⟩) hg
  exact ⟨va, vp, vq, (k _).trans h0, (k _).trans h1, (k _).trans h2, (k _).trans h3, (k _).trans h4, (k _).trans h5, (k _).trans h6, h7.below hb, h8.below hb, h9.below hb, h10⟩
theorem Qs12At.below {W w : World} {v : Value} {L : List St12} (h : Qs12At W v L) (hb : Below W.heap.size W w) : Qs12At w v L := by
  rcases h with h | ⟨g, off, c, h1, h2, h3, h4⟩
  · exact .inl h
  · exact .inr ⟨g, off, c, h1, h2, h3, fun i hi => (h4 i hi).below hb⟩
theorem Qs12At.slice {w : World} {v : Value} {L : List St12} (h : Qs12At w v L) : ∃ a c, v = .slice a L.length c := by
  rcases h with ⟨⟨a, c, rfl⟩, rfl⟩ | ⟨g, off, c, rfl, _⟩
  · exact ⟨_, _, rfl⟩
  · exact ⟨_, _, rfl⟩
theorem Qs12At.at {w : World} {a : Option Addr} {n c k : Nat} {L : List St12} (h : Qs12At w (.slice a n c) L) (hk : k < L.length) : ∃ g off, a = some ⟨g, off, none⟩ ∧ n = L.length ∧ g < w.heap.size ∧ Q12At w g (off + k * 7) (L.getD k default) := by
  rcases h with ⟨⟨a, c, he⟩, rfl⟩ | ⟨g, off, c, he, _, _, h4⟩
  · simp at hk
  · simp at he
    obtain ⟨_, _, _, h0, _⟩ := h4 k hk
    exact ⟨g, off, he.1, he.2.1, World.block_lt_of_cell? w _ h0, h4 k hk⟩
theorem cells_st12 : Try.prog.cellsOf 33 = 7 := by kernel_rfl
theorem cells_i32s : Try.prog.cellsOf 30 = 1 := by kernel_rfl
theorem open_i32s {H : Type} {enc : TypeId × Value → H} {W : World} {n : Nat} {v : Value} {x : DataW H × List MemPlace} (h : DataW.trod enc Try.prog W 0 (fun _ => true) true n 30 [v] = some x) : ∃ ys, I32 W v ys := by
  rcases open_ints Try.underlying30 Try.underlying21 (by kernel_rfl) h with ⟨hcs, hx⟩ | ⟨a, len, cap, zs, hcs, _, hl, hm, hz, hx, hcell, hwz⟩
  · simp at hcs
    subst hcs
    exact ⟨[], by simp, none, 0, rfl, Nat.le_refl _, by unfold maxLen; omega, .inl rfl⟩
  · simp at hcs
    subst hcs
    simp at hz
    have hlen : (zs.take len).length = len := by simp; omega
    refine ⟨zs.take len, fun y hy => by have := bounds_i32 (hwz y (List.mem_of_mem_take hy)); omega, a, cap, by rw [hlen], by omega, hm, ?_⟩
    obtain ⟨b, off, spot⟩ := a
    by_cases h0 : spot = none
    · subst h0
      refine .inr ⟨b, off, rfl, fun j hj => ?_⟩
      rw [hlen] at hj
      have := hcell j (by omega)
      rw [addr_add] at this
      rw [this]
      simp [List.getD, hj]
    · have hc0 : cap = 0 := by
        rcases Nat.eq_zero_or_pos cap with h | h
        · exact h
        · have := hcell 0 (by omega)
          have := World.cell?_spot this
          simp [Addr.add] at this
          exact absurd this h0
      obtain rfl : len = 0 := by omega
      exact .inl (by simp)
set_option maxRecDepth 100000 in
theorem open_st12 {H : Type} {enc : TypeId × Value → H} {W : World} {n : Nat} {cs : List Value} {x : DataW H × List MemPlace} (h : DataW.trod enc Try.prog W 0 (fun _ => true) true n 33 cs = some x) :
    ∃ c0 c1 c2 c3 c4 c5 c6 y0 y1 y2 y3 y4 y5 y6 m, cs = [c0, c1, c2, c3, c4, c5, c6] ∧ x.1 = .agg [y0.1, y1.1, y2.1, y3.1, y4.1, y5.1, y6.1] ∧ DataW.trod enc Try.prog W 0 (fun _ => true) true m 3 [c0] = some y0 ∧ DataW.trod enc Try.prog W 0 (fun _ => true) true m 3 [c1] = some y1 ∧
      DataW.trod enc Try.prog W 0 (fun _ => true) true m 3 [c2] = some y2 ∧ DataW.trod enc Try.prog W 0 (fun _ => true) true m 3 [c3] = some y3 ∧ DataW.trod enc Try.prog W 0 (fun _ => true) true m 30 [c4] = some y4 ∧
      DataW.trod enc Try.prog W 0 (fun _ => true) true m 31 [c5] = some y5 ∧ DataW.trod enc Try.prog W 0 (fun _ => true) true m 31 [c6] = some y6 := by
  obtain ⟨ys, m, _, rfl, hl, hlen, hg⟩ := DataW.trod_struct Try.underlying33 h
  rw [cells_st12] at hl
  match cs, hl, ys, hlen with
  | [c0, c1, c2, c3, c4, c5, c6], _, [y0, y1, y2, y3, y4, y5, y6], _ =>
    have g0 : DataW.trod enc Try.prog W 0 (fun _ => true) true m 3 (([c0, c1, c2, c3, c4, c5, c6].drop 0).take (Try.prog.cellsOf 3)) = some y0 := hg 0 _ rfl
    have g1 : DataW.trod enc Try.prog W 0 (fun _ => true) true m 3 (([c0, c1, c2, c3, c4, c5, c6].drop 1).take (Try.prog.cellsOf 3)) = some y1 := hg 1 _ rfl
    have g2 : DataW.trod enc Try.prog W 0 (fun _ => true) true m 3 (([c0, c1, c2, c3, c4, c5, c6].drop 2).take (Try.prog.cellsOf 3)) = some y2 := hg 2 _ rfl
    have g3 : DataW.trod enc Try.prog W 0 (fun _ => true) true m 3 (([c0, c1, c2, c3, c4, c5, c6].drop 3).take (Try.prog.cellsOf 3)) = some y3 := hg 3 _ rfl
    have g4 : DataW.trod enc Try.prog W 0 (fun _ => true) true m 30 (([c0, c1, c2, c3, c4, c5, c6].drop 4).take (Try.prog.cellsOf 30)) = some y4 := hg 4 _ rfl
    have g5 : DataW.trod enc Try.prog W 0 (fun _ => true) true m 31 (([c0, c1, c2, c3, c4, c5, c6].drop 5).take (Try.prog.cellsOf 31)) = some y5 := hg 5 _ rfl
    have g6 : DataW.trod enc Try.prog W 0 (fun _ => true) true m 31 (([c0, c1, c2, c3, c4, c5, c6].drop 6).take (Try.prog.cellsOf 31)) = some y6 := hg 6 _ rfl
    rw [cells_int] at g0 g1 g2 g3
    rw [cells_i32s] at g4
    rw [cells_bytes] at g5 g6
    exact ⟨c0, c1, c2, c3, c4, c5, c6, y0, y1, y2, y3, y4, y5, y6, m, rfl, rfl, by simpa using g0, by simpa using g1, by simpa using g2, by simpa using g3, by simpa using g4, by simpa using g5, by simpa using g6⟩
theorem open_sts12 {H : Type} {enc : TypeId × Value → H} {W : World} {n : Nat} {v : Value} {x : DataW H × List MemPlace} (h : DataW.trod enc Try.prog W 0 (fun _ => true) true n 22 [v] = some x) : ∃ L, Qs12At W v L := by
  rcases open_slice Try.underlying22 h with ⟨hcs, hx⟩ | ⟨a, len, cap, m, n1, D, Pl, hcs, _, hl, hm, hmm, hx, hf⟩
  · simp at hcs
    subst hcs
    exact ⟨[], .inl ⟨⟨_, _, rfl⟩, rfl⟩⟩
  · simp at hcs
    subst hcs
    simp at hmm
    subst hmm
    have each : ∀ i, i < m → ∃ s : St12, ∃ va vp vq, W.cell? (a.add (i * 7)) = some (.int .i64 s.what) ∧ W.cell? (a.add (i * 7 + 1)) = some (.int .i64 s.app) ∧ W.cell? (a.add (i * 7 + 2)) = some (.int .i64 s.a) ∧ W.cell? (a.add (i * 7 + 3)) = some (.int .i64 s.b) ∧ W.cell? (a.add (i * 7 + 4)) = some va ∧
        W.cell? (a.add (i * 7 + 5)) = some vp ∧ W.cell? (a.add (i * 7 + 6)) = some vq ∧ I32 W va s.args ∧ Vw W vp s.p ∧ Vw W vq s.q ∧ wf4q s := by
      intro i hi
      obtain ⟨cs', hc, ht⟩ := hf i hi
      obtain ⟨c0, c1, c2, c3, c4, c5, c6, y0, y1, y2, y3, y4, y5, y6, m1, rfl, hD, t0, t1, t2, t3, t4, t5, t6⟩ := open_st12 ht
      obtain ⟨_, _, hat⟩ := World.cells?_some hc
      rw [cells_st12] at hat
      have a0 := hat 0 (by omega)
      have a1 := hat 1 (by omega)
      have a2 := hat 2 (by omega)
      have a3 := hat 3 (by omega)
      have a4 := hat 4 (by omega)
      have a5 := hat 5 (by omega)
      have a6 := hat 6 (by omega)
      rw [Go.Deep.add_add] at a0 a1 a2 a3 a4 a5 a6
      obtain ⟨n0, e0, rfl, w0⟩ := DataW.trod_int Try.underlying3 t0
      obtain ⟨n1, e1, rfl, w1⟩ := DataW.trod_int Try.underlying3 t1
      obtain ⟨n2, e2, rfl, w2⟩ := DataW.trod_int Try.underlying3 t2
      obtain ⟨n3, e3, rfl, w3⟩ := DataW.trod_int Try.underlying3 t3
      simp at e0 e1 e2 e3
      subst e0 e1 e2 e3
      obtain ⟨ts, ht4⟩ := open_i32s t4
      obtain ⟨zs, hv, hb⟩ := open_bytes t5
      obtain ⟨zs', hv', hb'⟩ := open_bytes t6
      exact ⟨⟨n0, n1, n2, n3, ts, zs, zs'⟩, c4, c5, c6, by simpa using a0, by simpa using a1, by simpa using a2, by simpa using a3, by simpa using a4, by simpa using a5, by simpa using a6, ht4, hv, hv', w0, w1, w2, w3⟩
    by_cases hlen0 : len = 0
    · subst hlen0
      exact ⟨[], .inl ⟨⟨_, _, rfl⟩, rfl⟩⟩
    · have hspot : a.spot = none := by
        obtain ⟨s, _, _, _, hc, _⟩ := each 0 (by omega)
        have := World.cell?_spot hc
        simpa [Addr.add] using this
      obtain ⟨g, off, spot⟩ := a
      simp at hspot
      subst hspot
      let f : Nat → St12 := fun i => if hi : i < m then Classical.choose (each i hi) else default
      have hf2 : ∀ i (hi : i < m), f i = Classical.choose (each i hi) := fun i hi => by simp only [f, dif_pos hi]
      have hget : ∀ i, i < len → ((List.range len).map f).getD i default = f i := fun i hi => by simp [List.getD, hi]
      refine ⟨(List.range len).map f, .inr ⟨g, off, m, by simp, by simp; omega, hm, fun i hi => ?_⟩⟩
      simp only [List.length_map, List.length_range] at hi
      have hc := Classical.choose_spec (each i (by omega))
      rw [← hf2 i (by omega)] at hc
      rw [hget i hi]
      obtain ⟨va, vp, vq, h0, h1, h2, h3, h4, h5, h6, h7⟩ := hc
      rw [addr_add] at h0 h1 h2 h3 h4 h5 h6
      rw [← Nat.add_assoc] at h1 h2 h3 h4 h5 h6
      exact ⟨va, vp, vq, h0, h1, h2, h3, h4, h5, h6, h7⟩
end Go.Proofs.Ytmfiamoeagnmmaa

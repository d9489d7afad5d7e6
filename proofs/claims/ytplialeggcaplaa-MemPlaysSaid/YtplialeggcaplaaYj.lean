/- How an argument of type []Step (stage 15) reads. -/
import Derived.Test.YtplialeggcaplaaYh
import Derived.Test.YtplialeggcaplaaRows
import Derived.ProofKit
import Derived.Deep.Slices
import Derived.Deep.Fields
import Derived.ChangeSame
import Derived.Carry
import Derived.OpenShut
namespace Go.Proofs.Ytplialeggcaplaa
section
open Go.RowKit Go.ChangeShapes Go.WideShapes Go.Deep
set_option linter.unusedVariables false
set_option linter.unusedSimpArgs false

theorem VwM.below {W w : World} {v : Value} {ys : List Nat} (h : VwM W v ys) (hb : Below W.heap.size W w) : VwM w v ys := by
  refine ⟨h.1, ?_⟩
  rcases h.2 with h | ⟨g, off, c, rfl, h1, h2, h3⟩
  · exact .inl h
  · refine .inr ⟨g, off, c, rfl, h1, h2, fun j hj => ?_⟩
    have hc := h3 j hj
    rw [hb.cell (p := ⟨g, off + j, none⟩) (World.block_lt_of_cell? W _ hc)]
    exact hc
theorem open_halvesM {H : Type} {enc : TypeId × Value → H} {W : World} {n : Nat} {v : Value} {x : DataW H × List MemPlace} (h : DataW.trod enc Try.prog W 0 (fun _ => true) true n 27 [v] = some x) :
    ∃ ys, VwM W v ys ∧ ((ys = []) ∨ ∃ el sp, x.1 = .slice el sp ∧ el.length = ys.length) := by
  rcases open_ints Try.underlying27 Try.underlying26 (by kernel_rfl) h with ⟨hcs, hx⟩ | ⟨a, len, cap, zs, hcs, _, hl, hm, hz, hx, hcell, hwz⟩
  · simp at hcs
    subst hcs
    exact ⟨[], ⟨by simp, .inl ⟨⟨_, rfl⟩, rfl⟩⟩, .inl rfl⟩
  · simp at hcs
    subst hcs
    simp at hz
    have hlen : ((zs.take len).map Int.toNat).length = len := by simp; omega
    by_cases h0 : len = 0
    · subst h0
      refine ⟨[], ⟨by simp, ?_⟩, .inl rfl⟩
      by_cases hc0 : cap = 0
      · subst hc0; exact .inl ⟨⟨_, rfl⟩, rfl⟩
      · obtain ⟨b, off, spot⟩ := a
        have hspot : spot = none := by
          have := World.cell?_spot (hcell 0 (by omega))
          simpa [Addr.add] using this
        subst hspot
        exact .inr ⟨b, off, cap, rfl, by simp, hm, fun j hj => by simp at hj⟩
    · obtain ⟨b, off, spot⟩ := a
      have hspot : spot = none := by
        have := World.cell?_spot (hcell 0 (by omega))
        simpa [Addr.add] using this
      subst hspot
      refine ⟨(zs.take len).map Int.toNat, ⟨fun y hy => ?_, ?_⟩, .inr ⟨_, _, by rw [hx], ?_⟩⟩
      · obtain ⟨z, hz', rfl⟩ := List.mem_map.1 hy
        have := bounds_u16 (hwz z (List.mem_of_mem_take hz'))
        omega
      · refine .inr ⟨b, off, cap, by rw [hlen], by omega, hm, fun j hj => ?_⟩
        rw [hlen] at hj
        have hc := hcell j (by omega)
        rw [addr_add] at hc
        rw [hc]
        have hj2 : j < zs.length := by omega
        have hb := bounds_u16 (hwz (zs[j]) (List.getElem_mem hj2))
        simp [List.getD, hj, hj2]
        omega
      · simp [lits]
structure St15 where
  what : Int
  a : Int
  near : Int
  n : Nat
  hs : List Nat
instance : Inhabited St15 := ⟨⟨0, 0, 0, 0, []⟩⟩
def wf15 (s : St15) : Prop := (Lit.int .i64 s.what).wf = true ∧ (Lit.int .i64 s.a).wf = true ∧ (Lit.int .i64 s.near).wf = true ∧ s.n < 4294967296
def St15At (w : World) (g off : Nat) (s : St15) : Prop :=
  ∃ vb, w.cell? ⟨g, off, none⟩ = some (.int .i64 s.what) ∧ w.cell? ⟨g, off + 1, none⟩ = some (.int .i64 s.a) ∧ w.cell? ⟨g, off + 2, none⟩ = some (.int .i64 s.near) ∧ w.cell? ⟨g, off + 3, none⟩ = some (.int .u32 ((s.n : Nat) : Int)) ∧
    w.cell? ⟨g, off + 4, none⟩ = some vb ∧ VwM w vb s.hs ∧ wf15 s
def Sts15At (w : World) (v : Value) (L : List St15) : Prop :=
  ((∃ a c, v = .slice a 0 c) ∧ L = []) ∨ ∃ g off c, v = .slice (some ⟨g, off, none⟩) L.length c ∧ L.length ≤ c ∧ c ≤ maxLen ∧ ∀ i, i < L.length → St15At w g (off + i * 5) (L.getD i default)
theorem St15At.below {W w : World} {g off : Nat} {s : St15} (h : St15At W g off s) (hb : Below W.heap.size W w) : St15At w g off s := by
  obtain ⟨vb, h0, h1, h2, h3, h4, h5, h6⟩ := h
  have hg : g < W.heap.size := World.block_lt_of_cell? W _ h0
  have k := fun q => hb.cell (p := ⟨g, q, none⟩) hg
  exact ⟨vb, (k _).trans h0, (k _).trans h1, (k _).trans h2, (k _).trans h3, (k _).trans h4, h5.below hb, h6⟩
theorem Sts15At.below {W w : World} {v : Value} {L : List St15} (h : Sts15At W v L) (hb : Below W.heap.size W w) : Sts15At w v L := by
  rcases h with h | ⟨g, off, c, h1, h2, h3, h4⟩
  · exact .inl h
  · exact .inr ⟨g, off, c, h1, h2, h3, fun i hi => (h4 i hi).below hb⟩
theorem Sts15At.slice {w : World} {v : Value} {L : List St15} (h : Sts15At w v L) : ∃ a c, v = .slice a L.length c := by
  rcases h with ⟨⟨a, c, rfl⟩, rfl⟩ | ⟨g, off, c, rfl, _⟩
  · exact ⟨_, _, rfl⟩
  · exact ⟨_, _, rfl⟩
theorem Sts15At.at {w : World} {a : Option Addr} {n c k : Nat} {L : List St15} (h : Sts15At w (.slice a n c) L) (hk : k < L.length) : ∃ g off, a = some ⟨g, off, none⟩ ∧ n = L.length ∧ g < w.heap.size ∧ St15At w g (off + k * 5) (L.getD k default) := by
  rcases h with ⟨⟨a, c, he⟩, rfl⟩ | ⟨g, off, c, he, _, _, h4⟩
  · simp at hk
  · simp at he
    obtain ⟨vb, h0, _⟩ := h4 k hk
    exact ⟨g, off, he.1, he.2.1, World.block_lt_of_cell? w _ h0, h4 k hk⟩
theorem cells_st15 : Try.prog.cellsOf 41 = 5 := by kernel_rfl
theorem cells_i64M : Try.prog.cellsOf 3 = 1 := by kernel_rfl
theorem cells_u32M : Try.prog.cellsOf 30 = 1 := by kernel_rfl
theorem cells_hvM : Try.prog.cellsOf 27 = 1 := by kernel_rfl
theorem open_st15 {H : Type} {enc : TypeId × Value → H} {W : World} {n : Nat} {cs : List Value} {x : DataW H × List MemPlace} (h : DataW.trod enc Try.prog W 0 (fun _ => true) true n 41 cs = some x) :
    ∃ c0 c1 c2 c3 c4 y0 y1 y2 y3 y4 m, cs = [c0, c1, c2, c3, c4] ∧ x.1 = .agg [y0.1, y1.1, y2.1, y3.1, y4.1] ∧ DataW.trod enc Try.prog W 0 (fun _ => true) true m 3 [c0] = some y0 ∧ DataW.trod enc Try.prog W 0 (fun _ => true) true m 3 [c1] = some y1 ∧
      DataW.trod enc Try.prog W 0 (fun _ => true) true m 3 [c2] = some y2 ∧ DataW.trod enc Try.prog W 0 (fun _ => true) true m 30 [c3] = some y3 ∧ DataW.trod enc Try.prog W 0 (fun _ => true) true m 27 [c4] = some y4 := by
  obtain ⟨ys, m, _, rfl, hl, hlen, hg⟩ := DataW.trod_struct Try.underlying41 h
  rw [cells_st15] at hl
  match cs, hl, ys, hlen with
  | [c0, c1, c2, c3, c4], _, [y0, y1, y2, y3, y4], _ =>
    have g0 : DataW.trod enc Try.prog W 0 (fun _ => true) true m 3 (([c0, c1, c2, c3, c4].drop 0).take (Try.prog.cellsOf 3)) = some y0 := hg 0 _ rfl
    have g1 : DataW.trod enc Try.prog W 0 (fun _ => true) true m 3 (([c0, c1, c2, c3, c4].drop 1).take (Try.prog.cellsOf 3)) = some y1 := hg 1 _ rfl
    have g2 : DataW.trod enc Try.prog W 0 (fun _ => true) true m 3 (([c0, c1, c2, c3, c4].drop 2).take (Try.prog.cellsOf 3)) = some y2 := hg 2 _ rfl
    have g3 : DataW.trod enc Try.prog W 0 (fun _ => true) true m 30 (([c0, c1, c2, c3, c4].drop 3).take (Try.prog.cellsOf 30)) = some y3 := hg 3 _ rfl
    have g4 : DataW.trod enc Try.prog W 0 (fun _ => true) true m 27 (([c0, c1, c2, c3, c4].drop 4).take (Try.prog.cellsOf 27)) = some y4 := hg 4 _ rfl
    rw [cells_i64M] at g0 g1 g2
    rw [cells_u32M] at g3
    rw [cells_hvM] at g4
    exact ⟨c0, c1, c2, c3, c4, y0, y1, y2, y3, y4, m, rfl, rfl, by simpa using g0, by simpa using g1, by simpa using g2, by simpa using g3, by simpa using g4⟩
theorem bounds_u32M {n : Int} (h : (Lit.int .u32 n).wf = true) : 0 ≤ n ∧ n < 4294967296 := by
  have := bounds_u32 h
  omega
theorem open_sts15 {H : Type} {enc : TypeId × Value → H} {W : World} {n : Nat} {v : Value} {x : DataW H × List MemPlace} (h : DataW.trod enc Try.prog W 0 (fun _ => true) true n 37 [v] = some x) : ∃ L, Sts15At W v L := by
  rcases open_slice Try.underlying37 h with ⟨hcs, hx⟩ | ⟨a, len, cap, m, n1, D, Pl, hcs, _, hl, hm, hmm, hx, hf⟩
  · simp at hcs
    subst hcs
    exact ⟨[], .inl ⟨⟨_, _, rfl⟩, rfl⟩⟩
  · simp at hcs
    subst hcs
    simp at hmm
    subst hmm
    have each : ∀ i, i < m → ∃ s : St15, ∃ vb, W.cell? (a.add (i * 5)) = some (.int .i64 s.what) ∧ W.cell? (a.add (i * 5 + 1)) = some (.int .i64 s.a) ∧ W.cell? (a.add (i * 5 + 2)) = some (.int .i64 s.near) ∧ W.cell? (a.add (i * 5 + 3)) = some (.int .u32 ((s.n : Nat) : Int)) ∧
        W.cell? (a.add (i * 5 + 4)) = some vb ∧ VwM W vb s.hs ∧ wf15 s := by
      intro i hi
      obtain ⟨cs', hc, ht⟩ := hf i hi
      obtain ⟨c0, c1, c2, c3, c4, y0, y1, y2, y3, y4, m1, rfl, hD, t0, t1, t2, t3, t4⟩ := open_st15 ht
      obtain ⟨_, _, hat⟩ := World.cells?_some hc
      rw [cells_st15] at hat
      have a0 := hat 0 (by omega)
      have a1 := hat 1 (by omega)
      have a2 := hat 2 (by omega)
      have a3 := hat 3 (by omega)
      have a4 := hat 4 (by omega)
      rw [Go.Deep.add_add] at a0 a1 a2 a3 a4
      obtain ⟨n0, e0, rfl, w0⟩ := DataW.trod_int Try.underlying3 t0
      obtain ⟨n1, e1, rfl, w1⟩ := DataW.trod_int Try.underlying3 t1
      obtain ⟨n2, e2, rfl, w2⟩ := DataW.trod_int Try.underlying3 t2
      obtain ⟨n3, e3, rfl, w3⟩ := DataW.trod_int Try.underlying30 t3
      simp at e0 e1 e2 e3
      subst e0 e1 e2 e3
      obtain ⟨zs, hv, hb⟩ := open_halvesM t4
      have hb3 := bounds_u32M w3
      obtain ⟨n3, rfl⟩ := Int.eq_ofNat_of_zero_le hb3.1
      exact ⟨⟨n0, n1, n2, n3, zs⟩, c4, by simpa using a0, by simpa using a1, by simpa using a2, by simpa using a3, by simpa using a4, hv, w0, w1, w2, by show n3 < _; omega⟩
    by_cases hlen0 : len = 0
    · subst hlen0
      exact ⟨[], .inl ⟨⟨_, _, rfl⟩, rfl⟩⟩
    · have hspot : a.spot = none := by
        obtain ⟨s, vb, hc, _⟩ := each 0 (by omega)
        have := World.cell?_spot hc
        simpa [Addr.add] using this
      obtain ⟨g, off, spot⟩ := a
      simp at hspot
      subst hspot
      let f : Nat → St15 := fun i => if hi : i < m then Classical.choose (each i hi) else default
      have hf2 : ∀ i (hi : i < m), f i = Classical.choose (each i hi) := fun i hi => by simp only [f, dif_pos hi]
      have hget : ∀ i, i < len → ((List.range len).map f).getD i default = f i := fun i hi => by simp [List.getD, hi]
      refine ⟨(List.range len).map f, .inr ⟨g, off, m, by simp, by simp; omega, hm, fun i hi => ?_⟩⟩
      simp only [List.length_map, List.length_range] at hi
      have hc := Classical.choose_spec (each i (by omega))
      rw [← hf2 i (by omega)] at hc
      rw [hget i hi]
      obtain ⟨vb, h0, h1, h2, h3, h4, h5, h6⟩ := hc
      rw [addr_add] at h0 h1 h2 h3 h4
      rw [← Nat.add_assoc] at h1 h2 h3 h4
      exact ⟨vb, h0, h1, h2, h3, h4, h5, h6⟩
end
end Go.Proofs.Ytplialeggcaplaa

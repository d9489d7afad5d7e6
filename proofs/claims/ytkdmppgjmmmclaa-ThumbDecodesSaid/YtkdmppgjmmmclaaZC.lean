/- How arguments of these types read: []uint16, the laws' own Raw, Ins, []Raw. -/
import Derived.Test.YtkdmppgjmmmclaaZh
import Derived.Test.YtkdmppgjmmmclaaRows
import Derived.ProofKit
import Derived.Deep.Slices
import Derived.Deep.Fields
import Derived.ChangeSame
import Derived.Carry
import Derived.OpenShut
namespace Go.Proofs.Ytkdmppgjmmmclaa
section
open Go.RowKit Go.ChangeShapes Go.WideShapes Go.Deep
set_option linter.unusedVariables false
set_option linter.unusedSimpArgs false

theorem cells_intZ : Try.prog.cellsOf 3 = 1 := by kernel_rfl
theorem open_halves {H : Type} {enc : TypeId × Value → H} {W : World} {n : Nat} {v : Value} {x : DataW H × List MemPlace} (h : DataW.trod enc Try.prog W 0 (fun _ => true) true n 28 [v] = some x) :
    ∃ ys, VwH W v ys ∧ ((ys = []) ∨ ∃ el sp, x.1 = .slice el sp ∧ el.length = ys.length) := by
  rcases open_ints Try.underlying28 Try.underlying27 (by kernel_rfl) h with ⟨hcs, hx⟩ | ⟨a, len, cap, zs, hcs, _, hl, hm, hz, hx, hcell, hwz⟩
  · simp at hcs
    subst hcs
    exact ⟨[], VwH.nil _ _, .inl rfl⟩
  · simp at hcs
    subst hcs
    simp at hz
    have hlen : ((zs.take len).map Int.toNat).length = len := by simp; omega
    by_cases h0 : len = 0
    · subst h0
      refine ⟨[], ⟨by simp, ?_⟩, .inl rfl⟩
      by_cases hc0 : cap = 0
      · subst hc0; exact .inl ⟨⟨_, rfl⟩, rfl⟩
      · obtain ⟨b, off, spot⟩ := a
        have hspot : spot = none := by
          have := World.cell?_spot (hcell 0 (by omega))
          simpa [Addr.add] using this
        subst hspot
        exact .inr ⟨b, off, cap, rfl, by simp, hm, fun j hj => by simp at hj⟩
    · obtain ⟨b, off, spot⟩ := a
      have hspot : spot = none := by
        have := World.cell?_spot (hcell 0 (by omega))
        simpa [Addr.add] using this
      subst hspot
      refine ⟨(zs.take len).map Int.toNat, ⟨fun y hy => ?_, ?_⟩, .inr ⟨_, _, by rw [hx], ?_⟩⟩
      · obtain ⟨z, hz', rfl⟩ := List.mem_map.1 hy
        have := bounds_u16 (hwz z (List.mem_of_mem_take hz'))
        omega
      · refine .inr ⟨b, off, cap, by rw [hlen], by omega, hm, fun j hj => ?_⟩
        rw [hlen] at hj
        have hc := hcell j (by omega)
        rw [addr_add] at hc
        rw [hc]
        have hj2 : j < zs.length := by omega
        have hb := bounds_u16 (hwz (zs[j]) (List.getElem_mem hj2))
        simp [List.getD, hj, hj2]
        omega
      · simp [lits]
theorem cells_raw6 : Try.prog.cellsOf 33 = 6 := by kernel_rfl
theorem trod_raw6 {H : Type} {enc : TypeId × Value → H} {W : World} {n : Nat} {cs : List Value} {x : DataW H × List MemPlace} (h : DataW.trod enc Try.prog W 0 (fun _ => true) true n 33 cs = some x) :
    ∃ i : I6, i.Ok ∧ cs = [.int .i64 i.op, .int .i64 i.d, .int .i64 i.n, .int .i64 i.m, .int .i64 i.imm, .int .i64 i.cond] := by
  obtain ⟨ys, m, _, rfl, hl, hlen, hg⟩ := DataW.trod_struct Try.underlying33 h
  rw [cells_raw6] at hl
  match cs, hl, ys, hlen with
  | [c0, c1, c2, c3, c4, c5], _, [y0, y1, y2, y3, y4, y5], _ =>
    have g0 : DataW.trod enc Try.prog W 0 (fun _ => true) true m 3 (([c0, c1, c2, c3, c4, c5].drop 0).take (Try.prog.cellsOf 3)) = some y0 := hg 0 _ rfl
    have g1 : DataW.trod enc Try.prog W 0 (fun _ => true) true m 3 (([c0, c1, c2, c3, c4, c5].drop 1).take (Try.prog.cellsOf 3)) = some y1 := hg 1 _ rfl
    have g2 : DataW.trod enc Try.prog W 0 (fun _ => true) true m 3 (([c0, c1, c2, c3, c4, c5].drop 2).take (Try.prog.cellsOf 3)) = some y2 := hg 2 _ rfl
    have g3 : DataW.trod enc Try.prog W 0 (fun _ => true) true m 3 (([c0, c1, c2, c3, c4, c5].drop 3).take (Try.prog.cellsOf 3)) = some y3 := hg 3 _ rfl
    have g4 : DataW.trod enc Try.prog W 0 (fun _ => true) true m 3 (([c0, c1, c2, c3, c4, c5].drop 4).take (Try.prog.cellsOf 3)) = some y4 := hg 4 _ rfl
    have g5 : DataW.trod enc Try.prog W 0 (fun _ => true) true m 3 (([c0, c1, c2, c3, c4, c5].drop 5).take (Try.prog.cellsOf 3)) = some y5 := hg 5 _ rfl
    rw [cells_intZ] at g0 g1 g2 g3 g4 g5
    obtain ⟨n0, e0, -, w0⟩ := DataW.trod_int Try.underlying3 (by simpa using g0 : DataW.trod enc Try.prog W 0 (fun _ => true) true m 3 [c0] = some y0)
    obtain ⟨n1, e1, -, w1⟩ := DataW.trod_int Try.underlying3 (by simpa using g1 : DataW.trod enc Try.prog W 0 (fun _ => true) true m 3 [c1] = some y1)
    obtain ⟨n2, e2, -, w2⟩ := DataW.trod_int Try.underlying3 (by simpa using g2 : DataW.trod enc Try.prog W 0 (fun _ => true) true m 3 [c2] = some y2)
    obtain ⟨n3, e3, -, w3⟩ := DataW.trod_int Try.underlying3 (by simpa using g3 : DataW.trod enc Try.prog W 0 (fun _ => true) true m 3 [c3] = some y3)
    obtain ⟨n4, e4, -, w4⟩ := DataW.trod_int Try.underlying3 (by simpa using g4 : DataW.trod enc Try.prog W 0 (fun _ => true) true m 3 [c4] = some y4)
    obtain ⟨n5, e5, -, w5⟩ := DataW.trod_int Try.underlying3 (by simpa using g5 : DataW.trod enc Try.prog W 0 (fun _ => true) true m 3 [c5] = some y5)
    simp at e0 e1 e2 e3 e4 e5
    subst e0 e1 e2 e3 e4 e5
    exact ⟨⟨n0, n1, n2, n3, n4, n5⟩, ⟨bounds_i64 w0, bounds_i64 w1, bounds_i64 w2, bounds_i64 w3, bounds_i64 w4, bounds_i64 w5⟩, rfl⟩
theorem open_raw6 {H : Type} {enc : TypeId × Value → H} {W : World} {r : Reach} {b0 : Nat} {v : Value} {d : DataW H} {p : List MemPlace} (hv : Value.okWide Try.prog W r b0 33 v) (h : DataW.Trod enc Try.prog W 0 (fun _ => true) true 33 v d p) :
    ∃ i : I6, i.Ok ∧ v = i.val := by
  obtain ⟨cs, rfl, hsz⟩ := okWide_struct Try.underlying33 hv
  obtain ⟨l⟩ := cs
  obtain ⟨fuel, hf⟩ := h
  obtain ⟨i, hi, e⟩ := trod_raw6 hf
  refine ⟨i, hi, ?_⟩
  have e2 : l = [.int .i64 i.op, .int .i64 i.d, .int .i64 i.n, .int .i64 i.m, .int .i64 i.imm, .int .i64 i.cond] := by simpa [Value.cells] using e
  rw [e2]
theorem cells_ins6 : Try.prog.cellsOf 23 = 6 := by kernel_rfl
theorem trod_ins6 {H : Type} {enc : TypeId × Value → H} {W : World} {n : Nat} {cs : List Value} {x : DataW H × List MemPlace} (h : DataW.trod enc Try.prog W 0 (fun _ => true) true n 23 cs = some x) :
    ∃ i : I6, i.Ok ∧ cs = [.int .i64 i.op, .int .i64 i.d, .int .i64 i.n, .int .i64 i.m, .int .i64 i.imm, .int .i64 i.cond] := by
  obtain ⟨ys, m, _, rfl, hl, hlen, hg⟩ := DataW.trod_struct Try.underlying23 h
  rw [cells_ins6] at hl
  match cs, hl, ys, hlen with
  | [c0, c1, c2, c3, c4, c5], _, [y0, y1, y2, y3, y4, y5], _ =>
    have g0 : DataW.trod enc Try.prog W 0 (fun _ => true) true m 3 (([c0, c1, c2, c3, c4, c5].drop 0).take (Try.prog.cellsOf 3)) = some y0 := hg 0 _ rfl
    have g1 : DataW.trod enc Try.prog W 0 (fun _ => true) true m 3 (([c0, c1, c2, c3, c4, c5].drop 1).take (Try.prog.cellsOf 3)) = some y1 := hg 1 _ rfl
    have g2 : DataW.trod enc Try.prog W 0 (fun _ => true) true m 3 (([c0, c1, c2, c3, c4, c5].drop 2).take (Try.prog.cellsOf 3)) = some y2 := hg 2 _ rfl
    have g3 : DataW.trod enc Try.prog W 0 (fun _ => true) true m 3 (([c0, c1, c2, c3, c4, c5].drop 3).take (Try.prog.cellsOf 3)) = some y3 := hg 3 _ rfl
    have g4 : DataW.trod enc Try.prog W 0 (fun _ => true) true m 3 (([c0, c1, c2, c3, c4, c5].drop 4).take (Try.prog.cellsOf 3)) = some y4 := hg 4 _ rfl
    have g5 : DataW.trod enc Try.prog W 0 (fun _ => true) true m 3 (([c0, c1, c2, c3, c4, c5].drop 5).take (Try.prog.cellsOf 3)) = some y5 := hg 5 _ rfl
    rw [cells_intZ] at g0 g1 g2 g3 g4 g5
    obtain ⟨n0, e0, -, w0⟩ := DataW.trod_int Try.underlying3 (by simpa using g0 : DataW.trod enc Try.prog W 0 (fun _ => true) true m 3 [c0] = some y0)
    obtain ⟨n1, e1, -, w1⟩ := DataW.trod_int Try.underlying3 (by simpa using g1 : DataW.trod enc Try.prog W 0 (fun _ => true) true m 3 [c1] = some y1)
    obtain ⟨n2, e2, -, w2⟩ := DataW.trod_int Try.underlying3 (by simpa using g2 : DataW.trod enc Try.prog W 0 (fun _ => true) true m 3 [c2] = some y2)
    obtain ⟨n3, e3, -, w3⟩ := DataW.trod_int Try.underlying3 (by simpa using g3 : DataW.trod enc Try.prog W 0 (fun _ => true) true m 3 [c3] = some y3)
    obtain ⟨n4, e4, -, w4⟩ := DataW.trod_int Try.underlying3 (by simpa using g4 : DataW.trod enc Try.prog W 0 (fun _ => true) true m 3 [c4] = some y4)
    obtain ⟨n5, e5, -, w5⟩ := DataW.trod_int Try.underlying3 (by simpa using g5 : DataW.trod enc Try.prog W 0 (fun _ => true) true m 3 [c5] = some y5)
    simp at e0 e1 e2 e3 e4 e5
    subst e0 e1 e2 e3 e4 e5
    exact ⟨⟨n0, n1, n2, n3, n4, n5⟩, ⟨bounds_i64 w0, bounds_i64 w1, bounds_i64 w2, bounds_i64 w3, bounds_i64 w4, bounds_i64 w5⟩, rfl⟩
theorem open_ins6 {H : Type} {enc : TypeId × Value → H} {W : World} {r : Reach} {b0 : Nat} {v : Value} {d : DataW H} {p : List MemPlace} (hv : Value.okWide Try.prog W r b0 23 v) (h : DataW.Trod enc Try.prog W 0 (fun _ => true) true 23 v d p) :
    ∃ i : I6, i.Ok ∧ v = i.val := by
  obtain ⟨cs, rfl, hsz⟩ := okWide_struct Try.underlying23 hv
  obtain ⟨l⟩ := cs
  obtain ⟨fuel, hf⟩ := h
  obtain ⟨i, hi, e⟩ := trod_ins6 hf
  refine ⟨i, hi, ?_⟩
  have e2 : l = [.int .i64 i.op, .int .i64 i.d, .int .i64 i.n, .int .i64 i.m, .int .i64 i.imm, .int .i64 i.cond] := by simpa [Value.cells] using e
  rw [e2]
/-- a list of the laws' own Raw in memory -/
def RawsH (w : World) (v : Value) (L : List I6) : Prop :=
  (∀ i ∈ L, i.Ok) ∧ (((∃ a c, v = .slice a 0 c) ∧ L = []) ∨
  ∃ g off c, v = .slice (some ⟨g, off, none⟩) L.length c ∧ L.length ≤ c ∧ c ≤ maxLen ∧ ∀ j, j < L.length → w.cell? ⟨g, off + j * 6, none⟩ = some (.int .i64 (L.getD j I6.zero).op) ∧ w.cell? ⟨g, off + j * 6 + 1, none⟩ = some (.int .i64 (L.getD j I6.zero).d) ∧ w.cell? ⟨g, off + j * 6 + 2, none⟩ = some (.int .i64 (L.getD j I6.zero).n) ∧ w.cell? ⟨g, off + j * 6 + 3, none⟩ = some (.int .i64 (L.getD j I6.zero).m) ∧ w.cell? ⟨g, off + j * 6 + 4, none⟩ = some (.int .i64 (L.getD j I6.zero).imm) ∧ w.cell? ⟨g, off + j * 6 + 5, none⟩ = some (.int .i64 (L.getD j I6.zero).cond))
set_option maxRecDepth 100000 in
theorem open_raws6 {H : Type} {enc : TypeId × Value → H} {W : World} {n : Nat} {v : Value} {x : DataW H × List MemPlace} (h : DataW.trod enc Try.prog W 0 (fun _ => true) true n 43 [v] = some x) :
    ∃ L, RawsH W v L := by
  rcases open_slice Try.underlying43 h with ⟨hcs, hx⟩ | ⟨a, len, cap, m, n1, D, Pl, hcs, _, hl, hm, hmm, hx, hf⟩
  · simp at hcs
    subst hcs
    exact ⟨[], by simp, .inl ⟨⟨_, _, rfl⟩, rfl⟩⟩
  · simp at hcs
    subst hcs
    simp at hmm
    subst hmm
    have each : ∀ i, i < m → ∃ s : I6, s.Ok ∧ W.cell? (a.add (i * 6)) = some (.int .i64 s.op) ∧ W.cell? (a.add (i * 6 + 1)) = some (.int .i64 s.d) ∧ W.cell? (a.add (i * 6 + 2)) = some (.int .i64 s.n) ∧ W.cell? (a.add (i * 6 + 3)) = some (.int .i64 s.m) ∧ W.cell? (a.add (i * 6 + 4)) = some (.int .i64 s.imm) ∧ W.cell? (a.add (i * 6 + 5)) = some (.int .i64 s.cond) := by
      intro i hi
      obtain ⟨cs', hc, ht⟩ := hf i hi
      obtain ⟨s, hs, rfl⟩ := trod_raw6 ht
      obtain ⟨_, _, hat⟩ := World.cells?_some hc
      rw [cells_raw6] at hat
      have a0 := hat 0 (by omega)
      have a1 := hat 1 (by omega)
      have a2 := hat 2 (by omega)
      have a3 := hat 3 (by omega)
      have a4 := hat 4 (by omega)
      have a5 := hat 5 (by omega)
      rw [Go.Deep.add_add] at a0 a1 a2 a3 a4 a5
      exact ⟨s, hs, by simpa using a0, by simpa using a1, by simpa using a2, by simpa using a3, by simpa using a4, by simpa using a5⟩
    by_cases hlen0 : len = 0
    · subst hlen0
      exact ⟨[], by simp, .inl ⟨⟨_, _, rfl⟩, rfl⟩⟩
    · have hspot : a.spot = none := by
        obtain ⟨s, _, hc, _⟩ := each 0 (by omega)
        have := World.cell?_spot hc
        simpa [Addr.add] using this
      obtain ⟨g, off, spot⟩ := a
      simp at hspot
      subst hspot
      let f : Nat → I6 := fun i => if hi : i < m then Classical.choose (each i hi) else I6.zero
      have hf2 : ∀ i (hi : i < m), f i = Classical.choose (each i hi) := fun i hi => by simp only [f, dif_pos hi]
      have hget : ∀ i, i < len → ((List.range len).map f).getD i I6.zero = f i := fun i hi => by simp [List.getD, hi]
      refine ⟨(List.range len).map f, fun i hi => ?_, .inr ⟨g, off, m, by simp, by simp; omega, hm, fun i hi => ?_⟩⟩
      · obtain ⟨k, hk, rfl⟩ := List.mem_map.1 hi
        have hk' := List.mem_range.1 hk
        have hc := (Classical.choose_spec (each k (by omega))).1
        rw [← hf2 k (by omega)] at hc
        exact hc
      · simp only [List.length_map, List.length_range] at hi
        have hc := Classical.choose_spec (each i (by omega))
        rw [← hf2 i (by omega)] at hc
        rw [hget i hi]
        obtain ⟨_, h0, h1, h2, h3, h4, h5⟩ := hc
        rw [addr_add] at h0 h1 h2 h3 h4 h5
        rw [← Nat.add_assoc] at h1 h2 h3 h4 h5
        exact ⟨h0, h1, h2, h3, h4, h5⟩
end
end Go.Proofs.Ytkdmppgjmmmclaa

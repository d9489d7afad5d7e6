/- How an argument of type Raw, and one of type []Raw, reads: four numbers each. How an argument of type []Raw reads. -/
import Derived.Test.YtmikibcgphkcfaaGreatDoorBytes
import Derived.ProofKit
import Derived.Deep.Slices
import Derived.Deep.Fields
import Derived.ChangeSame
import Derived.Carry
import Derived.Lib.SmallJoins
namespace Go.Proofs.YtmikibcgphkcfaaGreatDoor
section
open Go.RowKit Go.ChangeShapes Go.WideShapes Go.Deep Go.Joins
set_option linter.unusedVariables false

abbrev raw4 (o a b c : Int) : Value := .agg #[.int .i64 o, .int .i64 a, .int .i64 b, .int .i64 c]
def wf64 (n : Int) : Prop := (Lit.int .i64 n).wf = true

set_option maxRecDepth 100000 in
theorem cells_raw : Tryz.prog.cellsOf 64 = 4 := by kernel_rfl
theorem one_raw : Tryz.prog.cellsOf 3 = 1 := by kernel_rfl

section
variable {H : Type} {enc : TypeId × Value → H} {W : World}
set_option maxRecDepth 100000 in
theorem lit_of {n : Nat} {v : Value} {y : DataW H × List MemPlace} {bs : Nat} {sp : Nat → Bool} {hd : Bool} (h : DataW.trod enc Tryz.prog W bs sp hd n 3 [v] = some y) : ∃ k, v = .int .i64 k ∧ y = (.lit (.int .i64 k), []) ∧ wf64 k := by
  obtain ⟨k, e, rfl, w⟩ := DataW.trod_int Tryz.underlying3 h
  simp at e
  exact ⟨k, e, rfl, w⟩
set_option maxRecDepth 100000 in
theorem open_raw {r : Reach} {b0 bs : Nat} {sp : Nat → Bool} {hd : Bool} {v : Value} {d : DataW H} {p : List MemPlace} (hv : Value.okWide Tryz.prog W r b0 64 v) (h : DataW.Trod enc Tryz.prog W bs sp hd 64 v d p) :
    ∃ o a b c, v = raw4 o a b c ∧ d = .agg [.lit (.int .i64 o), .lit (.int .i64 a), .lit (.int .i64 b), .lit (.int .i64 c)] ∧ p = [] ∧ wf64 o ∧ wf64 a ∧ wf64 b ∧ wf64 c := by
  obtain ⟨v0, v1, v2, v3, y0, y1, y2, y3, n, rfl, rfl, rfl, t0, t1, t2, t3⟩ := open_agg4 Tryz.underlying64 (by kernel_rfl) cells_raw hv h
  obtain ⟨o, rfl, rfl, wo⟩ := lit_of t0
  obtain ⟨a, rfl, rfl, wa⟩ := lit_of t1
  obtain ⟨b, rfl, rfl, wb⟩ := lit_of t2
  obtain ⟨c, rfl, rfl, wc⟩ := lit_of t3
  exact ⟨o, a, b, c, rfl, rfl, rfl, wo, wa, wb, wc⟩
theorem lit_mk {k : Int} {bs : Nat} {sp : Nat → Bool} {hd : Bool} (hw : wf64 k) : ∃ n, DataW.trod enc Tryz.prog W bs sp hd n 3 [.int .i64 k] = some (.lit (.int .i64 k), []) := by
  obtain ⟨n, h⟩ := shut_int (enc := enc) (P := Tryz.prog) (w := W) (base := bs) (spare := sp) (held := hd) Tryz.underlying3 hw
  exact ⟨n, by simpa [Value.cells] using h⟩
set_option maxRecDepth 100000 in
theorem shut_raw {o a b c : Int} {bs : Nat} {sp : Nat → Bool} {hd : Bool} (wo : wf64 o) (wa : wf64 a) (wb : wf64 b) (wc : wf64 c) : DataW.Trod enc Tryz.prog W bs sp hd 64 (raw4 o a b c) (.agg [.lit (.int .i64 o), .lit (.int .i64 a), .lit (.int .i64 b), .lit (.int .i64 c)]) [] :=
  shut_agg4 Tryz.underlying64 (by kernel_rfl) cells_raw (lit_mk wo) (lit_mk wa) (lit_mk wb) (lit_mk wc)
end
end

section
open Go.RowKit Go.ChangeShapes Go.WideShapes Go.Deep Go.Joins
set_option linter.unusedVariables false

/-- four numbers -/
structure RawR where
  o : Int
  a : Int
  b : Int
  c : Int
instance : Inhabited RawR := ⟨⟨0, 0, 0, 0⟩⟩
def RawAt (w : World) (g off : Nat) (s : RawR) : Prop :=
  w.cell? ⟨g, off, none⟩ = some (.int .i64 s.o) ∧ w.cell? ⟨g, off + 1, none⟩ = some (.int .i64 s.a) ∧ w.cell? ⟨g, off + 2, none⟩ = some (.int .i64 s.b) ∧ w.cell? ⟨g, off + 3, none⟩ = some (.int .i64 s.c) ∧ wf64 s.o ∧ wf64 s.a ∧ wf64 s.b ∧ wf64 s.c
def RawsAt (w : World) (v : Value) (L : List RawR) : Prop :=
  ((∃ a c, v = .slice a 0 c) ∧ L = []) ∨ ∃ g off c, v = .slice (some ⟨g, off, none⟩) L.length c ∧ L.length ≤ c ∧ c ≤ maxLen ∧ ∀ i, i < L.length → RawAt w g (off + i * 4) (L.getD i default)
theorem RawAt.below {W w : World} {g off : Nat} {s : RawR} (h : RawAt W g off s) (hb : Below W.heap.size W w) : RawAt w g off s := by
  obtain ⟨h1, h2, h3, h4, h5⟩ := h
  have hg : g < W.heap.size := World.block_lt_of_cell? W _ h1
  exact ⟨by rw [hb.cell (p := ⟨g, off, none⟩) hg]; exact h1, by rw [hb.cell (p := ⟨g, off + 1, none⟩) hg]; exact h2, by rw [hb.cell (p := ⟨g, off + 2, none⟩) hg]; exact h3, by rw [hb.cell (p := ⟨g, off + 3, none⟩) hg]; exact h4, h5⟩
theorem RawsAt.slice {w : World} {v : Value} {L : List RawR} (h : RawsAt w v L) : ∃ a c, v = .slice a L.length c := by
  rcases h with ⟨⟨a, c, rfl⟩, rfl⟩ | ⟨g, off, c, rfl, _⟩
  · exact ⟨_, _, rfl⟩
  · exact ⟨_, _, rfl⟩
/-- number k of them, as the walk reads it, in a later world -/
theorem raws_at {W w : World} {a : Option Addr} {n c : Nat} {L : List RawR} (h : RawsAt W (.slice a n c) L) (hb : Below W.heap.size W w) {k : Nat} (hk : k < L.length) :
    ∃ g off, a = some ⟨g, off, none⟩ ∧ n = L.length ∧ L.length ≤ c ∧ c ≤ maxLen ∧ g < W.heap.size ∧ RawAt w g (off + k * 4) (L.getD k default) := by
  rcases h with ⟨_, rfl⟩ | ⟨g, off, c', he, h1, h2, h3⟩
  · simp at hk
  · simp at he
    obtain ⟨rfl, rfl, rfl⟩ := he
    exact ⟨g, off, rfl, rfl, h1, h2, World.block_lt_of_cell? W _ (h3 k hk).1, (h3 k hk).below hb⟩

set_option maxRecDepth 100000 in
theorem open_raws {H : Type} {enc : TypeId × Value → H} {W : World} {n : Nat} {v : Value} {x : DataW H × List MemPlace} (h : DataW.trod enc Tryz.prog W 0 (fun _ => true) true n 22 [v] = some x) :
    ∃ L, RawsAt W v L ∧ True := by
  rcases open_slice Tryz.underlying22 h with ⟨hcs, hx⟩ | ⟨a, len, cap, m, n1, D, Pl, hcs, _, hl, hm, hmm, hx, hf⟩
  · simp at hcs
    subst hcs
    exact ⟨[], .inl ⟨⟨_, _, rfl⟩, rfl⟩, trivial⟩
  · simp at hcs
    subst hcs
    simp at hmm
    subst hmm
    have each : ∀ i, i < m → ∃ s : RawR, (W.cell? (a.add (i * 4)) = some (.int .i64 s.o) ∧ W.cell? (a.add (i * 4 + 1)) = some (.int .i64 s.a) ∧ W.cell? (a.add (i * 4 + 2)) = some (.int .i64 s.b) ∧ W.cell? (a.add (i * 4 + 3)) = some (.int .i64 s.c) ∧ wf64 s.o ∧ wf64 s.a ∧ wf64 s.b ∧ wf64 s.c) := by
      intro i hi
      obtain ⟨cs', hc, ht⟩ := hf i hi
      obtain ⟨y0, y1, y2, y3, m1, hD, hcl, t0, t1, t2, t3⟩ := trod_struct4 Tryz.underlying64 ht
      rw [cells_raw] at hcl
      match cs', hcl with
      | [c0, c1, c2, c3], _ =>
        have t0' : DataW.trod enc Tryz.prog W 0 (fun _ => true) true m1 3 (([c0, c1, c2, c3].drop 0).take (Tryz.prog.cellsOf 3)) = some y0 := t0
        have t1' : DataW.trod enc Tryz.prog W 0 (fun _ => true) true m1 3 (([c0, c1, c2, c3].drop 1).take (Tryz.prog.cellsOf 3)) = some y1 := t1
        have t2' : DataW.trod enc Tryz.prog W 0 (fun _ => true) true m1 3 (([c0, c1, c2, c3].drop 2).take (Tryz.prog.cellsOf 3)) = some y2 := t2
        have t3' : DataW.trod enc Tryz.prog W 0 (fun _ => true) true m1 3 (([c0, c1, c2, c3].drop 3).take (Tryz.prog.cellsOf 3)) = some y3 := t3
        rw [one_raw] at t0' t1' t2' t3'
        obtain ⟨_, _, hat⟩ := World.cells?_some hc
        rw [cells_raw] at hat
        have a0 := hat 0 (by omega)
        have a1 := hat 1 (by omega)
        have a2 := hat 2 (by omega)
        have a3 := hat 3 (by omega)
        rw [Go.Deep.add_add] at a0 a1 a2 a3
        obtain ⟨o, rfl, _, wo⟩ := lit_of (v := c0) (by simpa using t0')
        obtain ⟨b, rfl, _, wb⟩ := lit_of (v := c1) (by simpa using t1')
        obtain ⟨c, rfl, _, wc⟩ := lit_of (v := c2) (by simpa using t2')
        obtain ⟨d, rfl, _, wd⟩ := lit_of (v := c3) (by simpa using t3')
        exact ⟨⟨o, b, c, d⟩, by simpa using a0, by simpa using a1, by simpa using a2, by simpa using a3, wo, wb, wc, wd⟩
    by_cases hlen0 : len = 0
    · subst hlen0
      exact ⟨[], .inl ⟨⟨_, _, rfl⟩, rfl⟩, trivial⟩
    · have hspot : a.spot = none := by
        obtain ⟨s, hc, _⟩ := each 0 (by omega)
        have := World.cell?_spot hc
        simpa [Addr.add] using this
      obtain ⟨g, off, spot⟩ := a
      simp at hspot
      subst hspot
      let f : Nat → RawR := fun i => if hi : i < m then Classical.choose (each i hi) else default
      have hf2 : ∀ i (hi : i < m), f i = Classical.choose (each i hi) := fun i hi => by simp only [f, dif_pos hi]
      have hget : ∀ i, i < len → ((List.range len).map f).getD i default = f i := fun i hi => by simp [List.getD, hi]
      refine ⟨(List.range len).map f, .inr ⟨g, off, m, by simp, by simp; omega, hm, fun i hi => ?_⟩, trivial⟩
      simp only [List.length_map, List.length_range] at hi
      have hc := Classical.choose_spec (each i (by omega))
      rw [← hf2 i (by omega)] at hc
      rw [hget i hi]
      obtain ⟨h1, h2, h3, h4, h5⟩ := hc
      rw [addr_add] at h1 h2 h3 h4
      rw [← Nat.add_assoc] at h2 h3 h4
      exact ⟨h1, h2, h3, h4, h5⟩
end
end Go.Proofs.YtmikibcgphkcfaaGreatDoor
